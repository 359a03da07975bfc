/- W: contracts, part 3. Condition: as each says. -/
import Derived.Test.YtafckmbgefbonaaGreatVW1
import Derived.Test.YtafckmbgefbonaaGreatVTRW25
set_option linter.unusedVariables false
set_option linter.unusedSimpArgs false
set_option maxRecDepth 100000
set_option maxHeartbeats 8000000
namespace Go.Proofs.YtafckmbgefbonaaGreat.ip
open RowKit Shelf sm nb im

def dfs (d : Bool) : ByteArray := if d then { data := #[64, 0] } else { data := #[0, 0] }
theorem dfs_size (d : Bool) : (dfs d).size = 2 := by cases d <;> rfl
theorem refHead (a b p t s i n : Nat) (c : Int) (d : Bool) (w : World) (h : Ok a b p t s i) (hn : n ≤ 65535) (hc : 0 ≤ c ∧ c ≤ 65535) :
  Calls Tryz.prog 63 #[HV a b p t s i d, .int .i64 n, .int .u16 c] w fun e w' => e = .returned (.string (tx (hd a b p t s i d n c.toNat))) ∧ Up w w' := by
 obtain ⟨ha, hb, hp, ht, hs, hi⟩ := h
 obtain ⟨f, hff⟩ : ∃ f : ByteArray, f = dfs d := ⟨_, rfl⟩
 have hfz : f.size = 2 := by rw [hff]; exact dfs_size d
 have HF := Lib.hid hff; clear hff
 have e1 := oct_nat ht; have e2 := oct_nat hp; have e3 := oct_nat hs
 have z69 : ({ data := #[69] } : ByteArray).size = 1 := rfl
 have z1 : (tx [oct s]).size = 1 := by rw [tx_size]; rfl
 have z2 : (tx [oct t, oct p]).size = 2 := by rw [tx_size]; rfl
 have z16 := sz16
 have z32 := sz32
 have g1 : (0 : Int) ≤ (n : Int) ∧ (n : Int) ≤ 65535 := by omega
 have g2 : (0 : Int) ≤ (i : Int) ∧ (i : Int) ≤ 65535 := by omega
 have q1 : IntKind.u16.wrap (n : Int) = n := by rw [IntKind.wrap_u16]; omega
 have c1 : BC [oct s] = [.int .u8 (s : Int)] := by show [Value.int .u8 ((oct s).toNat : Int)] = _; rw [e3]
 have c2 : BC [oct t, oct p] = [.int .u8 (t : Int), .int .u8 (p : Int)] := by show [Value.int .u8 ((oct t).toNat : Int), Value.int .u8 ((oct p).toNat : Int)] = _; rw [e1, e2]
 clear e1 e2 e3
 go_enter Tryz.func63, Tryz.ntmps63
 go_upto_region 2 with fail
 have hB := Box.new w #[.int .u32 a, .int .u32 b, .int .u8 p, .int .u8 t, .int .u8 s, .int .u16 i, .bool d] 59
 have hu : Up w (w.alloc (.cells #[.int .u32 a, .int .u32 b, .int .u8 p, .int .u8 t, .int .u8 s, .int .u16 i, .bool d] 59)) := up_al _ bR
 generalize World.alloc w _ = w0 at hB hu ⊢
 have k6 := hB.at 6 rfl
 go_upto_if 9 with fail
 go_cut [7] (fun v wc => v = .string f ∧ w0 = wc)
 case first =>
  cases d
  ·go_wp2
   go_meet
   exact ⟨by rw [HF.out]; rfl, rfl⟩
  ·go_wp2
   go_meet
   exact ⟨by rw [HF.out]; rfl, rfl⟩
 case rest =>
 obtain ⟨rfl, rfl⟩ := hcut
 clear k6
 have hE : Hid (({ data := #[69] } : ByteArray) ++ tx [oct s] ++ tx (B16 n) ++ tx (B16 i) ++ f ++ tx [oct t, oct p] ++ tx (B16 c.toNat) ++ tx (B32 a) ++ tx (B32 b) = tx (hd a b p t s i d n c.toNat)) := by
  unfold Hid
  refine ba_eq ?_
  simp only [L_app, L_tx]
  rw [HF.out]
  cases d <;> rfl
 go_upto_region 4 with fail
 obtain ⟨A4, hA4⟩ : ∃ A : ByteArray, A = { data := #[69] } ++ (tx [oct s]) := ⟨_, rfl⟩
 have zA4 : A4.size = 2 := by rw [hA4, ByteArray.size_append, z69, z1]
 have HA4 := Lib.hid hA4; clear hA4
 obtain ⟨A8, hA8⟩ : ∃ A : ByteArray, A = A4 ++ (tx (B16 n)) := ⟨_, rfl⟩
 have zA8 : A8.size = 4 := by rw [hA8, ByteArray.size_append, zA4, (z16 _)]
 have HA8 := Lib.hid hA8; clear hA8
 obtain ⟨A12, hA12⟩ : ∃ A : ByteArray, A = A8 ++ (tx (B16 i)) := ⟨_, rfl⟩
 have zA12 : A12.size = 6 := by rw [hA12, ByteArray.size_append, zA8, (z16 _)]
 have HA12 := Lib.hid hA12; clear hA12
 obtain ⟨A14, hA14⟩ : ∃ A : ByteArray, A = A12 ++ f := ⟨_, rfl⟩
 have zA14 : A14.size = 8 := by rw [hA14, ByteArray.size_append, zA12, hfz]
 have HA14 := Lib.hid hA14; clear hA14
 obtain ⟨A21, hA21⟩ : ∃ A : ByteArray, A = A14 ++ (tx [oct t, oct p]) := ⟨_, rfl⟩
 have zA21 : A21.size = 10 := by rw [hA21, ByteArray.size_append, zA14, z2]
 have HA21 := Lib.hid hA21; clear hA21
 obtain ⟨A24, hA24⟩ : ∃ A : ByteArray, A = A21 ++ (tx (B16 c.toNat)) := ⟨_, rfl⟩
 have zA24 : A24.size = 12 := by rw [hA24, ByteArray.size_append, zA21, (z16 _)]
 have HA24 := Lib.hid hA24; clear hA24
 obtain ⟨A28, hA28⟩ : ∃ A : ByteArray, A = A24 ++ (tx (B32 a)) := ⟨_, rfl⟩
 have zA28 : A28.size = 16 := by rw [hA28, ByteArray.size_append, zA24, (z32 _)]
 have HA28 := Lib.hid hA28; clear hA28
 obtain ⟨A32, hA32⟩ : ∃ A : ByteArray, A = A28 ++ (tx (B32 b)) := ⟨_, rfl⟩
 have zA32 : A32.size = 20 := by rw [hA32, ByteArray.size_append, zA28, (z32 _)]
 have HA32 := Lib.hid hA32; clear hA32
 refine wp_region_rel2 (fun W => Up w0 W) (fun W W' => Up W W') (Ys [Det (.pointer (some ⟨w.heap.size, 4, none⟩)),
  Det (.int .u8 s),
  Fresh 1 [.int .u8 s],
  Det (.string (tx [oct s])),
  Det (.string A4),
  Det (.int .i64 n),
  Det (.int .u16 n),
  Det (.string (tx (B16 n))),
  Det (.string A8),
  Det (.pointer (some ⟨w.heap.size, 5, none⟩)),
  Det (.int .u16 i),
  Det (.string (tx (B16 i))),
  Det (.string A12),
  Det (.string f),
  Det (.string A14),
  Det (.pointer (some ⟨w.heap.size, 3, none⟩)),
  Det (.int .u8 t),
  Det (.pointer (some ⟨w.heap.size, 2, none⟩)),
  Det (.int .u8 p),
  Fresh 2 [.int .u8 t, .int .u8 p],
  Det (.string (tx [oct t, oct p])),
  Det (.string A21),
  Det (.int .u16 c),
  Det (.string (tx (B16 c.toNat))),
  Det (.string A24),
  Det (.pointer (some ⟨w.heap.size, 0, none⟩)),
  Det (.int .u32 a),
  Det (.string (tx (B32 a))),
  Det (.string A28),
  Det (.pointer (some ⟨w.heap.size, 1, none⟩)),
  Det (.int .u32 b),
  Det (.string (tx (B32 b))),
  Det (.string A32),
  Det (.string A32)]) (by kernel_rfl) (by kernel_rfl) (up_dr bR) (Stable.ys ⟨Det.st _, Det.st _, Fresh.st _ _, Det.st _, Det.st _, Det.st _, Det.st _, Det.st _, Det.st _, Det.st _, Det.st _, Det.st _, Det.st _, Det.st _, Det.st _, Det.st _, Det.st _, Det.st _, Det.st _, Fresh.st _ _, Det.st _, Det.st _, Det.st _, Det.st _, Det.st _, Det.st _, Det.st _, Det.st _, Det.st _, Det.st _, Det.st _, Det.st _, Det.st _, Det.st _, trivial⟩) ?_ ?_
 ·
  refine oC ?_ ?_
  ·intro aa ww hC hdep hv KK hK
   have d3 : aa.tmps.getD 3 undef = .pointer (some ⟨w.heap.size, 0, none⟩) := hv 3 (slotOk_spec (by kernel_rfl))
   have d3_ := gD d3
   clear hdep hv
   (unfold opTo; go_simp; try simp only [opUpon])
   exact hK _ _ rfl hC bR
  refine oC ?_ ?_
  ·intro aa ww hC hdep hv KK hK
   have d10 : aa.tmps.getD 10 undef = .pointer (some ⟨w.heap.size, 4, none⟩) := dep_of hdep 0 10 (by kernel_rfl)
   have d10_ := gD d10
   clear hdep hv
   have hb := hB.up hC
   have c4 := hb.at 4 rfl
   (unfold opTo; go_simp; try simp only [opUpon])
   exact hK _ _ rfl hC bR
  refine oC ?_ ?_
  ·intro aa ww hC hdep hv KK hK
   have d11 : aa.tmps.getD 11 undef = .int .u8 s := dep_of hdep 1 11 (by kernel_rfl)
   have d11_ := gD d11
   clear hdep hv
   (unfold opTo; go_simp; try simp only [opUpon])
   exact hK _ _ ⟨_, rfl, Box.new _ _ _⟩ (up_al _ hC) (up_al _ bR)
  refine oC ?_ ?_
  ·intro aa ww hC hdep hv KK hK
   obtain ⟨g, d12, hg⟩ : Fresh 1 [.int .u8 s] (aa.tmps.getD 12 undef) ww := dep_of hdep 2 12 (by kernel_rfl)
   have d12_ := gD d12
   clear hdep hv
   have hq := conv_box (n := 1) (xs := [oct s]) rfl (by rw [c1]; exact hg)
   (unfold opTo; go_simp; try simp only [opUpon])
   exact hK _ _ rfl hC bR
  refine oC ?_ ?_
  ·intro aa ww hC hdep hv KK hK
   have d13 : aa.tmps.getD 13 undef = .string (tx [oct s]) := dep_of hdep 3 13 (by kernel_rfl)
   have d13_ := gD d13
   clear hdep hv
   (unfold opTo; go_simp; try simp only [opUpon])
   rw [← HA4.out]
   exact hK _ _ rfl hC bR
  refine oC ?_ ?_
  ·intro aa ww hC hdep hv KK hK
   have d1 : aa.tmps.getD 1 undef = .int .i64 n := hv 1 (slotOk_spec (by kernel_rfl))
   have d1_ := gD d1
   clear hdep hv
   (unfold opTo; go_simp; try simp only [opUpon])
   exact hK _ _ rfl hC bR
  refine oC ?_ ?_
  ·intro aa ww hC hdep hv KK hK
   have d15 : aa.tmps.getD 15 undef = .int .i64 n := dep_of hdep 5 15 (by kernel_rfl)
   have d15_ := gD d15
   clear hdep hv
   (unfold opTo; go_simp; try simp only [opUpon])
   exact hK _ _ rfl hC bR
  refine oC ?_ ?_
  ·intro aa ww hC hdep hv KK hK
   have d16 : aa.tmps.getD 16 undef = .int .u16 n := dep_of hdep 6 16 (by kernel_rfl)
   have d16_ := gD d16
   clear hdep hv
   (unfold opTo; go_simp; try simp only [opUpon])
   exact (refBytes _ _ g1).mono fun e w2 h => ⟨_, h.1, hK _ _ rfl (Up.on hC h.2) h.2⟩
  refine oC ?_ ?_
  ·intro aa ww hC hdep hv KK hK
   have d14 : aa.tmps.getD 14 undef = .string A4 := dep_of hdep 4 14 (by kernel_rfl)
   have d17 : aa.tmps.getD 17 undef = .string (tx (B16 n)) := dep_of hdep 7 17 (by kernel_rfl)
   have d14_ := gD d14
   have d17_ := gD d17
   clear hdep hv
   (unfold opTo; go_simp; try simp only [opUpon])
   rw [← HA8.out]
   exact hK _ _ rfl hC bR
  refine oC ?_ ?_
  ·intro aa ww hC hdep hv KK hK
   have d3 : aa.tmps.getD 3 undef = .pointer (some ⟨w.heap.size, 0, none⟩) := hv 3 (slotOk_spec (by kernel_rfl))
   have d3_ := gD d3
   clear hdep hv
   (unfold opTo; go_simp; try simp only [opUpon])
   exact hK _ _ rfl hC bR
  refine oC ?_ ?_
  ·intro aa ww hC hdep hv KK hK
   have d19 : aa.tmps.getD 19 undef = .pointer (some ⟨w.heap.size, 5, none⟩) := dep_of hdep 9 19 (by kernel_rfl)
   have d19_ := gD d19
   clear hdep hv
   have hb := hB.up hC
   have c5 := hb.at 5 rfl
   (unfold opTo; go_simp; try simp only [opUpon])
   exact hK _ _ rfl hC bR
  refine oC ?_ ?_
  ·intro aa ww hC hdep hv KK hK
   have d20 : aa.tmps.getD 20 undef = .int .u16 i := dep_of hdep 10 20 (by kernel_rfl)
   have d20_ := gD d20
   clear hdep hv
   (unfold opTo; go_simp; try simp only [opUpon])
   exact (refBytes _ _ g2).mono fun e w2 h => ⟨_, h.1, hK _ _ rfl (Up.on hC h.2) h.2⟩
  refine oC ?_ ?_
  ·intro aa ww hC hdep hv KK hK
   have d18 : aa.tmps.getD 18 undef = .string A8 := dep_of hdep 8 18 (by kernel_rfl)
   have d21 : aa.tmps.getD 21 undef = .string (tx (B16 i)) := dep_of hdep 11 21 (by kernel_rfl)
   have d18_ := gD d18
   have d21_ := gD d21
   clear hdep hv
   (unfold opTo; go_simp; try simp only [opUpon])
   rw [← HA12.out]
   exact hK _ _ rfl hC bR
  refine oC ?_ ?_
  ·intro aa ww hC hdep hv KK hK
   have d7 : aa.tmps.getD 7 undef = .string f := hv 7 (slotOk_spec (by kernel_rfl))
   have d7_ := gD d7
   clear hdep hv
   (unfold opTo; go_simp; try simp only [opUpon])
   exact hK _ _ rfl hC bR
  refine oC ?_ ?_
  ·intro aa ww hC hdep hv KK hK
   have d22 : aa.tmps.getD 22 undef = .string A12 := dep_of hdep 12 22 (by kernel_rfl)
   have d23 : aa.tmps.getD 23 undef = .string f := dep_of hdep 13 23 (by kernel_rfl)
   have d22_ := gD d22
   have d23_ := gD d23
   clear hdep hv
   (unfold opTo; go_simp; try simp only [opUpon])
   rw [← HA14.out]
   exact hK _ _ rfl hC bR
  refine oC ?_ ?_
  ·intro aa ww hC hdep hv KK hK
   have d3 : aa.tmps.getD 3 undef = .pointer (some ⟨w.heap.size, 0, none⟩) := hv 3 (slotOk_spec (by kernel_rfl))
   have d3_ := gD d3
   clear hdep hv
   (unfold opTo; go_simp; try simp only [opUpon])
   exact hK _ _ rfl hC bR
  refine oC ?_ ?_
  ·intro aa ww hC hdep hv KK hK
   have d25 : aa.tmps.getD 25 undef = .pointer (some ⟨w.heap.size, 3, none⟩) := dep_of hdep 15 25 (by kernel_rfl)
   have d25_ := gD d25
   clear hdep hv
   have hb := hB.up hC
   have c3 := hb.at 3 rfl
   (unfold opTo; go_simp; try simp only [opUpon])
   exact hK _ _ rfl hC bR
  refine oC ?_ ?_
  ·intro aa ww hC hdep hv KK hK
   have d3 : aa.tmps.getD 3 undef = .pointer (some ⟨w.heap.size, 0, none⟩) := hv 3 (slotOk_spec (by kernel_rfl))
   have d3_ := gD d3
   clear hdep hv
   (unfold opTo; go_simp; try simp only [opUpon])
   exact hK _ _ rfl hC bR
  refine oC ?_ ?_
  ·intro aa ww hC hdep hv KK hK
   have d27 : aa.tmps.getD 27 undef = .pointer (some ⟨w.heap.size, 2, none⟩) := dep_of hdep 17 27 (by kernel_rfl)
   have d27_ := gD d27
   clear hdep hv
   have hb := hB.up hC
   have c2 := hb.at 2 rfl
   (unfold opTo; go_simp; try simp only [opUpon])
   exact hK _ _ rfl hC bR
  refine oC ?_ ?_
  ·intro aa ww hC hdep hv KK hK
   have d26 : aa.tmps.getD 26 undef = .int .u8 t := dep_of hdep 16 26 (by kernel_rfl)
   have d28 : aa.tmps.getD 28 undef = .int .u8 p := dep_of hdep 18 28 (by kernel_rfl)
   have d26_ := gD d26
   have d28_ := gD d28
   clear hdep hv
   (unfold opTo; go_simp; try simp only [opUpon])
   exact hK _ _ ⟨_, rfl, Box.new _ _ _⟩ (up_al _ hC) (up_al _ bR)
  refine oC ?_ ?_
  ·intro aa ww hC hdep hv KK hK
   obtain ⟨g, d29, hg⟩ : Fresh 2 [.int .u8 t, .int .u8 p] (aa.tmps.getD 29 undef) ww := dep_of hdep 19 29 (by kernel_rfl)
   have d29_ := gD d29
   clear hdep hv
   have hq := conv_box (n := 2) (xs := [oct t, oct p]) rfl (by rw [c2]; exact hg)
   (unfold opTo; go_simp; try simp only [opUpon])
   exact hK _ _ rfl hC bR
  refine oC ?_ ?_
  ·intro aa ww hC hdep hv KK hK
   have d24 : aa.tmps.getD 24 undef = .string A14 := dep_of hdep 14 24 (by kernel_rfl)
   have d30 : aa.tmps.getD 30 undef = .string (tx [oct t, oct p]) := dep_of hdep 20 30 (by kernel_rfl)
   have d24_ := gD d24
   have d30_ := gD d30
   clear hdep hv
   (unfold opTo; go_simp; try simp only [opUpon])
   rw [← HA21.out]
   exact hK _ _ rfl hC bR
  refine oC ?_ ?_
  ·intro aa ww hC hdep hv KK hK
   have d2 : aa.tmps.getD 2 undef = .int .u16 c := hv 2 (slotOk_spec (by kernel_rfl))
   have d2_ := gD d2
   clear hdep hv
   (unfold opTo; go_simp; try simp only [opUpon])
   exact hK _ _ rfl hC bR
  refine oC ?_ ?_
  ·intro aa ww hC hdep hv KK hK
   have d32 : aa.tmps.getD 32 undef = .int .u16 c := dep_of hdep 22 32 (by kernel_rfl)
   have d32_ := gD d32
   clear hdep hv
   (unfold opTo; go_simp; try simp only [opUpon])
   exact (refBytes _ _ hc).mono fun e w2 h => ⟨_, h.1, hK _ _ rfl (Up.on hC h.2) h.2⟩
  refine oC ?_ ?_
  ·intro aa ww hC hdep hv KK hK
   have d31 : aa.tmps.getD 31 undef = .string A21 := dep_of hdep 21 31 (by kernel_rfl)
   have d33 : aa.tmps.getD 33 undef = .string (tx (B16 c.toNat)) := dep_of hdep 23 33 (by kernel_rfl)
   have d31_ := gD d31
   have d33_ := gD d33
   clear hdep hv
   (unfold opTo; go_simp; try simp only [opUpon])
   rw [← HA24.out]
   exact hK _ _ rfl hC bR
  refine oC ?_ ?_
  ·intro aa ww hC hdep hv KK hK
   have d3 : aa.tmps.getD 3 undef = .pointer (some ⟨w.heap.size, 0, none⟩) := hv 3 (slotOk_spec (by kernel_rfl))
   have d3_ := gD d3
   clear hdep hv
   (unfold opTo; go_simp; try simp only [opUpon])
   exact hK _ _ rfl hC bR
  refine oC ?_ ?_
  ·intro aa ww hC hdep hv KK hK
   have d35 : aa.tmps.getD 35 undef = .pointer (some ⟨w.heap.size, 0, none⟩) := dep_of hdep 25 35 (by kernel_rfl)
   have d35_ := gD d35
   clear hdep hv
   have hb := hB.up hC
   have c0 := hb.at 0 rfl
   (unfold opTo; go_simp; try simp only [opUpon])
   exact hK _ _ rfl hC bR
  refine oC ?_ ?_
  ·intro aa ww hC hdep hv KK hK
   have d36 : aa.tmps.getD 36 undef = .int .u32 a := dep_of hdep 26 36 (by kernel_rfl)
   have d36_ := gD d36
   clear hdep hv
   (unfold opTo; go_simp; try simp only [opUpon])
   exact (refFour _ _ ha).mono fun e w2 h => ⟨_, h.1, hK _ _ rfl (Up.on hC h.2) h.2⟩
  refine oC ?_ ?_
  ·intro aa ww hC hdep hv KK hK
   have d34 : aa.tmps.getD 34 undef = .string A24 := dep_of hdep 24 34 (by kernel_rfl)
   have d37 : aa.tmps.getD 37 undef = .string (tx (B32 a)) := dep_of hdep 27 37 (by kernel_rfl)
   have d34_ := gD d34
   have d37_ := gD d37
   clear hdep hv
   (unfold opTo; go_simp; try simp only [opUpon])
   rw [← HA28.out]
   exact hK _ _ rfl hC bR
  refine oC ?_ ?_
  ·intro aa ww hC hdep hv KK hK
   have d3 : aa.tmps.getD 3 undef = .pointer (some ⟨w.heap.size, 0, none⟩) := hv 3 (slotOk_spec (by kernel_rfl))
   have d3_ := gD d3
   clear hdep hv
   (unfold opTo; go_simp; try simp only [opUpon])
   exact hK _ _ rfl hC bR
  refine oC ?_ ?_
  ·intro aa ww hC hdep hv KK hK
   have d39 : aa.tmps.getD 39 undef = .pointer (some ⟨w.heap.size, 1, none⟩) := dep_of hdep 29 39 (by kernel_rfl)
   have d39_ := gD d39
   clear hdep hv
   have hb := hB.up hC
   have c1 := hb.at 1 rfl
   (unfold opTo; go_simp; try simp only [opUpon])
   exact hK _ _ rfl hC bR
  refine oC ?_ ?_
  ·intro aa ww hC hdep hv KK hK
   have d40 : aa.tmps.getD 40 undef = .int .u32 b := dep_of hdep 30 40 (by kernel_rfl)
   have d40_ := gD d40
   clear hdep hv
   (unfold opTo; go_simp; try simp only [opUpon])
   exact (refFour _ _ hb).mono fun e w2 h => ⟨_, h.1, hK _ _ rfl (Up.on hC h.2) h.2⟩
  refine oC ?_ ?_
  ·intro aa ww hC hdep hv KK hK
   have d38 : aa.tmps.getD 38 undef = .string A28 := dep_of hdep 28 38 (by kernel_rfl)
   have d41 : aa.tmps.getD 41 undef = .string (tx (B32 b)) := dep_of hdep 31 41 (by kernel_rfl)
   have d38_ := gD d38
   have d41_ := gD d41
   clear hdep hv
   (unfold opTo; go_simp; try simp only [opUpon])
   rw [← HA32.out]
   exact hK _ _ rfl hC bR
  refine oC ?_ ?_
  ·intro aa ww hC hdep hv KK hK
   have d42 : aa.tmps.getD 42 undef = .string A32 := dep_of hdep 32 42 (by kernel_rfl)
   have d42_ := gD d42
   clear hdep hv
   (unfold opTo; go_simp; try simp only [opUpon])
   exact hK _ _ rfl hC bR
  exact obligs_nil
 intro vals ww hC hY
 have e0 : vals 0 = .pointer (some ⟨w.heap.size, 4, none⟩) := hY 0 _ _ rfl rfl
 have e1 : vals 1 = .int .u8 s := hY 1 _ _ rfl rfl
 have e3 : vals 3 = .string (tx [oct s]) := hY 3 _ _ rfl rfl
 have e4 : vals 4 = .string A4 := hY 4 _ _ rfl rfl
 have e5 : vals 5 = .int .i64 n := hY 5 _ _ rfl rfl
 have e6 : vals 6 = .int .u16 n := hY 6 _ _ rfl rfl
 have e7 : vals 7 = .string (tx (B16 n)) := hY 7 _ _ rfl rfl
 have e8 : vals 8 = .string A8 := hY 8 _ _ rfl rfl
 have e9 : vals 9 = .pointer (some ⟨w.heap.size, 5, none⟩) := hY 9 _ _ rfl rfl
 have e10 : vals 10 = .int .u16 i := hY 10 _ _ rfl rfl
 have e11 : vals 11 = .string (tx (B16 i)) := hY 11 _ _ rfl rfl
 have e12 : vals 12 = .string A12 := hY 12 _ _ rfl rfl
 have e13 : vals 13 = .string f := hY 13 _ _ rfl rfl
 have e14 : vals 14 = .string A14 := hY 14 _ _ rfl rfl
 have e15 : vals 15 = .pointer (some ⟨w.heap.size, 3, none⟩) := hY 15 _ _ rfl rfl
 have e16 : vals 16 = .int .u8 t := hY 16 _ _ rfl rfl
 have e17 : vals 17 = .pointer (some ⟨w.heap.size, 2, none⟩) := hY 17 _ _ rfl rfl
 have e18 : vals 18 = .int .u8 p := hY 18 _ _ rfl rfl
 have e20 : vals 20 = .string (tx [oct t, oct p]) := hY 20 _ _ rfl rfl
 have e21 : vals 21 = .string A21 := hY 21 _ _ rfl rfl
 have e22 : vals 22 = .int .u16 c := hY 22 _ _ rfl rfl
 have e23 : vals 23 = .string (tx (B16 c.toNat)) := hY 23 _ _ rfl rfl
 have e24 : vals 24 = .string A24 := hY 24 _ _ rfl rfl
 have e25 : vals 25 = .pointer (some ⟨w.heap.size, 0, none⟩) := hY 25 _ _ rfl rfl
 have e26 : vals 26 = .int .u32 a := hY 26 _ _ rfl rfl
 have e27 : vals 27 = .string (tx (B32 a)) := hY 27 _ _ rfl rfl
 have e28 : vals 28 = .string A28 := hY 28 _ _ rfl rfl
 have e29 : vals 29 = .pointer (some ⟨w.heap.size, 1, none⟩) := hY 29 _ _ rfl rfl
 have e30 : vals 30 = .int .u32 b := hY 30 _ _ rfl rfl
 have e31 : vals 31 = .string (tx (B32 b)) := hY 31 _ _ rfl rfl
 have e32 : vals 32 = .string A32 := hY 32 _ _ rfl rfl
 have e33 : vals 33 = .string A32 := hY 33 _ _ rfl rfl
 clear hY
 simp only [putAll, Act.put, List.setIfInBounds_toArray, List.set_cons_zero, List.set_cons_succ, e0, e1, e3, e4, e5, e6, e7, e8, e9, e10, e11, e12, e13, e14, e15, e16, e17, e18, e20, e21, e22, e23, e24, e25, e26, e27, e28, e29, e30, e31, e32, e33]
 clear e0 e1 e3 e4 e5 e6 e7 e8 e9 e10 e11 e12 e13 e14 e15 e16 e17 e18 e20 e21 e22 e23 e24 e25 e26 e27 e28 e29 e30 e31 e32 e33
 go_wp2
 go_ret
 exact ⟨by rw [HA32.out, HA28.out, HA24.out, HA21.out, HA14.out, HA12.out, HA8.out, HA4.out, hE.out]; rfl, hu.on hC⟩
end Go.Proofs.YtafckmbgefbonaaGreat.ip

namespace Go.Proofs.YtafckmbgefbonaaGreat.ip
open RowKit Shelf sm nb im

theorem refEncode (a b p t s i : Nat) (d : Bool) (l : ByteArray) (w : World) (h : Ok a b p t s i) (hl : l.size ≤ 1099511627776) :
  Calls Tryz.prog 29 #[HV a b p t s i d, .string l] w fun e w' => e = .returned (EV a b p t s i d l) ∧ Up w w' := by
 by_cases hlong : 65515 < l.size
 ·have HE := Lib.hid (EV_long (a := a) (b := b) (p := p) (t := t) (s := s) (i := i) (d := d) hlong)
  have h1 : 65535 < 20 + l.size := by omega
  go_enter Tryz.func29, Tryz.ntmps29
  go_wp2_with fail
  go_ret2
  exact ⟨congrArg Ending.returned HE.out.symm, up_al _ bR⟩
 ·have HE := Lib.hid (EV_ok (a := a) (b := b) (p := p) (t := t) (s := s) (i := i) (d := d) hlong)
  obtain ⟨n, hn⟩ : ∃ n : Nat, n = 20 + l.size := ⟨_, rfl⟩
  have hn1 : n ≤ 65535 := by omega
  have HN := Lib.hid hn
  have hcs := cs_le a b p t s i d n
  have HS := Lib.hid (cs_int a b p t s i d n)
  have hsz := hd_size a b p t s i d n (cs a b p t s i d n)
  go_enter Tryz.func29, Tryz.ntmps29
  go_upto_region 1 with fail
  have hB := Box.new w #[.int .u32 a, .int .u32 b, .int .u8 p, .int .u8 t, .int .u8 s, .int .u16 i, .bool d] 59
  have hu : Up w (w.alloc (.cells #[.int .u32 a, .int .u32 b, .int .u8 p, .int .u8 t, .int .u8 s, .int .u16 i, .bool d] 59)) := up_al _ bR
  generalize World.alloc w _ = w0 at hB hu ⊢
  go_upto_region 4 with fail
  rw [show ((20 : Int) + (l.size : Int)) = (n : Int) by omega]
  clear hn
  obtain ⟨A8, hA8⟩ : ∃ A : ByteArray, A = (tx (hd a b p t s i d n (cs a b p t s i d n))) ++ l := ⟨_, rfl⟩
  have HA8 := Lib.hid hA8; clear hA8
  have hcat : Hid ((tx (hd a b p t s i d n (cs a b p t s i d n))) ++ l = tx (en a b p t s i d (L l))) := by
   unfold Hid
   conv => lhs; rw [← tx_L l]
   rw [tx_app]
   show _ = tx (hc a b p t s i d (20 + l.size) ++ L l)
   rw [← HN.out]; rfl
  refine wp_region_rel2 (fun W => Up w0 W) (fun W W' => Up W W') (Ys [Det (.agg #[.int .u32 a, .int .u32 b, .int .u8 p, .int .u8 t, .int .u8 s, .int .u16 i, .bool d]),
  Det (.int .i64 n),
  Det (.agg #[.int .u32 a, .int .u32 b, .int .u8 p, .int .u8 t, .int .u8 s, .int .u16 i, .bool d]),
  Det (.int .i64 n),
  Det (.string (tx (hd a b p t s i d n 0))),
  Det (.int .u16 (cs a b p t s i d n : Nat)),
  Det (.string (tx (hd a b p t s i d n (cs a b p t s i d n)))),
  Det (.string l),
  Det (.string A8),
  Det (.string A8),
  Det (.int .i64 0)]) (by kernel_rfl) (by kernel_rfl) (up_dr bR) (Stable.ys ⟨Det.st _, Det.st _, Det.st _, Det.st _, Det.st _, Det.st _, Det.st _, Det.st _, Det.st _, Det.st _, Det.st _, trivial⟩) ?_ ?_
  ·
   refine oC ?_ ?_
   ·intro aa ww hC hp hv KK hK
    have d2 : aa.tmps.getD 2 undef = .pointer (some ⟨w.heap.size, 0, none⟩) := hv 2 (slotOk_spec (by kernel_rfl))
    have d2_ := gD d2
    clear hp hv
    have hb := hB.up hC
    have c0 := hb.at 0 rfl; have c1 := hb.at 1 rfl; have c2 := hb.at 2 rfl; have c3 := hb.at 3 rfl; have c4 := hb.at 4 rfl; have c5 := hb.at 5 rfl; have c6 := hb.at 6 rfl
    (unfold opTo; go_simp; try simp only [opUpon])
    exact hK _ _ rfl hC bR
   refine oC ?_ ?_
   ·intro aa ww hC hp hv KK hK
    have d6 : aa.tmps.getD 6 undef = .int .i64 n := hv 6 (slotOk_spec (by kernel_rfl))
    have d6_ := gD d6
    clear hp hv
    (unfold opTo; go_simp; try simp only [opUpon])
    exact hK _ _ rfl hC bR
   refine oC ?_ ?_
   ·intro aa ww hC hp hv KK hK
    have d2 : aa.tmps.getD 2 undef = .pointer (some ⟨w.heap.size, 0, none⟩) := hv 2 (slotOk_spec (by kernel_rfl))
    have d2_ := gD d2
    clear hp hv
    have hb := hB.up hC
    have c0 := hb.at 0 rfl; have c1 := hb.at 1 rfl; have c2 := hb.at 2 rfl; have c3 := hb.at 3 rfl; have c4 := hb.at 4 rfl; have c5 := hb.at 5 rfl; have c6 := hb.at 6 rfl
    (unfold opTo; go_simp; try simp only [opUpon])
    exact hK _ _ rfl hC bR
   refine oC ?_ ?_
   ·intro aa ww hC hp hv KK hK
    have d6 : aa.tmps.getD 6 undef = .int .i64 n := hv 6 (slotOk_spec (by kernel_rfl))
    have d6_ := gD d6
    clear hp hv
    (unfold opTo; go_simp; try simp only [opUpon])
    exact hK _ _ rfl hC bR
   refine oC ?_ ?_
   ·intro aa ww hC hp hv KK hK
    have d14 : aa.tmps.getD 14 undef = .agg #[.int .u32 a, .int .u32 b, .int .u8 p, .int .u8 t, .int .u8 s, .int .u16 i, .bool d] := dep_of hp 2 14 (by kernel_rfl)
    have d15 : aa.tmps.getD 15 undef = .int .i64 n := dep_of hp 3 15 (by kernel_rfl)
    have d14_ := gD d14
    have d15_ := gD d15
    clear hp hv
    (unfold opTo; go_simp; try simp only [opUpon])
    exact (refHead a b p t s i n 0 d _ h hn1 (by decide)).mono fun e w2 h => ⟨_, h.1, hK _ _ rfl (Up.on hC h.2) h.2⟩
   refine oC ?_ ?_
   ·intro aa ww hC hp hv KK hK
    have d16 : aa.tmps.getD 16 undef = .string (tx (hd a b p t s i d n 0)) := dep_of hp 4 16 (by kernel_rfl)
    have d16_ := gD d16
    clear hp hv
    (unfold opTo; go_simp; try simp only [opUpon])
    exact (refOfT _ _ (by rw [hd_len]; decide)).mono fun e w2 h => by obtain ⟨h1, rfl⟩ := h; exact ⟨_, h1, hK _ _ (show Value.int .u16 _ = Value.int .u16 _ by rw [HS.out]) hC bR⟩
   refine oC ?_ ?_
   ·intro aa ww hC hp hv KK hK
    have d12 : aa.tmps.getD 12 undef = .agg #[.int .u32 a, .int .u32 b, .int .u8 p, .int .u8 t, .int .u8 s, .int .u16 i, .bool d] := dep_of hp 0 12 (by kernel_rfl)
    have d13 : aa.tmps.getD 13 undef = .int .i64 n := dep_of hp 1 13 (by kernel_rfl)
    have d17 : aa.tmps.getD 17 undef = .int .u16 (cs a b p t s i d n : Nat) := dep_of hp 5 17 (by kernel_rfl)
    have d12_ := gD d12
    have d13_ := gD d13
    have d17_ := gD d17
    clear hp hv
    (unfold opTo; go_simp; try simp only [opUpon])
    exact (refHead a b p t s i n (cs a b p t s i d n : Nat) d _ h hn1 (by omega)).mono fun e w2 h => ⟨_, h.1, hK _ _ rfl (Up.on hC h.2) h.2⟩
   refine oC ?_ ?_
   ·intro aa ww hC hp hv KK hK
    have d1 : aa.tmps.getD 1 undef = .string l := hv 1 (slotOk_spec (by kernel_rfl))
    have d1_ := gD d1
    clear hp hv
    (unfold opTo; go_simp; try simp only [opUpon])
    exact hK _ _ rfl hC bR
   refine oC ?_ ?_
   ·intro aa ww hC hp hv KK hK
    have d18 : aa.tmps.getD 18 undef = .string (tx (hd a b p t s i d n (cs a b p t s i d n))) := dep_of hp 6 18 (by kernel_rfl)
    have d19 : aa.tmps.getD 19 undef = .string l := dep_of hp 7 19 (by kernel_rfl)
    have d18_ := gD d18
    have d19_ := gD d19
    clear hp hv
    have hno : ¬ 9223372036854775807 < 20 + l.size := by omega
    (unfold opTo; go_simp; try simp only [opUpon])
    rw [← HA8.out]
    exact hK _ _ rfl hC bR
   refine oC ?_ ?_
   ·intro aa ww hC hp hv KK hK
    have d20 : aa.tmps.getD 20 undef = .string A8 := dep_of hp 8 20 (by kernel_rfl)
    have d20_ := gD d20
    clear hp hv
    (unfold opTo; go_simp; try simp only [opUpon])
    exact hK _ _ rfl hC bR
   refine oC ?_ ?_
   ·intro aa ww hC hp hv KK hK
    clear hp hv
    (unfold opTo; go_simp; try simp only [opUpon])
    exact hK _ _ rfl hC bR
   exact obligs_nil
  intro vals ww hC hY
  have e0 : vals 0 = .agg #[.int .u32 a, .int .u32 b, .int .u8 p, .int .u8 t, .int .u8 s, .int .u16 i, .bool d] := hY 0 _ _ rfl rfl
  have e1 : vals 1 = .int .i64 n := hY 1 _ _ rfl rfl
  have e2 : vals 2 = .agg #[.int .u32 a, .int .u32 b, .int .u8 p, .int .u8 t, .int .u8 s, .int .u16 i, .bool d] := hY 2 _ _ rfl rfl
  have e3 : vals 3 = .int .i64 n := hY 3 _ _ rfl rfl
  have e4 : vals 4 = .string (tx (hd a b p t s i d n 0)) := hY 4 _ _ rfl rfl
  have e5 : vals 5 = .int .u16 (cs a b p t s i d n : Nat) := hY 5 _ _ rfl rfl
  have e6 : vals 6 = .string (tx (hd a b p t s i d n (cs a b p t s i d n))) := hY 6 _ _ rfl rfl
  have e7 : vals 7 = .string l := hY 7 _ _ rfl rfl
  have e8 : vals 8 = .string A8 := hY 8 _ _ rfl rfl
  have e9 : vals 9 = .string A8 := hY 9 _ _ rfl rfl
  have e10 : vals 10 = .int .i64 0 := hY 10 _ _ rfl rfl
  clear hY
  simp only [putAll, Act.put, List.setIfInBounds_toArray, List.set_cons_zero, List.set_cons_succ, e0, e1, e2, e3, e4, e5, e6, e7, e8, e9, e10]
  clear e0 e1 e2 e3 e4 e5 e6 e7 e8 e9 e10
  go_wp2
  go_ret2
  exact ⟨by rw [HE.out, HA8.out]; exact congrArg Ending.returned (congrArg (fun x => Value.tuple #[.string x, .int .i64 0]) (by rw [← hcat.out])), hu.on hC⟩
end Go.Proofs.YtafckmbgefbonaaGreat.ip
