/- The document's answer for ip: a head's bytes, a packet's bytes. Condition: the arguments fit their kinds. -/
import Derived.Test.YtolebodpcefcfaaIpE
import Derived.Test.YtolebodpcefcfaaNetRel
namespace Go.Proofs.Ytolebodpcefcfaa.ip
open Go.RowKit Go.Shelf Go.Proofs.Ytolebodpcefcfaa.sm Go.Proofs.Ytolebodpcefcfaa.nb Go.Proofs.Ytolebodpcefcfaa.im
set_option linter.unusedVariables false

theorem Box.e7 {W : World} {b : Nat} {x0 x1 x2 x3 x4 x5 x6 : Value} (h : Box W b [x0, x1, x2, x3, x4, x5, x6]) : W.cell? ⟨b, 0, none⟩ = some (x0) ∧ W.cell? ⟨b, 1, none⟩ = some (x1) ∧ W.cell? ⟨b, 2, none⟩ = some (x2) ∧ W.cell? ⟨b, 3, none⟩ = some (x3) ∧ W.cell? ⟨b, 4, none⟩ = some (x4) ∧ W.cell? ⟨b, 5, none⟩ = some (x5) ∧ W.cell? ⟨b, 6, none⟩ = some (x6) :=
  ⟨h.at 0 rfl, h.at 1 rfl, h.at 2 rfl, h.at 3 rfl, h.at 4 rfl, h.at 5 rfl, h.at 6 rfl⟩
def dfs (d : Bool) : ByteArray := if d then { data := #[64, 0] } else { data := #[0, 0] }
theorem dfs_size (d : Bool) : (dfs d).size = 2 := by cases d <;> rfl
set_option maxHeartbeats 4000000 in
set_option maxRecDepth 100000 in
theorem refHead (a b p t s i n : Nat) (c : Int) (d : Bool) (w : World) (h : Ok a b p t s i) (hn : n ≤ 65535) (hc : 0 ≤ c ∧ c ≤ 65535) :
    Calls Try.prog 14 #[HV a b p t s i d, .int .i64 n, .int .u16 c] w fun e w' => e = .returned (.string (tx (hd a b p t s i d n c.toNat))) ∧ Up w w' := by
  obtain ⟨ha, hb, hp, ht, hs, hi⟩ := h
  obtain ⟨f, hff⟩ : ∃ f : ByteArray, f = dfs d := ⟨_, rfl⟩
  have hfz : f.size = 2 := by rw [hff]; exact dfs_size d
  have HF := Lib.hid hff; clear hff
  have e1 := oct_nat ht; have e2 := oct_nat hp; have e3 := oct_nat hs
  have z69 : ({ data := #[69] } : ByteArray).size = 1 := rfl
  have z1 : (tx [oct s]).size = 1 := by rw [tx_size]; rfl
  have z2 : (tx [oct t, oct p]).size = 2 := by rw [tx_size]; rfl
  have z16 := sz16
  have z32 := sz32
  have g1 : (0 : Int) ≤ (n : Int) ∧ (n : Int) ≤ 65535 := by omega
  have g2 : (0 : Int) ≤ (i : Int) ∧ (i : Int) ≤ 65535 := by omega
  have q1 : IntKind.u16.wrap (n : Int) = n := by rw [IntKind.wrap_u16]; omega
  have c1 : BC [oct s] = [.int .u8 (s : Int)] := by show [Value.int .u8 ((oct s).toNat : Int)] = _; rw [e3]
  have c2 : BC [oct t, oct p] = [.int .u8 (t : Int), .int .u8 (p : Int)] := by show [Value.int .u8 ((oct t).toNat : Int), Value.int .u8 ((oct p).toNat : Int)] = _; rw [e1, e2]
  clear e1 e2 e3
  go_enter Try.func14, Try.ntmps14
  go_upto_region 2 with fail
  have hB := Box.new w #[.int .u32 a, .int .u32 b, .int .u8 p, .int .u8 t, .int .u8 s, .int .u16 i, .bool d] 25
  have hu : Up w (w.alloc (.cells #[.int .u32 a, .int .u32 b, .int .u8 p, .int .u8 t, .int .u8 s, .int .u16 i, .bool d] 25)) := up_al _ (Below.refl _ _)
  generalize (w.alloc (.cells #[.int .u32 a, .int .u32 b, .int .u8 p, .int .u8 t, .int .u8 s, .int .u16 i, .bool d] 25)) = w0 at hB hu ⊢
  have k6 := hB.at 6 rfl
  go_upto_if 9 with fail
  go_cut [7] (fun v wc => v = .string f ∧ w0 = wc)
  case first =>
    cases d
    · go_wp2
      go_meet
      exact ⟨by rw [HF.out]; rfl, rfl⟩
    · go_wp2
      go_meet
      exact ⟨by rw [HF.out]; rfl, rfl⟩
  case rest =>
  obtain ⟨rfl, rfl⟩ := hcut
  clear k6
  have hE : Hid (({ data := #[69] } : ByteArray) ++ tx [oct s] ++ tx (B16 n) ++ tx (B16 i) ++ f ++ tx [oct t, oct p] ++ tx (B16 c.toNat) ++ tx (B32 a) ++ tx (B32 b) = tx (hd a b p t s i d n c.toNat)) := by
    unfold Hid
    refine ba_eq ?_
    simp only [L_app, L_tx]
    rw [HF.out]
    cases d <;> rfl
  go_upto_region 4 with fail
  obtain ⟨A4, hA4⟩ : ∃ A : ByteArray, A = { data := #[69] } ++ (tx [oct s]) := ⟨_, rfl⟩
  have zA4 : A4.size = 2 := by rw [hA4, ByteArray.size_append, z69, z1]
  have HA4 := Lib.hid hA4; clear hA4
  obtain ⟨A8, hA8⟩ : ∃ A : ByteArray, A = A4 ++ (tx (B16 n)) := ⟨_, rfl⟩
  have zA8 : A8.size = 4 := by rw [hA8, ByteArray.size_append, zA4, (z16 _)]
  have HA8 := Lib.hid hA8; clear hA8
  obtain ⟨A12, hA12⟩ : ∃ A : ByteArray, A = A8 ++ (tx (B16 i)) := ⟨_, rfl⟩
  have zA12 : A12.size = 6 := by rw [hA12, ByteArray.size_append, zA8, (z16 _)]
  have HA12 := Lib.hid hA12; clear hA12
  obtain ⟨A14, hA14⟩ : ∃ A : ByteArray, A = A12 ++ f := ⟨_, rfl⟩
  have zA14 : A14.size = 8 := by rw [hA14, ByteArray.size_append, zA12, hfz]
  have HA14 := Lib.hid hA14; clear hA14
  obtain ⟨A21, hA21⟩ : ∃ A : ByteArray, A = A14 ++ (tx [oct t, oct p]) := ⟨_, rfl⟩
  have zA21 : A21.size = 10 := by rw [hA21, ByteArray.size_append, zA14, z2]
  have HA21 := Lib.hid hA21; clear hA21
  obtain ⟨A24, hA24⟩ : ∃ A : ByteArray, A = A21 ++ (tx (B16 c.toNat)) := ⟨_, rfl⟩
  have zA24 : A24.size = 12 := by rw [hA24, ByteArray.size_append, zA21, (z16 _)]
  have HA24 := Lib.hid hA24; clear hA24
  obtain ⟨A28, hA28⟩ : ∃ A : ByteArray, A = A24 ++ (tx (B32 a)) := ⟨_, rfl⟩
  have zA28 : A28.size = 16 := by rw [hA28, ByteArray.size_append, zA24, (z32 _)]
  have HA28 := Lib.hid hA28; clear hA28
  obtain ⟨A32, hA32⟩ : ∃ A : ByteArray, A = A28 ++ (tx (B32 b)) := ⟨_, rfl⟩
  have zA32 : A32.size = 20 := by rw [hA32, ByteArray.size_append, zA28, (z32 _)]
  have HA32 := Lib.hid hA32; clear hA32
  refine wp_region_rel2 (fun W => Up w0 W) (fun W W' => Up W W') (Ys [Det (.pointer (some ⟨w.heap.size, 4, none⟩)),
    Det (.int .u8 s),
    Fresh 1 [.int .u8 s],
    Det (.string (tx [oct s])),
    Det (.string A4),
    Det (.int .i64 n),
    Det (.int .u16 n),
    Det (.string (tx (B16 n))),
    Det (.string A8),
    Det (.pointer (some ⟨w.heap.size, 5, none⟩)),
    Det (.int .u16 i),
    Det (.string (tx (B16 i))),
    Det (.string A12),
    Det (.string f),
    Det (.string A14),
    Det (.pointer (some ⟨w.heap.size, 3, none⟩)),
    Det (.int .u8 t),
    Det (.pointer (some ⟨w.heap.size, 2, none⟩)),
    Det (.int .u8 p),
    Fresh 2 [.int .u8 t, .int .u8 p],
    Det (.string (tx [oct t, oct p])),
    Det (.string A21),
    Det (.int .u16 c),
    Det (.string (tx (B16 c.toNat))),
    Det (.string A24),
    Det (.pointer (some ⟨w.heap.size, 0, none⟩)),
    Det (.int .u32 a),
    Det (.string (tx (B32 a))),
    Det (.string A28),
    Det (.pointer (some ⟨w.heap.size, 1, none⟩)),
    Det (.int .u32 b),
    Det (.string (tx (B32 b))),
    Det (.string A32),
    Det (.string A32)]) (by kernel_rfl) (by kernel_rfl) (up_dr (Below.refl _ _)) (Stable.ys ⟨Det.st _, Det.st _, Fresh.st _ _, Det.st _, Det.st _, Det.st _, Det.st _, Det.st _, Det.st _, Det.st _, Det.st _, Det.st _, Det.st _, Det.st _, Det.st _, Det.st _, Det.st _, Det.st _, Det.st _, Fresh.st _ _, Det.st _, Det.st _, Det.st _, Det.st _, Det.st _, Det.st _, Det.st _, Det.st _, Det.st _, Det.st _, Det.st _, Det.st _, Det.st _, Det.st _, trivial⟩) ?_ ?_
  ·
    -- 0: Op.fieldAddr 25 t3 4
    refine obligs_cons ?_ ?_
    · intro aa ww hC hdep hvar KK hK
      have d3 : aa.tmps.getD 3 undef = .pointer (some ⟨w.heap.size, 0, none⟩) := hvar 3 (slotOk_spec (by kernel_rfl))
      have d3_ := d3; rw [Array.getD_eq_getD_getElem?] at d3_
      clear hdep hvar
      (unfold opTo; go_simp; try simp only [opUpon])
      exact hK _ _ rfl hC (Below.refl _ _)
    -- 1: Op.load 5 t10
    refine obligs_cons ?_ ?_
    · intro aa ww hC hdep hvar KK hK
      have d10 : aa.tmps.getD 10 undef = .pointer (some ⟨w.heap.size, 4, none⟩) := dep_of hdep 0 10 (by kernel_rfl)
      have d10_ := d10; rw [Array.getD_eq_getD_getElem?] at d10_
      clear hdep hvar
      have hb := hB.up hC
      have c4 := hb.at 4 rfl
      (unfold opTo; go_simp; try simp only [opUpon])
      exact hK _ _ rfl hC (Below.refl _ _)
    -- 2: Op.buildSlice 38 1 #[(0, t11)]
    refine obligs_cons ?_ ?_
    · intro aa ww hC hdep hvar KK hK
      have d11 : aa.tmps.getD 11 undef = .int .u8 s := dep_of hdep 1 11 (by kernel_rfl)
      have d11_ := d11; rw [Array.getD_eq_getD_getElem?] at d11_
      clear hdep hvar
      (unfold opTo; go_simp; try simp only [opUpon])
      exact hK _ _ ⟨_, rfl, Box.new _ _ _⟩ (up_al _ hC) (up_al _ (Below.refl _ _))
    -- 3: Op.convert 38 9 t12
    refine obligs_cons ?_ ?_
    · intro aa ww hC hdep hvar KK hK
      obtain ⟨g, d12, hg⟩ : Fresh 1 [.int .u8 s] (aa.tmps.getD 12 undef) ww := dep_of hdep 2 12 (by kernel_rfl)
      have d12_ := d12; rw [Array.getD_eq_getD_getElem?] at d12_
      clear hdep hvar
      have hq := conv_box (n := 1) (xs := [oct s]) rfl (by rw [c1]; exact hg)
      (unfold opTo; go_simp; try simp only [opUpon])
      exact hK _ _ rfl hC (Below.refl _ _)
    -- 4: Op.binOp BinOp.add 9 (const (Value.string { data := #[69] })) t13 9
    refine obligs_cons ?_ ?_
    · intro aa ww hC hdep hvar KK hK
      have d13 : aa.tmps.getD 13 undef = .string (tx [oct s]) := dep_of hdep 3 13 (by kernel_rfl)
      have d13_ := d13; rw [Array.getD_eq_getD_getElem?] at d13_
      clear hdep hvar
      (unfold opTo; go_simp; try simp only [opUpon])
      rw [← HA4.out]
      exact hK _ _ rfl hC (Below.refl _ _)
    -- 5: Op.move t1
    refine obligs_cons ?_ ?_
    · intro aa ww hC hdep hvar KK hK
      have d1 : aa.tmps.getD 1 undef = .int .i64 n := hvar 1 (slotOk_spec (by kernel_rfl))
      have d1_ := d1; rw [Array.getD_eq_getD_getElem?] at d1_
      clear hdep hvar
      (unfold opTo; go_simp; try simp only [opUpon])
      exact hK _ _ rfl hC (Below.refl _ _)
    -- 6: Op.convert 3 23 t15
    refine obligs_cons ?_ ?_
    · intro aa ww hC hdep hvar KK hK
      have d15 : aa.tmps.getD 15 undef = .int .i64 n := dep_of hdep 5 15 (by kernel_rfl)
      have d15_ := d15; rw [Array.getD_eq_getD_getElem?] at d15_
      clear hdep hvar
      (unfold opTo; go_simp; try simp only [opUpon])
      exact hK _ _ rfl hC (Below.refl _ _)
    -- 7: Op.call { value (Operand.func 25), args := #[t16], argTypes := #[23] }
    refine obligs_cons ?_ ?_
    · intro aa ww hC hdep hvar KK hK
      have d16 : aa.tmps.getD 16 undef = .int .u16 n := dep_of hdep 6 16 (by kernel_rfl)
      have d16_ := d16; rw [Array.getD_eq_getD_getElem?] at d16_
      clear hdep hvar
      (unfold opTo; go_simp; try simp only [opUpon])
      exact (refBytes _ _ g1).mono fun e w2 h => ⟨_, h.1, hK _ _ rfl (Up.on hC h.2) h.2⟩
    -- 8: Op.binOp BinOp.add 9 t14 t17 9
    refine obligs_cons ?_ ?_
    · intro aa ww hC hdep hvar KK hK
      have d14 : aa.tmps.getD 14 undef = .string A4 := dep_of hdep 4 14 (by kernel_rfl)
      have d17 : aa.tmps.getD 17 undef = .string (tx (B16 n)) := dep_of hdep 7 17 (by kernel_rfl)
      have d14_ := d14; rw [Array.getD_eq_getD_getElem?] at d14_
      have d17_ := d17; rw [Array.getD_eq_getD_getElem?] at d17_
      clear hdep hvar
      (unfold opTo; go_simp; try simp only [opUpon])
      rw [← HA8.out]
      exact hK _ _ rfl hC (Below.refl _ _)
    -- 9: Op.fieldAddr 25 t3 5
    refine obligs_cons ?_ ?_
    · intro aa ww hC hdep hvar KK hK
      have d3 : aa.tmps.getD 3 undef = .pointer (some ⟨w.heap.size, 0, none⟩) := hvar 3 (slotOk_spec (by kernel_rfl))
      have d3_ := d3; rw [Array.getD_eq_getD_getElem?] at d3_
      clear hdep hvar
      (unfold opTo; go_simp; try simp only [opUpon])
      exact hK _ _ rfl hC (Below.refl _ _)
    -- 10: Op.load 23 t19
    refine obligs_cons ?_ ?_
    · intro aa ww hC hdep hvar KK hK
      have d19 : aa.tmps.getD 19 undef = .pointer (some ⟨w.heap.size, 5, none⟩) := dep_of hdep 9 19 (by kernel_rfl)
      have d19_ := d19; rw [Array.getD_eq_getD_getElem?] at d19_
      clear hdep hvar
      have hb := hB.up hC
      have c5 := hb.at 5 rfl
      (unfold opTo; go_simp; try simp only [opUpon])
      exact hK _ _ rfl hC (Below.refl _ _)
    -- 11: Op.call { value (Operand.func 25), args := #[t20], argTypes := #[23] }
    refine obligs_cons ?_ ?_
    · intro aa ww hC hdep hvar KK hK
      have d20 : aa.tmps.getD 20 undef = .int .u16 i := dep_of hdep 10 20 (by kernel_rfl)
      have d20_ := d20; rw [Array.getD_eq_getD_getElem?] at d20_
      clear hdep hvar
      (unfold opTo; go_simp; try simp only [opUpon])
      exact (refBytes _ _ g2).mono fun e w2 h => ⟨_, h.1, hK _ _ rfl (Up.on hC h.2) h.2⟩
    -- 12: Op.binOp BinOp.add 9 t18 t21 9
    refine obligs_cons ?_ ?_
    · intro aa ww hC hdep hvar KK hK
      have d18 : aa.tmps.getD 18 undef = .string A8 := dep_of hdep 8 18 (by kernel_rfl)
      have d21 : aa.tmps.getD 21 undef = .string (tx (B16 i)) := dep_of hdep 11 21 (by kernel_rfl)
      have d18_ := d18; rw [Array.getD_eq_getD_getElem?] at d18_
      have d21_ := d21; rw [Array.getD_eq_getD_getElem?] at d21_
      clear hdep hvar
      (unfold opTo; go_simp; try simp only [opUpon])
      rw [← HA12.out]
      exact hK _ _ rfl hC (Below.refl _ _)
    -- 13: Op.move t7
    refine obligs_cons ?_ ?_
    · intro aa ww hC hdep hvar KK hK
      have d7 : aa.tmps.getD 7 undef = .string f := hvar 7 (slotOk_spec (by kernel_rfl))
      have d7_ := d7; rw [Array.getD_eq_getD_getElem?] at d7_
      clear hdep hvar
      (unfold opTo; go_simp; try simp only [opUpon])
      exact hK _ _ rfl hC (Below.refl _ _)
    -- 14: Op.binOp BinOp.add 9 t22 t23 9
    refine obligs_cons ?_ ?_
    · intro aa ww hC hdep hvar KK hK
      have d22 : aa.tmps.getD 22 undef = .string A12 := dep_of hdep 12 22 (by kernel_rfl)
      have d23 : aa.tmps.getD 23 undef = .string f := dep_of hdep 13 23 (by kernel_rfl)
      have d22_ := d22; rw [Array.getD_eq_getD_getElem?] at d22_
      have d23_ := d23; rw [Array.getD_eq_getD_getElem?] at d23_
      clear hdep hvar
      (unfold opTo; go_simp; try simp only [opUpon])
      rw [← HA14.out]
      exact hK _ _ rfl hC (Below.refl _ _)
    -- 15: Op.fieldAddr 25 t3 3
    refine obligs_cons ?_ ?_
    · intro aa ww hC hdep hvar KK hK
      have d3 : aa.tmps.getD 3 undef = .pointer (some ⟨w.heap.size, 0, none⟩) := hvar 3 (slotOk_spec (by kernel_rfl))
      have d3_ := d3; rw [Array.getD_eq_getD_getElem?] at d3_
      clear hdep hvar
      (unfold opTo; go_simp; try simp only [opUpon])
      exact hK _ _ rfl hC (Below.refl _ _)
    -- 16: Op.load 5 t25
    refine obligs_cons ?_ ?_
    · intro aa ww hC hdep hvar KK hK
      have d25 : aa.tmps.getD 25 undef = .pointer (some ⟨w.heap.size, 3, none⟩) := dep_of hdep 15 25 (by kernel_rfl)
      have d25_ := d25; rw [Array.getD_eq_getD_getElem?] at d25_
      clear hdep hvar
      have hb := hB.up hC
      have c3 := hb.at 3 rfl
      (unfold opTo; go_simp; try simp only [opUpon])
      exact hK _ _ rfl hC (Below.refl _ _)
    -- 17: Op.fieldAddr 25 t3 2
    refine obligs_cons ?_ ?_
    · intro aa ww hC hdep hvar KK hK
      have d3 : aa.tmps.getD 3 undef = .pointer (some ⟨w.heap.size, 0, none⟩) := hvar 3 (slotOk_spec (by kernel_rfl))
      have d3_ := d3; rw [Array.getD_eq_getD_getElem?] at d3_
      clear hdep hvar
      (unfold opTo; go_simp; try simp only [opUpon])
      exact hK _ _ rfl hC (Below.refl _ _)
    -- 18: Op.load 5 t27
    refine obligs_cons ?_ ?_
    · intro aa ww hC hdep hvar KK hK
      have d27 : aa.tmps.getD 27 undef = .pointer (some ⟨w.heap.size, 2, none⟩) := dep_of hdep 17 27 (by kernel_rfl)
      have d27_ := d27; rw [Array.getD_eq_getD_getElem?] at d27_
      clear hdep hvar
      have hb := hB.up hC
      have c2 := hb.at 2 rfl
      (unfold opTo; go_simp; try simp only [opUpon])
      exact hK _ _ rfl hC (Below.refl _ _)
    -- 19: Op.buildSlice 38 2 #[(0, t26), (1, t28)]
    refine obligs_cons ?_ ?_
    · intro aa ww hC hdep hvar KK hK
      have d26 : aa.tmps.getD 26 undef = .int .u8 t := dep_of hdep 16 26 (by kernel_rfl)
      have d28 : aa.tmps.getD 28 undef = .int .u8 p := dep_of hdep 18 28 (by kernel_rfl)
      have d26_ := d26; rw [Array.getD_eq_getD_getElem?] at d26_
      have d28_ := d28; rw [Array.getD_eq_getD_getElem?] at d28_
      clear hdep hvar
      (unfold opTo; go_simp; try simp only [opUpon])
      exact hK _ _ ⟨_, rfl, Box.new _ _ _⟩ (up_al _ hC) (up_al _ (Below.refl _ _))
    -- 20: Op.convert 38 9 t29
    refine obligs_cons ?_ ?_
    · intro aa ww hC hdep hvar KK hK
      obtain ⟨g, d29, hg⟩ : Fresh 2 [.int .u8 t, .int .u8 p] (aa.tmps.getD 29 undef) ww := dep_of hdep 19 29 (by kernel_rfl)
      have d29_ := d29; rw [Array.getD_eq_getD_getElem?] at d29_
      clear hdep hvar
      have hq := conv_box (n := 2) (xs := [oct t, oct p]) rfl (by rw [c2]; exact hg)
      (unfold opTo; go_simp; try simp only [opUpon])
      exact hK _ _ rfl hC (Below.refl _ _)
    -- 21: Op.binOp BinOp.add 9 t24 t30 9
    refine obligs_cons ?_ ?_
    · intro aa ww hC hdep hvar KK hK
      have d24 : aa.tmps.getD 24 undef = .string A14 := dep_of hdep 14 24 (by kernel_rfl)
      have d30 : aa.tmps.getD 30 undef = .string (tx [oct t, oct p]) := dep_of hdep 20 30 (by kernel_rfl)
      have d24_ := d24; rw [Array.getD_eq_getD_getElem?] at d24_
      have d30_ := d30; rw [Array.getD_eq_getD_getElem?] at d30_
      clear hdep hvar
      (unfold opTo; go_simp; try simp only [opUpon])
      rw [← HA21.out]
      exact hK _ _ rfl hC (Below.refl _ _)
    -- 22: Op.move t2
    refine obligs_cons ?_ ?_
    · intro aa ww hC hdep hvar KK hK
      have d2 : aa.tmps.getD 2 undef = .int .u16 c := hvar 2 (slotOk_spec (by kernel_rfl))
      have d2_ := d2; rw [Array.getD_eq_getD_getElem?] at d2_
      clear hdep hvar
      (unfold opTo; go_simp; try simp only [opUpon])
      exact hK _ _ rfl hC (Below.refl _ _)
    -- 23: Op.call { value (Operand.func 25), args := #[t32], argTypes := #[23] }
    refine obligs_cons ?_ ?_
    · intro aa ww hC hdep hvar KK hK
      have d32 : aa.tmps.getD 32 undef = .int .u16 c := dep_of hdep 22 32 (by kernel_rfl)
      have d32_ := d32; rw [Array.getD_eq_getD_getElem?] at d32_
      clear hdep hvar
      (unfold opTo; go_simp; try simp only [opUpon])
      exact (refBytes _ _ hc).mono fun e w2 h => ⟨_, h.1, hK _ _ rfl (Up.on hC h.2) h.2⟩
    -- 24: Op.binOp BinOp.add 9 t31 t33 9
    refine obligs_cons ?_ ?_
    · intro aa ww hC hdep hvar KK hK
      have d31 : aa.tmps.getD 31 undef = .string A21 := dep_of hdep 21 31 (by kernel_rfl)
      have d33 : aa.tmps.getD 33 undef = .string (tx (B16 c.toNat)) := dep_of hdep 23 33 (by kernel_rfl)
      have d31_ := d31; rw [Array.getD_eq_getD_getElem?] at d31_
      have d33_ := d33; rw [Array.getD_eq_getD_getElem?] at d33_
      clear hdep hvar
      (unfold opTo; go_simp; try simp only [opUpon])
      rw [← HA24.out]
      exact hK _ _ rfl hC (Below.refl _ _)
    -- 25: Op.fieldAddr 25 t3 0
    refine obligs_cons ?_ ?_
    · intro aa ww hC hdep hvar KK hK
      have d3 : aa.tmps.getD 3 undef = .pointer (some ⟨w.heap.size, 0, none⟩) := hvar 3 (slotOk_spec (by kernel_rfl))
      have d3_ := d3; rw [Array.getD_eq_getD_getElem?] at d3_
      clear hdep hvar
      (unfold opTo; go_simp; try simp only [opUpon])
      exact hK _ _ rfl hC (Below.refl _ _)
    -- 26: Op.load 22 t35
    refine obligs_cons ?_ ?_
    · intro aa ww hC hdep hvar KK hK
      have d35 : aa.tmps.getD 35 undef = .pointer (some ⟨w.heap.size, 0, none⟩) := dep_of hdep 25 35 (by kernel_rfl)
      have d35_ := d35; rw [Array.getD_eq_getD_getElem?] at d35_
      clear hdep hvar
      have hb := hB.up hC
      have c0 := hb.at 0 rfl
      (unfold opTo; go_simp; try simp only [opUpon])
      exact hK _ _ rfl hC (Below.refl _ _)
    -- 27: Op.call { value (Operand.func 26), args := #[t36], argTypes := #[22] }
    refine obligs_cons ?_ ?_
    · intro aa ww hC hdep hvar KK hK
      have d36 : aa.tmps.getD 36 undef = .int .u32 a := dep_of hdep 26 36 (by kernel_rfl)
      have d36_ := d36; rw [Array.getD_eq_getD_getElem?] at d36_
      clear hdep hvar
      (unfold opTo; go_simp; try simp only [opUpon])
      exact (refFour _ _ ha).mono fun e w2 h => ⟨_, h.1, hK _ _ rfl (Up.on hC h.2) h.2⟩
    -- 28: Op.binOp BinOp.add 9 t34 t37 9
    refine obligs_cons ?_ ?_
    · intro aa ww hC hdep hvar KK hK
      have d34 : aa.tmps.getD 34 undef = .string A24 := dep_of hdep 24 34 (by kernel_rfl)
      have d37 : aa.tmps.getD 37 undef = .string (tx (B32 a)) := dep_of hdep 27 37 (by kernel_rfl)
      have d34_ := d34; rw [Array.getD_eq_getD_getElem?] at d34_
      have d37_ := d37; rw [Array.getD_eq_getD_getElem?] at d37_
      clear hdep hvar
      (unfold opTo; go_simp; try simp only [opUpon])
      rw [← HA28.out]
      exact hK _ _ rfl hC (Below.refl _ _)
    -- 29: Op.fieldAddr 25 t3 1
    refine obligs_cons ?_ ?_
    · intro aa ww hC hdep hvar KK hK
      have d3 : aa.tmps.getD 3 undef = .pointer (some ⟨w.heap.size, 0, none⟩) := hvar 3 (slotOk_spec (by kernel_rfl))
      have d3_ := d3; rw [Array.getD_eq_getD_getElem?] at d3_
      clear hdep hvar
      (unfold opTo; go_simp; try simp only [opUpon])
      exact hK _ _ rfl hC (Below.refl _ _)
    -- 30: Op.load 22 t39
    refine obligs_cons ?_ ?_
    · intro aa ww hC hdep hvar KK hK
      have d39 : aa.tmps.getD 39 undef = .pointer (some ⟨w.heap.size, 1, none⟩) := dep_of hdep 29 39 (by kernel_rfl)
      have d39_ := d39; rw [Array.getD_eq_getD_getElem?] at d39_
      clear hdep hvar
      have hb := hB.up hC
      have c1 := hb.at 1 rfl
      (unfold opTo; go_simp; try simp only [opUpon])
      exact hK _ _ rfl hC (Below.refl _ _)
    -- 31: Op.call { value (Operand.func 26), args := #[t40], argTypes := #[22] }
    refine obligs_cons ?_ ?_
    · intro aa ww hC hdep hvar KK hK
      have d40 : aa.tmps.getD 40 undef = .int .u32 b := dep_of hdep 30 40 (by kernel_rfl)
      have d40_ := d40; rw [Array.getD_eq_getD_getElem?] at d40_
      clear hdep hvar
      (unfold opTo; go_simp; try simp only [opUpon])
      exact (refFour _ _ hb).mono fun e w2 h => ⟨_, h.1, hK _ _ rfl (Up.on hC h.2) h.2⟩
    -- 32: Op.binOp BinOp.add 9 t38 t41 9
    refine obligs_cons ?_ ?_
    · intro aa ww hC hdep hvar KK hK
      have d38 : aa.tmps.getD 38 undef = .string A28 := dep_of hdep 28 38 (by kernel_rfl)
      have d41 : aa.tmps.getD 41 undef = .string (tx (B32 b)) := dep_of hdep 31 41 (by kernel_rfl)
      have d38_ := d38; rw [Array.getD_eq_getD_getElem?] at d38_
      have d41_ := d41; rw [Array.getD_eq_getD_getElem?] at d41_
      clear hdep hvar
      (unfold opTo; go_simp; try simp only [opUpon])
      rw [← HA32.out]
      exact hK _ _ rfl hC (Below.refl _ _)
    -- 33: Op.assign t42
    refine obligs_cons ?_ ?_
    · intro aa ww hC hdep hvar KK hK
      have d42 : aa.tmps.getD 42 undef = .string A32 := dep_of hdep 32 42 (by kernel_rfl)
      have d42_ := d42; rw [Array.getD_eq_getD_getElem?] at d42_
      clear hdep hvar
      (unfold opTo; go_simp; try simp only [opUpon])
      exact hK _ _ rfl hC (Below.refl _ _)
    exact obligs_nil
  intro vals ww hC hY
  have e0 : vals 0 = .pointer (some ⟨w.heap.size, 4, none⟩) := hY 0 _ _ rfl rfl
  have e1 : vals 1 = .int .u8 s := hY 1 _ _ rfl rfl
  have e3 : vals 3 = .string (tx [oct s]) := hY 3 _ _ rfl rfl
  have e4 : vals 4 = .string A4 := hY 4 _ _ rfl rfl
  have e5 : vals 5 = .int .i64 n := hY 5 _ _ rfl rfl
  have e6 : vals 6 = .int .u16 n := hY 6 _ _ rfl rfl
  have e7 : vals 7 = .string (tx (B16 n)) := hY 7 _ _ rfl rfl
  have e8 : vals 8 = .string A8 := hY 8 _ _ rfl rfl
  have e9 : vals 9 = .pointer (some ⟨w.heap.size, 5, none⟩) := hY 9 _ _ rfl rfl
  have e10 : vals 10 = .int .u16 i := hY 10 _ _ rfl rfl
  have e11 : vals 11 = .string (tx (B16 i)) := hY 11 _ _ rfl rfl
  have e12 : vals 12 = .string A12 := hY 12 _ _ rfl rfl
  have e13 : vals 13 = .string f := hY 13 _ _ rfl rfl
  have e14 : vals 14 = .string A14 := hY 14 _ _ rfl rfl
  have e15 : vals 15 = .pointer (some ⟨w.heap.size, 3, none⟩) := hY 15 _ _ rfl rfl
  have e16 : vals 16 = .int .u8 t := hY 16 _ _ rfl rfl
  have e17 : vals 17 = .pointer (some ⟨w.heap.size, 2, none⟩) := hY 17 _ _ rfl rfl
  have e18 : vals 18 = .int .u8 p := hY 18 _ _ rfl rfl
  have e20 : vals 20 = .string (tx [oct t, oct p]) := hY 20 _ _ rfl rfl
  have e21 : vals 21 = .string A21 := hY 21 _ _ rfl rfl
  have e22 : vals 22 = .int .u16 c := hY 22 _ _ rfl rfl
  have e23 : vals 23 = .string (tx (B16 c.toNat)) := hY 23 _ _ rfl rfl
  have e24 : vals 24 = .string A24 := hY 24 _ _ rfl rfl
  have e25 : vals 25 = .pointer (some ⟨w.heap.size, 0, none⟩) := hY 25 _ _ rfl rfl
  have e26 : vals 26 = .int .u32 a := hY 26 _ _ rfl rfl
  have e27 : vals 27 = .string (tx (B32 a)) := hY 27 _ _ rfl rfl
  have e28 : vals 28 = .string A28 := hY 28 _ _ rfl rfl
  have e29 : vals 29 = .pointer (some ⟨w.heap.size, 1, none⟩) := hY 29 _ _ rfl rfl
  have e30 : vals 30 = .int .u32 b := hY 30 _ _ rfl rfl
  have e31 : vals 31 = .string (tx (B32 b)) := hY 31 _ _ rfl rfl
  have e32 : vals 32 = .string A32 := hY 32 _ _ rfl rfl
  have e33 : vals 33 = .string A32 := hY 33 _ _ rfl rfl
  clear hY
  simp only [putAll, Act.put, List.setIfInBounds_toArray, List.set_cons_zero, List.set_cons_succ, e0, e1, e3, e4, e5, e6, e7, e8, e9, e10, e11, e12, e13, e14, e15, e16, e17, e18, e20, e21, e22, e23, e24, e25, e26, e27, e28, e29, e30, e31, e32, e33]
  clear e0 e1 e3 e4 e5 e6 e7 e8 e9 e10 e11 e12 e13 e14 e15 e16 e17 e18 e20 e21 e22 e23 e24 e25 e26 e27 e28 e29 e30 e31 e32 e33
  go_wp2
  go_ret
  exact ⟨by rw [HA32.out, HA28.out, HA24.out, HA21.out, HA14.out, HA12.out, HA8.out, HA4.out, hE.out]; rfl, hu.on hC⟩
end Go.Proofs.Ytolebodpcefcfaa.ip
