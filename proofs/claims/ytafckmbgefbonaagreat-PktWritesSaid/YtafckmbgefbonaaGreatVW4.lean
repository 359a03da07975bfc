/- W: contracts, part 4. Condition: as each says. -/
import Derived.Test.YtafckmbgefbonaaGreatVW1
import Derived.Test.YtafckmbgefbonaaGreatVTRW26
set_option linter.unusedVariables false
set_option linter.unusedSimpArgs false
set_option maxRecDepth 100000
set_option maxHeartbeats 8000000
namespace Go.Proofs.YtafckmbgefbonaaGreat.tc
open RowKit Shelf sm nb cm

theorem rw_tx (p q sq ak fl wi ur : Nat) (o d : ByteArray) (c : Nat) :
  tx (B16 p) ++ tx (B16 q) ++ tx (B32 sq) ++ tx (B32 ak) ++ tx [oct ((20 + o.size) / 4 * 16), oct fl] ++ tx (B16 wi) ++ tx (B16 c) ++ tx (B16 ur) ++ o ++ d = tx (rw_ p q sq ak fl wi ur (L o) (L d) c) := by
 refine ba_eq ?_
 simp only [L_app, L_tx]
 rw [← L_len]
 rfl
theorem refRaw (p q sq ak fl wi ur : Nat) (o d : ByteArray) (c : Int) (w : World) (h : Ok p q sq ak fl wi ur) (ho : o.size ≤ 40) (hd : d.size ≤ 65515) (hc : 0 ≤ c ∧ c ≤ 65535) :
  Calls Tryz.prog 61 #[HV p q sq ak fl wi ur o, .string d, .int .u16 c] w fun e w' => e = .returned (.string (tx (rw_ p q sq ak fl wi ur (L o) (L d) c.toNat))) ∧ Up w w' := by
 obtain ⟨hp, hq, hsq, hak, hfl, hwi, hur⟩ := h
 obtain ⟨v, hv⟩ : ∃ v : Nat, v = (20 + o.size) / 4 * 16 := ⟨_, rfl⟩
 have hv1 : v ≤ 255 := by omega
 have hvI : (20 + (o.size : Int)) / 4 * 16 = (v : Int) := by omega
 have e1 := oct_nat hv1; have e2 := oct_nat hfl
 have c2 : BC [oct v, oct fl] = [.int .u8 (v : Int), .int .u8 (fl : Int)] := by show [Value.int .u8 ((oct v).toNat : Int), Value.int .u8 ((oct fl).toNat : Int)] = _; rw [e1, e2]
 have z2 : (tx [oct v, oct fl]).size = 2 := by rw [tx_size]; rfl
 have z16 := sz16
 have z32 := sz32
 have g1 : (0 : Int) ≤ (p : Int) ∧ (p : Int) ≤ 65535 := by omega
 have g2 : (0 : Int) ≤ (q : Int) ∧ (q : Int) ≤ 65535 := by omega
 have g3 : (0 : Int) ≤ (wi : Int) ∧ (wi : Int) ≤ 65535 := by omega
 have g4 : (0 : Int) ≤ (ur : Int) ∧ (ur : Int) ≤ 65535 := by omega
 have hE := rw_tx p q sq ak fl wi ur o d c.toNat
 rw [← hv] at hE
 have HE := Lib.hid hE
 have HV1 := Lib.hid hv
 clear e1 e2 hE hv
 go_enter Tryz.func61, Tryz.ntmps61
 go_upto_region 1 with fail
 have hB := Box.new w #[.int .u16 p, .int .u16 q, .int .u32 sq, .int .u32 ak, .int .u8 fl, .int .u16 wi, .int .u16 ur, .string o] 55
 have hu : Up w (w.alloc (.cells #[.int .u16 p, .int .u16 q, .int .u32 sq, .int .u32 ak, .int .u8 fl, .int .u16 wi, .int .u16 ur, .string o] 55)) := up_al _ bR
 generalize World.alloc w _ = w0 at hB hu ⊢
 have k7 := hB.at 7 rfl
 go_cut [7] (fun x wc => x = .int .u8 (v : Int) ∧ w0 = wc)
 case first =>
  go_wp2
  go_meet
  exact ⟨by first | rfl | (congr 1; omega) | (congr 1; rw [IntKind.wrap_u8]; omega), rfl⟩
 case rest =>
 obtain ⟨rfl, rfl⟩ := hcut
 clear k7 hvI
 go_upto_region 2 with fail
 obtain ⟨A6, hA6⟩ : ∃ A : ByteArray, A = (tx (B16 p)) ++ (tx (B16 q)) := ⟨_, rfl⟩
 have zA6 : A6.size = 4 := by rw [hA6, ByteArray.size_append, (z16 _), (z16 _)]
 have HA6 := Lib.hid hA6; clear hA6
 obtain ⟨A10, hA10⟩ : ∃ A : ByteArray, A = A6 ++ (tx (B32 sq)) := ⟨_, rfl⟩
 have zA10 : A10.size = 8 := by rw [hA10, ByteArray.size_append, zA6, (z32 _)]
 have HA10 := Lib.hid hA10; clear hA10
 obtain ⟨A14, hA14⟩ : ∃ A : ByteArray, A = A10 ++ (tx (B32 ak)) := ⟨_, rfl⟩
 have zA14 : A14.size = 12 := by rw [hA14, ByteArray.size_append, zA10, (z32 _)]
 have HA14 := Lib.hid hA14; clear hA14
 obtain ⟨A20, hA20⟩ : ∃ A : ByteArray, A = A14 ++ (tx [oct v, oct fl]) := ⟨_, rfl⟩
 have zA20 : A20.size = 14 := by rw [hA20, ByteArray.size_append, zA14, z2]
 have HA20 := Lib.hid hA20; clear hA20
 obtain ⟨A24, hA24⟩ : ∃ A : ByteArray, A = A20 ++ (tx (B16 wi)) := ⟨_, rfl⟩
 have zA24 : A24.size = 16 := by rw [hA24, ByteArray.size_append, zA20, (z16 _)]
 have HA24 := Lib.hid hA24; clear hA24
 obtain ⟨A27, hA27⟩ : ∃ A : ByteArray, A = A24 ++ (tx (B16 c.toNat)) := ⟨_, rfl⟩
 have zA27 : A27.size = 18 := by rw [hA27, ByteArray.size_append, zA24, (z16 _)]
 have HA27 := Lib.hid hA27; clear hA27
 obtain ⟨A31, hA31⟩ : ∃ A : ByteArray, A = A27 ++ (tx (B16 ur)) := ⟨_, rfl⟩
 have zA31 : A31.size = 20 := by rw [hA31, ByteArray.size_append, zA27, (z16 _)]
 have HA31 := Lib.hid hA31; clear hA31
 obtain ⟨A34, hA34⟩ : ∃ A : ByteArray, A = A31 ++ o := ⟨_, rfl⟩
 have zA34 : A34.size = 20 + o.size := by rw [hA34, ByteArray.size_append, zA31]
 have HA34 := Lib.hid hA34; clear hA34
 obtain ⟨A36, hA36⟩ : ∃ A : ByteArray, A = A34 ++ d := ⟨_, rfl⟩
 have HA36 := Lib.hid hA36; clear hA36
 refine wp_region_rel2 (fun W => Up w0 W) (fun W W' => Up W W') (Ys [Det (.pointer (some ⟨w.heap.size, 0, none⟩)),
  Det (.int .u16 p),
  Det (.string (tx (B16 p))),
  Det (.pointer (some ⟨w.heap.size, 1, none⟩)),
  Det (.int .u16 q),
  Det (.string (tx (B16 q))),
  Det (.string A6),
  Det (.pointer (some ⟨w.heap.size, 2, none⟩)),
  Det (.int .u32 sq),
  Det (.string (tx (B32 sq))),
  Det (.string A10),
  Det (.pointer (some ⟨w.heap.size, 3, none⟩)),
  Det (.int .u32 ak),
  Det (.string (tx (B32 ak))),
  Det (.string A14),
  Det (.int .u8 v),
  Det (.pointer (some ⟨w.heap.size, 4, none⟩)),
  Det (.int .u8 fl),
  Fresh 2 [.int .u8 v, .int .u8 fl],
  Det (.string (tx [oct v, oct fl])),
  Det (.string A20),
  Det (.pointer (some ⟨w.heap.size, 5, none⟩)),
  Det (.int .u16 wi),
  Det (.string (tx (B16 wi))),
  Det (.string A24),
  Det (.int .u16 c),
  Det (.string (tx (B16 c.toNat))),
  Det (.string A27),
  Det (.pointer (some ⟨w.heap.size, 6, none⟩)),
  Det (.int .u16 ur),
  Det (.string (tx (B16 ur))),
  Det (.string A31),
  Det (.pointer (some ⟨w.heap.size, 7, none⟩)),
  Det (.string o),
  Det (.string A34),
  Det (.string d),
  Det (.string A36),
  Det (.string A36)]) (by kernel_rfl) (by kernel_rfl) (up_dr bR) (Stable.ys ⟨Det.st _, Det.st _, Det.st _, Det.st _, Det.st _, Det.st _, Det.st _, Det.st _, Det.st _, Det.st _, Det.st _, Det.st _, Det.st _, Det.st _, Det.st _, Det.st _, Det.st _, Det.st _, Fresh.st _ _, Det.st _, Det.st _, Det.st _, Det.st _, Det.st _, Det.st _, Det.st _, Det.st _, Det.st _, Det.st _, Det.st _, Det.st _, Det.st _, Det.st _, Det.st _, Det.st _, Det.st _, Det.st _, Det.st _, trivial⟩) ?_ ?_
 ·
  refine oC ?_ ?_
  ·intro aa ww hC hdep hvar KK hK
   have d3 : aa.tmps.getD 3 undef = .pointer (some ⟨w.heap.size, 0, none⟩) := hvar 3 (slotOk_spec (by kernel_rfl))
   have d3_ := gD d3
   clear hdep hvar
   (unfold opTo; go_simp; try simp only [opUpon])
   exact hK _ _ rfl hC bR
  refine oC ?_ ?_
  ·intro aa ww hC hdep hvar KK hK
   have d15 : aa.tmps.getD 15 undef = .pointer (some ⟨w.heap.size, 0, none⟩) := dep_of hdep 0 15 (by kernel_rfl)
   have d15_ := gD d15
   clear hdep hvar
   have hb := hB.up hC
   have c0 := hb.at 0 rfl
   (unfold opTo; go_simp; try simp only [opUpon])
   exact hK _ _ rfl hC bR
  refine oC ?_ ?_
  ·intro aa ww hC hdep hvar KK hK
   have d16 : aa.tmps.getD 16 undef = .int .u16 p := dep_of hdep 1 16 (by kernel_rfl)
   have d16_ := gD d16
   clear hdep hvar
   (unfold opTo; go_simp; try simp only [opUpon])
   exact (refBytes _ _ g1).mono fun e w2 h => ⟨_, h.1, hK _ _ rfl (Up.on hC h.2) h.2⟩
  refine oC ?_ ?_
  ·intro aa ww hC hdep hvar KK hK
   have d3 : aa.tmps.getD 3 undef = .pointer (some ⟨w.heap.size, 0, none⟩) := hvar 3 (slotOk_spec (by kernel_rfl))
   have d3_ := gD d3
   clear hdep hvar
   (unfold opTo; go_simp; try simp only [opUpon])
   exact hK _ _ rfl hC bR
  refine oC ?_ ?_
  ·intro aa ww hC hdep hvar KK hK
   have d18 : aa.tmps.getD 18 undef = .pointer (some ⟨w.heap.size, 1, none⟩) := dep_of hdep 3 18 (by kernel_rfl)
   have d18_ := gD d18
   clear hdep hvar
   have hb := hB.up hC
   have c1 := hb.at 1 rfl
   (unfold opTo; go_simp; try simp only [opUpon])
   exact hK _ _ rfl hC bR
  refine oC ?_ ?_
  ·intro aa ww hC hdep hvar KK hK
   have d19 : aa.tmps.getD 19 undef = .int .u16 q := dep_of hdep 4 19 (by kernel_rfl)
   have d19_ := gD d19
   clear hdep hvar
   (unfold opTo; go_simp; try simp only [opUpon])
   exact (refBytes _ _ g2).mono fun e w2 h => ⟨_, h.1, hK _ _ rfl (Up.on hC h.2) h.2⟩
  refine oC ?_ ?_
  ·intro aa ww hC hdep hvar KK hK
   have d17 : aa.tmps.getD 17 undef = .string (tx (B16 p)) := dep_of hdep 2 17 (by kernel_rfl)
   have d20 : aa.tmps.getD 20 undef = .string (tx (B16 q)) := dep_of hdep 5 20 (by kernel_rfl)
   have d17_ := gD d17
   have d20_ := gD d20
   clear hdep hvar
   (unfold opTo; go_simp; try simp only [opUpon])
   rw [← HA6.out]
   exact hK _ _ rfl hC bR
  refine oC ?_ ?_
  ·intro aa ww hC hdep hvar KK hK
   have d3 : aa.tmps.getD 3 undef = .pointer (some ⟨w.heap.size, 0, none⟩) := hvar 3 (slotOk_spec (by kernel_rfl))
   have d3_ := gD d3
   clear hdep hvar
   (unfold opTo; go_simp; try simp only [opUpon])
   exact hK _ _ rfl hC bR
  refine oC ?_ ?_
  ·intro aa ww hC hdep hvar KK hK
   have d22 : aa.tmps.getD 22 undef = .pointer (some ⟨w.heap.size, 2, none⟩) := dep_of hdep 7 22 (by kernel_rfl)
   have d22_ := gD d22
   clear hdep hvar
   have hb := hB.up hC
   have c2 := hb.at 2 rfl
   (unfold opTo; go_simp; try simp only [opUpon])
   exact hK _ _ rfl hC bR
  refine oC ?_ ?_
  ·intro aa ww hC hdep hvar KK hK
   have d23 : aa.tmps.getD 23 undef = .int .u32 sq := dep_of hdep 8 23 (by kernel_rfl)
   have d23_ := gD d23
   clear hdep hvar
   (unfold opTo; go_simp; try simp only [opUpon])
   exact (refFour _ _ hsq).mono fun e w2 h => ⟨_, h.1, hK _ _ rfl (Up.on hC h.2) h.2⟩
  refine oC ?_ ?_
  ·intro aa ww hC hdep hvar KK hK
   have d21 : aa.tmps.getD 21 undef = .string A6 := dep_of hdep 6 21 (by kernel_rfl)
   have d24 : aa.tmps.getD 24 undef = .string (tx (B32 sq)) := dep_of hdep 9 24 (by kernel_rfl)
   have d21_ := gD d21
   have d24_ := gD d24
   clear hdep hvar
   (unfold opTo; go_simp; try simp only [opUpon])
   rw [← HA10.out]
   exact hK _ _ rfl hC bR
  refine oC ?_ ?_
  ·intro aa ww hC hdep hvar KK hK
   have d3 : aa.tmps.getD 3 undef = .pointer (some ⟨w.heap.size, 0, none⟩) := hvar 3 (slotOk_spec (by kernel_rfl))
   have d3_ := gD d3
   clear hdep hvar
   (unfold opTo; go_simp; try simp only [opUpon])
   exact hK _ _ rfl hC bR
  refine oC ?_ ?_
  ·intro aa ww hC hdep hvar KK hK
   have d26 : aa.tmps.getD 26 undef = .pointer (some ⟨w.heap.size, 3, none⟩) := dep_of hdep 11 26 (by kernel_rfl)
   have d26_ := gD d26
   clear hdep hvar
   have hb := hB.up hC
   have c3 := hb.at 3 rfl
   (unfold opTo; go_simp; try simp only [opUpon])
   exact hK _ _ rfl hC bR
  refine oC ?_ ?_
  ·intro aa ww hC hdep hvar KK hK
   have d27 : aa.tmps.getD 27 undef = .int .u32 ak := dep_of hdep 12 27 (by kernel_rfl)
   have d27_ := gD d27
   clear hdep hvar
   (unfold opTo; go_simp; try simp only [opUpon])
   exact (refFour _ _ hak).mono fun e w2 h => ⟨_, h.1, hK _ _ rfl (Up.on hC h.2) h.2⟩
  refine oC ?_ ?_
  ·intro aa ww hC hdep hvar KK hK
   have d25 : aa.tmps.getD 25 undef = .string A10 := dep_of hdep 10 25 (by kernel_rfl)
   have d28 : aa.tmps.getD 28 undef = .string (tx (B32 ak)) := dep_of hdep 13 28 (by kernel_rfl)
   have d25_ := gD d25
   have d28_ := gD d28
   clear hdep hvar
   (unfold opTo; go_simp; try simp only [opUpon])
   rw [← HA14.out]
   exact hK _ _ rfl hC bR
  refine oC ?_ ?_
  ·intro aa ww hC hdep hvar KK hK
   have d7 : aa.tmps.getD 7 undef = .int .u8 v := hvar 7 (slotOk_spec (by kernel_rfl))
   have d7_ := gD d7
   clear hdep hvar
   (unfold opTo; go_simp; try simp only [opUpon])
   exact hK _ _ rfl hC bR
  refine oC ?_ ?_
  ·intro aa ww hC hdep hvar KK hK
   have d3 : aa.tmps.getD 3 undef = .pointer (some ⟨w.heap.size, 0, none⟩) := hvar 3 (slotOk_spec (by kernel_rfl))
   have d3_ := gD d3
   clear hdep hvar
   (unfold opTo; go_simp; try simp only [opUpon])
   exact hK _ _ rfl hC bR
  refine oC ?_ ?_
  ·intro aa ww hC hdep hvar KK hK
   have d31 : aa.tmps.getD 31 undef = .pointer (some ⟨w.heap.size, 4, none⟩) := dep_of hdep 16 31 (by kernel_rfl)
   have d31_ := gD d31
   clear hdep hvar
   have hb := hB.up hC
   have c4 := hb.at 4 rfl
   (unfold opTo; go_simp; try simp only [opUpon])
   exact hK _ _ rfl hC bR
  refine oC ?_ ?_
  ·intro aa ww hC hdep hvar KK hK
   have d30 : aa.tmps.getD 30 undef = .int .u8 v := dep_of hdep 15 30 (by kernel_rfl)
   have d32 : aa.tmps.getD 32 undef = .int .u8 fl := dep_of hdep 17 32 (by kernel_rfl)
   have d30_ := gD d30
   have d32_ := gD d32
   clear hdep hvar
   (unfold opTo; go_simp; try simp only [opUpon])
   exact hK _ _ ⟨_, rfl, Box.new _ _ _⟩ (up_al _ hC) (up_al _ bR)
  refine oC ?_ ?_
  ·intro aa ww hC hdep hvar KK hK
   obtain ⟨g, d33, hg⟩ : Fresh 2 [.int .u8 v, .int .u8 fl] (aa.tmps.getD 33 undef) ww := dep_of hdep 18 33 (by kernel_rfl)
   have d33_ := gD d33
   clear hdep hvar
   have hq := conv_box (n := 2) (xs := [oct v, oct fl]) rfl (by rw [c2]; exact hg)
   (unfold opTo; go_simp; try simp only [opUpon])
   exact hK _ _ rfl hC bR
  refine oC ?_ ?_
  ·intro aa ww hC hdep hvar KK hK
   have d29 : aa.tmps.getD 29 undef = .string A14 := dep_of hdep 14 29 (by kernel_rfl)
   have d34 : aa.tmps.getD 34 undef = .string (tx [oct v, oct fl]) := dep_of hdep 19 34 (by kernel_rfl)
   have d29_ := gD d29
   have d34_ := gD d34
   clear hdep hvar
   (unfold opTo; go_simp; try simp only [opUpon])
   rw [← HA20.out]
   exact hK _ _ rfl hC bR
  refine oC ?_ ?_
  ·intro aa ww hC hdep hvar KK hK
   have d3 : aa.tmps.getD 3 undef = .pointer (some ⟨w.heap.size, 0, none⟩) := hvar 3 (slotOk_spec (by kernel_rfl))
   have d3_ := gD d3
   clear hdep hvar
   (unfold opTo; go_simp; try simp only [opUpon])
   exact hK _ _ rfl hC bR
  refine oC ?_ ?_
  ·intro aa ww hC hdep hvar KK hK
   have d36 : aa.tmps.getD 36 undef = .pointer (some ⟨w.heap.size, 5, none⟩) := dep_of hdep 21 36 (by kernel_rfl)
   have d36_ := gD d36
   clear hdep hvar
   have hb := hB.up hC
   have c5 := hb.at 5 rfl
   (unfold opTo; go_simp; try simp only [opUpon])
   exact hK _ _ rfl hC bR
  refine oC ?_ ?_
  ·intro aa ww hC hdep hvar KK hK
   have d37 : aa.tmps.getD 37 undef = .int .u16 wi := dep_of hdep 22 37 (by kernel_rfl)
   have d37_ := gD d37
   clear hdep hvar
   (unfold opTo; go_simp; try simp only [opUpon])
   exact (refBytes _ _ g3).mono fun e w2 h => ⟨_, h.1, hK _ _ rfl (Up.on hC h.2) h.2⟩
  refine oC ?_ ?_
  ·intro aa ww hC hdep hvar KK hK
   have d35 : aa.tmps.getD 35 undef = .string A20 := dep_of hdep 20 35 (by kernel_rfl)
   have d38 : aa.tmps.getD 38 undef = .string (tx (B16 wi)) := dep_of hdep 23 38 (by kernel_rfl)
   have d35_ := gD d35
   have d38_ := gD d38
   clear hdep hvar
   (unfold opTo; go_simp; try simp only [opUpon])
   rw [← HA24.out]
   exact hK _ _ rfl hC bR
  refine oC ?_ ?_
  ·intro aa ww hC hdep hvar KK hK
   have d2 : aa.tmps.getD 2 undef = .int .u16 c := hvar 2 (slotOk_spec (by kernel_rfl))
   have d2_ := gD d2
   clear hdep hvar
   (unfold opTo; go_simp; try simp only [opUpon])
   exact hK _ _ rfl hC bR
  refine oC ?_ ?_
  ·intro aa ww hC hdep hvar KK hK
   have d40 : aa.tmps.getD 40 undef = .int .u16 c := dep_of hdep 25 40 (by kernel_rfl)
   have d40_ := gD d40
   clear hdep hvar
   (unfold opTo; go_simp; try simp only [opUpon])
   exact (refBytes _ _ hc).mono fun e w2 h => ⟨_, h.1, hK _ _ rfl (Up.on hC h.2) h.2⟩
  refine oC ?_ ?_
  ·intro aa ww hC hdep hvar KK hK
   have d39 : aa.tmps.getD 39 undef = .string A24 := dep_of hdep 24 39 (by kernel_rfl)
   have d41 : aa.tmps.getD 41 undef = .string (tx (B16 c.toNat)) := dep_of hdep 26 41 (by kernel_rfl)
   have d39_ := gD d39
   have d41_ := gD d41
   clear hdep hvar
   (unfold opTo; go_simp; try simp only [opUpon])
   rw [← HA27.out]
   exact hK _ _ rfl hC bR
  refine oC ?_ ?_
  ·intro aa ww hC hdep hvar KK hK
   have d3 : aa.tmps.getD 3 undef = .pointer (some ⟨w.heap.size, 0, none⟩) := hvar 3 (slotOk_spec (by kernel_rfl))
   have d3_ := gD d3
   clear hdep hvar
   (unfold opTo; go_simp; try simp only [opUpon])
   exact hK _ _ rfl hC bR
  refine oC ?_ ?_
  ·intro aa ww hC hdep hvar KK hK
   have d43 : aa.tmps.getD 43 undef = .pointer (some ⟨w.heap.size, 6, none⟩) := dep_of hdep 28 43 (by kernel_rfl)
   have d43_ := gD d43
   clear hdep hvar
   have hb := hB.up hC
   have c6 := hb.at 6 rfl
   (unfold opTo; go_simp; try simp only [opUpon])
   exact hK _ _ rfl hC bR
  refine oC ?_ ?_
  ·intro aa ww hC hdep hvar KK hK
   have d44 : aa.tmps.getD 44 undef = .int .u16 ur := dep_of hdep 29 44 (by kernel_rfl)
   have d44_ := gD d44
   clear hdep hvar
   (unfold opTo; go_simp; try simp only [opUpon])
   exact (refBytes _ _ g4).mono fun e w2 h => ⟨_, h.1, hK _ _ rfl (Up.on hC h.2) h.2⟩
  refine oC ?_ ?_
  ·intro aa ww hC hdep hvar KK hK
   have d42 : aa.tmps.getD 42 undef = .string A27 := dep_of hdep 27 42 (by kernel_rfl)
   have d45 : aa.tmps.getD 45 undef = .string (tx (B16 ur)) := dep_of hdep 30 45 (by kernel_rfl)
   have d42_ := gD d42
   have d45_ := gD d45
   clear hdep hvar
   (unfold opTo; go_simp; try simp only [opUpon])
   rw [← HA31.out]
   exact hK _ _ rfl hC bR
  refine oC ?_ ?_
  ·intro aa ww hC hdep hvar KK hK
   have d3 : aa.tmps.getD 3 undef = .pointer (some ⟨w.heap.size, 0, none⟩) := hvar 3 (slotOk_spec (by kernel_rfl))
   have d3_ := gD d3
   clear hdep hvar
   (unfold opTo; go_simp; try simp only [opUpon])
   exact hK _ _ rfl hC bR
  refine oC ?_ ?_
  ·intro aa ww hC hdep hvar KK hK
   have d47 : aa.tmps.getD 47 undef = .pointer (some ⟨w.heap.size, 7, none⟩) := dep_of hdep 32 47 (by kernel_rfl)
   have d47_ := gD d47
   clear hdep hvar
   have hb := hB.up hC
   have c7 := hb.at 7 rfl
   (unfold opTo; go_simp; try simp only [opUpon])
   exact hK _ _ rfl hC bR
  refine oC ?_ ?_
  ·intro aa ww hC hdep hvar KK hK
   have d46 : aa.tmps.getD 46 undef = .string A31 := dep_of hdep 31 46 (by kernel_rfl)
   have d48 : aa.tmps.getD 48 undef = .string o := dep_of hdep 33 48 (by kernel_rfl)
   have d46_ := gD d46
   have d48_ := gD d48
   clear hdep hvar
   have hno : ¬ 9223372036854775807 < 20 + o.size := by omega
   (unfold opTo; go_simp; try simp only [opUpon])
   rw [← HA34.out]
   exact hK _ _ rfl hC bR
  refine oC ?_ ?_
  ·intro aa ww hC hdep hvar KK hK
   have d1 : aa.tmps.getD 1 undef = .string d := hvar 1 (slotOk_spec (by kernel_rfl))
   have d1_ := gD d1
   clear hdep hvar
   (unfold opTo; go_simp; try simp only [opUpon])
   exact hK _ _ rfl hC bR
  refine oC ?_ ?_
  ·intro aa ww hC hdep hvar KK hK
   have d49 : aa.tmps.getD 49 undef = .string A34 := dep_of hdep 34 49 (by kernel_rfl)
   have d50 : aa.tmps.getD 50 undef = .string d := dep_of hdep 35 50 (by kernel_rfl)
   have d49_ := gD d49
   have d50_ := gD d50
   clear hdep hvar
   have hno : ¬ 9223372036854775807 < 20 + o.size + d.size := by omega
   (unfold opTo; go_simp; try simp only [opUpon])
   rw [← HA36.out]
   exact hK _ _ rfl hC bR
  refine oC ?_ ?_
  ·intro aa ww hC hdep hvar KK hK
   have d51 : aa.tmps.getD 51 undef = .string A36 := dep_of hdep 36 51 (by kernel_rfl)
   have d51_ := gD d51
   clear hdep hvar
   (unfold opTo; go_simp; try simp only [opUpon])
   exact hK _ _ rfl hC bR
  exact obligs_nil
 intro vals ww hC hY
 have e0 : vals 0 = .pointer (some ⟨w.heap.size, 0, none⟩) := hY 0 _ _ rfl rfl
 have e1 : vals 1 = .int .u16 p := hY 1 _ _ rfl rfl
 have e2 : vals 2 = .string (tx (B16 p)) := hY 2 _ _ rfl rfl
 have e3 : vals 3 = .pointer (some ⟨w.heap.size, 1, none⟩) := hY 3 _ _ rfl rfl
 have e4 : vals 4 = .int .u16 q := hY 4 _ _ rfl rfl
 have e5 : vals 5 = .string (tx (B16 q)) := hY 5 _ _ rfl rfl
 have e6 : vals 6 = .string A6 := hY 6 _ _ rfl rfl
 have e7 : vals 7 = .pointer (some ⟨w.heap.size, 2, none⟩) := hY 7 _ _ rfl rfl
 have e8 : vals 8 = .int .u32 sq := hY 8 _ _ rfl rfl
 have e9 : vals 9 = .string (tx (B32 sq)) := hY 9 _ _ rfl rfl
 have e10 : vals 10 = .string A10 := hY 10 _ _ rfl rfl
 have e11 : vals 11 = .pointer (some ⟨w.heap.size, 3, none⟩) := hY 11 _ _ rfl rfl
 have e12 : vals 12 = .int .u32 ak := hY 12 _ _ rfl rfl
 have e13 : vals 13 = .string (tx (B32 ak)) := hY 13 _ _ rfl rfl
 have e14 : vals 14 = .string A14 := hY 14 _ _ rfl rfl
 have e15 : vals 15 = .int .u8 v := hY 15 _ _ rfl rfl
 have e16 : vals 16 = .pointer (some ⟨w.heap.size, 4, none⟩) := hY 16 _ _ rfl rfl
 have e17 : vals 17 = .int .u8 fl := hY 17 _ _ rfl rfl
 have e19 : vals 19 = .string (tx [oct v, oct fl]) := hY 19 _ _ rfl rfl
 have e20 : vals 20 = .string A20 := hY 20 _ _ rfl rfl
 have e21 : vals 21 = .pointer (some ⟨w.heap.size, 5, none⟩) := hY 21 _ _ rfl rfl
 have e22 : vals 22 = .int .u16 wi := hY 22 _ _ rfl rfl
 have e23 : vals 23 = .string (tx (B16 wi)) := hY 23 _ _ rfl rfl
 have e24 : vals 24 = .string A24 := hY 24 _ _ rfl rfl
 have e25 : vals 25 = .int .u16 c := hY 25 _ _ rfl rfl
 have e26 : vals 26 = .string (tx (B16 c.toNat)) := hY 26 _ _ rfl rfl
 have e27 : vals 27 = .string A27 := hY 27 _ _ rfl rfl
 have e28 : vals 28 = .pointer (some ⟨w.heap.size, 6, none⟩) := hY 28 _ _ rfl rfl
 have e29 : vals 29 = .int .u16 ur := hY 29 _ _ rfl rfl
 have e30 : vals 30 = .string (tx (B16 ur)) := hY 30 _ _ rfl rfl
 have e31 : vals 31 = .string A31 := hY 31 _ _ rfl rfl
 have e32 : vals 32 = .pointer (some ⟨w.heap.size, 7, none⟩) := hY 32 _ _ rfl rfl
 have e33 : vals 33 = .string o := hY 33 _ _ rfl rfl
 have e34 : vals 34 = .string A34 := hY 34 _ _ rfl rfl
 have e35 : vals 35 = .string d := hY 35 _ _ rfl rfl
 have e36 : vals 36 = .string A36 := hY 36 _ _ rfl rfl
 have e37 : vals 37 = .string A36 := hY 37 _ _ rfl rfl
 clear hY
 simp only [putAll, Act.put, List.setIfInBounds_toArray, List.set_cons_zero, List.set_cons_succ, e0, e1, e2, e3, e4, e5, e6, e7, e8, e9, e10, e11, e12, e13, e14, e15, e16, e17, e19, e20, e21, e22, e23, e24, e25, e26, e27, e28, e29, e30, e31, e32, e33, e34, e35, e36, e37]
 clear e0 e1 e2 e3 e4 e5 e6 e7 e8 e9 e10 e11 e12 e13 e14 e15 e16 e17 e19 e20 e21 e22 e23 e24 e25 e26 e27 e28 e29 e30 e31 e32 e33 e34 e35 e36 e37
 go_wp2
 go_ret
 exact ⟨by rw [HA36.out, HA34.out, HA31.out, HA27.out, HA24.out, HA20.out, HA14.out, HA10.out, HA6.out, HE.out]; rfl, hu.on hC⟩

end Go.Proofs.YtafckmbgefbonaaGreat.tc

namespace Go.Proofs.YtafckmbgefbonaaGreat.tc
open RowKit Shelf sm nb cm

section
variable {x y p q sq ak fl wi ur : Nat} {o d : ByteArray}
end
theorem refEncode0 (x y p q sq ak fl wi ur : Nat) (o d : ByteArray) (w : World) (hx : x ≤ 4294967295) (hy : y ≤ 4294967295) (h : Ok p q sq ak fl wi ur) (ho : o.size ≤ 1099511627776) (hd : d.size ≤ 1099511627776) (c : o.size % 4 ≠ 0) :
  Calls Tryz.prog 28 #[.int .u32 x, .int .u32 y, HV p q sq ak fl wi ur o, .string d] w fun e w' => e = .returned (EV x y p q sq ak fl wi ur o d) ∧ Up w w' := by
 have HE := Lib.hid (EV_arg (.inl c) : EV x y p q sq ak fl wi ur o d = _)
 have i1 : ¬ (o.size : Int) % 4 = 0 := by omega
 go_enter Tryz.func28, Tryz.ntmps28
 go_upto_region 1 with fail
 have hB := Box.new w #[.int .u16 p, .int .u16 q, .int .u32 sq, .int .u32 ak, .int .u8 fl, .int .u16 wi, .int .u16 ur, .string o] 55
 have hu : Up w (w.alloc (.cells #[.int .u16 p, .int .u16 q, .int .u32 sq, .int .u32 ak, .int .u8 fl, .int .u16 wi, .int .u16 ur, .string o] 55)) := up_al _ bR
 generalize World.alloc w _ = w0 at hB hu ⊢
 obtain ⟨k0, k1, k2, k3, k4, k5, k6, k7⟩ := Box.e8 hB
 go_wp2_with fail
 go_ret2
 exact ⟨congrArg Ending.returned HE.out.symm, hu⟩
theorem refEncode1 (x y p q sq ak fl wi ur : Nat) (o d : ByteArray) (w : World) (hx : x ≤ 4294967295) (hy : y ≤ 4294967295) (h : Ok p q sq ak fl wi ur) (ho : o.size ≤ 1099511627776) (hd : d.size ≤ 1099511627776) (c0 : o.size % 4 = 0) (c : 40 < o.size) :
  Calls Tryz.prog 28 #[.int .u32 x, .int .u32 y, HV p q sq ak fl wi ur o, .string d] w fun e w' => e = .returned (EV x y p q sq ak fl wi ur o d) ∧ Up w w' := by
 have HE := Lib.hid (EV_arg (.inr (.inl c)) : EV x y p q sq ak fl wi ur o d = _)
 have i1 : (o.size : Int) % 4 = 0 := by omega
 have i2 : (40 : Int) < (o.size : Int) := by omega
 go_enter Tryz.func28, Tryz.ntmps28
 go_upto_region 1 with fail
 have hB := Box.new w #[.int .u16 p, .int .u16 q, .int .u32 sq, .int .u32 ak, .int .u8 fl, .int .u16 wi, .int .u16 ur, .string o] 55
 have hu : Up w (w.alloc (.cells #[.int .u16 p, .int .u16 q, .int .u32 sq, .int .u32 ak, .int .u8 fl, .int .u16 wi, .int .u16 ur, .string o] 55)) := up_al _ bR
 generalize World.alloc w _ = w0 at hB hu ⊢
 obtain ⟨k0, k1, k2, k3, k4, k5, k6, k7⟩ := Box.e8 hB
 go_wp2_with fail
 go_ret2
 exact ⟨congrArg Ending.returned HE.out.symm, hu⟩
theorem refEncode2 (x y p q sq ak fl wi ur : Nat) (o d : ByteArray) (w : World) (hx : x ≤ 4294967295) (hy : y ≤ 4294967295) (h : Ok p q sq ak fl wi ur) (ho : o.size ≤ 1099511627776) (hd : d.size ≤ 1099511627776) (c0 : o.size % 4 = 0) (c1 : o.size ≤ 40) (c : 64 ≤ fl) :
  Calls Tryz.prog 28 #[.int .u32 x, .int .u32 y, HV p q sq ak fl wi ur o, .string d] w fun e w' => e = .returned (EV x y p q sq ak fl wi ur o d) ∧ Up w w' := by
 have HE := Lib.hid (EV_arg (.inr (.inr c)) : EV x y p q sq ak fl wi ur o d = _)
 have i1 : (o.size : Int) % 4 = 0 := by omega
 have i2 : ¬ (40 : Int) < (o.size : Int) := by omega
 have i3 : (64 : Int) ≤ (fl : Int) := by omega
 go_enter Tryz.func28, Tryz.ntmps28
 go_upto_region 1 with fail
 have hB := Box.new w #[.int .u16 p, .int .u16 q, .int .u32 sq, .int .u32 ak, .int .u8 fl, .int .u16 wi, .int .u16 ur, .string o] 55
 have hu : Up w (w.alloc (.cells #[.int .u16 p, .int .u16 q, .int .u32 sq, .int .u32 ak, .int .u8 fl, .int .u16 wi, .int .u16 ur, .string o] 55)) := up_al _ bR
 generalize World.alloc w _ = w0 at hB hu ⊢
 obtain ⟨k0, k1, k2, k3, k4, k5, k6, k7⟩ := Box.e8 hB
 go_wp2_with fail
 go_ret2
 exact ⟨congrArg Ending.returned HE.out.symm, hu⟩
theorem refEncode3 (x y p q sq ak fl wi ur : Nat) (o d : ByteArray) (w : World) (hx : x ≤ 4294967295) (hy : y ≤ 4294967295) (h : Ok p q sq ak fl wi ur) (ho : o.size ≤ 1099511627776) (hd : d.size ≤ 1099511627776) (c0 : o.size % 4 = 0) (c1 : o.size ≤ 40) (c2 : fl < 64) (c : 65515 < 20 + o.size + d.size) :
  Calls Tryz.prog 28 #[.int .u32 x, .int .u32 y, HV p q sq ak fl wi ur o, .string d] w fun e w' => e = .returned (EV x y p q sq ak fl wi ur o d) ∧ Up w w' := by
 have HE := Lib.hid (EV_long (by omega) c : EV x y p q sq ak fl wi ur o d = _)
 have i1 : (o.size : Int) % 4 = 0 := by omega
 have i2 : ¬ (40 : Int) < (o.size : Int) := by omega
 have i3 : ¬ (64 : Int) ≤ (fl : Int) := by omega
 have i4 : (65515 : Int) < 20 + (o.size : Int) + (d.size : Int) := by omega
 go_enter Tryz.func28, Tryz.ntmps28
 go_upto_region 1 with fail
 have hB := Box.new w #[.int .u16 p, .int .u16 q, .int .u32 sq, .int .u32 ak, .int .u8 fl, .int .u16 wi, .int .u16 ur, .string o] 55
 have hu : Up w (w.alloc (.cells #[.int .u16 p, .int .u16 q, .int .u32 sq, .int .u32 ak, .int .u8 fl, .int .u16 wi, .int .u16 ur, .string o] 55)) := up_al _ bR
 generalize World.alloc w _ = w0 at hB hu ⊢
 obtain ⟨k0, k1, k2, k3, k4, k5, k6, k7⟩ := Box.e8 hB
 go_wp2_with fail
 go_ret2
 exact ⟨congrArg Ending.returned HE.out.symm, hu⟩
theorem refEncode4 (x y p q sq ak fl wi ur : Nat) (o d : ByteArray) (w : World) (hx : x ≤ 4294967295) (hy : y ≤ 4294967295) (h : Ok p q sq ak fl wi ur) (ho : o.size ≤ 1099511627776) (hd : d.size ≤ 1099511627776) (c0 : o.size % 4 = 0) (c1 : o.size ≤ 40) (c2 : fl < 64) (c : ¬ 65515 < 20 + o.size + d.size) :
  Calls Tryz.prog 28 #[.int .u32 x, .int .u32 y, HV p q sq ak fl wi ur o, .string d] w fun e w' => e = .returned (EV x y p q sq ak fl wi ur o d) ∧ Up w w' := by
 have HE := Lib.hid (EV_ok (by omega) c : EV x y p q sq ak fl wi ur o d = _)
 have i1 : (o.size : Int) % 4 = 0 := by omega
 have i2 : ¬ (40 : Int) < (o.size : Int) := by omega
 have i3 : ¬ (64 : Int) ≤ (fl : Int) := by omega
 have i4 : ¬ (65515 : Int) < 20 + (o.size : Int) + (d.size : Int) := by omega
 have hcs := cs_le x y p q sq ak fl wi ur (L o) (L d)
 have HS := Lib.hid (cs_int x y p q sq ak fl wi ur (L o) (L d))
 go_enter Tryz.func28, Tryz.ntmps28
 go_upto_region 1 with fail
 have hB := Box.new w #[.int .u16 p, .int .u16 q, .int .u32 sq, .int .u32 ak, .int .u8 fl, .int .u16 wi, .int .u16 ur, .string o] 55
 have hu : Up w (w.alloc (.cells #[.int .u16 p, .int .u16 q, .int .u32 sq, .int .u32 ak, .int .u8 fl, .int .u16 wi, .int .u16 ur, .string o] 55)) := up_al _ bR
 generalize World.alloc w _ = w0 at hB hu ⊢
 obtain ⟨k0, k1, k2, k3, k4, k5, k6, k7⟩ := Box.e8 hB
 go_upto_region 5 with fail
 refine wp_region_rel2 (fun W => Up w0 W) (fun W W' => Up W W') (Ys [Det (.agg #[.int .u16 p, .int .u16 q, .int .u32 sq, .int .u32 ak, .int .u8 fl, .int .u16 wi, .int .u16 ur, .string o]),
   Det (.string d),
   Det (.int .u32 x),
   Det (.int .u32 y),
   Det (.agg #[.int .u16 p, .int .u16 q, .int .u32 sq, .int .u32 ak, .int .u8 fl, .int .u16 wi, .int .u16 ur, .string o]),
   Det (.string d),
   Det (.string (tx (rw_ p q sq ak fl wi ur (L o) (L d) 0))),
   Det (.int .u16 (cs x y p q sq ak fl wi ur (L o) (L d) : Nat)),
   Det (.string (tx (rw_ p q sq ak fl wi ur (L o) (L d) (cs x y p q sq ak fl wi ur (L o) (L d))))),
   Det (.string (tx (rw_ p q sq ak fl wi ur (L o) (L d) (cs x y p q sq ak fl wi ur (L o) (L d))))),
   Det (.int .i64 0)]) (by kernel_rfl) (by kernel_rfl) (up_dr bR) (Stable.ys ⟨Det.st _, Det.st _, Det.st _, Det.st _, Det.st _, Det.st _, Det.st _, Det.st _, Det.st _, Det.st _, Det.st _, trivial⟩) ?_ ?_
 ·
  refine oC ?_ ?_
  ·intro aa ww hC hp hv KK hK
   have d6 : aa.tmps.getD 6 undef = .pointer (some ⟨w.heap.size, 0, none⟩) := hv 6 (slotOk_spec (by kernel_rfl))
   have d6_ := gD d6
   clear hp hv
   have hb := hB.up hC
   have c0 := hb.at 0 rfl; have c1 := hb.at 1 rfl; have c2 := hb.at 2 rfl; have c3 := hb.at 3 rfl; have c4 := hb.at 4 rfl; have c5 := hb.at 5 rfl; have c6 := hb.at 6 rfl; have c7 := hb.at 7 rfl
   (unfold opTo; go_simp; try simp only [opUpon])
   exact hK _ _ rfl hC bR
  refine oC ?_ ?_
  ·intro aa ww hC hp hv KK hK
   have d3 : aa.tmps.getD 3 undef = .string d := hv 3 (slotOk_spec (by kernel_rfl))
   have d3_ := gD d3
   clear hp hv
   (unfold opTo; go_simp; try simp only [opUpon])
   exact hK _ _ rfl hC bR
  refine oC ?_ ?_
  ·intro aa ww hC hp hv KK hK
   have d0 : aa.tmps.getD 0 undef = .int .u32 x := hv 0 (slotOk_spec (by kernel_rfl))
   have d0_ := gD d0
   clear hp hv
   (unfold opTo; go_simp; try simp only [opUpon])
   exact hK _ _ rfl hC bR
  refine oC ?_ ?_
  ·intro aa ww hC hp hv KK hK
   have d1 : aa.tmps.getD 1 undef = .int .u32 y := hv 1 (slotOk_spec (by kernel_rfl))
   have d1_ := gD d1
   clear hp hv
   (unfold opTo; go_simp; try simp only [opUpon])
   exact hK _ _ rfl hC bR
  refine oC ?_ ?_
  ·intro aa ww hC hp hv KK hK
   have d6 : aa.tmps.getD 6 undef = .pointer (some ⟨w.heap.size, 0, none⟩) := hv 6 (slotOk_spec (by kernel_rfl))
   have d6_ := gD d6
   clear hp hv
   have hb := hB.up hC
   have c0 := hb.at 0 rfl; have c1 := hb.at 1 rfl; have c2 := hb.at 2 rfl; have c3 := hb.at 3 rfl; have c4 := hb.at 4 rfl; have c5 := hb.at 5 rfl; have c6 := hb.at 6 rfl; have c7 := hb.at 7 rfl
   (unfold opTo; go_simp; try simp only [opUpon])
   exact hK _ _ rfl hC bR
  refine oC ?_ ?_
  ·intro aa ww hC hp hv KK hK
   have d3 : aa.tmps.getD 3 undef = .string d := hv 3 (slotOk_spec (by kernel_rfl))
   have d3_ := gD d3
   clear hp hv
   (unfold opTo; go_simp; try simp only [opUpon])
   exact hK _ _ rfl hC bR
  refine oC ?_ ?_
  ·intro aa ww hC hp hv KK hK
   have d38 : aa.tmps.getD 38 undef = .agg #[.int .u16 p, .int .u16 q, .int .u32 sq, .int .u32 ak, .int .u8 fl, .int .u16 wi, .int .u16 ur, .string o] := dep_of hp 4 38 (by kernel_rfl)
   have d39 : aa.tmps.getD 39 undef = .string d := dep_of hp 5 39 (by kernel_rfl)
   have d38_ := gD d38
   have d39_ := gD d39
   clear hp hv
   (unfold opTo; go_simp; try simp only [opUpon])
   exact (refRaw p q sq ak fl wi ur o d 0 _ h c1 (by omega) (by decide)).mono fun e w2 h => ⟨_, h.1, hK _ _ rfl (Up.on hC h.2) h.2⟩
  refine oC ?_ ?_
  ·intro aa ww hC hp hv KK hK
   have d36 : aa.tmps.getD 36 undef = .int .u32 x := dep_of hp 2 36 (by kernel_rfl)
   have d37 : aa.tmps.getD 37 undef = .int .u32 y := dep_of hp 3 37 (by kernel_rfl)
   have d40 : aa.tmps.getD 40 undef = .string (tx (rw_ p q sq ak fl wi ur (L o) (L d) 0)) := dep_of hp 6 40 (by kernel_rfl)
   have d36_ := gD d36
   have d37_ := gD d37
   have d40_ := gD d40
   clear hp hv
   (unfold opTo; go_simp; try simp only [opUpon])
   exact (refSum x y _ _ hx hy (by rw [tx_size, rw_len, L_len, L_len]; omega)).mono fun e w2 h => ⟨_, h.1, hK _ _ (show Value.int .u16 _ = Value.int .u16 _ by rw [HS.out, L_tx]) (Up.on hC h.2) h.2⟩
  refine oC ?_ ?_
  ·intro aa ww hC hp hv KK hK
   have d34 : aa.tmps.getD 34 undef = .agg #[.int .u16 p, .int .u16 q, .int .u32 sq, .int .u32 ak, .int .u8 fl, .int .u16 wi, .int .u16 ur, .string o] := dep_of hp 0 34 (by kernel_rfl)
   have d35 : aa.tmps.getD 35 undef = .string d := dep_of hp 1 35 (by kernel_rfl)
   have d41 : aa.tmps.getD 41 undef = .int .u16 (cs x y p q sq ak fl wi ur (L o) (L d) : Nat) := dep_of hp 7 41 (by kernel_rfl)
   have d34_ := gD d34
   have d35_ := gD d35
   have d41_ := gD d41
   clear hp hv
   (unfold opTo; go_simp; try simp only [opUpon])
   exact (refRaw p q sq ak fl wi ur o d (cs x y p q sq ak fl wi ur (L o) (L d) : Nat) _ h c1 (by omega) (by omega)).mono fun e w2 h => ⟨_, h.1, hK _ _ rfl (Up.on hC h.2) h.2⟩
  refine oC ?_ ?_
  ·intro aa ww hC hp hv KK hK
   have d42 : aa.tmps.getD 42 undef = .string (tx (rw_ p q sq ak fl wi ur (L o) (L d) (cs x y p q sq ak fl wi ur (L o) (L d)))) := dep_of hp 8 42 (by kernel_rfl)
   have d42_ := gD d42
   clear hp hv
   (unfold opTo; go_simp; try simp only [opUpon])
   exact hK _ _ rfl hC bR
  refine oC ?_ ?_
  ·intro aa ww hC hp hv KK hK
   clear hp hv
   (unfold opTo; go_simp; try simp only [opUpon])
   exact hK _ _ rfl hC bR
  exact obligs_nil
 intro vals ww hC hY
 have e0 : vals 0 = .agg #[.int .u16 p, .int .u16 q, .int .u32 sq, .int .u32 ak, .int .u8 fl, .int .u16 wi, .int .u16 ur, .string o] := hY 0 _ _ rfl rfl
 have e1 : vals 1 = .string d := hY 1 _ _ rfl rfl
 have e2 : vals 2 = .int .u32 x := hY 2 _ _ rfl rfl
 have e3 : vals 3 = .int .u32 y := hY 3 _ _ rfl rfl
 have e4 : vals 4 = .agg #[.int .u16 p, .int .u16 q, .int .u32 sq, .int .u32 ak, .int .u8 fl, .int .u16 wi, .int .u16 ur, .string o] := hY 4 _ _ rfl rfl
 have e5 : vals 5 = .string d := hY 5 _ _ rfl rfl
 have e6 : vals 6 = .string (tx (rw_ p q sq ak fl wi ur (L o) (L d) 0)) := hY 6 _ _ rfl rfl
 have e7 : vals 7 = .int .u16 (cs x y p q sq ak fl wi ur (L o) (L d) : Nat) := hY 7 _ _ rfl rfl
 have e8 : vals 8 = .string (tx (rw_ p q sq ak fl wi ur (L o) (L d) (cs x y p q sq ak fl wi ur (L o) (L d)))) := hY 8 _ _ rfl rfl
 have e9 : vals 9 = .string (tx (rw_ p q sq ak fl wi ur (L o) (L d) (cs x y p q sq ak fl wi ur (L o) (L d)))) := hY 9 _ _ rfl rfl
 have e10 : vals 10 = .int .i64 0 := hY 10 _ _ rfl rfl
 clear hY
 simp only [putAll, Act.put, List.setIfInBounds_toArray, List.set_cons_zero, List.set_cons_succ, e0, e1, e2, e3, e4, e5, e6, e7, e8, e9, e10]
 clear e0 e1 e2 e3 e4 e5 e6 e7 e8 e9 e10
 go_wp2
 go_ret2
 exact ⟨by rw [HE.out]; rfl, hu.on hC⟩
theorem refEncode (x y p q sq ak fl wi ur : Nat) (o d : ByteArray) (w : World) (hx : x ≤ 4294967295) (hy : y ≤ 4294967295) (h : Ok p q sq ak fl wi ur) (ho : o.size ≤ 1099511627776) (hd : d.size ≤ 1099511627776) :
  Calls Tryz.prog 28 #[.int .u32 x, .int .u32 y, HV p q sq ak fl wi ur o, .string d] w fun e w' => e = .returned (EV x y p q sq ak fl wi ur o d) ∧ Up w w' := by
 by_cases c0 : o.size % 4 = 0
 case neg => exact refEncode0 x y p q sq ak fl wi ur o d w hx hy h ho hd c0
 by_cases c1 : o.size ≤ 40
 case neg => exact refEncode1 x y p q sq ak fl wi ur o d w hx hy h ho hd c0 (by omega)
 by_cases c2 : fl < 64
 case neg => exact refEncode2 x y p q sq ak fl wi ur o d w hx hy h ho hd c0 c1 (by omega)
 by_cases c : 65515 < 20 + o.size + d.size
 ·exact refEncode3 x y p q sq ak fl wi ur o d w hx hy h ho hd c0 c1 c2 c
 ·exact refEncode4 x y p q sq ak fl wi ur o d w hx hy h ho hd c0 c1 c2 c
end Go.Proofs.YtafckmbgefbonaaGreat.tc
