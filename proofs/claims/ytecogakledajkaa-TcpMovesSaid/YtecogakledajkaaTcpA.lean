/- The document's answer for tcp: a segment's bytes, its checksum. Condition: the arguments fit their kinds. -/
import Derived.Test.YtecogakledajkaaTcpM
import Derived.Test.YtecogakledajkaaNetRef
namespace Go.Proofs.Ytecogakledajkaa.tc
open Go.RowKit Go.Shelf Go.Proofs.Ytecogakledajkaa.sm Go.Proofs.Ytecogakledajkaa.nb Go.Proofs.Ytecogakledajkaa.cm
set_option linter.unusedVariables false

abbrev HV (p q sq ak fl wi ur : Int) (o : ByteArray) : Value := .agg #[.int .u16 p, .int .u16 q, .int .u32 sq, .int .u32 ak, .int .u8 fl, .int .u16 wi, .int .u16 ur, .string o]
theorem rw_tx (p q sq ak fl wi ur : Nat) (o d : ByteArray) (c : Nat) :
    tx (B16 p) ++ tx (B16 q) ++ tx (B32 sq) ++ tx (B32 ak) ++ tx [oct ((20 + o.size) / 4 * 16), oct fl] ++ tx (B16 wi) ++ tx (B16 c) ++ tx (B16 ur) ++ o ++ d = tx (rw_ p q sq ak fl wi ur (L o) (L d) c) := by
  refine ba_eq ?_
  simp only [L_app, L_tx]
  rw [← L_len]
  rfl
set_option maxHeartbeats 4000000 in
set_option maxRecDepth 100000 in
theorem refRaw (p q sq ak fl wi ur : Nat) (o d : ByteArray) (c : Int) (w : World) (h : Ok p q sq ak fl wi ur) (ho : o.size ≤ 40) (hd : d.size ≤ 65515) (hc : 0 ≤ c ∧ c ≤ 65535) :
    Calls Try.prog 14 #[HV p q sq ak fl wi ur o, .string d, .int .u16 c] w fun e w' => e = .returned (.string (tx (rw_ p q sq ak fl wi ur (L o) (L d) c.toNat))) ∧ Up w w' := by
  obtain ⟨hp, hq, hsq, hak, hfl, hwi, hur⟩ := h
  obtain ⟨v, hv⟩ : ∃ v : Nat, v = (20 + o.size) / 4 * 16 := ⟨_, rfl⟩
  have hv1 : v ≤ 255 := by omega
  have hvI : (20 + (o.size : Int)) / 4 * 16 = (v : Int) := by omega
  have e1 := oct_nat hv1; have e2 := oct_nat hfl
  have c2 : BC [oct v, oct fl] = [.int .u8 (v : Int), .int .u8 (fl : Int)] := by show [Value.int .u8 ((oct v).toNat : Int), Value.int .u8 ((oct fl).toNat : Int)] = _; rw [e1, e2]
  have z2 : (tx [oct v, oct fl]).size = 2 := by rw [tx_size]; rfl
  have z16 := sz16
  have z32 := sz32
  have g1 : (0 : Int) ≤ (p : Int) ∧ (p : Int) ≤ 65535 := by omega
  have g2 : (0 : Int) ≤ (q : Int) ∧ (q : Int) ≤ 65535 := by omega
  have g3 : (0 : Int) ≤ (wi : Int) ∧ (wi : Int) ≤ 65535 := by omega
  have g4 : (0 : Int) ≤ (ur : Int) ∧ (ur : Int) ≤ 65535 := by omega
  have hE := rw_tx p q sq ak fl wi ur o d c.toNat
  rw [← hv] at hE
  have HE := Lib.hid hE
  have HV1 := Lib.hid hv
  clear e1 e2 hE hv
  go_enter Try.func14, Try.ntmps14
  go_upto_region 1 with fail
  have hB := Box.new w #[.int .u16 p, .int .u16 q, .int .u32 sq, .int .u32 ak, .int .u8 fl, .int .u16 wi, .int .u16 ur, .string o] 25
  have hu : Up w (w.alloc (.cells #[.int .u16 p, .int .u16 q, .int .u32 sq, .int .u32 ak, .int .u8 fl, .int .u16 wi, .int .u16 ur, .string o] 25)) := up_al _ (Below.refl _ _)
  generalize (w.alloc (.cells #[.int .u16 p, .int .u16 q, .int .u32 sq, .int .u32 ak, .int .u8 fl, .int .u16 wi, .int .u16 ur, .string o] 25)) = w0 at hB hu ⊢
  have k7 := hB.at 7 rfl
  go_cut [7] (fun x wc => x = .int .u8 (v : Int) ∧ w0 = wc)
  case first =>
    go_wp2
    go_meet
    exact ⟨by first | rfl | (congr 1; omega) | (congr 1; rw [IntKind.wrap_u8]; omega), rfl⟩
  case rest =>
  obtain ⟨rfl, rfl⟩ := hcut
  clear k7 hvI
  go_upto_region 2 with fail
  obtain ⟨A6, hA6⟩ : ∃ A : ByteArray, A = (tx (B16 p)) ++ (tx (B16 q)) := ⟨_, rfl⟩
  have zA6 : A6.size = 4 := by rw [hA6, ByteArray.size_append, (z16 _), (z16 _)]
  have HA6 := Lib.hid hA6; clear hA6
  obtain ⟨A10, hA10⟩ : ∃ A : ByteArray, A = A6 ++ (tx (B32 sq)) := ⟨_, rfl⟩
  have zA10 : A10.size = 8 := by rw [hA10, ByteArray.size_append, zA6, (z32 _)]
  have HA10 := Lib.hid hA10; clear hA10
  obtain ⟨A14, hA14⟩ : ∃ A : ByteArray, A = A10 ++ (tx (B32 ak)) := ⟨_, rfl⟩
  have zA14 : A14.size = 12 := by rw [hA14, ByteArray.size_append, zA10, (z32 _)]
  have HA14 := Lib.hid hA14; clear hA14
  obtain ⟨A20, hA20⟩ : ∃ A : ByteArray, A = A14 ++ (tx [oct v, oct fl]) := ⟨_, rfl⟩
  have zA20 : A20.size = 14 := by rw [hA20, ByteArray.size_append, zA14, z2]
  have HA20 := Lib.hid hA20; clear hA20
  obtain ⟨A24, hA24⟩ : ∃ A : ByteArray, A = A20 ++ (tx (B16 wi)) := ⟨_, rfl⟩
  have zA24 : A24.size = 16 := by rw [hA24, ByteArray.size_append, zA20, (z16 _)]
  have HA24 := Lib.hid hA24; clear hA24
  obtain ⟨A27, hA27⟩ : ∃ A : ByteArray, A = A24 ++ (tx (B16 c.toNat)) := ⟨_, rfl⟩
  have zA27 : A27.size = 18 := by rw [hA27, ByteArray.size_append, zA24, (z16 _)]
  have HA27 := Lib.hid hA27; clear hA27
  obtain ⟨A31, hA31⟩ : ∃ A : ByteArray, A = A27 ++ (tx (B16 ur)) := ⟨_, rfl⟩
  have zA31 : A31.size = 20 := by rw [hA31, ByteArray.size_append, zA27, (z16 _)]
  have HA31 := Lib.hid hA31; clear hA31
  obtain ⟨A34, hA34⟩ : ∃ A : ByteArray, A = A31 ++ o := ⟨_, rfl⟩
  have zA34 : A34.size = 20 + o.size := by rw [hA34, ByteArray.size_append, zA31]
  have HA34 := Lib.hid hA34; clear hA34
  obtain ⟨A36, hA36⟩ : ∃ A : ByteArray, A = A34 ++ d := ⟨_, rfl⟩
  have HA36 := Lib.hid hA36; clear hA36
  refine wp_region_rel2 (fun W => Up w0 W) (fun W W' => Up W W') (Ys [Det (.pointer (some ⟨w.heap.size, 0, none⟩)),
    Det (.int .u16 p),
    Det (.string (tx (B16 p))),
    Det (.pointer (some ⟨w.heap.size, 1, none⟩)),
    Det (.int .u16 q),
    Det (.string (tx (B16 q))),
    Det (.string A6),
    Det (.pointer (some ⟨w.heap.size, 2, none⟩)),
    Det (.int .u32 sq),
    Det (.string (tx (B32 sq))),
    Det (.string A10),
    Det (.pointer (some ⟨w.heap.size, 3, none⟩)),
    Det (.int .u32 ak),
    Det (.string (tx (B32 ak))),
    Det (.string A14),
    Det (.int .u8 v),
    Det (.pointer (some ⟨w.heap.size, 4, none⟩)),
    Det (.int .u8 fl),
    Fresh 2 [.int .u8 v, .int .u8 fl],
    Det (.string (tx [oct v, oct fl])),
    Det (.string A20),
    Det (.pointer (some ⟨w.heap.size, 5, none⟩)),
    Det (.int .u16 wi),
    Det (.string (tx (B16 wi))),
    Det (.string A24),
    Det (.int .u16 c),
    Det (.string (tx (B16 c.toNat))),
    Det (.string A27),
    Det (.pointer (some ⟨w.heap.size, 6, none⟩)),
    Det (.int .u16 ur),
    Det (.string (tx (B16 ur))),
    Det (.string A31),
    Det (.pointer (some ⟨w.heap.size, 7, none⟩)),
    Det (.string o),
    Det (.string A34),
    Det (.string d),
    Det (.string A36),
    Det (.string A36)]) (by kernel_rfl) (by kernel_rfl) (up_dr (Below.refl _ _)) (Stable.ys ⟨Det.st _, Det.st _, Det.st _, Det.st _, Det.st _, Det.st _, Det.st _, Det.st _, Det.st _, Det.st _, Det.st _, Det.st _, Det.st _, Det.st _, Det.st _, Det.st _, Det.st _, Det.st _, Fresh.st _ _, Det.st _, Det.st _, Det.st _, Det.st _, Det.st _, Det.st _, Det.st _, Det.st _, Det.st _, Det.st _, Det.st _, Det.st _, Det.st _, Det.st _, Det.st _, Det.st _, Det.st _, Det.st _, Det.st _, trivial⟩) ?_ ?_
  ·
    -- 0: Op.fieldAddr 25 t3 0
    refine obligs_cons ?_ ?_
    · intro aa ww hC hdep hvar KK hK
      have d3 : aa.tmps.getD 3 undef = .pointer (some ⟨w.heap.size, 0, none⟩) := hvar 3 (slotOk_spec (by kernel_rfl))
      have d3_ := d3; rw [Array.getD_eq_getD_getElem?] at d3_
      clear hdep hvar
      (unfold opTo; go_simp; try simp only [opUpon])
      exact hK _ _ rfl hC (Below.refl _ _)
    -- 1: Op.load 23 t15
    refine obligs_cons ?_ ?_
    · intro aa ww hC hdep hvar KK hK
      have d15 : aa.tmps.getD 15 undef = .pointer (some ⟨w.heap.size, 0, none⟩) := dep_of hdep 0 15 (by kernel_rfl)
      have d15_ := d15; rw [Array.getD_eq_getD_getElem?] at d15_
      clear hdep hvar
      have hb := hB.up hC
      have c0 := hb.at 0 rfl
      (unfold opTo; go_simp; try simp only [opUpon])
      exact hK _ _ rfl hC (Below.refl _ _)
    -- 2: Op.call { value (Operand.func 27), args := #[t16], argTypes := #[23] }
    refine obligs_cons ?_ ?_
    · intro aa ww hC hdep hvar KK hK
      have d16 : aa.tmps.getD 16 undef = .int .u16 p := dep_of hdep 1 16 (by kernel_rfl)
      have d16_ := d16; rw [Array.getD_eq_getD_getElem?] at d16_
      clear hdep hvar
      (unfold opTo; go_simp; try simp only [opUpon])
      exact (refBytes _ _ g1).mono fun e w2 h => ⟨_, h.1, hK _ _ rfl (Up.on hC h.2) h.2⟩
    -- 3: Op.fieldAddr 25 t3 1
    refine obligs_cons ?_ ?_
    · intro aa ww hC hdep hvar KK hK
      have d3 : aa.tmps.getD 3 undef = .pointer (some ⟨w.heap.size, 0, none⟩) := hvar 3 (slotOk_spec (by kernel_rfl))
      have d3_ := d3; rw [Array.getD_eq_getD_getElem?] at d3_
      clear hdep hvar
      (unfold opTo; go_simp; try simp only [opUpon])
      exact hK _ _ rfl hC (Below.refl _ _)
    -- 4: Op.load 23 t18
    refine obligs_cons ?_ ?_
    · intro aa ww hC hdep hvar KK hK
      have d18 : aa.tmps.getD 18 undef = .pointer (some ⟨w.heap.size, 1, none⟩) := dep_of hdep 3 18 (by kernel_rfl)
      have d18_ := d18; rw [Array.getD_eq_getD_getElem?] at d18_
      clear hdep hvar
      have hb := hB.up hC
      have c1 := hb.at 1 rfl
      (unfold opTo; go_simp; try simp only [opUpon])
      exact hK _ _ rfl hC (Below.refl _ _)
    -- 5: Op.call { value (Operand.func 27), args := #[t19], argTypes := #[23] }
    refine obligs_cons ?_ ?_
    · intro aa ww hC hdep hvar KK hK
      have d19 : aa.tmps.getD 19 undef = .int .u16 q := dep_of hdep 4 19 (by kernel_rfl)
      have d19_ := d19; rw [Array.getD_eq_getD_getElem?] at d19_
      clear hdep hvar
      (unfold opTo; go_simp; try simp only [opUpon])
      exact (refBytes _ _ g2).mono fun e w2 h => ⟨_, h.1, hK _ _ rfl (Up.on hC h.2) h.2⟩
    -- 6: Op.binOp BinOp.add 9 t17 t20 9
    refine obligs_cons ?_ ?_
    · intro aa ww hC hdep hvar KK hK
      have d17 : aa.tmps.getD 17 undef = .string (tx (B16 p)) := dep_of hdep 2 17 (by kernel_rfl)
      have d20 : aa.tmps.getD 20 undef = .string (tx (B16 q)) := dep_of hdep 5 20 (by kernel_rfl)
      have d17_ := d17; rw [Array.getD_eq_getD_getElem?] at d17_
      have d20_ := d20; rw [Array.getD_eq_getD_getElem?] at d20_
      clear hdep hvar
      (unfold opTo; go_simp; try simp only [opUpon])
      rw [← HA6.out]
      exact hK _ _ rfl hC (Below.refl _ _)
    -- 7: Op.fieldAddr 25 t3 2
    refine obligs_cons ?_ ?_
    · intro aa ww hC hdep hvar KK hK
      have d3 : aa.tmps.getD 3 undef = .pointer (some ⟨w.heap.size, 0, none⟩) := hvar 3 (slotOk_spec (by kernel_rfl))
      have d3_ := d3; rw [Array.getD_eq_getD_getElem?] at d3_
      clear hdep hvar
      (unfold opTo; go_simp; try simp only [opUpon])
      exact hK _ _ rfl hC (Below.refl _ _)
    -- 8: Op.load 22 t22
    refine obligs_cons ?_ ?_
    · intro aa ww hC hdep hvar KK hK
      have d22 : aa.tmps.getD 22 undef = .pointer (some ⟨w.heap.size, 2, none⟩) := dep_of hdep 7 22 (by kernel_rfl)
      have d22_ := d22; rw [Array.getD_eq_getD_getElem?] at d22_
      clear hdep hvar
      have hb := hB.up hC
      have c2 := hb.at 2 rfl
      (unfold opTo; go_simp; try simp only [opUpon])
      exact hK _ _ rfl hC (Below.refl _ _)
    -- 9: Op.call { value (Operand.func 28), args := #[t23], argTypes := #[22] }
    refine obligs_cons ?_ ?_
    · intro aa ww hC hdep hvar KK hK
      have d23 : aa.tmps.getD 23 undef = .int .u32 sq := dep_of hdep 8 23 (by kernel_rfl)
      have d23_ := d23; rw [Array.getD_eq_getD_getElem?] at d23_
      clear hdep hvar
      (unfold opTo; go_simp; try simp only [opUpon])
      exact (refFour _ _ hsq).mono fun e w2 h => ⟨_, h.1, hK _ _ rfl (Up.on hC h.2) h.2⟩
    -- 10: Op.binOp BinOp.add 9 t21 t24 9
    refine obligs_cons ?_ ?_
    · intro aa ww hC hdep hvar KK hK
      have d21 : aa.tmps.getD 21 undef = .string A6 := dep_of hdep 6 21 (by kernel_rfl)
      have d24 : aa.tmps.getD 24 undef = .string (tx (B32 sq)) := dep_of hdep 9 24 (by kernel_rfl)
      have d21_ := d21; rw [Array.getD_eq_getD_getElem?] at d21_
      have d24_ := d24; rw [Array.getD_eq_getD_getElem?] at d24_
      clear hdep hvar
      (unfold opTo; go_simp; try simp only [opUpon])
      rw [← HA10.out]
      exact hK _ _ rfl hC (Below.refl _ _)
    -- 11: Op.fieldAddr 25 t3 3
    refine obligs_cons ?_ ?_
    · intro aa ww hC hdep hvar KK hK
      have d3 : aa.tmps.getD 3 undef = .pointer (some ⟨w.heap.size, 0, none⟩) := hvar 3 (slotOk_spec (by kernel_rfl))
      have d3_ := d3; rw [Array.getD_eq_getD_getElem?] at d3_
      clear hdep hvar
      (unfold opTo; go_simp; try simp only [opUpon])
      exact hK _ _ rfl hC (Below.refl _ _)
    -- 12: Op.load 22 t26
    refine obligs_cons ?_ ?_
    · intro aa ww hC hdep hvar KK hK
      have d26 : aa.tmps.getD 26 undef = .pointer (some ⟨w.heap.size, 3, none⟩) := dep_of hdep 11 26 (by kernel_rfl)
      have d26_ := d26; rw [Array.getD_eq_getD_getElem?] at d26_
      clear hdep hvar
      have hb := hB.up hC
      have c3 := hb.at 3 rfl
      (unfold opTo; go_simp; try simp only [opUpon])
      exact hK _ _ rfl hC (Below.refl _ _)
    -- 13: Op.call { value (Operand.func 28), args := #[t27], argTypes := #[22] }
    refine obligs_cons ?_ ?_
    · intro aa ww hC hdep hvar KK hK
      have d27 : aa.tmps.getD 27 undef = .int .u32 ak := dep_of hdep 12 27 (by kernel_rfl)
      have d27_ := d27; rw [Array.getD_eq_getD_getElem?] at d27_
      clear hdep hvar
      (unfold opTo; go_simp; try simp only [opUpon])
      exact (refFour _ _ hak).mono fun e w2 h => ⟨_, h.1, hK _ _ rfl (Up.on hC h.2) h.2⟩
    -- 14: Op.binOp BinOp.add 9 t25 t28 9
    refine obligs_cons ?_ ?_
    · intro aa ww hC hdep hvar KK hK
      have d25 : aa.tmps.getD 25 undef = .string A10 := dep_of hdep 10 25 (by kernel_rfl)
      have d28 : aa.tmps.getD 28 undef = .string (tx (B32 ak)) := dep_of hdep 13 28 (by kernel_rfl)
      have d25_ := d25; rw [Array.getD_eq_getD_getElem?] at d25_
      have d28_ := d28; rw [Array.getD_eq_getD_getElem?] at d28_
      clear hdep hvar
      (unfold opTo; go_simp; try simp only [opUpon])
      rw [← HA14.out]
      exact hK _ _ rfl hC (Below.refl _ _)
    -- 15: Op.move t7
    refine obligs_cons ?_ ?_
    · intro aa ww hC hdep hvar KK hK
      have d7 : aa.tmps.getD 7 undef = .int .u8 v := hvar 7 (slotOk_spec (by kernel_rfl))
      have d7_ := d7; rw [Array.getD_eq_getD_getElem?] at d7_
      clear hdep hvar
      (unfold opTo; go_simp; try simp only [opUpon])
      exact hK _ _ rfl hC (Below.refl _ _)
    -- 16: Op.fieldAddr 25 t3 4
    refine obligs_cons ?_ ?_
    · intro aa ww hC hdep hvar KK hK
      have d3 : aa.tmps.getD 3 undef = .pointer (some ⟨w.heap.size, 0, none⟩) := hvar 3 (slotOk_spec (by kernel_rfl))
      have d3_ := d3; rw [Array.getD_eq_getD_getElem?] at d3_
      clear hdep hvar
      (unfold opTo; go_simp; try simp only [opUpon])
      exact hK _ _ rfl hC (Below.refl _ _)
    -- 17: Op.load 5 t31
    refine obligs_cons ?_ ?_
    · intro aa ww hC hdep hvar KK hK
      have d31 : aa.tmps.getD 31 undef = .pointer (some ⟨w.heap.size, 4, none⟩) := dep_of hdep 16 31 (by kernel_rfl)
      have d31_ := d31; rw [Array.getD_eq_getD_getElem?] at d31_
      clear hdep hvar
      have hb := hB.up hC
      have c4 := hb.at 4 rfl
      (unfold opTo; go_simp; try simp only [opUpon])
      exact hK _ _ rfl hC (Below.refl _ _)
    -- 18: Op.buildSlice 38 2 #[(0, t30), (1, t32)]
    refine obligs_cons ?_ ?_
    · intro aa ww hC hdep hvar KK hK
      have d30 : aa.tmps.getD 30 undef = .int .u8 v := dep_of hdep 15 30 (by kernel_rfl)
      have d32 : aa.tmps.getD 32 undef = .int .u8 fl := dep_of hdep 17 32 (by kernel_rfl)
      have d30_ := d30; rw [Array.getD_eq_getD_getElem?] at d30_
      have d32_ := d32; rw [Array.getD_eq_getD_getElem?] at d32_
      clear hdep hvar
      (unfold opTo; go_simp; try simp only [opUpon])
      exact hK _ _ ⟨_, rfl, Box.new _ _ _⟩ (up_al _ hC) (up_al _ (Below.refl _ _))
    -- 19: Op.convert 38 9 t33
    refine obligs_cons ?_ ?_
    · intro aa ww hC hdep hvar KK hK
      obtain ⟨g, d33, hg⟩ : Fresh 2 [.int .u8 v, .int .u8 fl] (aa.tmps.getD 33 undef) ww := dep_of hdep 18 33 (by kernel_rfl)
      have d33_ := d33; rw [Array.getD_eq_getD_getElem?] at d33_
      clear hdep hvar
      have hq := conv_box (n := 2) (xs := [oct v, oct fl]) rfl (by rw [c2]; exact hg)
      (unfold opTo; go_simp; try simp only [opUpon])
      exact hK _ _ rfl hC (Below.refl _ _)
    -- 20: Op.binOp BinOp.add 9 t29 t34 9
    refine obligs_cons ?_ ?_
    · intro aa ww hC hdep hvar KK hK
      have d29 : aa.tmps.getD 29 undef = .string A14 := dep_of hdep 14 29 (by kernel_rfl)
      have d34 : aa.tmps.getD 34 undef = .string (tx [oct v, oct fl]) := dep_of hdep 19 34 (by kernel_rfl)
      have d29_ := d29; rw [Array.getD_eq_getD_getElem?] at d29_
      have d34_ := d34; rw [Array.getD_eq_getD_getElem?] at d34_
      clear hdep hvar
      (unfold opTo; go_simp; try simp only [opUpon])
      rw [← HA20.out]
      exact hK _ _ rfl hC (Below.refl _ _)
    -- 21: Op.fieldAddr 25 t3 5
    refine obligs_cons ?_ ?_
    · intro aa ww hC hdep hvar KK hK
      have d3 : aa.tmps.getD 3 undef = .pointer (some ⟨w.heap.size, 0, none⟩) := hvar 3 (slotOk_spec (by kernel_rfl))
      have d3_ := d3; rw [Array.getD_eq_getD_getElem?] at d3_
      clear hdep hvar
      (unfold opTo; go_simp; try simp only [opUpon])
      exact hK _ _ rfl hC (Below.refl _ _)
    -- 22: Op.load 23 t36
    refine obligs_cons ?_ ?_
    · intro aa ww hC hdep hvar KK hK
      have d36 : aa.tmps.getD 36 undef = .pointer (some ⟨w.heap.size, 5, none⟩) := dep_of hdep 21 36 (by kernel_rfl)
      have d36_ := d36; rw [Array.getD_eq_getD_getElem?] at d36_
      clear hdep hvar
      have hb := hB.up hC
      have c5 := hb.at 5 rfl
      (unfold opTo; go_simp; try simp only [opUpon])
      exact hK _ _ rfl hC (Below.refl _ _)
    -- 23: Op.call { value (Operand.func 27), args := #[t37], argTypes := #[23] }
    refine obligs_cons ?_ ?_
    · intro aa ww hC hdep hvar KK hK
      have d37 : aa.tmps.getD 37 undef = .int .u16 wi := dep_of hdep 22 37 (by kernel_rfl)
      have d37_ := d37; rw [Array.getD_eq_getD_getElem?] at d37_
      clear hdep hvar
      (unfold opTo; go_simp; try simp only [opUpon])
      exact (refBytes _ _ g3).mono fun e w2 h => ⟨_, h.1, hK _ _ rfl (Up.on hC h.2) h.2⟩
    -- 24: Op.binOp BinOp.add 9 t35 t38 9
    refine obligs_cons ?_ ?_
    · intro aa ww hC hdep hvar KK hK
      have d35 : aa.tmps.getD 35 undef = .string A20 := dep_of hdep 20 35 (by kernel_rfl)
      have d38 : aa.tmps.getD 38 undef = .string (tx (B16 wi)) := dep_of hdep 23 38 (by kernel_rfl)
      have d35_ := d35; rw [Array.getD_eq_getD_getElem?] at d35_
      have d38_ := d38; rw [Array.getD_eq_getD_getElem?] at d38_
      clear hdep hvar
      (unfold opTo; go_simp; try simp only [opUpon])
      rw [← HA24.out]
      exact hK _ _ rfl hC (Below.refl _ _)
    -- 25: Op.move t2
    refine obligs_cons ?_ ?_
    · intro aa ww hC hdep hvar KK hK
      have d2 : aa.tmps.getD 2 undef = .int .u16 c := hvar 2 (slotOk_spec (by kernel_rfl))
      have d2_ := d2; rw [Array.getD_eq_getD_getElem?] at d2_
      clear hdep hvar
      (unfold opTo; go_simp; try simp only [opUpon])
      exact hK _ _ rfl hC (Below.refl _ _)
    -- 26: Op.call { value (Operand.func 27), args := #[t40], argTypes := #[23] }
    refine obligs_cons ?_ ?_
    · intro aa ww hC hdep hvar KK hK
      have d40 : aa.tmps.getD 40 undef = .int .u16 c := dep_of hdep 25 40 (by kernel_rfl)
      have d40_ := d40; rw [Array.getD_eq_getD_getElem?] at d40_
      clear hdep hvar
      (unfold opTo; go_simp; try simp only [opUpon])
      exact (refBytes _ _ hc).mono fun e w2 h => ⟨_, h.1, hK _ _ rfl (Up.on hC h.2) h.2⟩
    -- 27: Op.binOp BinOp.add 9 t39 t41 9
    refine obligs_cons ?_ ?_
    · intro aa ww hC hdep hvar KK hK
      have d39 : aa.tmps.getD 39 undef = .string A24 := dep_of hdep 24 39 (by kernel_rfl)
      have d41 : aa.tmps.getD 41 undef = .string (tx (B16 c.toNat)) := dep_of hdep 26 41 (by kernel_rfl)
      have d39_ := d39; rw [Array.getD_eq_getD_getElem?] at d39_
      have d41_ := d41; rw [Array.getD_eq_getD_getElem?] at d41_
      clear hdep hvar
      (unfold opTo; go_simp; try simp only [opUpon])
      rw [← HA27.out]
      exact hK _ _ rfl hC (Below.refl _ _)
    -- 28: Op.fieldAddr 25 t3 6
    refine obligs_cons ?_ ?_
    · intro aa ww hC hdep hvar KK hK
      have d3 : aa.tmps.getD 3 undef = .pointer (some ⟨w.heap.size, 0, none⟩) := hvar 3 (slotOk_spec (by kernel_rfl))
      have d3_ := d3; rw [Array.getD_eq_getD_getElem?] at d3_
      clear hdep hvar
      (unfold opTo; go_simp; try simp only [opUpon])
      exact hK _ _ rfl hC (Below.refl _ _)
    -- 29: Op.load 23 t43
    refine obligs_cons ?_ ?_
    · intro aa ww hC hdep hvar KK hK
      have d43 : aa.tmps.getD 43 undef = .pointer (some ⟨w.heap.size, 6, none⟩) := dep_of hdep 28 43 (by kernel_rfl)
      have d43_ := d43; rw [Array.getD_eq_getD_getElem?] at d43_
      clear hdep hvar
      have hb := hB.up hC
      have c6 := hb.at 6 rfl
      (unfold opTo; go_simp; try simp only [opUpon])
      exact hK _ _ rfl hC (Below.refl _ _)
    -- 30: Op.call { value (Operand.func 27), args := #[t44], argTypes := #[23] }
    refine obligs_cons ?_ ?_
    · intro aa ww hC hdep hvar KK hK
      have d44 : aa.tmps.getD 44 undef = .int .u16 ur := dep_of hdep 29 44 (by kernel_rfl)
      have d44_ := d44; rw [Array.getD_eq_getD_getElem?] at d44_
      clear hdep hvar
      (unfold opTo; go_simp; try simp only [opUpon])
      exact (refBytes _ _ g4).mono fun e w2 h => ⟨_, h.1, hK _ _ rfl (Up.on hC h.2) h.2⟩
    -- 31: Op.binOp BinOp.add 9 t42 t45 9
    refine obligs_cons ?_ ?_
    · intro aa ww hC hdep hvar KK hK
      have d42 : aa.tmps.getD 42 undef = .string A27 := dep_of hdep 27 42 (by kernel_rfl)
      have d45 : aa.tmps.getD 45 undef = .string (tx (B16 ur)) := dep_of hdep 30 45 (by kernel_rfl)
      have d42_ := d42; rw [Array.getD_eq_getD_getElem?] at d42_
      have d45_ := d45; rw [Array.getD_eq_getD_getElem?] at d45_
      clear hdep hvar
      (unfold opTo; go_simp; try simp only [opUpon])
      rw [← HA31.out]
      exact hK _ _ rfl hC (Below.refl _ _)
    -- 32: Op.fieldAddr 25 t3 7
    refine obligs_cons ?_ ?_
    · intro aa ww hC hdep hvar KK hK
      have d3 : aa.tmps.getD 3 undef = .pointer (some ⟨w.heap.size, 0, none⟩) := hvar 3 (slotOk_spec (by kernel_rfl))
      have d3_ := d3; rw [Array.getD_eq_getD_getElem?] at d3_
      clear hdep hvar
      (unfold opTo; go_simp; try simp only [opUpon])
      exact hK _ _ rfl hC (Below.refl _ _)
    -- 33: Op.load 9 t47
    refine obligs_cons ?_ ?_
    · intro aa ww hC hdep hvar KK hK
      have d47 : aa.tmps.getD 47 undef = .pointer (some ⟨w.heap.size, 7, none⟩) := dep_of hdep 32 47 (by kernel_rfl)
      have d47_ := d47; rw [Array.getD_eq_getD_getElem?] at d47_
      clear hdep hvar
      have hb := hB.up hC
      have c7 := hb.at 7 rfl
      (unfold opTo; go_simp; try simp only [opUpon])
      exact hK _ _ rfl hC (Below.refl _ _)
    -- 34: Op.binOp BinOp.add 9 t46 t48 9
    refine obligs_cons ?_ ?_
    · intro aa ww hC hdep hvar KK hK
      have d46 : aa.tmps.getD 46 undef = .string A31 := dep_of hdep 31 46 (by kernel_rfl)
      have d48 : aa.tmps.getD 48 undef = .string o := dep_of hdep 33 48 (by kernel_rfl)
      have d46_ := d46; rw [Array.getD_eq_getD_getElem?] at d46_
      have d48_ := d48; rw [Array.getD_eq_getD_getElem?] at d48_
      clear hdep hvar
      have hno : ¬ 9223372036854775807 < 20 + o.size := by omega
      (unfold opTo; go_simp; try simp only [opUpon])
      rw [← HA34.out]
      exact hK _ _ rfl hC (Below.refl _ _)
    -- 35: Op.move t1
    refine obligs_cons ?_ ?_
    · intro aa ww hC hdep hvar KK hK
      have d1 : aa.tmps.getD 1 undef = .string d := hvar 1 (slotOk_spec (by kernel_rfl))
      have d1_ := d1; rw [Array.getD_eq_getD_getElem?] at d1_
      clear hdep hvar
      (unfold opTo; go_simp; try simp only [opUpon])
      exact hK _ _ rfl hC (Below.refl _ _)
    -- 36: Op.binOp BinOp.add 9 t49 t50 9
    refine obligs_cons ?_ ?_
    · intro aa ww hC hdep hvar KK hK
      have d49 : aa.tmps.getD 49 undef = .string A34 := dep_of hdep 34 49 (by kernel_rfl)
      have d50 : aa.tmps.getD 50 undef = .string d := dep_of hdep 35 50 (by kernel_rfl)
      have d49_ := d49; rw [Array.getD_eq_getD_getElem?] at d49_
      have d50_ := d50; rw [Array.getD_eq_getD_getElem?] at d50_
      clear hdep hvar
      have hno : ¬ 9223372036854775807 < 20 + o.size + d.size := by omega
      (unfold opTo; go_simp; try simp only [opUpon])
      rw [← HA36.out]
      exact hK _ _ rfl hC (Below.refl _ _)
    -- 37: Op.assign t51
    refine obligs_cons ?_ ?_
    · intro aa ww hC hdep hvar KK hK
      have d51 : aa.tmps.getD 51 undef = .string A36 := dep_of hdep 36 51 (by kernel_rfl)
      have d51_ := d51; rw [Array.getD_eq_getD_getElem?] at d51_
      clear hdep hvar
      (unfold opTo; go_simp; try simp only [opUpon])
      exact hK _ _ rfl hC (Below.refl _ _)
    exact obligs_nil
  intro vals ww hC hY
  have e0 : vals 0 = .pointer (some ⟨w.heap.size, 0, none⟩) := hY 0 _ _ rfl rfl
  have e1 : vals 1 = .int .u16 p := hY 1 _ _ rfl rfl
  have e2 : vals 2 = .string (tx (B16 p)) := hY 2 _ _ rfl rfl
  have e3 : vals 3 = .pointer (some ⟨w.heap.size, 1, none⟩) := hY 3 _ _ rfl rfl
  have e4 : vals 4 = .int .u16 q := hY 4 _ _ rfl rfl
  have e5 : vals 5 = .string (tx (B16 q)) := hY 5 _ _ rfl rfl
  have e6 : vals 6 = .string A6 := hY 6 _ _ rfl rfl
  have e7 : vals 7 = .pointer (some ⟨w.heap.size, 2, none⟩) := hY 7 _ _ rfl rfl
  have e8 : vals 8 = .int .u32 sq := hY 8 _ _ rfl rfl
  have e9 : vals 9 = .string (tx (B32 sq)) := hY 9 _ _ rfl rfl
  have e10 : vals 10 = .string A10 := hY 10 _ _ rfl rfl
  have e11 : vals 11 = .pointer (some ⟨w.heap.size, 3, none⟩) := hY 11 _ _ rfl rfl
  have e12 : vals 12 = .int .u32 ak := hY 12 _ _ rfl rfl
  have e13 : vals 13 = .string (tx (B32 ak)) := hY 13 _ _ rfl rfl
  have e14 : vals 14 = .string A14 := hY 14 _ _ rfl rfl
  have e15 : vals 15 = .int .u8 v := hY 15 _ _ rfl rfl
  have e16 : vals 16 = .pointer (some ⟨w.heap.size, 4, none⟩) := hY 16 _ _ rfl rfl
  have e17 : vals 17 = .int .u8 fl := hY 17 _ _ rfl rfl
  have e19 : vals 19 = .string (tx [oct v, oct fl]) := hY 19 _ _ rfl rfl
  have e20 : vals 20 = .string A20 := hY 20 _ _ rfl rfl
  have e21 : vals 21 = .pointer (some ⟨w.heap.size, 5, none⟩) := hY 21 _ _ rfl rfl
  have e22 : vals 22 = .int .u16 wi := hY 22 _ _ rfl rfl
  have e23 : vals 23 = .string (tx (B16 wi)) := hY 23 _ _ rfl rfl
  have e24 : vals 24 = .string A24 := hY 24 _ _ rfl rfl
  have e25 : vals 25 = .int .u16 c := hY 25 _ _ rfl rfl
  have e26 : vals 26 = .string (tx (B16 c.toNat)) := hY 26 _ _ rfl rfl
  have e27 : vals 27 = .string A27 := hY 27 _ _ rfl rfl
  have e28 : vals 28 = .pointer (some ⟨w.heap.size, 6, none⟩) := hY 28 _ _ rfl rfl
  have e29 : vals 29 = .int .u16 ur := hY 29 _ _ rfl rfl
  have e30 : vals 30 = .string (tx (B16 ur)) := hY 30 _ _ rfl rfl
  have e31 : vals 31 = .string A31 := hY 31 _ _ rfl rfl
  have e32 : vals 32 = .pointer (some ⟨w.heap.size, 7, none⟩) := hY 32 _ _ rfl rfl
  have e33 : vals 33 = .string o := hY 33 _ _ rfl rfl
  have e34 : vals 34 = .string A34 := hY 34 _ _ rfl rfl
  have e35 : vals 35 = .string d := hY 35 _ _ rfl rfl
  have e36 : vals 36 = .string A36 := hY 36 _ _ rfl rfl
  have e37 : vals 37 = .string A36 := hY 37 _ _ rfl rfl
  clear hY
  simp only [putAll, Act.put, List.setIfInBounds_toArray, List.set_cons_zero, List.set_cons_succ, e0, e1, e2, e3, e4, e5, e6, e7, e8, e9, e10, e11, e12, e13, e14, e15, e16, e17, e19, e20, e21, e22, e23, e24, e25, e26, e27, e28, e29, e30, e31, e32, e33, e34, e35, e36, e37]
  clear e0 e1 e2 e3 e4 e5 e6 e7 e8 e9 e10 e11 e12 e13 e14 e15 e16 e17 e19 e20 e21 e22 e23 e24 e25 e26 e27 e28 e29 e30 e31 e32 e33 e34 e35 e36 e37
  go_wp2
  go_ret
  exact ⟨by rw [HA36.out, HA34.out, HA31.out, HA27.out, HA24.out, HA20.out, HA14.out, HA10.out, HA6.out, HE.out]; rfl, hu.on hC⟩

/-- addresses, a length, and a segment, put together -/
theorem ps_tx (x y : Nat) (s : ByteArray) : tx (B32 x) ++ tx (B32 y) ++ { data := #[0, 6] } ++ tx (B16 s.size) ++ s = tx (B32 x ++ B32 y ++ [0, 6] ++ B16 (L s).length ++ L s) := by
  refine ba_eq ?_
  simp only [L_app, L_tx]
  rfl
set_option maxRecDepth 100000 in
theorem refSum (x y : Nat) (s : ByteArray) (w : World) (hx : x ≤ 4294967295) (hy : y ≤ 4294967295) (hs : s.size ≤ 65535) :
    Calls Try.prog 15 #[.int .u32 x, .int .u32 y, .string s] w fun e w' => e = .returned (.int .u16 (ck (ts x y (L s)))) ∧ Up w w' := by
  have z16 := sz16
  have z32 := sz32
  have z6 : ({ data := #[0, 6] } : ByteArray).size = 2 := rfl
  have g1 : (0 : Int) ≤ (s.size : Int) ∧ (s.size : Int) ≤ 65535 := by omega
  have q1 : IntKind.u16.wrap (s.size : Int) = (s.size : Int) := by rw [IntKind.wrap_u16]; omega
  have HE := Lib.hid (ps_tx x y s)
  have hno : ¬ 9223372036854775807 < 12 + s.size := by omega
  have HC := Lib.hid (fun w => refOfT (B32 x ++ B32 y ++ [0, 6] ++ B16 (L s).length ++ L s) w (by simp only [List.length_append]; show 4 + 4 + 2 + 2 + (L s).length ≤ _; rw [L_len]; omega))
  go_enter Try.func15, Try.ntmps15
  go_wp2_with fail
  refine (refFour x w hx).mono ?_
  rintro e w1 ⟨rfl, hv1⟩
  go_wp2_with fail
  refine (refFour y w1 hy).mono ?_
  rintro e w2 ⟨rfl, hv2⟩
  go_wp2_with fail
  refine (refBytes _ w2 g1).mono ?_
  rintro e w3 ⟨rfl, hv3⟩
  go_wp2_with fail
  first | rw [HE.out] | (rw [Int.toNat_natCast, HE.out])
  refine (HC.out w3).mono ?_
  rintro e w4 ⟨rfl, rfl⟩
  go_wp2
  go_ret
  exact ⟨rfl, (hv1.on hv2).on hv3⟩
end Go.Proofs.Ytecogakledajkaa.tc
