/- The document's answer for tcp: a segment, or what is wrong with its head. Condition: the arguments fit their kinds. -/
import Derived.Test.YtecogakledajkaaTcpA
namespace Go.Proofs.Ytecogakledajkaa.tc
open Go.RowKit Go.Shelf Go.Proofs.Ytecogakledajkaa.sm Go.Proofs.Ytecogakledajkaa.nb Go.Proofs.Ytecogakledajkaa.cm
set_option linter.unusedVariables false

theorem Box.e8 {W : World} {b : Nat} {x0 x1 x2 x3 x4 x5 x6 x7 : Value} (h : Box W b [x0, x1, x2, x3, x4, x5, x6, x7]) : W.cell? ⟨b, 0, none⟩ = some x0 ∧ W.cell? ⟨b, 1, none⟩ = some x1 ∧ W.cell? ⟨b, 2, none⟩ = some x2 ∧ W.cell? ⟨b, 3, none⟩ = some x3 ∧ W.cell? ⟨b, 4, none⟩ = some x4 ∧ W.cell? ⟨b, 5, none⟩ = some x5 ∧ W.cell? ⟨b, 6, none⟩ = some x6 ∧ W.cell? ⟨b, 7, none⟩ = some x7 :=
  ⟨h.at 0 rfl, h.at 1 rfl, h.at 2 rfl, h.at 3 rfl, h.at 4 rfl, h.at 5 rfl, h.at 6 rfl, h.at 7 rfl⟩
/-- a segment, or which error there is -/
def EV (x y p q sq ak fl wi ur : Nat) (o d : ByteArray) : Value :=
  if o.size % 4 ≠ 0 ∨ 40 < o.size ∨ 64 ≤ fl then .tuple #[.string ByteArray.empty, .int .i64 2]
  else if 65515 < 20 + o.size + d.size then .tuple #[.string ByteArray.empty, .int .i64 4]
  else .tuple #[.string (tx (en x y p q sq ak fl wi ur (L o) (L d))), .int .i64 0]
section
variable {x y p q sq ak fl wi ur : Nat} {o d : ByteArray}
theorem EV_arg (h : o.size % 4 ≠ 0 ∨ 40 < o.size ∨ 64 ≤ fl) : EV x y p q sq ak fl wi ur o d = .tuple #[.string ByteArray.empty, .int .i64 2] := if_pos h
theorem EV_long (h : ¬ (o.size % 4 ≠ 0 ∨ 40 < o.size ∨ 64 ≤ fl)) (h1 : 65515 < 20 + o.size + d.size) : EV x y p q sq ak fl wi ur o d = .tuple #[.string ByteArray.empty, .int .i64 4] := by
  unfold EV; rw [if_neg h, if_pos h1]
theorem EV_ok (h : ¬ (o.size % 4 ≠ 0 ∨ 40 < o.size ∨ 64 ≤ fl)) (h1 : ¬ 65515 < 20 + o.size + d.size) : EV x y p q sq ak fl wi ur o d = .tuple #[.string (tx (en x y p q sq ak fl wi ur (L o) (L d))), .int .i64 0] := by
  unfold EV; rw [if_neg h, if_neg h1]
end
set_option maxHeartbeats 4000000 in
set_option maxRecDepth 100000 in
theorem refEncode0 (x y p q sq ak fl wi ur : Nat) (o d : ByteArray) (w : World) (hx : x ≤ 4294967295) (hy : y ≤ 4294967295) (h : Ok p q sq ak fl wi ur) (ho : o.size ≤ 1099511627776) (hd : d.size ≤ 1099511627776) (c : o.size % 4 ≠ 0) :
    Calls Try.prog 9 #[.int .u32 x, .int .u32 y, HV p q sq ak fl wi ur o, .string d] w fun e w' => e = .returned (EV x y p q sq ak fl wi ur o d) ∧ Up w w' := by
  have HE := Lib.hid (EV_arg (.inl c) : EV x y p q sq ak fl wi ur o d = _)
  have i1 : ¬ (o.size : Int) % 4 = 0 := by omega
  go_enter Try.func9, Try.ntmps9
  go_upto_region 1 with fail
  have hB := Box.new w #[.int .u16 p, .int .u16 q, .int .u32 sq, .int .u32 ak, .int .u8 fl, .int .u16 wi, .int .u16 ur, .string o] 25
  have hu : Up w (w.alloc (.cells #[.int .u16 p, .int .u16 q, .int .u32 sq, .int .u32 ak, .int .u8 fl, .int .u16 wi, .int .u16 ur, .string o] 25)) := up_al _ (Below.refl _ _)
  generalize (w.alloc (.cells #[.int .u16 p, .int .u16 q, .int .u32 sq, .int .u32 ak, .int .u8 fl, .int .u16 wi, .int .u16 ur, .string o] 25)) = w0 at hB hu ⊢
  obtain ⟨k0, k1, k2, k3, k4, k5, k6, k7⟩ := Box.e8 hB
  go_wp2_with fail
  go_ret2
  exact ⟨congrArg Ending.returned HE.out.symm, hu⟩
set_option maxHeartbeats 4000000 in
set_option maxRecDepth 100000 in
theorem refEncode1 (x y p q sq ak fl wi ur : Nat) (o d : ByteArray) (w : World) (hx : x ≤ 4294967295) (hy : y ≤ 4294967295) (h : Ok p q sq ak fl wi ur) (ho : o.size ≤ 1099511627776) (hd : d.size ≤ 1099511627776) (c0 : o.size % 4 = 0) (c : 40 < o.size) :
    Calls Try.prog 9 #[.int .u32 x, .int .u32 y, HV p q sq ak fl wi ur o, .string d] w fun e w' => e = .returned (EV x y p q sq ak fl wi ur o d) ∧ Up w w' := by
  have HE := Lib.hid (EV_arg (.inr (.inl c)) : EV x y p q sq ak fl wi ur o d = _)
  have i1 : (o.size : Int) % 4 = 0 := by omega
  have i2 : (40 : Int) < (o.size : Int) := by omega
  go_enter Try.func9, Try.ntmps9
  go_upto_region 1 with fail
  have hB := Box.new w #[.int .u16 p, .int .u16 q, .int .u32 sq, .int .u32 ak, .int .u8 fl, .int .u16 wi, .int .u16 ur, .string o] 25
  have hu : Up w (w.alloc (.cells #[.int .u16 p, .int .u16 q, .int .u32 sq, .int .u32 ak, .int .u8 fl, .int .u16 wi, .int .u16 ur, .string o] 25)) := up_al _ (Below.refl _ _)
  generalize (w.alloc (.cells #[.int .u16 p, .int .u16 q, .int .u32 sq, .int .u32 ak, .int .u8 fl, .int .u16 wi, .int .u16 ur, .string o] 25)) = w0 at hB hu ⊢
  obtain ⟨k0, k1, k2, k3, k4, k5, k6, k7⟩ := Box.e8 hB
  go_wp2_with fail
  go_ret2
  exact ⟨congrArg Ending.returned HE.out.symm, hu⟩
set_option maxHeartbeats 4000000 in
set_option maxRecDepth 100000 in
theorem refEncode2 (x y p q sq ak fl wi ur : Nat) (o d : ByteArray) (w : World) (hx : x ≤ 4294967295) (hy : y ≤ 4294967295) (h : Ok p q sq ak fl wi ur) (ho : o.size ≤ 1099511627776) (hd : d.size ≤ 1099511627776) (c0 : o.size % 4 = 0) (c1 : o.size ≤ 40) (c : 64 ≤ fl) :
    Calls Try.prog 9 #[.int .u32 x, .int .u32 y, HV p q sq ak fl wi ur o, .string d] w fun e w' => e = .returned (EV x y p q sq ak fl wi ur o d) ∧ Up w w' := by
  have HE := Lib.hid (EV_arg (.inr (.inr c)) : EV x y p q sq ak fl wi ur o d = _)
  have i1 : (o.size : Int) % 4 = 0 := by omega
  have i2 : ¬ (40 : Int) < (o.size : Int) := by omega
  have i3 : (64 : Int) ≤ (fl : Int) := by omega
  go_enter Try.func9, Try.ntmps9
  go_upto_region 1 with fail
  have hB := Box.new w #[.int .u16 p, .int .u16 q, .int .u32 sq, .int .u32 ak, .int .u8 fl, .int .u16 wi, .int .u16 ur, .string o] 25
  have hu : Up w (w.alloc (.cells #[.int .u16 p, .int .u16 q, .int .u32 sq, .int .u32 ak, .int .u8 fl, .int .u16 wi, .int .u16 ur, .string o] 25)) := up_al _ (Below.refl _ _)
  generalize (w.alloc (.cells #[.int .u16 p, .int .u16 q, .int .u32 sq, .int .u32 ak, .int .u8 fl, .int .u16 wi, .int .u16 ur, .string o] 25)) = w0 at hB hu ⊢
  obtain ⟨k0, k1, k2, k3, k4, k5, k6, k7⟩ := Box.e8 hB
  go_wp2_with fail
  go_ret2
  exact ⟨congrArg Ending.returned HE.out.symm, hu⟩
set_option maxHeartbeats 4000000 in
set_option maxRecDepth 100000 in
theorem refEncode3 (x y p q sq ak fl wi ur : Nat) (o d : ByteArray) (w : World) (hx : x ≤ 4294967295) (hy : y ≤ 4294967295) (h : Ok p q sq ak fl wi ur) (ho : o.size ≤ 1099511627776) (hd : d.size ≤ 1099511627776) (c0 : o.size % 4 = 0) (c1 : o.size ≤ 40) (c2 : fl < 64) (c : 65515 < 20 + o.size + d.size) :
    Calls Try.prog 9 #[.int .u32 x, .int .u32 y, HV p q sq ak fl wi ur o, .string d] w fun e w' => e = .returned (EV x y p q sq ak fl wi ur o d) ∧ Up w w' := by
  have HE := Lib.hid (EV_long (by omega) c : EV x y p q sq ak fl wi ur o d = _)
  have i1 : (o.size : Int) % 4 = 0 := by omega
  have i2 : ¬ (40 : Int) < (o.size : Int) := by omega
  have i3 : ¬ (64 : Int) ≤ (fl : Int) := by omega
  have i4 : (65515 : Int) < 20 + (o.size : Int) + (d.size : Int) := by omega
  go_enter Try.func9, Try.ntmps9
  go_upto_region 1 with fail
  have hB := Box.new w #[.int .u16 p, .int .u16 q, .int .u32 sq, .int .u32 ak, .int .u8 fl, .int .u16 wi, .int .u16 ur, .string o] 25
  have hu : Up w (w.alloc (.cells #[.int .u16 p, .int .u16 q, .int .u32 sq, .int .u32 ak, .int .u8 fl, .int .u16 wi, .int .u16 ur, .string o] 25)) := up_al _ (Below.refl _ _)
  generalize (w.alloc (.cells #[.int .u16 p, .int .u16 q, .int .u32 sq, .int .u32 ak, .int .u8 fl, .int .u16 wi, .int .u16 ur, .string o] 25)) = w0 at hB hu ⊢
  obtain ⟨k0, k1, k2, k3, k4, k5, k6, k7⟩ := Box.e8 hB
  go_wp2_with fail
  go_ret2
  exact ⟨congrArg Ending.returned HE.out.symm, hu⟩
set_option maxHeartbeats 4000000 in
set_option maxRecDepth 100000 in
theorem refEncode4 (x y p q sq ak fl wi ur : Nat) (o d : ByteArray) (w : World) (hx : x ≤ 4294967295) (hy : y ≤ 4294967295) (h : Ok p q sq ak fl wi ur) (ho : o.size ≤ 1099511627776) (hd : d.size ≤ 1099511627776) (c0 : o.size % 4 = 0) (c1 : o.size ≤ 40) (c2 : fl < 64) (c : ¬ 65515 < 20 + o.size + d.size) :
    Calls Try.prog 9 #[.int .u32 x, .int .u32 y, HV p q sq ak fl wi ur o, .string d] w fun e w' => e = .returned (EV x y p q sq ak fl wi ur o d) ∧ Up w w' := by
  have HE := Lib.hid (EV_ok (by omega) c : EV x y p q sq ak fl wi ur o d = _)
  have i1 : (o.size : Int) % 4 = 0 := by omega
  have i2 : ¬ (40 : Int) < (o.size : Int) := by omega
  have i3 : ¬ (64 : Int) ≤ (fl : Int) := by omega
  have i4 : ¬ (65515 : Int) < 20 + (o.size : Int) + (d.size : Int) := by omega
  have hcs := cs_le x y p q sq ak fl wi ur (L o) (L d)
  have HS := Lib.hid (cs_int x y p q sq ak fl wi ur (L o) (L d))
  go_enter Try.func9, Try.ntmps9
  go_upto_region 1 with fail
  have hB := Box.new w #[.int .u16 p, .int .u16 q, .int .u32 sq, .int .u32 ak, .int .u8 fl, .int .u16 wi, .int .u16 ur, .string o] 25
  have hu : Up w (w.alloc (.cells #[.int .u16 p, .int .u16 q, .int .u32 sq, .int .u32 ak, .int .u8 fl, .int .u16 wi, .int .u16 ur, .string o] 25)) := up_al _ (Below.refl _ _)
  generalize (w.alloc (.cells #[.int .u16 p, .int .u16 q, .int .u32 sq, .int .u32 ak, .int .u8 fl, .int .u16 wi, .int .u16 ur, .string o] 25)) = w0 at hB hu ⊢
  obtain ⟨k0, k1, k2, k3, k4, k5, k6, k7⟩ := Box.e8 hB
  go_upto_region 5 with fail
  refine wp_region_rel2 (fun W => Up w0 W) (fun W W' => Up W W') (Ys [Det (.agg #[.int .u16 p, .int .u16 q, .int .u32 sq, .int .u32 ak, .int .u8 fl, .int .u16 wi, .int .u16 ur, .string o]),
      Det (.string d),
      Det (.int .u32 x),
      Det (.int .u32 y),
      Det (.agg #[.int .u16 p, .int .u16 q, .int .u32 sq, .int .u32 ak, .int .u8 fl, .int .u16 wi, .int .u16 ur, .string o]),
      Det (.string d),
      Det (.string (tx (rw_ p q sq ak fl wi ur (L o) (L d) 0))),
      Det (.int .u16 (cs x y p q sq ak fl wi ur (L o) (L d) : Nat)),
      Det (.string (tx (rw_ p q sq ak fl wi ur (L o) (L d) (cs x y p q sq ak fl wi ur (L o) (L d))))),
      Det (.string (tx (rw_ p q sq ak fl wi ur (L o) (L d) (cs x y p q sq ak fl wi ur (L o) (L d))))),
      Det (.int .i64 0)]) (by kernel_rfl) (by kernel_rfl) (up_dr (Below.refl _ _)) (Stable.ys ⟨Det.st _, Det.st _, Det.st _, Det.st _, Det.st _, Det.st _, Det.st _, Det.st _, Det.st _, Det.st _, Det.st _, trivial⟩) ?_ ?_
  ·
    -- 0: Op.load 25 t6
    refine obligs_cons ?_ ?_
    · intro aa ww hC hdep hvar KK hK
      have d6 : aa.tmps.getD 6 undef = .pointer (some ⟨w.heap.size, 0, none⟩) := hvar 6 (slotOk_spec (by kernel_rfl))
      have d6_ := d6; rw [Array.getD_eq_getD_getElem?] at d6_
      clear hdep hvar
      have hb := hB.up hC
      have c0 := hb.at 0 rfl; have c1 := hb.at 1 rfl; have c2 := hb.at 2 rfl; have c3 := hb.at 3 rfl; have c4 := hb.at 4 rfl; have c5 := hb.at 5 rfl; have c6 := hb.at 6 rfl; have c7 := hb.at 7 rfl
      (unfold opTo; go_simp; try simp only [opUpon])
      exact hK _ _ rfl hC (Below.refl _ _)
    -- 1: Op.move t3
    refine obligs_cons ?_ ?_
    · intro aa ww hC hdep hvar KK hK
      have d3 : aa.tmps.getD 3 undef = .string d := hvar 3 (slotOk_spec (by kernel_rfl))
      have d3_ := d3; rw [Array.getD_eq_getD_getElem?] at d3_
      clear hdep hvar
      (unfold opTo; go_simp; try simp only [opUpon])
      exact hK _ _ rfl hC (Below.refl _ _)
    -- 2: Op.move t0
    refine obligs_cons ?_ ?_
    · intro aa ww hC hdep hvar KK hK
      have d0 : aa.tmps.getD 0 undef = .int .u32 x := hvar 0 (slotOk_spec (by kernel_rfl))
      have d0_ := d0; rw [Array.getD_eq_getD_getElem?] at d0_
      clear hdep hvar
      (unfold opTo; go_simp; try simp only [opUpon])
      exact hK _ _ rfl hC (Below.refl _ _)
    -- 3: Op.move t1
    refine obligs_cons ?_ ?_
    · intro aa ww hC hdep hvar KK hK
      have d1 : aa.tmps.getD 1 undef = .int .u32 y := hvar 1 (slotOk_spec (by kernel_rfl))
      have d1_ := d1; rw [Array.getD_eq_getD_getElem?] at d1_
      clear hdep hvar
      (unfold opTo; go_simp; try simp only [opUpon])
      exact hK _ _ rfl hC (Below.refl _ _)
    -- 4: Op.load 25 t6
    refine obligs_cons ?_ ?_
    · intro aa ww hC hdep hvar KK hK
      have d6 : aa.tmps.getD 6 undef = .pointer (some ⟨w.heap.size, 0, none⟩) := hvar 6 (slotOk_spec (by kernel_rfl))
      have d6_ := d6; rw [Array.getD_eq_getD_getElem?] at d6_
      clear hdep hvar
      have hb := hB.up hC
      have c0 := hb.at 0 rfl; have c1 := hb.at 1 rfl; have c2 := hb.at 2 rfl; have c3 := hb.at 3 rfl; have c4 := hb.at 4 rfl; have c5 := hb.at 5 rfl; have c6 := hb.at 6 rfl; have c7 := hb.at 7 rfl
      (unfold opTo; go_simp; try simp only [opUpon])
      exact hK _ _ rfl hC (Below.refl _ _)
    -- 5: Op.move t3
    refine obligs_cons ?_ ?_
    · intro aa ww hC hdep hvar KK hK
      have d3 : aa.tmps.getD 3 undef = .string d := hvar 3 (slotOk_spec (by kernel_rfl))
      have d3_ := d3; rw [Array.getD_eq_getD_getElem?] at d3_
      clear hdep hvar
      (unfold opTo; go_simp; try simp only [opUpon])
      exact hK _ _ rfl hC (Below.refl _ _)
    -- 6: Op.call { value (Operand.func 15), args := #[t38, t39, const (0:u16)], argTypes := #[25, 9, 23] }
    refine obligs_cons ?_ ?_
    · intro aa ww hC hdep hvar KK hK
      have d38 : aa.tmps.getD 38 undef = .agg #[.int .u16 p, .int .u16 q, .int .u32 sq, .int .u32 ak, .int .u8 fl, .int .u16 wi, .int .u16 ur, .string o] := dep_of hdep 4 38 (by kernel_rfl)
      have d39 : aa.tmps.getD 39 undef = .string d := dep_of hdep 5 39 (by kernel_rfl)
      have d38_ := d38; rw [Array.getD_eq_getD_getElem?] at d38_
      have d39_ := d39; rw [Array.getD_eq_getD_getElem?] at d39_
      clear hdep hvar
      (unfold opTo; go_simp; try simp only [opUpon])
      exact (refRaw p q sq ak fl wi ur o d 0 _ h c1 (by omega) (by decide)).mono fun e w2 h => ⟨_, h.1, hK _ _ rfl (Up.on hC h.2) h.2⟩
    -- 7: Op.call { value (Operand.func 16), args := #[t36, t37, t40], argTypes := #[22, 22, 9] }
    refine obligs_cons ?_ ?_
    · intro aa ww hC hdep hvar KK hK
      have d36 : aa.tmps.getD 36 undef = .int .u32 x := dep_of hdep 2 36 (by kernel_rfl)
      have d37 : aa.tmps.getD 37 undef = .int .u32 y := dep_of hdep 3 37 (by kernel_rfl)
      have d40 : aa.tmps.getD 40 undef = .string (tx (rw_ p q sq ak fl wi ur (L o) (L d) 0)) := dep_of hdep 6 40 (by kernel_rfl)
      have d36_ := d36; rw [Array.getD_eq_getD_getElem?] at d36_
      have d37_ := d37; rw [Array.getD_eq_getD_getElem?] at d37_
      have d40_ := d40; rw [Array.getD_eq_getD_getElem?] at d40_
      clear hdep hvar
      (unfold opTo; go_simp; try simp only [opUpon])
      exact (refSum x y _ _ hx hy (by rw [tx_size, rw_len, L_len, L_len]; omega)).mono fun e w2 h => ⟨_, h.1, hK _ _ (show Value.int .u16 _ = Value.int .u16 _ by rw [HS.out, L_tx]) (Up.on hC h.2) h.2⟩
    -- 8: Op.call { value (Operand.func 15), args := #[t34, t35, t41], argTypes := #[25, 9, 23] }
    refine obligs_cons ?_ ?_
    · intro aa ww hC hdep hvar KK hK
      have d34 : aa.tmps.getD 34 undef = .agg #[.int .u16 p, .int .u16 q, .int .u32 sq, .int .u32 ak, .int .u8 fl, .int .u16 wi, .int .u16 ur, .string o] := dep_of hdep 0 34 (by kernel_rfl)
      have d35 : aa.tmps.getD 35 undef = .string d := dep_of hdep 1 35 (by kernel_rfl)
      have d41 : aa.tmps.getD 41 undef = .int .u16 (cs x y p q sq ak fl wi ur (L o) (L d) : Nat) := dep_of hdep 7 41 (by kernel_rfl)
      have d34_ := d34; rw [Array.getD_eq_getD_getElem?] at d34_
      have d35_ := d35; rw [Array.getD_eq_getD_getElem?] at d35_
      have d41_ := d41; rw [Array.getD_eq_getD_getElem?] at d41_
      clear hdep hvar
      (unfold opTo; go_simp; try simp only [opUpon])
      exact (refRaw p q sq ak fl wi ur o d (cs x y p q sq ak fl wi ur (L o) (L d) : Nat) _ h c1 (by omega) (by omega)).mono fun e w2 h => ⟨_, h.1, hK _ _ rfl (Up.on hC h.2) h.2⟩
    -- 9: Op.assign t42
    refine obligs_cons ?_ ?_
    · intro aa ww hC hdep hvar KK hK
      have d42 : aa.tmps.getD 42 undef = .string (tx (rw_ p q sq ak fl wi ur (L o) (L d) (cs x y p q sq ak fl wi ur (L o) (L d)))) := dep_of hdep 8 42 (by kernel_rfl)
      have d42_ := d42; rw [Array.getD_eq_getD_getElem?] at d42_
      clear hdep hvar
      (unfold opTo; go_simp; try simp only [opUpon])
      exact hK _ _ rfl hC (Below.refl _ _)
    -- 10: Op.assign (const (0:i64))
    refine obligs_cons ?_ ?_
    · intro aa ww hC hdep hvar KK hK
      clear hdep hvar
      (unfold opTo; go_simp; try simp only [opUpon])
      exact hK _ _ rfl hC (Below.refl _ _)
    exact obligs_nil
  intro vals ww hC hY
  have e0 : vals 0 = .agg #[.int .u16 p, .int .u16 q, .int .u32 sq, .int .u32 ak, .int .u8 fl, .int .u16 wi, .int .u16 ur, .string o] := hY 0 _ _ rfl rfl
  have e1 : vals 1 = .string d := hY 1 _ _ rfl rfl
  have e2 : vals 2 = .int .u32 x := hY 2 _ _ rfl rfl
  have e3 : vals 3 = .int .u32 y := hY 3 _ _ rfl rfl
  have e4 : vals 4 = .agg #[.int .u16 p, .int .u16 q, .int .u32 sq, .int .u32 ak, .int .u8 fl, .int .u16 wi, .int .u16 ur, .string o] := hY 4 _ _ rfl rfl
  have e5 : vals 5 = .string d := hY 5 _ _ rfl rfl
  have e6 : vals 6 = .string (tx (rw_ p q sq ak fl wi ur (L o) (L d) 0)) := hY 6 _ _ rfl rfl
  have e7 : vals 7 = .int .u16 (cs x y p q sq ak fl wi ur (L o) (L d) : Nat) := hY 7 _ _ rfl rfl
  have e8 : vals 8 = .string (tx (rw_ p q sq ak fl wi ur (L o) (L d) (cs x y p q sq ak fl wi ur (L o) (L d)))) := hY 8 _ _ rfl rfl
  have e9 : vals 9 = .string (tx (rw_ p q sq ak fl wi ur (L o) (L d) (cs x y p q sq ak fl wi ur (L o) (L d)))) := hY 9 _ _ rfl rfl
  have e10 : vals 10 = .int .i64 0 := hY 10 _ _ rfl rfl
  clear hY
  simp only [putAll, Act.put, List.setIfInBounds_toArray, List.set_cons_zero, List.set_cons_succ, e0, e1, e2, e3, e4, e5, e6, e7, e8, e9, e10]
  clear e0 e1 e2 e3 e4 e5 e6 e7 e8 e9 e10
  go_wp2
  go_ret2
  exact ⟨by rw [HE.out]; rfl, hu.on hC⟩
theorem refEncode (x y p q sq ak fl wi ur : Nat) (o d : ByteArray) (w : World) (hx : x ≤ 4294967295) (hy : y ≤ 4294967295) (h : Ok p q sq ak fl wi ur) (ho : o.size ≤ 1099511627776) (hd : d.size ≤ 1099511627776) :
    Calls Try.prog 9 #[.int .u32 x, .int .u32 y, HV p q sq ak fl wi ur o, .string d] w fun e w' => e = .returned (EV x y p q sq ak fl wi ur o d) ∧ Up w w' := by
  by_cases c0 : o.size % 4 = 0
  case neg => exact refEncode0 x y p q sq ak fl wi ur o d w hx hy h ho hd c0
  by_cases c1 : o.size ≤ 40
  case neg => exact refEncode1 x y p q sq ak fl wi ur o d w hx hy h ho hd c0 (by omega)
  by_cases c2 : fl < 64
  case neg => exact refEncode2 x y p q sq ak fl wi ur o d w hx hy h ho hd c0 c1 (by omega)
  by_cases c : 65515 < 20 + o.size + d.size
  · exact refEncode3 x y p q sq ak fl wi ur o d w hx hy h ho hd c0 c1 c2 c
  · exact refEncode4 x y p q sq ak fl wi ur o d w hx hy h ho hd c0 c1 c2 c
end Go.Proofs.Ytecogakledajkaa.tc
