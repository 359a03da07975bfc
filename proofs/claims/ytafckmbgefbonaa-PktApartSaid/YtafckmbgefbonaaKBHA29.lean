/- B H A: contracts, part 29. Condition: as each says. -/
import Derived.Test.YtafckmbgefbonaaKBHA28
set_option linter.unusedVariables false
set_option linter.unusedSimpArgs false
namespace Go.Proofs.Ytafckmbgefbonaa.tc
open Go.RowKit Go.Shelf Go.Proofs.Ytafckmbgefbonaa.sm Go.Proofs.Ytafckmbgefbonaa.nb Go.Proofs.Ytafckmbgefbonaa.cm
set_option linter.unusedVariables false

theorem cloneC (s : ByteArray) (w : World) (hs : s.size ≤ 1099511627776) :
    Calls Try.prog 31 #[.string s] w fun e w' => e = .returned (.string s) ∧ Up w w' := by
  go_enter Try.func31, Try.ntmps31
  go_wp2_with fail
  refine (Any.stringslite_Clone Try.lClone s w (by omega)).mono ?_
  rintro e w1 ⟨rfl, hv⟩
  go_wp2
  go_ret
  exact ⟨rfl, hv⟩
set_option maxHeartbeats 4000000 in
set_option maxRecDepth 100000 in
theorem readC (s : ByteArray) (w : World) (hs : s.size ≤ 1099511627776) (h20 : 20 ≤ s.size) (N : Nat) (hN : hl (L s) = (N : Int)) (hN20 : 20 ≤ N) (hNs : N ≤ s.size) :
    Calls Try.prog 42 #[.string s] w fun e w' => e = .returned (TV (L s)) ∧ Up w w' := by
  have l13 : 13 < s.size := by omega
  have j13 : (13 : Int) < (s.size : Int) := by omega
  have e13 := bt_at s 13 l13
  have b13 := c_lt (s[13]'l13)
  have hTV : TV (L s) = HV (wd (L s) 0) (wd (L s) 2) (qd (L s) 4) (qd (L s) 8) ((s[13]'l13).toNat : Int) (wd (L s) 14) (wd (L s) 18) (s.extract 20 N) := by
    unfold TV; rw [hN, e13, Int.toNat_natCast, tx_extract]
  have HTV := Lib.hid hTV
  have i7 : (20 : Int) ≤ (N : Int) := by omega
  have i8 : (N : Int) ≤ (s.size : Int) := by omega
  have HT := Lib.hid h20
  have HS := Lib.hid hs
  have HN := Lib.hid hN
  have zE : (s.extract 20 N).size ≤ 1099511627776 := by simp; omega
  clear hTV h20 hs hN e13
  go_enter Try.func42, Try.ntmps42
  go_upto_region 1 with fail
  have hB := Box.new w #[.int .u16 0, .int .u16 0, .int .u32 0, .int .u32 0, .int .u8 0, .int .u16 0, .int .u16 0, .string { data := #[] }] 53
  have hu : Up w (w.alloc (.cells #[.int .u16 0, .int .u16 0, .int .u32 0, .int .u32 0, .int .u8 0, .int .u16 0, .int .u16 0, .string { data := #[] }] 53)) := up_al _ (Below.refl _ _)
  generalize (w.alloc (.cells #[.int .u16 0, .int .u16 0, .int .u32 0, .int .u32 0, .int .u8 0, .int .u16 0, .int .u16 0, .string { data := #[] }] 53)) = w0 at hB hu ⊢
  refine wp_region_rel4 20 (fun W => Up w0 W) (fun W W' => Up W W') (Ys [Det (.string s),
    Det (.int .u16 (wd (L s) 0)),
    Det (.string s),
    Det (.int .u16 (wd (L s) 2)),
    Det (.string s),
    Det (.int .u32 (qd (L s) 4)),
    Det (.string s),
    Det (.int .u32 (qd (L s) 8)),
    Det (.string s),
    Det (.int .u8 ((s[13]'l13).toNat : Int)),
    Det (.string s),
    Det (.int .u16 (wd (L s) 14)),
    Det (.string s),
    Det (.int .u16 (wd (L s) 18)),
    Det (.string s),
    Det (.string s),
    Det (.int .i64 N),
    Det (.string (s.extract 20 N)),
    Det (.string (s.extract 20 N)),
    Det (.agg #[.int .u16 (wd (L s) 0), .int .u16 (wd (L s) 2), .int .u32 (qd (L s) 4), .int .u32 (qd (L s) 8), .int .u8 ((s[13]'l13).toNat : Int), .int .u16 (wd (L s) 14), .int .u16 (wd (L s) 18), .string (s.extract 20 N)])]) (by kernel_rfl) (by kernel_rfl) (by kernel_rfl) (up_dr (Below.refl _ _)) (Stable.ys ⟨Det.st _, Det.st _, Det.st _, Det.st _, Det.st _, Det.st _, Det.st _, Det.st _, Det.st _, Det.st _, Det.st _, Det.st _, Det.st _, Det.st _, Det.st _, Det.st _, Det.st _, Det.st _, Det.st _, Det.st _, trivial⟩) ?_ ?_
  all_goals simp only [List.take_succ_cons, List.take_zero, List.drop_succ_cons, List.drop_zero]
  ·
    refine obligs_cons ?_ ?_
    · intro aa ww hC hdep hvar KK hK
      have d0 : aa.tmps.getD 0 undef = .string s := hvar 0 (slotOk_spec (by kernel_rfl))
      have d0_ := d0; rw [Array.getD_eq_getD_getElem?] at d0_
      clear hdep hvar
      (unfold opTo; go_simp; try simp only [opUpon])
      exact hK _ _ rfl hC (Below.refl _ _)
    refine obligs_cons ?_ ?_
    · intro aa ww hC hdep hvar KK hK
      have d3 : aa.tmps.getD 3 undef = .string s := dep_of hdep 0 3 (by kernel_rfl)
      have d3_ := d3; rw [Array.getD_eq_getD_getElem?] at d3_
      clear hdep hvar
      (unfold opTo; go_simp; try simp only [opUpon])
      exact (at16i s 0 _ HS.out (by have := HT.out; omega)).mono fun e w2 h => by obtain ⟨h1, rfl⟩ := h; exact ⟨_, h1, hK _ _ rfl hC (Below.refl _ _)⟩
    refine obligs_cons ?_ ?_
    · intro aa ww hC hdep hvar KK hK
      have d0 : aa.tmps.getD 0 undef = .string s := hvar 0 (slotOk_spec (by kernel_rfl))
      have d0_ := d0; rw [Array.getD_eq_getD_getElem?] at d0_
      clear hdep hvar
      (unfold opTo; go_simp; try simp only [opUpon])
      exact hK _ _ rfl hC (Below.refl _ _)
    refine obligs_cons ?_ ?_
    · intro aa ww hC hdep hvar KK hK
      have d5 : aa.tmps.getD 5 undef = .string s := dep_of hdep 2 5 (by kernel_rfl)
      have d5_ := d5; rw [Array.getD_eq_getD_getElem?] at d5_
      clear hdep hvar
      (unfold opTo; go_simp; try simp only [opUpon])
      exact (at16i s 2 _ HS.out (by have := HT.out; omega)).mono fun e w2 h => by obtain ⟨h1, rfl⟩ := h; exact ⟨_, h1, hK _ _ rfl hC (Below.refl _ _)⟩
    refine obligs_cons ?_ ?_
    · intro aa ww hC hdep hvar KK hK
      have d0 : aa.tmps.getD 0 undef = .string s := hvar 0 (slotOk_spec (by kernel_rfl))
      have d0_ := d0; rw [Array.getD_eq_getD_getElem?] at d0_
      clear hdep hvar
      (unfold opTo; go_simp; try simp only [opUpon])
      exact hK _ _ rfl hC (Below.refl _ _)
    refine obligs_cons ?_ ?_
    · intro aa ww hC hdep hvar KK hK
      have d7 : aa.tmps.getD 7 undef = .string s := dep_of hdep 4 7 (by kernel_rfl)
      have d7_ := d7; rw [Array.getD_eq_getD_getElem?] at d7_
      clear hdep hvar
      (unfold opTo; go_simp; try simp only [opUpon])
      exact (at32i s 4 _ HS.out (by have := HT.out; omega)).mono fun e w2 h => by obtain ⟨h1, rfl⟩ := h; exact ⟨_, h1, hK _ _ rfl hC (Below.refl _ _)⟩
    refine obligs_cons ?_ ?_
    · intro aa ww hC hdep hvar KK hK
      have d0 : aa.tmps.getD 0 undef = .string s := hvar 0 (slotOk_spec (by kernel_rfl))
      have d0_ := d0; rw [Array.getD_eq_getD_getElem?] at d0_
      clear hdep hvar
      (unfold opTo; go_simp; try simp only [opUpon])
      exact hK _ _ rfl hC (Below.refl _ _)
    refine obligs_cons ?_ ?_
    · intro aa ww hC hdep hvar KK hK
      have d9 : aa.tmps.getD 9 undef = .string s := dep_of hdep 6 9 (by kernel_rfl)
      have d9_ := d9; rw [Array.getD_eq_getD_getElem?] at d9_
      clear hdep hvar
      (unfold opTo; go_simp; try simp only [opUpon])
      exact (at32i s 8 _ HS.out (by have := HT.out; omega)).mono fun e w2 h => by obtain ⟨h1, rfl⟩ := h; exact ⟨_, h1, hK _ _ rfl hC (Below.refl _ _)⟩
    refine obligs_cons ?_ ?_
    · intro aa ww hC hdep hvar KK hK
      have d0 : aa.tmps.getD 0 undef = .string s := hvar 0 (slotOk_spec (by kernel_rfl))
      have d0_ := d0; rw [Array.getD_eq_getD_getElem?] at d0_
      clear hdep hvar
      (unfold opTo; go_simp; try simp only [opUpon])
      exact hK _ _ rfl hC (Below.refl _ _)
    refine obligs_cons ?_ ?_
    · intro aa ww hC hdep hvar KK hK
      have d11 : aa.tmps.getD 11 undef = .string s := dep_of hdep 8 11 (by kernel_rfl)
      have d11_ := d11; rw [Array.getD_eq_getD_getElem?] at d11_
      clear hdep hvar
      (unfold opTo; go_simp; try simp only [opUpon])
      exact hK _ _ rfl hC (Below.refl _ _)
    refine obligs_cons ?_ ?_
    · intro aa ww hC hdep hvar KK hK
      have d0 : aa.tmps.getD 0 undef = .string s := hvar 0 (slotOk_spec (by kernel_rfl))
      have d0_ := d0; rw [Array.getD_eq_getD_getElem?] at d0_
      clear hdep hvar
      (unfold opTo; go_simp; try simp only [opUpon])
      exact hK _ _ rfl hC (Below.refl _ _)
    refine obligs_cons ?_ ?_
    · intro aa ww hC hdep hvar KK hK
      have d13 : aa.tmps.getD 13 undef = .string s := dep_of hdep 10 13 (by kernel_rfl)
      have d13_ := d13; rw [Array.getD_eq_getD_getElem?] at d13_
      clear hdep hvar
      (unfold opTo; go_simp; try simp only [opUpon])
      exact (at16i s 14 _ HS.out (by have := HT.out; omega)).mono fun e w2 h => by obtain ⟨h1, rfl⟩ := h; exact ⟨_, h1, hK _ _ rfl hC (Below.refl _ _)⟩
    refine obligs_cons ?_ ?_
    · intro aa ww hC hdep hvar KK hK
      have d0 : aa.tmps.getD 0 undef = .string s := hvar 0 (slotOk_spec (by kernel_rfl))
      have d0_ := d0; rw [Array.getD_eq_getD_getElem?] at d0_
      clear hdep hvar
      (unfold opTo; go_simp; try simp only [opUpon])
      exact hK _ _ rfl hC (Below.refl _ _)
    refine obligs_cons ?_ ?_
    · intro aa ww hC hdep hvar KK hK
      have d15 : aa.tmps.getD 15 undef = .string s := dep_of hdep 12 15 (by kernel_rfl)
      have d15_ := d15; rw [Array.getD_eq_getD_getElem?] at d15_
      clear hdep hvar
      (unfold opTo; go_simp; try simp only [opUpon])
      exact (at16i s 18 _ HS.out (by have := HT.out; omega)).mono fun e w2 h => by obtain ⟨h1, rfl⟩ := h; exact ⟨_, h1, hK _ _ rfl hC (Below.refl _ _)⟩
    refine obligs_cons ?_ ?_
    · intro aa ww hC hdep hvar KK hK
      have d0 : aa.tmps.getD 0 undef = .string s := hvar 0 (slotOk_spec (by kernel_rfl))
      have d0_ := d0; rw [Array.getD_eq_getD_getElem?] at d0_
      clear hdep hvar
      (unfold opTo; go_simp; try simp only [opUpon])
      exact hK _ _ rfl hC (Below.refl _ _)
    refine obligs_cons ?_ ?_
    · intro aa ww hC hdep hvar KK hK
      have d0 : aa.tmps.getD 0 undef = .string s := hvar 0 (slotOk_spec (by kernel_rfl))
      have d0_ := d0; rw [Array.getD_eq_getD_getElem?] at d0_
      clear hdep hvar
      (unfold opTo; go_simp; try simp only [opUpon])
      exact hK _ _ rfl hC (Below.refl _ _)
    refine obligs_cons ?_ ?_
    · intro aa ww hC hdep hvar KK hK
      have d18 : aa.tmps.getD 18 undef = .string s := dep_of hdep 15 18 (by kernel_rfl)
      have d18_ := d18; rw [Array.getD_eq_getD_getElem?] at d18_
      clear hdep hvar
      (unfold opTo; go_simp; try simp only [opUpon])
      exact (start_at s _ HS.out (by have := HT.out; omega)).mono fun e w2 h => by obtain ⟨h1, rfl⟩ := h; exact ⟨_, h1, hK _ _ (show Value.int .i64 _ = Value.int .i64 _ by rw [HN.out]) hC (Below.refl _ _)⟩
    refine obligs_cons ?_ ?_
    · intro aa ww hC hdep hvar KK hK
      have d17 : aa.tmps.getD 17 undef = .string s := dep_of hdep 14 17 (by kernel_rfl)
      have d19 : aa.tmps.getD 19 undef = .int .i64 N := dep_of hdep 16 19 (by kernel_rfl)
      have d17_ := d17; rw [Array.getD_eq_getD_getElem?] at d17_
      have d19_ := d19; rw [Array.getD_eq_getD_getElem?] at d19_
      clear hdep hvar
      (unfold opTo; go_simp; try simp only [opUpon])
      exact hK _ _ rfl hC (Below.refl _ _)
    refine obligs_cons ?_ ?_
    · intro aa ww hC hdep hvar KK hK
      have d20 : aa.tmps.getD 20 undef = .string (s.extract 20 N) := dep_of hdep 17 20 (by kernel_rfl)
      have d20_ := d20; rw [Array.getD_eq_getD_getElem?] at d20_
      clear hdep hvar
      (unfold opTo; go_simp; try simp only [opUpon])
      exact (cloneC _ _ zE).mono fun e w2 h => ⟨_, h.1, hK _ _ rfl (Up.on hC h.2) h.2⟩
    refine obligs_cons ?_ ?_
    · intro aa ww hC hdep hvar KK hK
      have d4 : aa.tmps.getD 4 undef = .int .u16 (wd (L s) 0) := dep_of hdep 1 4 (by kernel_rfl)
      have d6 : aa.tmps.getD 6 undef = .int .u16 (wd (L s) 2) := dep_of hdep 3 6 (by kernel_rfl)
      have d8 : aa.tmps.getD 8 undef = .int .u32 (qd (L s) 4) := dep_of hdep 5 8 (by kernel_rfl)
      have d10 : aa.tmps.getD 10 undef = .int .u32 (qd (L s) 8) := dep_of hdep 7 10 (by kernel_rfl)
      have d12 : aa.tmps.getD 12 undef = .int .u8 ((s[13]'l13).toNat : Int) := dep_of hdep 9 12 (by kernel_rfl)
      have d14 : aa.tmps.getD 14 undef = .int .u16 (wd (L s) 14) := dep_of hdep 11 14 (by kernel_rfl)
      have d16 : aa.tmps.getD 16 undef = .int .u16 (wd (L s) 18) := dep_of hdep 13 16 (by kernel_rfl)
      have d21 : aa.tmps.getD 21 undef = .string (s.extract 20 N) := dep_of hdep 18 21 (by kernel_rfl)
      have d4_ := d4; rw [Array.getD_eq_getD_getElem?] at d4_
      have d6_ := d6; rw [Array.getD_eq_getD_getElem?] at d6_
      have d8_ := d8; rw [Array.getD_eq_getD_getElem?] at d8_
      have d10_ := d10; rw [Array.getD_eq_getD_getElem?] at d10_
      have d12_ := d12; rw [Array.getD_eq_getD_getElem?] at d12_
      have d14_ := d14; rw [Array.getD_eq_getD_getElem?] at d14_
      have d16_ := d16; rw [Array.getD_eq_getD_getElem?] at d16_
      have d21_ := d21; rw [Array.getD_eq_getD_getElem?] at d21_
      clear hdep hvar
      (unfold opTo; go_simp; try simp only [opUpon])
      exact hK _ _ rfl hC (Below.refl _ _)
    exact obligs_nil
  intro vals ww hC hY
  have e0 : vals 0 = .string s := hY 0 _ _ rfl rfl
  have e1 : vals 1 = .int .u16 (wd (L s) 0) := hY 1 _ _ rfl rfl
  have e2 : vals 2 = .string s := hY 2 _ _ rfl rfl
  have e3 : vals 3 = .int .u16 (wd (L s) 2) := hY 3 _ _ rfl rfl
  have e4 : vals 4 = .string s := hY 4 _ _ rfl rfl
  have e5 : vals 5 = .int .u32 (qd (L s) 4) := hY 5 _ _ rfl rfl
  have e6 : vals 6 = .string s := hY 6 _ _ rfl rfl
  have e7 : vals 7 = .int .u32 (qd (L s) 8) := hY 7 _ _ rfl rfl
  have e8 : vals 8 = .string s := hY 8 _ _ rfl rfl
  have e9 : vals 9 = .int .u8 ((s[13]'l13).toNat : Int) := hY 9 _ _ rfl rfl
  have e10 : vals 10 = .string s := hY 10 _ _ rfl rfl
  have e11 : vals 11 = .int .u16 (wd (L s) 14) := hY 11 _ _ rfl rfl
  have e12 : vals 12 = .string s := hY 12 _ _ rfl rfl
  have e13 : vals 13 = .int .u16 (wd (L s) 18) := hY 13 _ _ rfl rfl
  have e14 : vals 14 = .string s := hY 14 _ _ rfl rfl
  have e15 : vals 15 = .string s := hY 15 _ _ rfl rfl
  have e16 : vals 16 = .int .i64 N := hY 16 _ _ rfl rfl
  have e17 : vals 17 = .string (s.extract 20 N) := hY 17 _ _ rfl rfl
  have e18 : vals 18 = .string (s.extract 20 N) := hY 18 _ _ rfl rfl
  have e19 : vals 19 = .agg #[.int .u16 (wd (L s) 0), .int .u16 (wd (L s) 2), .int .u32 (qd (L s) 4), .int .u32 (qd (L s) 8), .int .u8 ((s[13]'l13).toNat : Int), .int .u16 (wd (L s) 14), .int .u16 (wd (L s) 18), .string (s.extract 20 N)] := hY 19 _ _ rfl rfl
  clear hY
  simp only [putAll, Act.put, List.setIfInBounds_toArray, List.set_cons_zero, List.set_cons_succ, e0, e1, e2, e3, e4, e5, e6, e7, e8, e9, e10, e11, e12, e13, e14, e15, e16, e17, e18, e19]
  clear e0 e1 e2 e3 e4 e5 e6 e7 e8 e9 e10 e11 e12 e13 e14 e15 e16 e17 e18 e19
  have hB2 := hB.up hC
  have hu2 := hu.on hC
  obtain ⟨k0, k1, k2, k3, k4, k5, k6, k7, f0, f1, f2, f3, f4, f5, f6, f7⟩ := Box.c8 hB2
  go_wp2_with fail
  have hB3 := put8 hB2 (.int .u16 (wd (L s) 0)) (.int .u16 (wd (L s) 2)) (.int .u32 (qd (L s) 4)) (.int .u32 (qd (L s) 8)) (.int .u8 ((s[13]'l13).toNat : Int)) (.int .u16 (wd (L s) 14)) (.int .u16 (wd (L s) 18)) (.string (s.extract 20 N))
  have hu3 := ups8 (b := w.heap.size) hu2 (Nat.le_refl _) (.int .u16 (wd (L s) 0)) (.int .u16 (wd (L s) 2)) (.int .u32 (qd (L s) 4)) (.int .u32 (qd (L s) 8)) (.int .u8 ((s[13]'l13).toNat : Int)) (.int .u16 (wd (L s) 14)) (.int .u16 (wd (L s) 18)) (.string (s.extract 20 N))
  generalize World.setCell _ ⟨w.heap.size, 7, none⟩ _ = W3 at hB3 hu3 ⊢
  clear k0 k1 k2 k3 k4 k5 k6 k7 f0 f1 f2 f3 f4 f5 f6 f7 hB2 hu2
  obtain ⟨k0, k1, k2, k3, k4, k5, k6, k7, f0, f1, f2, f3, f4, f5, f6, f7⟩ := Box.c8 hB3
  (try simp only [Exit.inBlock, Exit.then])
  refine bodyPost_ret (v := HV (wd (L s) 0) (wd (L s) 2) (qd (L s) 4) (qd (L s) 8) ((s[13]'l13).toNat : Int) (wd (L s) 14) (wd (L s) 18) (s.extract 20 N)) ?_ rfl ⟨?_, hu3⟩
  · rw [results_cell1 rfl]; go_simp
  · rw [HTV.out]
set_option maxHeartbeats 4000000 in
set_option maxRecDepth 100000 in
theorem encode0 (x y p q sq ak fl wi ur : Nat) (o d : ByteArray) (w : World) (hx : x ≤ 4294967295) (hy : y ≤ 4294967295) (h : Ok p q sq ak fl wi ur) (ho : o.size ≤ 1099511627776) (hd : d.size ≤ 1099511627776) (c : o.size % 4 ≠ 0) :
    Calls Try.prog 18 #[.int .u32 x, .int .u32 y, HV p q sq ak fl wi ur o, .string d] w fun e w' => e = .returned (EV x y p q sq ak fl wi ur o d) ∧ Up w w' := by
  have HE := Lib.hid (EV_arg (.inl c) : EV x y p q sq ak fl wi ur o d = _)
  have i1 : ¬ (o.size : Int) % 4 = 0 := by omega
  go_enter Try.func18, Try.ntmps18
  go_upto_region 1 with fail
  have hB := Box.new w #[.int .u16 p, .int .u16 q, .int .u32 sq, .int .u32 ak, .int .u8 fl, .int .u16 wi, .int .u16 ur, .string o] 53
  have hu : Up w (w.alloc (.cells #[.int .u16 p, .int .u16 q, .int .u32 sq, .int .u32 ak, .int .u8 fl, .int .u16 wi, .int .u16 ur, .string o] 53)) := up_al _ (Below.refl _ _)
  generalize (w.alloc (.cells #[.int .u16 p, .int .u16 q, .int .u32 sq, .int .u32 ak, .int .u8 fl, .int .u16 wi, .int .u16 ur, .string o] 53)) = w0 at hB hu ⊢
  obtain ⟨k0, k1, k2, k3, k4, k5, k6, k7⟩ := Box.e8 hB
  go_wp2_with fail
  go_ret2
  exact ⟨congrArg Ending.returned HE.out.symm, hu⟩
set_option maxHeartbeats 4000000 in
set_option maxRecDepth 100000 in
theorem encode1 (x y p q sq ak fl wi ur : Nat) (o d : ByteArray) (w : World) (hx : x ≤ 4294967295) (hy : y ≤ 4294967295) (h : Ok p q sq ak fl wi ur) (ho : o.size ≤ 1099511627776) (hd : d.size ≤ 1099511627776) (c0 : o.size % 4 = 0) (c : 40 < o.size) :
    Calls Try.prog 18 #[.int .u32 x, .int .u32 y, HV p q sq ak fl wi ur o, .string d] w fun e w' => e = .returned (EV x y p q sq ak fl wi ur o d) ∧ Up w w' := by
  have HE := Lib.hid (EV_arg (.inr (.inl c)) : EV x y p q sq ak fl wi ur o d = _)
  have i1 : (o.size : Int) % 4 = 0 := by omega
  have i2 : (40 : Int) < (o.size : Int) := by omega
  go_enter Try.func18, Try.ntmps18
  go_upto_region 1 with fail
  have hB := Box.new w #[.int .u16 p, .int .u16 q, .int .u32 sq, .int .u32 ak, .int .u8 fl, .int .u16 wi, .int .u16 ur, .string o] 53
  have hu : Up w (w.alloc (.cells #[.int .u16 p, .int .u16 q, .int .u32 sq, .int .u32 ak, .int .u8 fl, .int .u16 wi, .int .u16 ur, .string o] 53)) := up_al _ (Below.refl _ _)
  generalize (w.alloc (.cells #[.int .u16 p, .int .u16 q, .int .u32 sq, .int .u32 ak, .int .u8 fl, .int .u16 wi, .int .u16 ur, .string o] 53)) = w0 at hB hu ⊢
  obtain ⟨k0, k1, k2, k3, k4, k5, k6, k7⟩ := Box.e8 hB
  go_wp2_with fail
  go_ret2
  exact ⟨congrArg Ending.returned HE.out.symm, hu⟩
set_option maxHeartbeats 4000000 in
set_option maxRecDepth 100000 in
theorem encode2 (x y p q sq ak fl wi ur : Nat) (o d : ByteArray) (w : World) (hx : x ≤ 4294967295) (hy : y ≤ 4294967295) (h : Ok p q sq ak fl wi ur) (ho : o.size ≤ 1099511627776) (hd : d.size ≤ 1099511627776) (c0 : o.size % 4 = 0) (c1 : o.size ≤ 40) (c : 64 ≤ fl) :
    Calls Try.prog 18 #[.int .u32 x, .int .u32 y, HV p q sq ak fl wi ur o, .string d] w fun e w' => e = .returned (EV x y p q sq ak fl wi ur o d) ∧ Up w w' := by
  have HE := Lib.hid (EV_arg (.inr (.inr c)) : EV x y p q sq ak fl wi ur o d = _)
  have i1 : (o.size : Int) % 4 = 0 := by omega
  have i2 : ¬ (40 : Int) < (o.size : Int) := by omega
  have a13 := u8_and192 fl (by have := h.2.2.2.2.1; omega)
  have d13 : ¬ ((fl / 64 * 64 : Nat) : Int) = 0 := by omega
  go_enter Try.func18, Try.ntmps18
  go_upto_region 1 with fail
  have hB := Box.new w #[.int .u16 p, .int .u16 q, .int .u32 sq, .int .u32 ak, .int .u8 fl, .int .u16 wi, .int .u16 ur, .string o] 53
  have hu : Up w (w.alloc (.cells #[.int .u16 p, .int .u16 q, .int .u32 sq, .int .u32 ak, .int .u8 fl, .int .u16 wi, .int .u16 ur, .string o] 53)) := up_al _ (Below.refl _ _)
  generalize (w.alloc (.cells #[.int .u16 p, .int .u16 q, .int .u32 sq, .int .u32 ak, .int .u8 fl, .int .u16 wi, .int .u16 ur, .string o] 53)) = w0 at hB hu ⊢
  obtain ⟨k0, k1, k2, k3, k4, k5, k6, k7⟩ := Box.e8 hB
  go_wp2_with fail
  go_ret2
  exact ⟨congrArg Ending.returned HE.out.symm, hu⟩
set_option maxHeartbeats 4000000 in
set_option maxRecDepth 100000 in
theorem encode3 (x y p q sq ak fl wi ur : Nat) (o d : ByteArray) (w : World) (hx : x ≤ 4294967295) (hy : y ≤ 4294967295) (h : Ok p q sq ak fl wi ur) (ho : o.size ≤ 1099511627776) (hd : d.size ≤ 1099511627776) (c0 : o.size % 4 = 0) (c1 : o.size ≤ 40) (c2 : fl < 64) (c : 65515 < 20 + o.size + d.size) :
    Calls Try.prog 18 #[.int .u32 x, .int .u32 y, HV p q sq ak fl wi ur o, .string d] w fun e w' => e = .returned (EV x y p q sq ak fl wi ur o d) ∧ Up w w' := by
  have HE := Lib.hid (EV_long (by omega) c : EV x y p q sq ak fl wi ur o d = _)
  have i1 : (o.size : Int) % 4 = 0 := by omega
  have i2 : ¬ (40 : Int) < (o.size : Int) := by omega
  have a13 := u8_and192 fl (by have := h.2.2.2.2.1; omega)
  have d13 : ((fl / 64 * 64 : Nat) : Int) = 0 := by omega
  have i4 : 65495 - (o.size : Int) < (d.size : Int) := by omega
  go_enter Try.func18, Try.ntmps18
  go_upto_region 1 with fail
  have hB := Box.new w #[.int .u16 p, .int .u16 q, .int .u32 sq, .int .u32 ak, .int .u8 fl, .int .u16 wi, .int .u16 ur, .string o] 53
  have hu : Up w (w.alloc (.cells #[.int .u16 p, .int .u16 q, .int .u32 sq, .int .u32 ak, .int .u8 fl, .int .u16 wi, .int .u16 ur, .string o] 53)) := up_al _ (Below.refl _ _)
  generalize (w.alloc (.cells #[.int .u16 p, .int .u16 q, .int .u32 sq, .int .u32 ak, .int .u8 fl, .int .u16 wi, .int .u16 ur, .string o] 53)) = w0 at hB hu ⊢
  obtain ⟨k0, k1, k2, k3, k4, k5, k6, k7⟩ := Box.e8 hB
  go_wp2_with fail
  go_ret2
  exact ⟨congrArg Ending.returned HE.out.symm, hu⟩
theorem cat3 (a b c : ByteArray) : su.cat [a, b, c] = L a ++ (L b ++ L c) := by show L a ++ (L b ++ (L c ++ [])) = _; rw [List.append_nil]
theorem sum_three (x y b : Nat) (s t u : ByteArray) (w : World) (hx : x ≤ 4294967295) (hy : y ≤ 4294967295) (hz : s.size + t.size + u.size ≤ 65535) (h : Box w b [.string s, .string t, .string u]) :
    Calls Try.prog 35 #[.int .u32 x, .int .u32 y, .slice (some ⟨b, 0, none⟩) 3 3] w fun e w' => e = .returned (.int .u16 (ck (ts x y (L s ++ (L t ++ L u))))) ∧ Up w w' := by
  have hc := checksumC x y b 3 3 [s, t, u] rfl (by decide) (by rw [cat3, List.length_append, List.length_append, L_len, L_len, L_len]; omega) w hx hy h.1 (fun j hj => by match j, hj with | 0, _ => exact h.at 0 rfl | 1, _ => exact h.at 1 rfl | 2, _ => exact h.at 2 rfl)
  rw [cat3] at hc
  exact hc
set_option maxHeartbeats 4000000 in
set_option maxRecDepth 100000 in
theorem encode4 (x y p q sq ak fl wi ur : Nat) (o d : ByteArray) (w : World) (hx : x ≤ 4294967295) (hy : y ≤ 4294967295) (h : Ok p q sq ak fl wi ur) (ho : o.size ≤ 1099511627776) (hd : d.size ≤ 1099511627776) (c0 : o.size % 4 = 0) (c1 : o.size ≤ 40) (c2 : fl < 64) (c : ¬ 65515 < 20 + o.size + d.size) :
    Calls Try.prog 18 #[.int .u32 x, .int .u32 y, HV p q sq ak fl wi ur o, .string d] w fun e w' => e = .returned (EV x y p q sq ak fl wi ur o d) ∧ Up w w' := by
  have HE := Lib.hid (EV_ok (by omega) c : EV x y p q sq ak fl wi ur o d = _)
  have i1 : (o.size : Int) % 4 = 0 := by omega
  have i2 : ¬ (40 : Int) < (o.size : Int) := by omega
  have a13 := u8_and192 fl (by have := h.2.2.2.2.1; omega)
  have d13 : ((fl / 64 * 64 : Nat) : Int) = 0 := by omega
  have i4 : ¬ 65495 - (o.size : Int) < (d.size : Int) := by omega
  have hcs := cs_le x y p q sq ak fl wi ur (L o) (L d)
  obtain ⟨C, hC0⟩ : ∃ C, C = cs x y p q sq ak fl wi ur (L o) (L d) := ⟨_, rfl⟩
  rw [← hC0] at hcs
  obtain ⟨S0, hS0⟩ : ∃ S0, S0 = tx (hdb p q sq ak fl wi ur o.size 0) := ⟨_, rfl⟩
  obtain ⟨S1, hS1⟩ : ∃ S1, S1 = tx (hdb p q sq ak fl wi ur o.size C) := ⟨_, rfl⟩
  have z0 : S0.size = 20 := by rw [hS0, tx_size, hdb_len]
  have z1 : S1.size = 20 := by rw [hS1, tx_size, hdb_len]
  have HS : Hid ((C : Int) = ck (ts x y (L S0 ++ (L o ++ L d)))) := by
    unfold Hid
    rw [hC0, cs_int, hS0, L_tx, ← L_len o, hdb_rw]
  have HEN : Hid (S1 ++ o ++ d = tx (en x y p q sq ak fl wi ur (L o) (L d))) := by
    unfold Hid
    rw [hS1]
    conv => lhs; rw [← tx_L o, ← tx_L d]
    rw [tx_app, tx_app, List.append_assoc, tx_L, ← L_len o, hdb_rw, hC0]; rfl
  obtain ⟨A5, hA5⟩ : ∃ A : ByteArray, A = S1 ++ o := ⟨_, rfl⟩
  have zA5 : A5.size = 20 + o.size := by rw [hA5, ByteArray.size_append, z1]
  obtain ⟨A7, hA7⟩ : ∃ A : ByteArray, A = A5 ++ d := ⟨_, rfl⟩
  have HF : Hid (A7 = tx (en x y p q sq ak fl wi ur (L o) (L d))) := by unfold Hid; rw [hA7, hA5]; exact HEN.out
  have HS0 := Lib.hid hS0; have HS1 := Lib.hid hS1
  have HA5 := Lib.hid hA5; have HA7 := Lib.hid hA7
  clear hS0 hS1 hA5 hA7 hC0 HEN
  go_enter Try.func18, Try.ntmps18
  go_upto_region 1 with fail
  have hB := Box.new w #[.int .u16 p, .int .u16 q, .int .u32 sq, .int .u32 ak, .int .u8 fl, .int .u16 wi, .int .u16 ur, .string o] 53
  have hu : Up w (w.alloc (.cells #[.int .u16 p, .int .u16 q, .int .u32 sq, .int .u32 ak, .int .u8 fl, .int .u16 wi, .int .u16 ur, .string o] 53)) := up_al _ (Below.refl _ _)
  generalize (w.alloc (.cells #[.int .u16 p, .int .u16 q, .int .u32 sq, .int .u32 ak, .int .u8 fl, .int .u16 wi, .int .u16 ur, .string o] 53)) = w0 at hB hu ⊢
  obtain ⟨k0, k1, k2, k3, k4, k5, k6, k7⟩ := Box.e8 hB
  go_upto_region 5 with fail
  clear k0 k1 k2 k3 k4 k5 k6 k7
  refine wp_region_rel2 (fun W => Up w0 W) (fun W W' => Up W W') (Ys [Det (.int .u32 x),
      Det (.int .u32 y),
      Det (.agg #[.int .u16 p, .int .u16 q, .int .u32 sq, .int .u32 ak, .int .u8 fl, .int .u16 wi, .int .u16 ur, .string o]),
      Det (.string S0),
      Det (.pointer (some ⟨w.heap.size, 7, none⟩)),
      Det (.string o),
      Det (.string d),
      Fresh 3 [.string S0, .string o, .string d],
      Det (.int .u16 C),
      Det (.int .u16 C)]) (by kernel_rfl) (by kernel_rfl) (up_dr (Below.refl _ _)) (Stable.ys ⟨Det.st _, Det.st _, Det.st _, Det.st _, Det.st _, Det.st _, Det.st _, Fresh.st _ _, Det.st _, Det.st _, trivial⟩) ?_ ?_
  ·
    refine obligs_cons ?_ ?_
    · intro aa ww hC hdep hvar KK hK
      have d0 : aa.tmps.getD 0 undef = .int .u32 x := hvar 0 (slotOk_spec (by kernel_rfl))
      have d0_ := d0; rw [Array.getD_eq_getD_getElem?] at d0_
      clear hdep hvar
      simp (config := { decide := true }) [go_sem, opTo, opUpon, *]
      exact hK _ _ rfl hC (Below.refl _ _)
    refine obligs_cons ?_ ?_
    · intro aa ww hC hdep hvar KK hK
      have d1 : aa.tmps.getD 1 undef = .int .u32 y := hvar 1 (slotOk_spec (by kernel_rfl))
      have d1_ := d1; rw [Array.getD_eq_getD_getElem?] at d1_
      clear hdep hvar
      simp (config := { decide := true }) [go_sem, opTo, opUpon, *]
      exact hK _ _ rfl hC (Below.refl _ _)
    refine obligs_cons ?_ ?_
    · intro aa ww hC hdep hvar KK hK
      have d6 : aa.tmps.getD 6 undef = .pointer (some ⟨w.heap.size, 0, none⟩) := hvar 6 (slotOk_spec (by kernel_rfl))
      have d6_ := d6; rw [Array.getD_eq_getD_getElem?] at d6_
      clear hdep hvar
      have hb := hB.up hC
      have c0 := hb.at 0 rfl; have c1 := hb.at 1 rfl; have c2 := hb.at 2 rfl; have c3 := hb.at 3 rfl; have c4 := hb.at 4 rfl; have c5 := hb.at 5 rfl; have c6 := hb.at 6 rfl; have c7 := hb.at 7 rfl
      simp (config := { decide := true }) [go_sem, opTo, opUpon, *]
      exact hK _ _ rfl hC (Below.refl _ _)
    refine obligs_cons ?_ ?_
    · intro aa ww hC hdep hvar KK hK
      have d37 : aa.tmps.getD 37 undef = .agg #[.int .u16 p, .int .u16 q, .int .u32 sq, .int .u32 ak, .int .u8 fl, .int .u16 wi, .int .u16 ur, .string o] := dep_of hdep 2 37 (by kernel_rfl)
      have d37_ := d37; rw [Array.getD_eq_getD_getElem?] at d37_
      clear hdep hvar
      (unfold opTo; go_simp; try simp only [opUpon])
      exact (laidC p q sq ak fl wi ur 0 o _ h c0 c1 (by decide)).mono fun e w2 h => ⟨_, h.1, hK _ _ (show Value.string _ = Value.string _ by rw [HS0.out]) (Up.on hC h.2) h.2⟩
    refine obligs_cons ?_ ?_
    · intro aa ww hC hdep hvar KK hK
      have d6 : aa.tmps.getD 6 undef = .pointer (some ⟨w.heap.size, 0, none⟩) := hvar 6 (slotOk_spec (by kernel_rfl))
      have d6_ := d6; rw [Array.getD_eq_getD_getElem?] at d6_
      clear hdep hvar
      simp (config := { decide := true }) [go_sem, opTo, opUpon, *]
      exact hK _ _ rfl hC (Below.refl _ _)
    refine obligs_cons ?_ ?_
    · intro aa ww hC hdep hvar KK hK
      have d39 : aa.tmps.getD 39 undef = .pointer (some ⟨w.heap.size, 7, none⟩) := dep_of hdep 4 39 (by kernel_rfl)
      have d39_ := d39; rw [Array.getD_eq_getD_getElem?] at d39_
      clear hdep hvar
      have hb := hB.up hC
      have c7 := hb.at 7 rfl
      simp (config := { decide := true }) [go_sem, opTo, opUpon, *]
      exact hK _ _ rfl hC (Below.refl _ _)
    refine obligs_cons ?_ ?_
    · intro aa ww hC hdep hvar KK hK
      have d3 : aa.tmps.getD 3 undef = .string d := hvar 3 (slotOk_spec (by kernel_rfl))
      have d3_ := d3; rw [Array.getD_eq_getD_getElem?] at d3_
      clear hdep hvar
      simp (config := { decide := true }) [go_sem, opTo, opUpon, *]
      exact hK _ _ rfl hC (Below.refl _ _)
    refine obligs_cons ?_ ?_
    · intro aa ww hC hdep hvar KK hK
      have d38 : aa.tmps.getD 38 undef = .string S0 := dep_of hdep 3 38 (by kernel_rfl)
      have d40 : aa.tmps.getD 40 undef = .string o := dep_of hdep 5 40 (by kernel_rfl)
      have d41 : aa.tmps.getD 41 undef = .string d := dep_of hdep 6 41 (by kernel_rfl)
      have d38_ := d38; rw [Array.getD_eq_getD_getElem?] at d38_
      have d40_ := d40; rw [Array.getD_eq_getD_getElem?] at d40_
      have d41_ := d41; rw [Array.getD_eq_getD_getElem?] at d41_
      clear hdep hvar
      simp (config := { decide := true }) [go_sem, opTo, opUpon, *]
      exact hK _ _ ⟨_, rfl, Box.new _ _ _⟩ (up_al _ hC) (up_al _ (Below.refl _ _))
    refine obligs_cons ?_ ?_
    · intro aa ww hC hdep hvar KK hK
      have d35 : aa.tmps.getD 35 undef = .int .u32 x := dep_of hdep 0 35 (by kernel_rfl)
      have d36 : aa.tmps.getD 36 undef = .int .u32 y := dep_of hdep 1 36 (by kernel_rfl)
      obtain ⟨g, d42, hg⟩ : Fresh 3 [.string S0, .string o, .string d] (aa.tmps.getD 42 undef) ww := dep_of hdep 7 42 (by kernel_rfl)
      have d35_ := d35; rw [Array.getD_eq_getD_getElem?] at d35_
      have d36_ := d36; rw [Array.getD_eq_getD_getElem?] at d36_
      have d42_ := d42; rw [Array.getD_eq_getD_getElem?] at d42_
      clear hdep hvar
      (unfold opTo; go_simp; try simp only [opUpon])
      exact (sum_three x y _ S0 o d _ hx hy (by omega) hg).mono fun e w2 h => ⟨_, h.1, hK _ _ (show Value.int .u16 _ = Value.int .u16 _ by rw [HS.out]) (Up.on hC h.2) h.2⟩
    refine obligs_cons ?_ ?_
    · intro aa ww hC hdep hvar KK hK
      have d43 : aa.tmps.getD 43 undef = .int .u16 C := dep_of hdep 8 43 (by kernel_rfl)
      have d43_ := d43; rw [Array.getD_eq_getD_getElem?] at d43_
      clear hdep hvar
      simp (config := { decide := true }) [go_sem, opTo, opUpon, *]
      exact hK _ _ rfl hC (Below.refl _ _)
    exact obligs_nil
  intro vals ww hC hY
  have e0 : vals 0 = .int .u32 x := hY 0 _ _ rfl rfl
  have e1 : vals 1 = .int .u32 y := hY 1 _ _ rfl rfl
  have e2 : vals 2 = .agg #[.int .u16 p, .int .u16 q, .int .u32 sq, .int .u32 ak, .int .u8 fl, .int .u16 wi, .int .u16 ur, .string o] := hY 2 _ _ rfl rfl
  have e3 : vals 3 = .string S0 := hY 3 _ _ rfl rfl
  have e4 : vals 4 = .pointer (some ⟨w.heap.size, 7, none⟩) := hY 4 _ _ rfl rfl
  have e5 : vals 5 = .string o := hY 5 _ _ rfl rfl
  have e6 : vals 6 = .string d := hY 6 _ _ rfl rfl
  have e8 : vals 8 = .int .u16 C := hY 8 _ _ rfl rfl
  have e9 : vals 9 = .int .u16 C := hY 9 _ _ rfl rfl
  clear hY
  simp only [putAll, Act.put, List.setIfInBounds_toArray, List.set_cons_zero, List.set_cons_succ, e0, e1, e2, e3, e4, e5, e6, e8, e9]
  clear e0 e1 e2 e3 e4 e5 e6 e8 e9
  have hB2 := hB.up hC
  have hu2 := hu.on hC
  clear hB hu hC
  go_upto_region 6 with fail
  refine wp_region_rel2 (fun W => Up ww W) (fun W W' => Up W W') (Ys [Det (.agg #[.int .u16 p, .int .u16 q, .int .u32 sq, .int .u32 ak, .int .u8 fl, .int .u16 wi, .int .u16 ur, .string o]),
      Det (.int .u16 C),
      Det (.string S1),
      Det (.pointer (some ⟨w.heap.size, 7, none⟩)),
      Det (.string o),
      Det (.string A5),
      Det (.string d),
      Det (.string A7),
      Det (.string A7),
      Det (.int .i64 0)]) (by kernel_rfl) (by kernel_rfl) (up_dr (Below.refl _ _)) (Stable.ys ⟨Det.st _, Det.st _, Det.st _, Det.st _, Det.st _, Det.st _, Det.st _, Det.st _, Det.st _, Det.st _, trivial⟩) ?_ ?_
  ·
    refine obligs_cons ?_ ?_
    · intro aa ww hC hdep hvar KK hK
      have d6 : aa.tmps.getD 6 undef = .pointer (some ⟨w.heap.size, 0, none⟩) := hvar 6 (slotOk_spec (by kernel_rfl))
      have d6_ := d6; rw [Array.getD_eq_getD_getElem?] at d6_
      clear hdep hvar
      have hb := hB2.up hC
      have c0 := hb.at 0 rfl; have c1 := hb.at 1 rfl; have c2 := hb.at 2 rfl; have c3 := hb.at 3 rfl; have c4 := hb.at 4 rfl; have c5 := hb.at 5 rfl; have c6 := hb.at 6 rfl; have c7 := hb.at 7 rfl
      simp (config := { decide := true }) [go_sem, opTo, opUpon, *]
      exact hK _ _ rfl hC (Below.refl _ _)
    refine obligs_cons ?_ ?_
    · intro aa ww hC hdep hvar KK hK
      have d10 : aa.tmps.getD 10 undef = .int .u16 C := hvar 10 (slotOk_spec (by kernel_rfl))
      have d10_ := d10; rw [Array.getD_eq_getD_getElem?] at d10_
      clear hdep hvar
      simp (config := { decide := true }) [go_sem, opTo, opUpon, *]
      exact hK _ _ rfl hC (Below.refl _ _)
    refine obligs_cons ?_ ?_
    · intro aa ww hC hdep hvar KK hK
      have d44 : aa.tmps.getD 44 undef = .agg #[.int .u16 p, .int .u16 q, .int .u32 sq, .int .u32 ak, .int .u8 fl, .int .u16 wi, .int .u16 ur, .string o] := dep_of hdep 0 44 (by kernel_rfl)
      have d45 : aa.tmps.getD 45 undef = .int .u16 C := dep_of hdep 1 45 (by kernel_rfl)
      have d44_ := d44; rw [Array.getD_eq_getD_getElem?] at d44_
      have d45_ := d45; rw [Array.getD_eq_getD_getElem?] at d45_
      clear hdep hvar
      (unfold opTo; go_simp; try simp only [opUpon])
      exact (laidC p q sq ak fl wi ur C o _ h c0 c1 hcs).mono fun e w2 h => ⟨_, h.1, hK _ _ (show Value.string _ = Value.string _ by rw [HS1.out]) (Up.on hC h.2) h.2⟩
    refine obligs_cons ?_ ?_
    · intro aa ww hC hdep hvar KK hK
      have d6 : aa.tmps.getD 6 undef = .pointer (some ⟨w.heap.size, 0, none⟩) := hvar 6 (slotOk_spec (by kernel_rfl))
      have d6_ := d6; rw [Array.getD_eq_getD_getElem?] at d6_
      clear hdep hvar
      simp (config := { decide := true }) [go_sem, opTo, opUpon, *]
      exact hK _ _ rfl hC (Below.refl _ _)
    refine obligs_cons ?_ ?_
    · intro aa ww hC hdep hvar KK hK
      have d47 : aa.tmps.getD 47 undef = .pointer (some ⟨w.heap.size, 7, none⟩) := dep_of hdep 3 47 (by kernel_rfl)
      have d47_ := d47; rw [Array.getD_eq_getD_getElem?] at d47_
      clear hdep hvar
      have hb := hB2.up hC
      have c7 := hb.at 7 rfl
      simp (config := { decide := true }) [go_sem, opTo, opUpon, *]
      exact hK _ _ rfl hC (Below.refl _ _)
    refine obligs_cons ?_ ?_
    · intro aa ww hC hdep hvar KK hK
      have d46 : aa.tmps.getD 46 undef = .string S1 := dep_of hdep 2 46 (by kernel_rfl)
      have d48 : aa.tmps.getD 48 undef = .string o := dep_of hdep 4 48 (by kernel_rfl)
      have d46_ := d46; rw [Array.getD_eq_getD_getElem?] at d46_
      have d48_ := d48; rw [Array.getD_eq_getD_getElem?] at d48_
      clear hdep hvar
      have hno : ¬ 9223372036854775807 < 20 + o.size := by omega
      (unfold opTo; go_simp; try simp only [opUpon])
      rw [← HA5.out]
      exact hK _ _ rfl hC (Below.refl _ _)
    refine obligs_cons ?_ ?_
    · intro aa ww hC hdep hvar KK hK
      have d3 : aa.tmps.getD 3 undef = .string d := hvar 3 (slotOk_spec (by kernel_rfl))
      have d3_ := d3; rw [Array.getD_eq_getD_getElem?] at d3_
      clear hdep hvar
      simp (config := { decide := true }) [go_sem, opTo, opUpon, *]
      exact hK _ _ rfl hC (Below.refl _ _)
    refine obligs_cons ?_ ?_
    · intro aa ww hC hdep hvar KK hK
      have d49 : aa.tmps.getD 49 undef = .string A5 := dep_of hdep 5 49 (by kernel_rfl)
      have d50 : aa.tmps.getD 50 undef = .string d := dep_of hdep 6 50 (by kernel_rfl)
      have d49_ := d49; rw [Array.getD_eq_getD_getElem?] at d49_
      have d50_ := d50; rw [Array.getD_eq_getD_getElem?] at d50_
      clear hdep hvar
      have hno : ¬ 9223372036854775807 < 20 + o.size + d.size := by omega
      (unfold opTo; go_simp; try simp only [opUpon])
      rw [← HA7.out]
      exact hK _ _ rfl hC (Below.refl _ _)
    refine obligs_cons ?_ ?_
    · intro aa ww hC hdep hvar KK hK
      have d51 : aa.tmps.getD 51 undef = .string A7 := dep_of hdep 7 51 (by kernel_rfl)
      have d51_ := d51; rw [Array.getD_eq_getD_getElem?] at d51_
      clear hdep hvar
      simp (config := { decide := true }) [go_sem, opTo, opUpon, *]
      exact hK _ _ rfl hC (Below.refl _ _)
    refine obligs_cons ?_ ?_
    · intro aa ww hC hdep hvar KK hK
      clear hdep hvar
      simp (config := { decide := true }) [go_sem, opTo, opUpon, *]
      exact hK _ _ rfl hC (Below.refl _ _)
    exact obligs_nil
  intro vals ww hC hY
  have e0 : vals 0 = .agg #[.int .u16 p, .int .u16 q, .int .u32 sq, .int .u32 ak, .int .u8 fl, .int .u16 wi, .int .u16 ur, .string o] := hY 0 _ _ rfl rfl
  have e1 : vals 1 = .int .u16 C := hY 1 _ _ rfl rfl
  have e2 : vals 2 = .string S1 := hY 2 _ _ rfl rfl
  have e3 : vals 3 = .pointer (some ⟨w.heap.size, 7, none⟩) := hY 3 _ _ rfl rfl
  have e4 : vals 4 = .string o := hY 4 _ _ rfl rfl
  have e5 : vals 5 = .string A5 := hY 5 _ _ rfl rfl
  have e6 : vals 6 = .string d := hY 6 _ _ rfl rfl
  have e7 : vals 7 = .string A7 := hY 7 _ _ rfl rfl
  have e8 : vals 8 = .string A7 := hY 8 _ _ rfl rfl
  have e9 : vals 9 = .int .i64 0 := hY 9 _ _ rfl rfl
  clear hY
  simp only [putAll, Act.put, List.setIfInBounds_toArray, List.set_cons_zero, List.set_cons_succ, e0, e1, e2, e3, e4, e5, e6, e7, e8, e9]
  clear e0 e1 e2 e3 e4 e5 e6 e7 e8 e9
  go_wp2
  go_ret2
  exact ⟨by rw [HE.out, ← HF.out]; rfl, hu2.on hC⟩
theorem encodeC (x y p q sq ak fl wi ur : Nat) (o d : ByteArray) (w : World) (hx : x ≤ 4294967295) (hy : y ≤ 4294967295) (h : Ok p q sq ak fl wi ur) (ho : o.size ≤ 1099511627776) (hd : d.size ≤ 1099511627776) :
    Calls Try.prog 18 #[.int .u32 x, .int .u32 y, HV p q sq ak fl wi ur o, .string d] w fun e w' => e = .returned (EV x y p q sq ak fl wi ur o d) ∧ Up w w' := by
  by_cases c0 : o.size % 4 = 0
  case neg => exact encode0 x y p q sq ak fl wi ur o d w hx hy h ho hd c0
  by_cases c1 : o.size ≤ 40
  case neg => exact encode1 x y p q sq ak fl wi ur o d w hx hy h ho hd c0 (by omega)
  by_cases c2 : fl < 64
  case neg => exact encode2 x y p q sq ak fl wi ur o d w hx hy h ho hd c0 c1 (by omega)
  by_cases c : 65515 < 20 + o.size + d.size
  · exact encode3 x y p q sq ak fl wi ur o d w hx hy h ho hd c0 c1 c2 c
  · exact encode4 x y p q sq ak fl wi ur o d w hx hy h ho hd c0 c1 c2 c
end Go.Proofs.Ytafckmbgefbonaa.tc

namespace Go.Proofs.Ytafckmbgefbonaa.tc
open Go.RowKit Go.Shelf Go.Proofs.Ytafckmbgefbonaa.sm Go.Proofs.Ytafckmbgefbonaa.nb Go.Proofs.Ytafckmbgefbonaa.cm
set_option linter.unusedVariables false

set_option maxHeartbeats 4000000 in
set_option maxRecDepth 100000 in
theorem decode0 (x y : Nat) (s : ByteArray) (w : World) (hx : x ≤ 4294967295) (hy : y ≤ 4294967295) (hs : s.size ≤ 1099511627776) (n : Nat) (hn : dec x y (L s) = n) (h0 : n ≠ 0) :
    Calls Try.prog 21 #[.int .u32 x, .int .u32 y, .string s] w fun e w' => e = .returned (DV x y (L s)) ∧ Up w w' := by
  have HD := Lib.hid (DV_err hn h0)
  have HN := Lib.hid hn; clear hn
  have i0 : ¬ (n : Int) = 0 := by omega
  go_enter Try.func21, Try.ntmps21
  go_upto_region 1 with fail
  have hB := Box.new w #[.int .u16 0, .int .u16 0, .int .u32 0, .int .u32 0, .int .u8 0, .int .u16 0, .int .u16 0, .string { data := #[] }] 53
  have hu : Up w (w.alloc (.cells #[.int .u16 0, .int .u16 0, .int .u32 0, .int .u32 0, .int .u8 0, .int .u16 0, .int .u16 0, .string { data := #[] }] 53)) := up_al _ (Below.refl _ _)
  generalize (w.alloc (.cells #[.int .u16 0, .int .u16 0, .int .u32 0, .int .u32 0, .int .u8 0, .int .u16 0, .int .u16 0, .string { data := #[] }] 53)) = w0 at hB hu ⊢
  go_wp2_with fail
  refine (faultC x y s w0 hx hy hs).mono ?_
  rintro e w1 ⟨rfl, hv⟩
  rw [HN.out]
  have hB2 := hB.up hv
  have hu2 := hu.on hv
  clear hB hu hv
  obtain ⟨k0, k1, k2, k3, k4, k5, k6, k7, f0, f1, f2, f3, f4, f5, f6, f7⟩ := Box.c8 hB2
  go_wp2_with fail
  have hBB := put8 hB2 (.int .u16 0) (.int .u16 0) (.int .u32 0) (.int .u32 0) (.int .u8 0) (.int .u16 0) (.int .u16 0) (.string { data := #[] })
  have huu := ups8 (b := w.heap.size) hu2 (Nat.le_refl _) (.int .u16 0) (.int .u16 0) (.int .u32 0) (.int .u32 0) (.int .u8 0) (.int .u16 0) (.int .u16 0) (.string { data := #[] })
  generalize World.setCell _ ⟨w.heap.size, 7, none⟩ _ = W3 at hBB huu ⊢
  clear k0 k1 k2 k3 k4 k5 k6 k7 f0 f1 f2 f3 f4 f5 f6 f7 hB2 hu2
  obtain ⟨k0, k1, k2, k3, k4, k5, k6, k7, f0, f1, f2, f3, f4, f5, f6, f7⟩ := Box.c8 hBB
  (try simp only [Exit.inBlock, Exit.then])
  refine bodyPost_ret (v := .tuple #[HV 0 0 0 0 0 0 0 { data := #[] }, .string { data := #[] }, .int .i64 n]) ?_ rfl ⟨congrArg Ending.returned HD.out.symm, huu⟩
  rw [results_cell_tmp2 rfl]; go_simp
set_option maxHeartbeats 4000000 in
set_option maxRecDepth 100000 in
theorem decode1 (x y : Nat) (s : ByteArray) (w : World) (hx : x ≤ 4294967295) (hy : y ≤ 4294967295) (hs : s.size ≤ 1099511627776) (hn : dec x y (L s) = 0) :
    Calls Try.prog 21 #[.int .u32 x, .int .u32 y, .string s] w fun e w' => e = .returned (DV x y (L s)) ∧ Up w w' := by
  have HD := Lib.hid (DV_ok hn)
  obtain ⟨c0, c1, c2, c3, c4⟩ := dec_is0 hn
  have h20 : 20 ≤ s.size := by rw [L_len] at c0; omega
  obtain ⟨N, hN⟩ := Int.eq_ofNat_of_zero_le (show 0 ≤ hl (L s) by omega)
  rw [hN, L_len] at c3
  have hN20 : 20 ≤ N := by omega
  have hNs : N ≤ s.size := by omega
  have i8 : (N : Int) ≤ (s.size : Int) := by omega
  obtain ⟨X, hX⟩ : ∃ X, X = tx (((L s).drop 20).take ((hl (L s)).toNat - 20)) := ⟨_, rfl⟩
  have HTV : Hid (TV (L s) = HV (wd (L s) 0) (wd (L s) 2) (qd (L s) 4) (qd (L s) 8) (bt (L s) 13) (wd (L s) 14) (wd (L s) 18) X) := by unfold Hid TV; rw [hX]
  clear hX
  have hDT : tx ((L s).drop (hl (L s)).toNat) = s.extract N s.size := by
    rw [hN, Int.toNat_natCast, tx_extract, List.take_of_length_le (by rw [List.length_drop, L_len]; exact Nat.le_refl _)]
  have HDT := Lib.hid hDT; clear hDT
  have zE : (s.extract N s.size).size ≤ 1099511627776 := by simp; omega
  have HN := Lib.hid hN
  have HF := Lib.hid (fun w => readC s w hs h20 N hN hN20 hNs)
  have H0 := Lib.hid hn
  clear hN hn c0 c1 c2 c3 c4
  go_enter Try.func21, Try.ntmps21
  go_upto_region 1 with fail
  have hB := Box.new w #[.int .u16 0, .int .u16 0, .int .u32 0, .int .u32 0, .int .u8 0, .int .u16 0, .int .u16 0, .string { data := #[] }] 53
  have hu : Up w (w.alloc (.cells #[.int .u16 0, .int .u16 0, .int .u32 0, .int .u32 0, .int .u8 0, .int .u16 0, .int .u16 0, .string { data := #[] }] 53)) := up_al _ (Below.refl _ _)
  generalize (w.alloc (.cells #[.int .u16 0, .int .u16 0, .int .u32 0, .int .u32 0, .int .u8 0, .int .u16 0, .int .u16 0, .string { data := #[] }] 53)) = w0 at hB hu ⊢
  go_wp2_with fail
  refine (faultC x y s w0 hx hy hs).mono ?_
  rintro e w1 ⟨rfl, hv⟩
  rw [H0.out]
  have hB2 := hB.up hv
  have hu2 := hu.on hv
  clear hB hu hv
  go_wp2_with fail
  refine (HF.out _).mono ?_
  rintro e w2 ⟨rfl, hv⟩
  rw [HTV.out]
  have hB3 := hB2.up hv
  have hu3 := hu2.on hv
  clear hB2 hu2 hv
  go_wp2_with fail
  refine (start_at s _ hs (by omega)).mono ?_
  rintro e w3 ⟨rfl, rfl⟩
  rw [HN.out]
  go_wp2_with fail
  refine (cloneC _ _ zE).mono ?_
  rintro e w4 ⟨rfl, hv⟩
  have hB4 := hB3.up hv
  have hu4 := hu3.on hv
  clear hB3 hu3 hv
  obtain ⟨k0, k1, k2, k3, k4, k5, k6, k7, f0, f1, f2, f3, f4, f5, f6, f7⟩ := Box.c8 hB4
  go_wp2_with fail
  have hBB := put8 hB4 (.int .u16 (wd (L s) 0)) (.int .u16 (wd (L s) 2)) (.int .u32 (qd (L s) 4)) (.int .u32 (qd (L s) 8)) (.int .u8 (bt (L s) 13)) (.int .u16 (wd (L s) 14)) (.int .u16 (wd (L s) 18)) (.string X)
  have huu := ups8 (b := w.heap.size) hu4 (Nat.le_refl _) (.int .u16 (wd (L s) 0)) (.int .u16 (wd (L s) 2)) (.int .u32 (qd (L s) 4)) (.int .u32 (qd (L s) 8)) (.int .u8 (bt (L s) 13)) (.int .u16 (wd (L s) 14)) (.int .u16 (wd (L s) 18)) (.string X)
  generalize World.setCell _ ⟨w.heap.size, 7, none⟩ _ = W3 at hBB huu ⊢
  clear k0 k1 k2 k3 k4 k5 k6 k7 f0 f1 f2 f3 f4 f5 f6 f7 hB4 hu4
  obtain ⟨k0, k1, k2, k3, k4, k5, k6, k7, f0, f1, f2, f3, f4, f5, f6, f7⟩ := Box.c8 hBB
  (try simp only [Exit.inBlock, Exit.then])
  refine bodyPost_ret (v := .tuple #[HV (wd (L s) 0) (wd (L s) 2) (qd (L s) 4) (qd (L s) 8) (bt (L s) 13) (wd (L s) 14) (wd (L s) 18) X, .string (s.extract N s.size), .int .i64 0]) ?_ rfl ⟨?_, huu⟩
  · rw [results_cell_tmp2 rfl]; go_simp
  · rw [HD.out, HTV.out, HDT.out]
theorem decC : DecC := fun x y s w hx hy hs => by
  by_cases h : dec x y (L s) = 0
  · exact decode1 x y s w hx hy hs h
  · exact decode0 x y s w hx hy hs _ rfl h
end Go.Proofs.Ytafckmbgefbonaa.tc
