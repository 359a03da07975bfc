/- T R: contracts, part 4. Condition: as each says. -/
import Derived.Test.YtafckmbgefbonaaGreatVTR1
import Derived.Test.YtafckmbgefbonaaGreatVTRW26
set_option linter.unusedVariables false
set_option linter.unusedSimpArgs false
set_option maxRecDepth 100000
set_option maxHeartbeats 8000000
namespace Go.Proofs.YtafckmbgefbonaaGreat.tc
open RowKit Shelf sm nb cm

theorem far8 {W : World} {b c : Nat} {vs : List Value} (h : Box W b vs) (hc : c ≠ b) (y0 y1 y2 y3 y4 y5 y6 y7 : Value) : Box ((((((((W.setCell ⟨c, 0, none⟩ y0).setCell ⟨c, 1, none⟩ y1).setCell ⟨c, 2, none⟩ y2).setCell ⟨c, 3, none⟩ y3).setCell ⟨c, 4, none⟩ y4).setCell ⟨c, 5, none⟩ y5).setCell ⟨c, 6, none⟩ y6).setCell ⟨c, 7, none⟩ y7) b vs := (Box.far (Box.far (Box.far (Box.far (Box.far (Box.far (Box.far (Box.far h hc y0) hc y1) hc y2) hc y3) hc y4) hc y5) hc y6) hc y7)
theorem refDecode0 (x y : Nat) (s : ByteArray) (w : World) (hx : x ≤ 4294967295) (hy : y ≤ 4294967295) (hs : s.size ≤ 1099511627776) (c0 : (L s).length < 20) :
  Calls Tryz.prog 76 #[.int .u32 x, .int .u32 y, .string s] w fun e w' => e = .returned (DV x y (L s)) ∧ Up w w' := by
 have HD := Lib.hid (DV_err (dec_50 (x := x) (y := y) c0) (by decide))
 have i1 : (s.size : Int) < 20 := by rw [L_len] at c0; omega
 clear c0
 go_enter Tryz.func76, Tryz.ntmps76
 go_upto_region 1 with fail
 have hB := Box.new w #[.int .u16 0, .int .u16 0, .int .u32 0, .int .u32 0, .int .u8 0, .int .u16 0, .int .u16 0, .string { data := #[] }] 55
 have hu : Up w (w.alloc (.cells #[.int .u16 0, .int .u16 0, .int .u32 0, .int .u32 0, .int .u8 0, .int .u16 0, .int .u16 0, .string { data := #[] }] 55)) := up_al _ bR
 generalize (w.alloc (.cells #[.int .u16 0, .int .u16 0, .int .u32 0, .int .u32 0, .int .u8 0, .int .u16 0, .int .u16 0, .string { data := #[] }] 55)) = w0 at hB hu ⊢
 obtain ⟨k0, k1, k2, k3, k4, k5, k6, k7, f0, f1, f2, f3, f4, f5, f6, f7⟩ := Box.c8 hB
 go_wp2_with fail
 have hBB := put8 hB (.int .u16 0) (.int .u16 0) (.int .u32 0) (.int .u32 0) (.int .u8 0) (.int .u16 0) (.int .u16 0) (.string { data := #[] })
 have huu := ups8 (b := w.heap.size) hu (Nat.le_refl _) (.int .u16 0) (.int .u16 0) (.int .u32 0) (.int .u32 0) (.int .u8 0) (.int .u16 0) (.int .u16 0) (.string { data := #[] })
 generalize World.setCell _ ⟨w.heap.size, 7, none⟩ _ = W3 at hBB huu ⊢
 clear k0 k1 k2 k3 k4 k5 k6 k7 f0 f1 f2 f3 f4 f5 f6 f7 hB hu
 obtain ⟨k0, k1, k2, k3, k4, k5, k6, k7, f0, f1, f2, f3, f4, f5, f6, f7⟩ := Box.c8 hBB
 (try simp only [Exit.inBlock, Exit.then])
 refine bodyPost_ret (v := .tuple #[HV 0 0 0 0 0 0 0 { data := #[] }, .string { data := #[] }, .int .i64 50]) ?_ rfl ⟨congrArg Ending.returned HD.out.symm, huu⟩
 rw [results_cell_tmp2 rfl]; go_simp
theorem refDecode1 (x y : Nat) (s : ByteArray) (w : World) (hx : x ≤ 4294967295) (hy : y ≤ 4294967295) (hs : s.size ≤ 1099511627776) (c0 : ¬ ((L s).length < 20)) (c1 : 65515 < (L s).length) :
  Calls Tryz.prog 76 #[.int .u32 x, .int .u32 y, .string s] w fun e w' => e = .returned (DV x y (L s)) ∧ Up w w' := by
 have HD := Lib.hid (DV_err (dec_4 (x := x) (y := y) c0 c1) (by decide))
 have i1 : ¬ (s.size : Int) < 20 := by rw [L_len] at c0; omega
 have i2 : (65515 : Int) < (s.size : Int) := by rw [L_len] at c1; omega
 clear c0 c1
 go_enter Tryz.func76, Tryz.ntmps76
 go_upto_region 1 with fail
 have hB := Box.new w #[.int .u16 0, .int .u16 0, .int .u32 0, .int .u32 0, .int .u8 0, .int .u16 0, .int .u16 0, .string { data := #[] }] 55
 have hu : Up w (w.alloc (.cells #[.int .u16 0, .int .u16 0, .int .u32 0, .int .u32 0, .int .u8 0, .int .u16 0, .int .u16 0, .string { data := #[] }] 55)) := up_al _ bR
 generalize (w.alloc (.cells #[.int .u16 0, .int .u16 0, .int .u32 0, .int .u32 0, .int .u8 0, .int .u16 0, .int .u16 0, .string { data := #[] }] 55)) = w0 at hB hu ⊢
 obtain ⟨k0, k1, k2, k3, k4, k5, k6, k7, f0, f1, f2, f3, f4, f5, f6, f7⟩ := Box.c8 hB
 go_wp2_with fail
 have hBB := put8 hB (.int .u16 0) (.int .u16 0) (.int .u32 0) (.int .u32 0) (.int .u8 0) (.int .u16 0) (.int .u16 0) (.string { data := #[] })
 have huu := ups8 (b := w.heap.size) hu (Nat.le_refl _) (.int .u16 0) (.int .u16 0) (.int .u32 0) (.int .u32 0) (.int .u8 0) (.int .u16 0) (.int .u16 0) (.string { data := #[] })
 generalize World.setCell _ ⟨w.heap.size, 7, none⟩ _ = W3 at hBB huu ⊢
 clear k0 k1 k2 k3 k4 k5 k6 k7 f0 f1 f2 f3 f4 f5 f6 f7 hB hu
 obtain ⟨k0, k1, k2, k3, k4, k5, k6, k7, f0, f1, f2, f3, f4, f5, f6, f7⟩ := Box.c8 hBB
 (try simp only [Exit.inBlock, Exit.then])
 refine bodyPost_ret (v := .tuple #[HV 0 0 0 0 0 0 0 { data := #[] }, .string { data := #[] }, .int .i64 4]) ?_ rfl ⟨congrArg Ending.returned HD.out.symm, huu⟩
 rw [results_cell_tmp2 rfl]; go_simp
theorem refDecode2 (x y : Nat) (s : ByteArray) (w : World) (hx : x ≤ 4294967295) (hy : y ≤ 4294967295) (hs : s.size ≤ 1099511627776) (c0 : ¬ ((L s).length < 20)) (c1 : ¬ (65515 < (L s).length)) (c2 : ck (ts x y (L s)) ≠ 0) :
  Calls Tryz.prog 76 #[.int .u32 x, .int .u32 y, .string s] w fun e w' => e = .returned (DV x y (L s)) ∧ Up w w' := by
 have HD := Lib.hid (DV_err (dec_55 c0 c1 c2) (by decide))
 have h20 : 20 ≤ s.size := by rw [L_len] at c0; omega
 have hmx : s.size ≤ 65515 := by rw [L_len] at c1; omega
 have i1 : ¬ (s.size : Int) < 20 := by omega
 have i2 : ¬ (65515 : Int) < (s.size : Int) := by omega
 clear c0 c1
 go_enter Tryz.func76, Tryz.ntmps76
 go_upto_region 1 with fail
 have hB := Box.new w #[.int .u16 0, .int .u16 0, .int .u32 0, .int .u32 0, .int .u8 0, .int .u16 0, .int .u16 0, .string { data := #[] }] 55
 have hu : Up w (w.alloc (.cells #[.int .u16 0, .int .u16 0, .int .u32 0, .int .u32 0, .int .u8 0, .int .u16 0, .int .u16 0, .string { data := #[] }] 55)) := up_al _ bR
 generalize (w.alloc (.cells #[.int .u16 0, .int .u16 0, .int .u32 0, .int .u32 0, .int .u8 0, .int .u16 0, .int .u16 0, .string { data := #[] }] 55)) = w0 at hB hu ⊢
 obtain ⟨k0, k1, k2, k3, k4, k5, k6, k7, f0, f1, f2, f3, f4, f5, f6, f7⟩ := Box.c8 hB
 go_wp2_with fail
 refine (refSum x y s w0 hx hy (by omega)).mono ?_
 rintro e w1 ⟨rfl, hv1⟩
 have hB1 := hB.up hv1
 have hu1 := hu.on hv1
 clear k0 k1 k2 k3 k4 k5 k6 k7 f0 f1 f2 f3 f4 f5 f6 f7 hB hu hv1
 obtain ⟨k0, k1, k2, k3, k4, k5, k6, k7, f0, f1, f2, f3, f4, f5, f6, f7⟩ := Box.c8 hB1
 go_wp2_with fail
 have hBB := put8 hB1 (.int .u16 0) (.int .u16 0) (.int .u32 0) (.int .u32 0) (.int .u8 0) (.int .u16 0) (.int .u16 0) (.string { data := #[] })
 have huu := ups8 (b := w.heap.size) hu1 (Nat.le_refl _) (.int .u16 0) (.int .u16 0) (.int .u32 0) (.int .u32 0) (.int .u8 0) (.int .u16 0) (.int .u16 0) (.string { data := #[] })
 generalize World.setCell _ ⟨w.heap.size, 7, none⟩ _ = W3 at hBB huu ⊢
 clear k0 k1 k2 k3 k4 k5 k6 k7 f0 f1 f2 f3 f4 f5 f6 f7 hB1 hu1
 obtain ⟨k0, k1, k2, k3, k4, k5, k6, k7, f0, f1, f2, f3, f4, f5, f6, f7⟩ := Box.c8 hBB
 (try simp only [Exit.inBlock, Exit.then])
 refine bodyPost_ret (v := .tuple #[HV 0 0 0 0 0 0 0 { data := #[] }, .string { data := #[] }, .int .i64 55]) ?_ rfl ⟨congrArg Ending.returned HD.out.symm, huu⟩
 rw [results_cell_tmp2 rfl]; go_simp
theorem refDecode3a (x y : Nat) (s : ByteArray) (w : World) (hx : x ≤ 4294967295) (hy : y ≤ 4294967295) (hs : s.size ≤ 1099511627776) (c0 : ¬ ((L s).length < 20)) (c1 : ¬ (65515 < (L s).length)) (c2 : ¬ (ck (ts x y (L s)) ≠ 0)) (c : hl (L s) < 20) :
  Calls Tryz.prog 76 #[.int .u32 x, .int .u32 y, .string s] w fun e w' => e = .returned (DV x y (L s)) ∧ Up w w' := by
 have HD := Lib.hid (DV_err (dec_60 c0 c1 c2 (by omega)) (by decide))
 have h20 : 20 ≤ s.size := by rw [L_len] at c0; omega
 have hmx : s.size ≤ 65515 := by rw [L_len] at c1; omega
 have g2 : ck (ts x y (L s)) = 0 := Decidable.not_not.1 c2
 have l12 : 12 < s.size := by omega
 have j12 : (12 : Int) < (s.size : Int) := by omega
 have e12 := bt_at s 12 l12
 have b12 := c_lt (s[12]'l12)
 obtain ⟨N, hN⟩ : ∃ N : Nat, ((s[12]'l12).toNat : Int) / 16 * 4 = (N : Int) := ⟨(s[12]'l12).toNat / 16 * 4, by omega⟩
 have hHl : hl (L s) = (N : Int) := by unfold hl; rw [← e12]; exact hN
 have hN60 : N ≤ 60 := by omega
 have i3 : (N : Int) < 20 := by rw [← hHl]; exact c
 have i1 : ¬ (s.size : Int) < 20 := by omega
 have i2 : ¬ (65515 : Int) < (s.size : Int) := by omega
 clear c0 c1 c2 c hHl e12
 go_enter Tryz.func76, Tryz.ntmps76
 go_upto_region 1 with fail
 have hB := Box.new w #[.int .u16 0, .int .u16 0, .int .u32 0, .int .u32 0, .int .u8 0, .int .u16 0, .int .u16 0, .string { data := #[] }] 55
 have hu : Up w (w.alloc (.cells #[.int .u16 0, .int .u16 0, .int .u32 0, .int .u32 0, .int .u8 0, .int .u16 0, .int .u16 0, .string { data := #[] }] 55)) := up_al _ bR
 generalize (w.alloc (.cells #[.int .u16 0, .int .u16 0, .int .u32 0, .int .u32 0, .int .u8 0, .int .u16 0, .int .u16 0, .string { data := #[] }] 55)) = w0 at hB hu ⊢
 obtain ⟨k0, k1, k2, k3, k4, k5, k6, k7, f0, f1, f2, f3, f4, f5, f6, f7⟩ := Box.c8 hB
 go_wp2_with fail
 refine (refSum x y s w0 hx hy (by omega)).mono ?_
 rintro e w1 ⟨rfl, hv1⟩
 have hB1 := hB.up hv1
 have hu1 := hu.on hv1
 clear k0 k1 k2 k3 k4 k5 k6 k7 f0 f1 f2 f3 f4 f5 f6 f7 hB hu hv1
 obtain ⟨k0, k1, k2, k3, k4, k5, k6, k7, f0, f1, f2, f3, f4, f5, f6, f7⟩ := Box.c8 hB1
 go_wp2_with fail
 have hBB := put8 hB1 (.int .u16 0) (.int .u16 0) (.int .u32 0) (.int .u32 0) (.int .u8 0) (.int .u16 0) (.int .u16 0) (.string { data := #[] })
 have huu := ups8 (b := w.heap.size) hu1 (Nat.le_refl _) (.int .u16 0) (.int .u16 0) (.int .u32 0) (.int .u32 0) (.int .u8 0) (.int .u16 0) (.int .u16 0) (.string { data := #[] })
 generalize World.setCell _ ⟨w.heap.size, 7, none⟩ _ = W3 at hBB huu ⊢
 clear k0 k1 k2 k3 k4 k5 k6 k7 f0 f1 f2 f3 f4 f5 f6 f7 hB1 hu1
 obtain ⟨k0, k1, k2, k3, k4, k5, k6, k7, f0, f1, f2, f3, f4, f5, f6, f7⟩ := Box.c8 hBB
 (try simp only [Exit.inBlock, Exit.then])
 refine bodyPost_ret (v := .tuple #[HV 0 0 0 0 0 0 0 { data := #[] }, .string { data := #[] }, .int .i64 60]) ?_ rfl ⟨congrArg Ending.returned HD.out.symm, huu⟩
 rw [results_cell_tmp2 rfl]; go_simp
theorem refDecode3b (x y : Nat) (s : ByteArray) (w : World) (hx : x ≤ 4294967295) (hy : y ≤ 4294967295) (hs : s.size ≤ 1099511627776) (c0 : ¬ ((L s).length < 20)) (c1 : ¬ (65515 < (L s).length)) (c2 : ¬ (ck (ts x y (L s)) ≠ 0)) (c : ¬ hl (L s) < 20 ∧ ((L s).length : Int) < hl (L s)) :
  Calls Tryz.prog 76 #[.int .u32 x, .int .u32 y, .string s] w fun e w' => e = .returned (DV x y (L s)) ∧ Up w w' := by
 have HD := Lib.hid (DV_err (dec_60 c0 c1 c2 (by omega)) (by decide))
 have h20 : 20 ≤ s.size := by rw [L_len] at c0; omega
 have hmx : s.size ≤ 65515 := by rw [L_len] at c1; omega
 have g2 : ck (ts x y (L s)) = 0 := Decidable.not_not.1 c2
 have l12 : 12 < s.size := by omega
 have j12 : (12 : Int) < (s.size : Int) := by omega
 have e12 := bt_at s 12 l12
 have b12 := c_lt (s[12]'l12)
 obtain ⟨N, hN⟩ : ∃ N : Nat, ((s[12]'l12).toNat : Int) / 16 * 4 = (N : Int) := ⟨(s[12]'l12).toNat / 16 * 4, by omega⟩
 have hHl : hl (L s) = (N : Int) := by unfold hl; rw [← e12]; exact hN
 have hN60 : N ≤ 60 := by omega
 have i3 : ¬ (N : Int) < 20 := by rw [← hHl]; exact c.1
 have i4 : (s.size : Int) < (N : Int) := by rw [← hHl]; exact c.2
 have i1 : ¬ (s.size : Int) < 20 := by omega
 have i2 : ¬ (65515 : Int) < (s.size : Int) := by omega
 clear c0 c1 c2 c hHl e12
 go_enter Tryz.func76, Tryz.ntmps76
 go_upto_region 1 with fail
 have hB := Box.new w #[.int .u16 0, .int .u16 0, .int .u32 0, .int .u32 0, .int .u8 0, .int .u16 0, .int .u16 0, .string { data := #[] }] 55
 have hu : Up w (w.alloc (.cells #[.int .u16 0, .int .u16 0, .int .u32 0, .int .u32 0, .int .u8 0, .int .u16 0, .int .u16 0, .string { data := #[] }] 55)) := up_al _ bR
 generalize (w.alloc (.cells #[.int .u16 0, .int .u16 0, .int .u32 0, .int .u32 0, .int .u8 0, .int .u16 0, .int .u16 0, .string { data := #[] }] 55)) = w0 at hB hu ⊢
 obtain ⟨k0, k1, k2, k3, k4, k5, k6, k7, f0, f1, f2, f3, f4, f5, f6, f7⟩ := Box.c8 hB
 go_wp2_with fail
 refine (refSum x y s w0 hx hy (by omega)).mono ?_
 rintro e w1 ⟨rfl, hv1⟩
 have hB1 := hB.up hv1
 have hu1 := hu.on hv1
 clear k0 k1 k2 k3 k4 k5 k6 k7 f0 f1 f2 f3 f4 f5 f6 f7 hB hu hv1
 obtain ⟨k0, k1, k2, k3, k4, k5, k6, k7, f0, f1, f2, f3, f4, f5, f6, f7⟩ := Box.c8 hB1
 go_wp2_with fail
 have hBB := put8 hB1 (.int .u16 0) (.int .u16 0) (.int .u32 0) (.int .u32 0) (.int .u8 0) (.int .u16 0) (.int .u16 0) (.string { data := #[] })
 have huu := ups8 (b := w.heap.size) hu1 (Nat.le_refl _) (.int .u16 0) (.int .u16 0) (.int .u32 0) (.int .u32 0) (.int .u8 0) (.int .u16 0) (.int .u16 0) (.string { data := #[] })
 generalize World.setCell _ ⟨w.heap.size, 7, none⟩ _ = W3 at hBB huu ⊢
 clear k0 k1 k2 k3 k4 k5 k6 k7 f0 f1 f2 f3 f4 f5 f6 f7 hB1 hu1
 obtain ⟨k0, k1, k2, k3, k4, k5, k6, k7, f0, f1, f2, f3, f4, f5, f6, f7⟩ := Box.c8 hBB
 (try simp only [Exit.inBlock, Exit.then])
 refine bodyPost_ret (v := .tuple #[HV 0 0 0 0 0 0 0 { data := #[] }, .string { data := #[] }, .int .i64 60]) ?_ rfl ⟨congrArg Ending.returned HD.out.symm, huu⟩
 rw [results_cell_tmp2 rfl]; go_simp
theorem refDecode4a (x y : Nat) (s : ByteArray) (w : World) (hx : x ≤ 4294967295) (hy : y ≤ 4294967295) (hs : s.size ≤ 1099511627776) (c0 : ¬ ((L s).length < 20)) (c1 : ¬ (65515 < (L s).length)) (c2 : ¬ (ck (ts x y (L s)) ≠ 0)) (c3 : ¬ (hl (L s) < 20 ∨ ((L s).length : Int) < hl (L s))) (c : bt (L s) 12 % 16 ≠ 0) :
  Calls Tryz.prog 76 #[.int .u32 x, .int .u32 y, .string s] w fun e w' => e = .returned (DV x y (L s)) ∧ Up w w' := by
 have HD := Lib.hid (DV_err (dec_61 c0 c1 c2 c3 (by omega)) (by decide))
 have h20 : 20 ≤ s.size := by rw [L_len] at c0; omega
 have hmx : s.size ≤ 65515 := by rw [L_len] at c1; omega
 have g2 : ck (ts x y (L s)) = 0 := Decidable.not_not.1 c2
 have l12 : 12 < s.size := by omega
 have j12 : (12 : Int) < (s.size : Int) := by omega
 have e12 := bt_at s 12 l12
 have b12 := c_lt (s[12]'l12)
 obtain ⟨N, hN⟩ : ∃ N : Nat, ((s[12]'l12).toNat : Int) / 16 * 4 = (N : Int) := ⟨(s[12]'l12).toNat / 16 * 4, by omega⟩
 have hHl : hl (L s) = (N : Int) := by unfold hl; rw [← e12]; exact hN
 have hN60 : N ≤ 60 := by omega
 have l13 : 13 < s.size := by omega
 have j13 : (13 : Int) < (s.size : Int) := by omega
 have e13 := bt_at s 13 l13
 have b13 := c_lt (s[13]'l13)
 have i3 : ¬ (N : Int) < 20 := by rw [← hHl]; omega
 have i4 : ¬ (s.size : Int) < (N : Int) := by rw [← hHl]; rw [L_len] at c3; omega
 have i5 : ¬ ((s[12]'l12).toNat : Int) % 16 = 0 := by rw [e12]; exact c
 have i1 : ¬ (s.size : Int) < 20 := by omega
 have i2 : ¬ (65515 : Int) < (s.size : Int) := by omega
 clear c0 c1 c2 c3 c hHl e12 e13
 go_enter Tryz.func76, Tryz.ntmps76
 go_upto_region 1 with fail
 have hB := Box.new w #[.int .u16 0, .int .u16 0, .int .u32 0, .int .u32 0, .int .u8 0, .int .u16 0, .int .u16 0, .string { data := #[] }] 55
 have hu : Up w (w.alloc (.cells #[.int .u16 0, .int .u16 0, .int .u32 0, .int .u32 0, .int .u8 0, .int .u16 0, .int .u16 0, .string { data := #[] }] 55)) := up_al _ bR
 generalize (w.alloc (.cells #[.int .u16 0, .int .u16 0, .int .u32 0, .int .u32 0, .int .u8 0, .int .u16 0, .int .u16 0, .string { data := #[] }] 55)) = w0 at hB hu ⊢
 obtain ⟨k0, k1, k2, k3, k4, k5, k6, k7, f0, f1, f2, f3, f4, f5, f6, f7⟩ := Box.c8 hB
 go_wp2_with fail
 refine (refSum x y s w0 hx hy (by omega)).mono ?_
 rintro e w1 ⟨rfl, hv1⟩
 have hB1 := hB.up hv1
 have hu1 := hu.on hv1
 clear k0 k1 k2 k3 k4 k5 k6 k7 f0 f1 f2 f3 f4 f5 f6 f7 hB hu hv1
 obtain ⟨k0, k1, k2, k3, k4, k5, k6, k7, f0, f1, f2, f3, f4, f5, f6, f7⟩ := Box.c8 hB1
 go_wp2_with fail
 have hBB := put8 hB1 (.int .u16 0) (.int .u16 0) (.int .u32 0) (.int .u32 0) (.int .u8 0) (.int .u16 0) (.int .u16 0) (.string { data := #[] })
 have huu := ups8 (b := w.heap.size) hu1 (Nat.le_refl _) (.int .u16 0) (.int .u16 0) (.int .u32 0) (.int .u32 0) (.int .u8 0) (.int .u16 0) (.int .u16 0) (.string { data := #[] })
 generalize World.setCell _ ⟨w.heap.size, 7, none⟩ _ = W3 at hBB huu ⊢
 clear k0 k1 k2 k3 k4 k5 k6 k7 f0 f1 f2 f3 f4 f5 f6 f7 hB1 hu1
 obtain ⟨k0, k1, k2, k3, k4, k5, k6, k7, f0, f1, f2, f3, f4, f5, f6, f7⟩ := Box.c8 hBB
 (try simp only [Exit.inBlock, Exit.then])
 refine bodyPost_ret (v := .tuple #[HV 0 0 0 0 0 0 0 { data := #[] }, .string { data := #[] }, .int .i64 61]) ?_ rfl ⟨congrArg Ending.returned HD.out.symm, huu⟩
 rw [results_cell_tmp2 rfl]; go_simp
theorem refDecode4b (x y : Nat) (s : ByteArray) (w : World) (hx : x ≤ 4294967295) (hy : y ≤ 4294967295) (hs : s.size ≤ 1099511627776) (c0 : ¬ ((L s).length < 20)) (c1 : ¬ (65515 < (L s).length)) (c2 : ¬ (ck (ts x y (L s)) ≠ 0)) (c3 : ¬ (hl (L s) < 20 ∨ ((L s).length : Int) < hl (L s))) (c : bt (L s) 12 % 16 = 0 ∧ 64 ≤ bt (L s) 13) :
  Calls Tryz.prog 76 #[.int .u32 x, .int .u32 y, .string s] w fun e w' => e = .returned (DV x y (L s)) ∧ Up w w' := by
 have HD := Lib.hid (DV_err (dec_61 c0 c1 c2 c3 (by omega)) (by decide))
 have h20 : 20 ≤ s.size := by rw [L_len] at c0; omega
 have hmx : s.size ≤ 65515 := by rw [L_len] at c1; omega
 have g2 : ck (ts x y (L s)) = 0 := Decidable.not_not.1 c2
 have l12 : 12 < s.size := by omega
 have j12 : (12 : Int) < (s.size : Int) := by omega
 have e12 := bt_at s 12 l12
 have b12 := c_lt (s[12]'l12)
 obtain ⟨N, hN⟩ : ∃ N : Nat, ((s[12]'l12).toNat : Int) / 16 * 4 = (N : Int) := ⟨(s[12]'l12).toNat / 16 * 4, by omega⟩
 have hHl : hl (L s) = (N : Int) := by unfold hl; rw [← e12]; exact hN
 have hN60 : N ≤ 60 := by omega
 have l13 : 13 < s.size := by omega
 have j13 : (13 : Int) < (s.size : Int) := by omega
 have e13 := bt_at s 13 l13
 have b13 := c_lt (s[13]'l13)
 have i3 : ¬ (N : Int) < 20 := by rw [← hHl]; omega
 have i4 : ¬ (s.size : Int) < (N : Int) := by rw [← hHl]; rw [L_len] at c3; omega
 have i5 : ((s[12]'l12).toNat : Int) % 16 = 0 := by rw [e12]; exact c.1
 have i6 : (64 : Int) ≤ ((s[13]'l13).toNat : Int) := by rw [e13]; exact c.2
 have i1 : ¬ (s.size : Int) < 20 := by omega
 have i2 : ¬ (65515 : Int) < (s.size : Int) := by omega
 clear c0 c1 c2 c3 c hHl e12 e13
 go_enter Tryz.func76, Tryz.ntmps76
 go_upto_region 1 with fail
 have hB := Box.new w #[.int .u16 0, .int .u16 0, .int .u32 0, .int .u32 0, .int .u8 0, .int .u16 0, .int .u16 0, .string { data := #[] }] 55
 have hu : Up w (w.alloc (.cells #[.int .u16 0, .int .u16 0, .int .u32 0, .int .u32 0, .int .u8 0, .int .u16 0, .int .u16 0, .string { data := #[] }] 55)) := up_al _ bR
 generalize (w.alloc (.cells #[.int .u16 0, .int .u16 0, .int .u32 0, .int .u32 0, .int .u8 0, .int .u16 0, .int .u16 0, .string { data := #[] }] 55)) = w0 at hB hu ⊢
 obtain ⟨k0, k1, k2, k3, k4, k5, k6, k7, f0, f1, f2, f3, f4, f5, f6, f7⟩ := Box.c8 hB
 go_wp2_with fail
 refine (refSum x y s w0 hx hy (by omega)).mono ?_
 rintro e w1 ⟨rfl, hv1⟩
 have hB1 := hB.up hv1
 have hu1 := hu.on hv1
 clear k0 k1 k2 k3 k4 k5 k6 k7 f0 f1 f2 f3 f4 f5 f6 f7 hB hu hv1
 obtain ⟨k0, k1, k2, k3, k4, k5, k6, k7, f0, f1, f2, f3, f4, f5, f6, f7⟩ := Box.c8 hB1
 go_wp2_with fail
 have hBB := put8 hB1 (.int .u16 0) (.int .u16 0) (.int .u32 0) (.int .u32 0) (.int .u8 0) (.int .u16 0) (.int .u16 0) (.string { data := #[] })
 have huu := ups8 (b := w.heap.size) hu1 (Nat.le_refl _) (.int .u16 0) (.int .u16 0) (.int .u32 0) (.int .u32 0) (.int .u8 0) (.int .u16 0) (.int .u16 0) (.string { data := #[] })
 generalize World.setCell _ ⟨w.heap.size, 7, none⟩ _ = W3 at hBB huu ⊢
 clear k0 k1 k2 k3 k4 k5 k6 k7 f0 f1 f2 f3 f4 f5 f6 f7 hB1 hu1
 obtain ⟨k0, k1, k2, k3, k4, k5, k6, k7, f0, f1, f2, f3, f4, f5, f6, f7⟩ := Box.c8 hBB
 (try simp only [Exit.inBlock, Exit.then])
 refine bodyPost_ret (v := .tuple #[HV 0 0 0 0 0 0 0 { data := #[] }, .string { data := #[] }, .int .i64 61]) ?_ rfl ⟨congrArg Ending.returned HD.out.symm, huu⟩
 rw [results_cell_tmp2 rfl]; go_simp
theorem refDecode5 (x y : Nat) (s : ByteArray) (w : World) (hx : x ≤ 4294967295) (hy : y ≤ 4294967295) (hs : s.size ≤ 1099511627776) (c0 : ¬ ((L s).length < 20)) (c1 : ¬ (65515 < (L s).length)) (c2 : ¬ (ck (ts x y (L s)) ≠ 0)) (c3 : ¬ (hl (L s) < 20 ∨ ((L s).length : Int) < hl (L s))) (c4 : ¬ (bt (L s) 12 % 16 ≠ 0 ∨ 64 ≤ bt (L s) 13)) :
  Calls Tryz.prog 76 #[.int .u32 x, .int .u32 y, .string s] w fun e w' => e = .returned (DV x y (L s)) ∧ Up w w' := by
 have HD := Lib.hid (DV_ok (dec_0 c0 c1 c2 c3 c4))
 have h20 : 20 ≤ s.size := by rw [L_len] at c0; omega
 have hmx : s.size ≤ 65515 := by rw [L_len] at c1; omega
 have g2 : ck (ts x y (L s)) = 0 := Decidable.not_not.1 c2
 have l12 : 12 < s.size := by omega
 have j12 : (12 : Int) < (s.size : Int) := by omega
 have e12 := bt_at s 12 l12
 have b12 := c_lt (s[12]'l12)
 obtain ⟨N, hN⟩ : ∃ N : Nat, ((s[12]'l12).toNat : Int) / 16 * 4 = (N : Int) := ⟨(s[12]'l12).toNat / 16 * 4, by omega⟩
 have hHl : hl (L s) = (N : Int) := by unfold hl; rw [← e12]; exact hN
 have hN60 : N ≤ 60 := by omega
 have l13 : 13 < s.size := by omega
 have j13 : (13 : Int) < (s.size : Int) := by omega
 have e13 := bt_at s 13 l13
 have b13 := c_lt (s[13]'l13)
 have i3 : ¬ (N : Int) < 20 := by rw [← hHl]; omega
 have i4 : ¬ (s.size : Int) < (N : Int) := by rw [← hHl]; rw [L_len] at c3; omega
 have i5 : ((s[12]'l12).toNat : Int) % 16 = 0 := by rw [e12]; omega
 have i6 : ¬ (64 : Int) ≤ ((s[13]'l13).toNat : Int) := by rw [e13]; omega
 have i1 : ¬ (s.size : Int) < 20 := by omega
 have i2 : ¬ (65515 : Int) < (s.size : Int) := by omega
 have i7 : (20 : Int) ≤ (N : Int) := by omega
 have i8 : (N : Int) ≤ (s.size : Int) := by omega
 have hTV : TV (L s) = HV (wd (L s) 0) (wd (L s) 2) (qd (L s) 4) (qd (L s) 8) ((s[13]'l13).toNat : Int) (wd (L s) 14) (wd (L s) 18) (s.extract 20 N) := by
  unfold TV; rw [hHl, e13, Int.toNat_natCast, tx_extract]
 have hDT : tx ((L s).drop (hl (L s)).toNat) = s.extract N s.size := by
  rw [hHl, Int.toNat_natCast, tx_extract, List.take_of_length_le (by rw [List.length_drop, L_len]; exact Nat.le_refl _)]
 have HTV := Lib.hid hTV; have HDT := Lib.hid hDT
 have HT := Lib.hid h20
 have p2 : (2 : Int) ≤ (s.size : Int) := by omega
 have p4 : (4 : Int) ≤ (s.size : Int) := by omega
 have p8 : (8 : Int) ≤ (s.size : Int) := by omega
 have p12 : (12 : Int) ≤ (s.size : Int) := by omega
 have p14 : (14 : Int) ≤ (s.size : Int) := by omega
 have p16 : (16 : Int) ≤ (s.size : Int) := by omega
 have p18 : (18 : Int) ≤ (s.size : Int) := by omega
 have p20 : (20 : Int) ≤ (s.size : Int) := by omega
 have y0 : IntKind.u16.wrap (wd (L s) 0) = wd (L s) 0 := by rw [IntKind.wrap_u16]; have := wd_bd (L s) 0; omega
 have y2 : IntKind.u16.wrap (wd (L s) 2) = wd (L s) 2 := by rw [IntKind.wrap_u16]; have := wd_bd (L s) 2; omega
 have y14 : IntKind.u16.wrap (wd (L s) 14) = wd (L s) 14 := by rw [IntKind.wrap_u16]; have := wd_bd (L s) 14; omega
 have y18 : IntKind.u16.wrap (wd (L s) 18) = wd (L s) 18 := by rw [IntKind.wrap_u16]; have := wd_bd (L s) 18; omega
 clear c0 c1 c2 c3 c4 hHl e12 e13 hTV hDT
 go_enter Tryz.func76, Tryz.ntmps76
 go_upto_region 1 with fail
 have hB := Box.new w #[.int .u16 0, .int .u16 0, .int .u32 0, .int .u32 0, .int .u8 0, .int .u16 0, .int .u16 0, .string { data := #[] }] 55
 have hu : Up w (w.alloc (.cells #[.int .u16 0, .int .u16 0, .int .u32 0, .int .u32 0, .int .u8 0, .int .u16 0, .int .u16 0, .string { data := #[] }] 55)) := up_al _ bR
 generalize (w.alloc (.cells #[.int .u16 0, .int .u16 0, .int .u32 0, .int .u32 0, .int .u8 0, .int .u16 0, .int .u16 0, .string { data := #[] }] 55)) = w0 at hB hu ⊢
 obtain ⟨k0, k1, k2, k3, k4, k5, k6, k7, f0, f1, f2, f3, f4, f5, f6, f7⟩ := Box.c8 hB
 go_wp2_with fail
 refine (refSum x y s w0 hx hy (by omega)).mono ?_
 rintro e w1 ⟨rfl, hv1⟩
 have hB1 := hB.up hv1
 have hu1 := hu.on hv1
 clear k0 k1 k2 k3 k4 k5 k6 k7 f0 f1 f2 f3 f4 f5 f6 f7 hB hu hv1
 obtain ⟨k0, k1, k2, k3, k4, k5, k6, k7, f0, f1, f2, f3, f4, f5, f6, f7⟩ := Box.c8 hB1
 go_upto_region 12 with fail
 clear k0 k1 k2 k3 k4 k5 k6 k7 f0 f1 f2 f3 f4 f5 f6 f7
 refine wp_region_rel4 18 (fun W => Up w1 W) (fun W W' => Up W W') (Ys [Det (.string s),
   Det (.string (s.extract 0 2)),
   Det (.int .u32 (wd (L s) 0)),
   Det (.int .u16 (wd (L s) 0)),
   Det (.string s),
   Det (.string (s.extract 2 4)),
   Det (.int .u32 (wd (L s) 2)),
   Det (.int .u16 (wd (L s) 2)),
   Det (.string s),
   Det (.string (s.extract 4 8)),
   Det (.int .u32 (qd (L s) 4)),
   Det (.string s),
   Det (.string (s.extract 8 12)),
   Det (.int .u32 (qd (L s) 8)),
   Det (.string s),
   Det (.int .u8 ((s[13]'l13).toNat : Int)),
   Det (.agg #[.int .u16 (wd (L s) 0), .int .u16 (wd (L s) 2), .int .u32 (qd (L s) 4), .int .u32 (qd (L s) 8), .int .u8 ((s[13]'l13).toNat : Int), .int .u16 0, .int .u16 0, .string { data := #[] }]),
   New w1.heap.size [.int .u16 0, .int .u16 0, .int .u32 0, .int .u32 0, .int .u8 0, .int .u16 0, .int .u16 0, .string { data := #[] }]]) (by kernel_rfl) (by kernel_rfl) (by kernel_rfl) (up_dr bR) (Stable.ys ⟨Det.st _, Det.st _, Det.st _, Det.st _, Det.st _, Det.st _, Det.st _, Det.st _, Det.st _, Det.st _, Det.st _, Det.st _, Det.st _, Det.st _, Det.st _, Det.st _, Det.st _, New.st _ _, trivial⟩) ?_ ?_
 all_goals simp only [List.take_succ_cons, List.take_zero, List.drop_succ_cons, List.drop_zero]
 ·
  refine oC ?_ ?_
  ·intro aa ww hC hp hv KK hK
   have d2 : aa.tmps.getD 2 undef = .string s := hv 2 (slotOk_spec (by kernel_rfl))
   have d2_ := gD d2
   clear hp hv
   (unfold opTo; go_simp; try simp only [opUpon])
   exact hK _ _ rfl hC bR
  refine oC ?_ ?_
  ·intro aa ww hC hp hv KK hK
   have d49 : aa.tmps.getD 49 undef = .string s := dep_of hp 0 49 (by kernel_rfl)
   have d49_ := gD d49
   clear hp hv
   (unfold opTo; go_simp; try simp only [opUpon])
   exact hK _ _ rfl hC bR
  refine oC ?_ ?_
  ·intro aa ww hC hp hv KK hK
   have d50 : aa.tmps.getD 50 undef = .string (s.extract 0 2) := dep_of hp 1 50 (by kernel_rfl)
   have d50_ := gD d50
   clear hp hv
   (unfold opTo; go_simp; try simp only [opUpon])
   exact (num2 s 0 (by have := HT.out; omega) _).mono fun e w2 h => by obtain ⟨h1, rfl⟩ := h; exact ⟨_, h1, hK _ _ rfl hC bR⟩
  refine oC ?_ ?_
  ·intro aa ww hC hp hv KK hK
   have d51 : aa.tmps.getD 51 undef = .int .u32 (wd (L s) 0) := dep_of hp 2 51 (by kernel_rfl)
   have d51_ := gD d51
   clear hp hv
   (unfold opTo; go_simp; try simp only [opUpon])
   exact hK _ _ rfl hC bR
  refine oC ?_ ?_
  ·intro aa ww hC hp hv KK hK
   have d2 : aa.tmps.getD 2 undef = .string s := hv 2 (slotOk_spec (by kernel_rfl))
   have d2_ := gD d2
   clear hp hv
   (unfold opTo; go_simp; try simp only [opUpon])
   exact hK _ _ rfl hC bR
  refine oC ?_ ?_
  ·intro aa ww hC hp hv KK hK
   have d53 : aa.tmps.getD 53 undef = .string s := dep_of hp 4 53 (by kernel_rfl)
   have d53_ := gD d53
   clear hp hv
   (unfold opTo; go_simp; try simp only [opUpon])
   exact hK _ _ rfl hC bR
  refine oC ?_ ?_
  ·intro aa ww hC hp hv KK hK
   have d54 : aa.tmps.getD 54 undef = .string (s.extract 2 4) := dep_of hp 5 54 (by kernel_rfl)
   have d54_ := gD d54
   clear hp hv
   (unfold opTo; go_simp; try simp only [opUpon])
   exact (num2 s 2 (by have := HT.out; omega) _).mono fun e w2 h => by obtain ⟨h1, rfl⟩ := h; exact ⟨_, h1, hK _ _ rfl hC bR⟩
  refine oC ?_ ?_
  ·intro aa ww hC hp hv KK hK
   have d55 : aa.tmps.getD 55 undef = .int .u32 (wd (L s) 2) := dep_of hp 6 55 (by kernel_rfl)
   have d55_ := gD d55
   clear hp hv
   (unfold opTo; go_simp; try simp only [opUpon])
   exact hK _ _ rfl hC bR
  refine oC ?_ ?_
  ·intro aa ww hC hp hv KK hK
   have d2 : aa.tmps.getD 2 undef = .string s := hv 2 (slotOk_spec (by kernel_rfl))
   have d2_ := gD d2
   clear hp hv
   (unfold opTo; go_simp; try simp only [opUpon])
   exact hK _ _ rfl hC bR
  refine oC ?_ ?_
  ·intro aa ww hC hp hv KK hK
   have d57 : aa.tmps.getD 57 undef = .string s := dep_of hp 8 57 (by kernel_rfl)
   have d57_ := gD d57
   clear hp hv
   (unfold opTo; go_simp; try simp only [opUpon])
   exact hK _ _ rfl hC bR
  refine oC ?_ ?_
  ·intro aa ww hC hp hv KK hK
   have d58 : aa.tmps.getD 58 undef = .string (s.extract 4 8) := dep_of hp 9 58 (by kernel_rfl)
   have d58_ := gD d58
   clear hp hv
   (unfold opTo; go_simp; try simp only [opUpon])
   exact (num4 s 4 (by have := HT.out; omega) _).mono fun e w2 h => by obtain ⟨h1, rfl⟩ := h; exact ⟨_, h1, hK _ _ rfl hC bR⟩
  refine oC ?_ ?_
  ·intro aa ww hC hp hv KK hK
   have d2 : aa.tmps.getD 2 undef = .string s := hv 2 (slotOk_spec (by kernel_rfl))
   have d2_ := gD d2
   clear hp hv
   (unfold opTo; go_simp; try simp only [opUpon])
   exact hK _ _ rfl hC bR
  refine oC ?_ ?_
  ·intro aa ww hC hp hv KK hK
   have d60 : aa.tmps.getD 60 undef = .string s := dep_of hp 11 60 (by kernel_rfl)
   have d60_ := gD d60
   clear hp hv
   (unfold opTo; go_simp; try simp only [opUpon])
   exact hK _ _ rfl hC bR
  refine oC ?_ ?_
  ·intro aa ww hC hp hv KK hK
   have d61 : aa.tmps.getD 61 undef = .string (s.extract 8 12) := dep_of hp 12 61 (by kernel_rfl)
   have d61_ := gD d61
   clear hp hv
   (unfold opTo; go_simp; try simp only [opUpon])
   exact (num4 s 8 (by have := HT.out; omega) _).mono fun e w2 h => by obtain ⟨h1, rfl⟩ := h; exact ⟨_, h1, hK _ _ rfl hC bR⟩
  refine oC ?_ ?_
  ·intro aa ww hC hp hv KK hK
   have d2 : aa.tmps.getD 2 undef = .string s := hv 2 (slotOk_spec (by kernel_rfl))
   have d2_ := gD d2
   clear hp hv
   (unfold opTo; go_simp; try simp only [opUpon])
   exact hK _ _ rfl hC bR
  refine oC ?_ ?_
  ·intro aa ww hC hp hv KK hK
   have d63 : aa.tmps.getD 63 undef = .string s := dep_of hp 14 63 (by kernel_rfl)
   have d63_ := gD d63
   clear hp hv
   (unfold opTo; go_simp; try simp only [opUpon])
   exact hK _ _ rfl hC bR
  refine oC ?_ ?_
  ·intro aa ww hC hp hv KK hK
   have d52 : aa.tmps.getD 52 undef = .int .u16 (wd (L s) 0) := dep_of hp 3 52 (by kernel_rfl)
   have d56 : aa.tmps.getD 56 undef = .int .u16 (wd (L s) 2) := dep_of hp 7 56 (by kernel_rfl)
   have d59 : aa.tmps.getD 59 undef = .int .u32 (qd (L s) 4) := dep_of hp 10 59 (by kernel_rfl)
   have d62 : aa.tmps.getD 62 undef = .int .u32 (qd (L s) 8) := dep_of hp 13 62 (by kernel_rfl)
   have d64 : aa.tmps.getD 64 undef = .int .u8 ((s[13]'l13).toNat : Int) := dep_of hp 15 64 (by kernel_rfl)
   have d52_ := gD d52
   have d56_ := gD d56
   have d59_ := gD d59
   have d62_ := gD d62
   have d64_ := gD d64
   clear hp hv
   (unfold opTo; go_simp; try simp only [opUpon])
   exact hK _ _ rfl hC bR
  refine oC ?_ ?_
  ·intro aa ww hC hp hv KK hK
   clear hp hv
   (unfold opTo; go_simp; try simp only [opUpon])
   exact hK _ _ ⟨_, rfl, hC.size, Box.new _ _ _⟩ (up_al _ hC) (up_al _ bR)
  exact obligs_nil
 intro vals ww hC hY
 have e0 : vals 0 = .string s := hY 0 _ _ rfl rfl
 have e1 : vals 1 = .string (s.extract 0 2) := hY 1 _ _ rfl rfl
 have e2 : vals 2 = .int .u32 (wd (L s) 0) := hY 2 _ _ rfl rfl
 have e3 : vals 3 = .int .u16 (wd (L s) 0) := hY 3 _ _ rfl rfl
 have e4 : vals 4 = .string s := hY 4 _ _ rfl rfl
 have e5 : vals 5 = .string (s.extract 2 4) := hY 5 _ _ rfl rfl
 have e6 : vals 6 = .int .u32 (wd (L s) 2) := hY 6 _ _ rfl rfl
 have e7 : vals 7 = .int .u16 (wd (L s) 2) := hY 7 _ _ rfl rfl
 have e8 : vals 8 = .string s := hY 8 _ _ rfl rfl
 have e9 : vals 9 = .string (s.extract 4 8) := hY 9 _ _ rfl rfl
 have e10 : vals 10 = .int .u32 (qd (L s) 4) := hY 10 _ _ rfl rfl
 have e11 : vals 11 = .string s := hY 11 _ _ rfl rfl
 have e12 : vals 12 = .string (s.extract 8 12) := hY 12 _ _ rfl rfl
 have e13 : vals 13 = .int .u32 (qd (L s) 8) := hY 13 _ _ rfl rfl
 have e14 : vals 14 = .string s := hY 14 _ _ rfl rfl
 have e15 : vals 15 = .int .u8 ((s[13]'l13).toNat : Int) := hY 15 _ _ rfl rfl
 have e16 : vals 16 = .agg #[.int .u16 (wd (L s) 0), .int .u16 (wd (L s) 2), .int .u32 (qd (L s) 4), .int .u32 (qd (L s) 8), .int .u8 ((s[13]'l13).toNat : Int), .int .u16 0, .int .u16 0, .string { data := #[] }] := hY 16 _ _ rfl rfl
 obtain ⟨n10, e17, hM10, hN10⟩ : New w1.heap.size [.int .u16 0, .int .u16 0, .int .u32 0, .int .u32 0, .int .u8 0, .int .u16 0, .int .u16 0, .string { data := #[] }] (vals 17) ww := hY 17 _ _ rfl rfl
 clear hY
 simp only [putAll, Act.put, List.setIfInBounds_toArray, List.set_cons_zero, List.set_cons_succ, e0, e1, e2, e3, e4, e5, e6, e7, e8, e9, e10, e11, e12, e13, e14, e15, e16, e17]
 clear e0 e1 e2 e3 e4 e5 e6 e7 e8 e9 e10 e11 e12 e13 e14 e15 e16 e17
 have hB2 := hB1.up hC
 have hu2 := hu1.on hC
 have hM := Nat.le_trans hu1.size hM10
 have hne : n10 ≠ w.heap.size := by have := hB1.1; omega
 have hne' : w.heap.size ≠ n10 := fun h => hne h.symm
 clear hB1 hu1 hC hM10
 obtain ⟨k0, k1, k2, k3, k4, k5, k6, k7, f0, f1, f2, f3, f4, f5, f6, f7⟩ := Box.c8 hN10
 go_wp2_with fail
 have hN2 := put8 hN10 (.int .u16 (wd (L s) 0)) (.int .u16 (wd (L s) 2)) (.int .u32 (qd (L s) 4)) (.int .u32 (qd (L s) 8)) (.int .u8 ((s[13]'l13).toNat : Int)) (.int .u16 0) (.int .u16 0) (.string { data := #[] })
 have hB3 := far8 hB2 hne (.int .u16 (wd (L s) 0)) (.int .u16 (wd (L s) 2)) (.int .u32 (qd (L s) 4)) (.int .u32 (qd (L s) 8)) (.int .u8 ((s[13]'l13).toNat : Int)) (.int .u16 0) (.int .u16 0) (.string { data := #[] })
 have hu3 := ups8 (b := n10) hu2 hM (.int .u16 (wd (L s) 0)) (.int .u16 (wd (L s) 2)) (.int .u32 (qd (L s) 4)) (.int .u32 (qd (L s) 8)) (.int .u8 ((s[13]'l13).toNat : Int)) (.int .u16 0) (.int .u16 0) (.string { data := #[] })
 clear k0 k1 k2 k3 k4 k5 k6 k7 f0 f1 f2 f3 f4 f5 f6 f7 hN10 hB2 hu2
 generalize World.setCell _ ⟨n10, 7, none⟩ _ = w3 at hN2 hB3 hu3 ⊢
 refine (num2 s 14 (by omega) w3).mono ?_
 rintro e w4 ⟨rfl, rfl⟩
 have m5 := hN2.at 5 rfl
 have v5 := hN2.fr 5 rfl
 go_wp2_with fail
 have hN3 := hN2.set 5 (.int .u16 (wd (L s) 14))
 have hB4 := hB3.far hne (.int .u16 (wd (L s) 14)) (o := 5)
 have hu4 := up_set (o := 5) (v := .int .u16 (wd (L s) 14)) hu3 hM
 clear m5 v5 hN2 hB3 hu3
 generalize World.setCell _ ⟨n10, 5, none⟩ _ = w5 at hN3 hB4 hu4 ⊢
 refine (num2 s 18 (by omega) w5).mono ?_
 rintro e w6 ⟨rfl, rfl⟩
 have m6 := hN3.at 6 rfl
 have v6 := hN3.fr 6 rfl
 have m7 := hN3.at 7 rfl
 have v7 := hN3.fr 7 rfl
 go_upto_region 16 with fail
 have hN4 := (hN3.set 6 (.int .u16 (wd (L s) 18))).set 7 (.string (s.extract 20 N))
 have hB5 := (hB4.far hne (.int .u16 (wd (L s) 18)) (o := 6)).far hne (.string (s.extract 20 N)) (o := 7)
 have hu5 := up_set (o := 7) (v := .string (s.extract 20 N)) (up_set (o := 6) (v := .int .u16 (wd (L s) 18)) hu4 hM) hM
 clear m6 v6 m7 v7 hN3 hB4 hu4
 generalize World.setCell _ ⟨n10, 7, none⟩ _ = w7 at hN4 hB5 hu5 ⊢
 obtain ⟨k0, k1, k2, k3, k4, k5, k6, k7, f0, f1, f2, f3, f4, f5, f6, f7⟩ := Box.c8 hB5
 obtain ⟨m0, m1, m2, m3, m4, m5, m6, m7⟩ := Box.e8 hN4
 go_region
 all_goals
  have hB6 := Box.drew (put8 hB5 (.int .u16 (wd (L s) 0)) (.int .u16 (wd (L s) 2)) (.int .u32 (qd (L s) 4)) (.int .u32 (qd (L s) 8)) (.int .u8 ((s[13]'l13).toNat : Int)) (.int .u16 (wd (L s) 14)) (.int .u16 (wd (L s) 18)) (.string (s.extract 20 N)))
  have hu6 := up_dr (ups8 (b := w.heap.size) hu5 (Nat.le_refl _) (.int .u16 (wd (L s) 0)) (.int .u16 (wd (L s) 2)) (.int .u32 (qd (L s) 4)) (.int .u32 (qd (L s) 8)) (.int .u8 ((s[13]'l13).toNat : Int)) (.int .u16 (wd (L s) 14)) (.int .u16 (wd (L s) 18)) (.string (s.extract 20 N)))
  generalize World.drew _ = W4 at hB6 hu6 ⊢
  clear k0 k1 k2 k3 k4 k5 k6 k7 f0 f1 f2 f3 f4 f5 f6 f7 hB5 hu5 hN4 m0 m1 m2 m3 m4 m5 m6 m7
  obtain ⟨k0, k1, k2, k3, k4, k5, k6, k7, f0, f1, f2, f3, f4, f5, f6, f7⟩ := Box.c8 hB6
  go_wp2
  (try simp only [Exit.inBlock, Exit.then])
  refine bodyPost_ret (v := .tuple #[HV (wd (L s) 0) (wd (L s) 2) (qd (L s) 4) (qd (L s) 8) ((s[13]'l13).toNat : Int) (wd (L s) 14) (wd (L s) 18) (s.extract 20 N), .string (s.extract N s.size), .int .i64 0]) ?_ rfl ⟨?_, hu6⟩
  ·rw [results_cell_tmp2 rfl]; go_simp
  ·rw [HD.out, HTV.out, HDT.out]
theorem refDecode (x y : Nat) (s : ByteArray) (w : World) (hx : x ≤ 4294967295) (hy : y ≤ 4294967295) (hs : s.size ≤ 1099511627776) :
  Calls Tryz.prog 76 #[.int .u32 x, .int .u32 y, .string s] w fun e w' => e = .returned (DV x y (L s)) ∧ Up w w' := by
 by_cases c0 : (L s).length < 20
 ·exact refDecode0 x y s w hx hy hs c0
 by_cases c1 : 65515 < (L s).length
 ·exact refDecode1 x y s w hx hy hs c0 c1
 by_cases c2 : ck (ts x y (L s)) ≠ 0
 ·exact refDecode2 x y s w hx hy hs c0 c1 c2
 by_cases c3 : (hl (L s) < 20 ∨ ((L s).length : Int) < hl (L s))
 ·by_cases c : hl (L s) < 20
  ·exact refDecode3a x y s w hx hy hs c0 c1 c2 c
  ·exact refDecode3b x y s w hx hy hs c0 c1 c2 (by omega)
 by_cases c4 : (bt (L s) 12 % 16 ≠ 0 ∨ 64 ≤ bt (L s) 13)
 ·by_cases c : bt (L s) 12 % 16 = 0
  ·exact refDecode4b x y s w hx hy hs c0 c1 c2 c3 (by omega)
  ·exact refDecode4a x y s w hx hy hs c0 c1 c2 c3 c
 exact refDecode5 x y s w hx hy hs c0 c1 c2 c3 c4
end Go.Proofs.YtafckmbgefbonaaGreat.tc
