/- The document's answer for ip: what a packet's bytes are. Condition: the bytes are at most 2^40. -/
import Derived.Test.YtolebodpcefcfaaIpG
namespace Go.Proofs.Ytolebodpcefcfaa.ip
open Go.RowKit Go.Shelf Go.Proofs.Ytolebodpcefcfaa.sm Go.Proofs.Ytolebodpcefcfaa.nb Go.Proofs.Ytolebodpcefcfaa.im
set_option linter.unusedVariables false

theorem far7 {W : World} {b c : Nat} {vs : List Value} (h : Box W b vs) (hc : c ≠ b) (y0 y1 y2 y3 y4 y5 y6 : Value) : Box (((((((W.setCell ⟨c, 0, none⟩ y0).setCell ⟨c, 1, none⟩ y1).setCell ⟨c, 2, none⟩ y2).setCell ⟨c, 3, none⟩ y3).setCell ⟨c, 4, none⟩ y4).setCell ⟨c, 5, none⟩ y5).setCell ⟨c, 6, none⟩ y6) b vs := (Box.far (Box.far (Box.far (Box.far (Box.far (Box.far (Box.far h hc y0) hc y1) hc y2) hc y3) hc y4) hc y5) hc y6)
theorem sub_size (s : ByteArray) (i j : Nat) (h : i ≤ j) (hj : j ≤ s.size) : (s.extract i j).size = j - i := by simp; omega
theorem num2 (s : ByteArray) (k : Nat) (h : k + 2 ≤ s.size) (w : World) :
    Calls Try.prog 19 #[.string (s.extract k (k + 2))] w fun e w' => e = .returned (.int .u32 (wd (L s) k)) ∧ w = w' := by
  have hz := sub_size s k (k + 2) (by omega) h
  refine (refNum (s.extract k (k + 2)) w (by omega)).mono fun e w' ⟨h1, h2⟩ => ⟨?_, h2⟩
  rw [h1, hz, show k + 2 - k = 2 by omega, L_extract, show k + 2 - k = 2 by omega, nm2]
theorem num4 (s : ByteArray) (k : Nat) (h : k + 4 ≤ s.size) (w : World) :
    Calls Try.prog 19 #[.string (s.extract k (k + 4))] w fun e w' => e = .returned (.int .u32 (qd (L s) k)) ∧ w = w' := by
  have hz := sub_size s k (k + 4) (by omega) h
  refine (refNum (s.extract k (k + 4)) w (by omega)).mono fun e w' ⟨h1, h2⟩ => ⟨?_, h2⟩
  rw [h1, hz, show k + 4 - k = 4 by omega, L_extract, show k + 4 - k = 4 by omega, nm4]
theorem of20 (s : ByteArray) (w : World) (h : 20 ≤ s.size) :
    Calls Try.prog 15 #[.string (s.extract 0 20)] w fun e w' => e = .returned (.int .u16 (ck (wsum ((L s).take 20)))) ∧ w = w' := by
  have hz := sub_size s 0 20 (by omega) h
  refine (su.refOf (s.extract 0 20) w (by omega)).mono fun e w' ⟨h1, h2⟩ => ⟨?_, h2⟩
  rw [h1, L_extract, List.drop_zero]

set_option maxHeartbeats 4000000 in
set_option maxRecDepth 100000 in
theorem refDecode0 (s : ByteArray) (w : World) (hs : s.size ≤ 1099511627776)  (c0 : (L s).length < 20) :
    Calls Try.prog 11 #[.string s] w fun e w' => e = .returned (DV (L s)) ∧ Up w w' := by
  have HD := Lib.hid (DV_err (dec_50 c0) (by decide))
  have h20 : (s.size : Int) < 20 := by rw [L_len] at c0; omega
  clear c0
  go_enter Try.func11, Try.ntmps11
  go_upto_region 1 with fail
  have hB := Box.new w #[.int .u32 0, .int .u32 0, .int .u8 0, .int .u8 0, .int .u8 0, .int .u16 0, .bool false] 25
  have hu : Up w (w.alloc (.cells #[.int .u32 0, .int .u32 0, .int .u8 0, .int .u8 0, .int .u8 0, .int .u16 0, .bool false] 25)) := up_al _ (Below.refl _ _)
  generalize (w.alloc (.cells #[.int .u32 0, .int .u32 0, .int .u8 0, .int .u8 0, .int .u8 0, .int .u16 0, .bool false] 25)) = w0 at hB hu ⊢
  obtain ⟨k0, k1, k2, k3, k4, k5, k6, f0, f1, f2, f3, f4, f5, f6⟩ := Box.c7 hB
  go_wp2
  refine fin7 hB hu (Nat.le_refl _) ?_
  clear k0 k1 k2 k3 k4 k5 k6 f0 f1 f2 f3 f4 f5 f6 hB hu
  intro W3 hB3 hu3
  obtain ⟨k0, k1, k2, k3, k4, k5, k6, f0, f1, f2, f3, f4, f5, f6⟩ := Box.c7 hB3
  (try simp only [Exit.inBlock, Exit.then])
  refine bodyPost_ret (v := .tuple #[HV 0 0 0 0 0 0 false, .string ByteArray.empty, .int .i64 50]) ?_ rfl ⟨congrArg Ending.returned HD.out.symm, hu3⟩
  rw [results_cell_tmp2 rfl]; go_simp; rfl
set_option maxHeartbeats 4000000 in
set_option maxRecDepth 100000 in
theorem refDecode1 (s : ByteArray) (w : World) (hs : s.size ≤ 1099511627776) (c0 : ¬ ((L s).length < 20)) (c1 : bt (L s) 0 / 16 ≠ 4) :
    Calls Try.prog 11 #[.string s] w fun e w' => e = .returned (DV (L s)) ∧ Up w w' := by
  have HD := Lib.hid (DV_err (dec_51 c0  c1) (by decide))
  have h20 : 20 ≤ s.size := by rw [L_len] at c0; omega
  have l0 : 0 < s.size := by omega
  have E0 := bt_at s 0 l0
  have b0 := c_lt s[0]
  have g1 : ¬ (s[0].toNat : Int) / 16 = 4 := by rw [E0]; exact c1
  clear c0 c1
  clear E0
  have HT := Lib.hid h20
  go_enter Try.func11, Try.ntmps11
  go_upto_region 1 with fail
  have hB := Box.new w #[.int .u32 0, .int .u32 0, .int .u8 0, .int .u8 0, .int .u8 0, .int .u16 0, .bool false] 25
  have hu : Up w (w.alloc (.cells #[.int .u32 0, .int .u32 0, .int .u8 0, .int .u8 0, .int .u8 0, .int .u16 0, .bool false] 25)) := up_al _ (Below.refl _ _)
  generalize (w.alloc (.cells #[.int .u32 0, .int .u32 0, .int .u8 0, .int .u8 0, .int .u8 0, .int .u16 0, .bool false] 25)) = w0 at hB hu ⊢
  obtain ⟨k0, k1, k2, k3, k4, k5, k6, f0, f1, f2, f3, f4, f5, f6⟩ := Box.c7 hB
  go_wp2
  refine fin7 hB hu (Nat.le_refl _) ?_
  clear k0 k1 k2 k3 k4 k5 k6 f0 f1 f2 f3 f4 f5 f6 hB hu
  intro W3 hB3 hu3
  obtain ⟨k0, k1, k2, k3, k4, k5, k6, f0, f1, f2, f3, f4, f5, f6⟩ := Box.c7 hB3
  (try simp only [Exit.inBlock, Exit.then])
  refine bodyPost_ret (v := .tuple #[HV 0 0 0 0 0 0 false, .string ByteArray.empty, .int .i64 51]) ?_ rfl ⟨congrArg Ending.returned HD.out.symm, hu3⟩
  rw [results_cell_tmp2 rfl]; go_simp; rfl
set_option maxHeartbeats 4000000 in
set_option maxRecDepth 100000 in
theorem refDecode2 (s : ByteArray) (w : World) (hs : s.size ≤ 1099511627776) (c0 : ¬ ((L s).length < 20)) (c1 : ¬ (bt (L s) 0 / 16 ≠ 4)) (c2 : bt (L s) 0 % 16 ≠ 5) :
    Calls Try.prog 11 #[.string s] w fun e w' => e = .returned (DV (L s)) ∧ Up w w' := by
  have HD := Lib.hid (DV_err (dec_52 c0 (Decidable.not_not.1 c1) c2) (by decide))
  have h20 : 20 ≤ s.size := by rw [L_len] at c0; omega
  have l0 : 0 < s.size := by omega
  have E0 := bt_at s 0 l0
  have b0 := c_lt s[0]
  have g1 : (s[0].toNat : Int) / 16 = 4 := by rw [E0]; exact Decidable.not_not.1 c1
  have g2 : ¬ (s[0].toNat : Int) % 16 = 5 := by rw [E0]; exact c2
  clear c0 c1 c2
  clear E0
  have HT := Lib.hid h20
  go_enter Try.func11, Try.ntmps11
  go_upto_region 1 with fail
  have hB := Box.new w #[.int .u32 0, .int .u32 0, .int .u8 0, .int .u8 0, .int .u8 0, .int .u16 0, .bool false] 25
  have hu : Up w (w.alloc (.cells #[.int .u32 0, .int .u32 0, .int .u8 0, .int .u8 0, .int .u8 0, .int .u16 0, .bool false] 25)) := up_al _ (Below.refl _ _)
  generalize (w.alloc (.cells #[.int .u32 0, .int .u32 0, .int .u8 0, .int .u8 0, .int .u8 0, .int .u16 0, .bool false] 25)) = w0 at hB hu ⊢
  obtain ⟨k0, k1, k2, k3, k4, k5, k6, f0, f1, f2, f3, f4, f5, f6⟩ := Box.c7 hB
  go_wp2
  refine fin7 hB hu (Nat.le_refl _) ?_
  clear k0 k1 k2 k3 k4 k5 k6 f0 f1 f2 f3 f4 f5 f6 hB hu
  intro W3 hB3 hu3
  obtain ⟨k0, k1, k2, k3, k4, k5, k6, f0, f1, f2, f3, f4, f5, f6⟩ := Box.c7 hB3
  (try simp only [Exit.inBlock, Exit.then])
  refine bodyPost_ret (v := .tuple #[HV 0 0 0 0 0 0 false, .string ByteArray.empty, .int .i64 52]) ?_ rfl ⟨congrArg Ending.returned HD.out.symm, hu3⟩
  rw [results_cell_tmp2 rfl]; go_simp; rfl
set_option maxHeartbeats 4000000 in
set_option maxRecDepth 100000 in
theorem refDecode3 (s : ByteArray) (w : World) (hs : s.size ≤ 1099511627776) (c0 : ¬ ((L s).length < 20)) (c1 : ¬ (bt (L s) 0 / 16 ≠ 4)) (c2 : ¬ (bt (L s) 0 % 16 ≠ 5)) (c3 : wd (L s) 2 ≠ ((L s).length : Int)) :
    Calls Try.prog 11 #[.string s] w fun e w' => e = .returned (DV (L s)) ∧ Up w w' := by
  have HD := Lib.hid (DV_err (dec_53 c0 (Decidable.not_not.1 c1) (Decidable.not_not.1 c2) c3) (by decide))
  have h20 : 20 ≤ s.size := by rw [L_len] at c0; omega
  have l0 : 0 < s.size := by omega
  have E0 := bt_at s 0 l0
  have b0 := c_lt s[0]
  have g1 : (s[0].toNat : Int) / 16 = 4 := by rw [E0]; exact Decidable.not_not.1 c1
  have g2 : (s[0].toNat : Int) % 16 = 5 := by rw [E0]; exact Decidable.not_not.1 c2
  have bw := wd_bd (L s) 2
  have g3 : ¬ wd (L s) 2 = (s.size : Int) := c3
  have y1 : IntKind.i64.wrap (wd (L s) 2) = wd (L s) 2 := IntWalk.i64_in _ (by omega)
  clear c0 c1 c2 c3
  clear E0
  have HT := Lib.hid h20
  have i4 : (4 : Int) ≤ (s.size : Int) := by omega
  go_enter Try.func11, Try.ntmps11
  go_upto_region 1 with fail
  have hB := Box.new w #[.int .u32 0, .int .u32 0, .int .u8 0, .int .u8 0, .int .u8 0, .int .u16 0, .bool false] 25
  have hu : Up w (w.alloc (.cells #[.int .u32 0, .int .u32 0, .int .u8 0, .int .u8 0, .int .u8 0, .int .u16 0, .bool false] 25)) := up_al _ (Below.refl _ _)
  generalize (w.alloc (.cells #[.int .u32 0, .int .u32 0, .int .u8 0, .int .u8 0, .int .u8 0, .int .u16 0, .bool false] 25)) = w0 at hB hu ⊢
  obtain ⟨k0, k1, k2, k3, k4, k5, k6, f0, f1, f2, f3, f4, f5, f6⟩ := Box.c7 hB
  go_wp2_with fail
  refine (num2 s 2 (by omega) _).mono ?_
  rintro e w1 ⟨rfl, rfl⟩
  go_wp2
  refine fin7 hB hu (Nat.le_refl _) ?_
  clear k0 k1 k2 k3 k4 k5 k6 f0 f1 f2 f3 f4 f5 f6 hB hu
  intro W3 hB3 hu3
  obtain ⟨k0, k1, k2, k3, k4, k5, k6, f0, f1, f2, f3, f4, f5, f6⟩ := Box.c7 hB3
  (try simp only [Exit.inBlock, Exit.then])
  refine bodyPost_ret (v := .tuple #[HV 0 0 0 0 0 0 false, .string ByteArray.empty, .int .i64 53]) ?_ rfl ⟨congrArg Ending.returned HD.out.symm, hu3⟩
  rw [results_cell_tmp2 rfl]; go_simp; rfl
set_option maxHeartbeats 4000000 in
set_option maxRecDepth 100000 in
theorem refDecode4 (s : ByteArray) (w : World) (hs : s.size ≤ 1099511627776) (c0 : ¬ ((L s).length < 20)) (c1 : ¬ (bt (L s) 0 / 16 ≠ 4)) (c2 : ¬ (bt (L s) 0 % 16 ≠ 5)) (c3 : ¬ (wd (L s) 2 ≠ ((L s).length : Int))) (c4 : ck (wsum ((L s).take 20)) ≠ 0) :
    Calls Try.prog 11 #[.string s] w fun e w' => e = .returned (DV (L s)) ∧ Up w w' := by
  have HD := Lib.hid (DV_err (dec_55 c0 (Decidable.not_not.1 c1) (Decidable.not_not.1 c2) (Decidable.not_not.1 c3) c4) (by decide))
  have h20 : 20 ≤ s.size := by rw [L_len] at c0; omega
  have l0 : 0 < s.size := by omega
  have E0 := bt_at s 0 l0
  have b0 := c_lt s[0]
  have g1 : (s[0].toNat : Int) / 16 = 4 := by rw [E0]; exact Decidable.not_not.1 c1
  have g2 : (s[0].toNat : Int) % 16 = 5 := by rw [E0]; exact Decidable.not_not.1 c2
  have bw := wd_bd (L s) 2
  have g3 : wd (L s) 2 = (s.size : Int) := Decidable.not_not.1 c3
  have g4 : ¬ ck (wsum ((L s).take 20)) = 0 := c4
  have y1 : IntKind.i64.wrap (wd (L s) 2) = wd (L s) 2 := IntWalk.i64_in _ (by omega)
  clear c0 c1 c2 c3 c4
  clear E0
  have HT := Lib.hid h20
  have i4 : (4 : Int) ≤ (s.size : Int) := by omega
  have i20 : (20 : Int) ≤ (s.size : Int) := by omega
  go_enter Try.func11, Try.ntmps11
  go_upto_region 1 with fail
  have hB := Box.new w #[.int .u32 0, .int .u32 0, .int .u8 0, .int .u8 0, .int .u8 0, .int .u16 0, .bool false] 25
  have hu : Up w (w.alloc (.cells #[.int .u32 0, .int .u32 0, .int .u8 0, .int .u8 0, .int .u8 0, .int .u16 0, .bool false] 25)) := up_al _ (Below.refl _ _)
  generalize (w.alloc (.cells #[.int .u32 0, .int .u32 0, .int .u8 0, .int .u8 0, .int .u8 0, .int .u16 0, .bool false] 25)) = w0 at hB hu ⊢
  obtain ⟨k0, k1, k2, k3, k4, k5, k6, f0, f1, f2, f3, f4, f5, f6⟩ := Box.c7 hB
  go_wp2_with fail
  refine (num2 s 2 (by omega) _).mono ?_
  rintro e w1 ⟨rfl, rfl⟩
  go_wp2_with fail
  refine (of20 s _ (by omega)).mono ?_
  rintro e w2 ⟨rfl, rfl⟩
  go_wp2
  refine fin7 hB hu (Nat.le_refl _) ?_
  clear k0 k1 k2 k3 k4 k5 k6 f0 f1 f2 f3 f4 f5 f6 hB hu
  intro W3 hB3 hu3
  obtain ⟨k0, k1, k2, k3, k4, k5, k6, f0, f1, f2, f3, f4, f5, f6⟩ := Box.c7 hB3
  (try simp only [Exit.inBlock, Exit.then])
  refine bodyPost_ret (v := .tuple #[HV 0 0 0 0 0 0 false, .string ByteArray.empty, .int .i64 55]) ?_ rfl ⟨congrArg Ending.returned HD.out.symm, hu3⟩
  rw [results_cell_tmp2 rfl]; go_simp; rfl
set_option maxHeartbeats 4000000 in
set_option maxRecDepth 100000 in
theorem refDecode5 (s : ByteArray) (w : World) (hs : s.size ≤ 1099511627776) (c0 : ¬ ((L s).length < 20)) (c1 : ¬ (bt (L s) 0 / 16 ≠ 4)) (c2 : ¬ (bt (L s) 0 % 16 ≠ 5)) (c3 : ¬ (wd (L s) 2 ≠ ((L s).length : Int))) (c4 : ¬ (ck (wsum ((L s).take 20)) ≠ 0)) (c5 : (wd (L s) 6 ≠ 0 ∧ wd (L s) 6 ≠ 16384)) :
    Calls Try.prog 11 #[.string s] w fun e w' => e = .returned (DV (L s)) ∧ Up w w' := by
  have HD := Lib.hid (DV_err (dec_54 c0 (Decidable.not_not.1 c1) (Decidable.not_not.1 c2) (Decidable.not_not.1 c3) (Decidable.not_not.1 c4) c5) (by decide))
  have h20 : 20 ≤ s.size := by rw [L_len] at c0; omega
  have l0 : 0 < s.size := by omega
  have E0 := bt_at s 0 l0
  have b0 := c_lt s[0]
  have g1 : (s[0].toNat : Int) / 16 = 4 := by rw [E0]; exact Decidable.not_not.1 c1
  have g2 : (s[0].toNat : Int) % 16 = 5 := by rw [E0]; exact Decidable.not_not.1 c2
  have bw := wd_bd (L s) 2
  have g3 : wd (L s) 2 = (s.size : Int) := Decidable.not_not.1 c3
  have g4 : ck (wsum ((L s).take 20)) = 0 := Decidable.not_not.1 c4
  have y1 : IntKind.i64.wrap (wd (L s) 2) = wd (L s) 2 := IntWalk.i64_in _ (by omega)
  have l6 : 6 < s.size := by omega
  have l7 : 7 < s.size := by omega
  have j6 : (6 : Int) < (s.size : Int) := by omega
  have j7 : (7 : Int) < (s.size : Int) := by omega
  have E6 := bt_at s 6 l6
  have E7 := bt_at s 7 l7
  have EW : wd (L s) 6 = (s[6].toNat : Int) * 256 + (s[7].toNat : Int) := by rw [E6, E7]; rfl
  have b6 := c_lt s[6]; have b7 := c_lt s[7]
  have g5 : (¬ (s[6].toNat : Int) = 0 ∧ ¬ (s[6].toNat : Int) = 64) ∨ ((s[6].toNat : Int) = 0 ∧ ¬ (s[7].toNat : Int) = 0) ∨ ((s[6].toNat : Int) = 64 ∧ ¬ (s[7].toNat : Int) = 0) := by omega
  clear E6 E7 EW
  clear c0 c1 c2 c3 c4 c5
  clear E0
  have HT := Lib.hid h20
  have i4 : (4 : Int) ≤ (s.size : Int) := by omega
  have i20 : (20 : Int) ≤ (s.size : Int) := by omega
  rcases g5 with ⟨g5, g6⟩ | ⟨g5, g6⟩ | ⟨g5, g6⟩
  all_goals
    go_enter Try.func11, Try.ntmps11
    go_upto_region 1 with fail
    have hB := Box.new w #[.int .u32 0, .int .u32 0, .int .u8 0, .int .u8 0, .int .u8 0, .int .u16 0, .bool false] 25
    have hu : Up w (w.alloc (.cells #[.int .u32 0, .int .u32 0, .int .u8 0, .int .u8 0, .int .u8 0, .int .u16 0, .bool false] 25)) := up_al _ (Below.refl _ _)
    generalize (w.alloc (.cells #[.int .u32 0, .int .u32 0, .int .u8 0, .int .u8 0, .int .u8 0, .int .u16 0, .bool false] 25)) = w0 at hB hu ⊢
    obtain ⟨k0, k1, k2, k3, k4, k5, k6, f0, f1, f2, f3, f4, f5, f6⟩ := Box.c7 hB
    go_wp2_with fail
    refine (num2 s 2 (by omega) _).mono ?_
    rintro e w1 ⟨rfl, rfl⟩
    go_wp2_with fail
    refine (of20 s _ (by omega)).mono ?_
    rintro e w2 ⟨rfl, rfl⟩
    go_wp2
    refine fin7 hB hu (Nat.le_refl _) ?_
    clear k0 k1 k2 k3 k4 k5 k6 f0 f1 f2 f3 f4 f5 f6 hB hu
    intro W3 hB3 hu3
    obtain ⟨k0, k1, k2, k3, k4, k5, k6, f0, f1, f2, f3, f4, f5, f6⟩ := Box.c7 hB3
    (try simp only [Exit.inBlock, Exit.then])
    refine bodyPost_ret (v := .tuple #[HV 0 0 0 0 0 0 false, .string ByteArray.empty, .int .i64 54]) ?_ rfl ⟨congrArg Ending.returned HD.out.symm, hu3⟩
    rw [results_cell_tmp2 rfl]; go_simp; rfl
set_option maxHeartbeats 4000000 in
set_option maxRecDepth 100000 in
theorem refDecode6 (s : ByteArray) (w : World) (hs : s.size ≤ 1099511627776) (c0 : ¬ ((L s).length < 20)) (c1 : ¬ (bt (L s) 0 / 16 ≠ 4)) (c2 : ¬ (bt (L s) 0 % 16 ≠ 5)) (c3 : ¬ (wd (L s) 2 ≠ ((L s).length : Int))) (c4 : ¬ (ck (wsum ((L s).take 20)) ≠ 0)) (c5 : ¬ (wd (L s) 6 ≠ 0 ∧ wd (L s) 6 ≠ 16384)) :
    Calls Try.prog 11 #[.string s] w fun e w' => e = .returned (DV (L s)) ∧ Up w w' := by
  have HD := Lib.hid (DV_ok (dec_0 c0 (Decidable.not_not.1 c1) (Decidable.not_not.1 c2) (Decidable.not_not.1 c3) (Decidable.not_not.1 c4) c5))
  have h20 : 20 ≤ s.size := by rw [L_len] at c0; omega
  have l0 : 0 < s.size := by omega
  have E0 := bt_at s 0 l0
  have b0 := c_lt s[0]
  have g1 : (s[0].toNat : Int) / 16 = 4 := by rw [E0]; exact Decidable.not_not.1 c1
  have g2 : (s[0].toNat : Int) % 16 = 5 := by rw [E0]; exact Decidable.not_not.1 c2
  have bw := wd_bd (L s) 2
  have g3 : wd (L s) 2 = (s.size : Int) := Decidable.not_not.1 c3
  have g4 : ck (wsum ((L s).take 20)) = 0 := Decidable.not_not.1 c4
  have y1 : IntKind.i64.wrap (wd (L s) 2) = wd (L s) 2 := IntWalk.i64_in _ (by omega)
  have l1 : 1 < s.size := by omega
  have l6 : 6 < s.size := by omega
  have l7 : 7 < s.size := by omega
  have l8 : 8 < s.size := by omega
  have l9 : 9 < s.size := by omega
  have j1 : (1 : Int) < (s.size : Int) := by omega
  have j6 : (6 : Int) < (s.size : Int) := by omega
  have j7 : (7 : Int) < (s.size : Int) := by omega
  have j8 : (8 : Int) < (s.size : Int) := by omega
  have j9 : (9 : Int) < (s.size : Int) := by omega
  have i4 : (4 : Int) ≤ (s.size : Int) := by omega
  have i6 : (6 : Int) ≤ (s.size : Int) := by omega
  have i12 : (12 : Int) ≤ (s.size : Int) := by omega
  have i16 : (16 : Int) ≤ (s.size : Int) := by omega
  have i20 : (20 : Int) ≤ (s.size : Int) := by omega
  have E1 := Lib.hid (bt_at s 1 l1); have E8 := Lib.hid (bt_at s 8 l8); have E9 := Lib.hid (bt_at s 9 l9)
  have E6 := bt_at s 6 l6
  have E7 := bt_at s 7 l7
  have EW : wd (L s) 6 = (s[6].toNat : Int) * 256 + (s[7].toNat : Int) := by rw [E6, E7]; rfl
  have b6 := c_lt s[6]; have b7 := c_lt s[7]
  have g5 : ((s[6].toNat : Int) = 0 ∧ (s[7].toNat : Int) = 0 ∧ wd (L s) 6 = 0) ∨ ((s[6].toNat : Int) = 64 ∧ (s[7].toNat : Int) = 0 ∧ wd (L s) 6 = 16384) := by omega
  have bw4 := wd_bd (L s) 4
  have y4 : IntKind.u16.wrap (wd (L s) 4) = wd (L s) 4 := by rw [IntKind.wrap_u16]; omega
  have hL : tx ((L s).drop 20) = s.extract 20 s.size := by rw [tx_extract, List.take_of_length_le (by rw [List.length_drop, L_len]; exact Nat.le_refl _)]
  have HL := Lib.hid hL
  clear E6 E7 EW E0 c0 c1 c2 c3 c4 c5 hL
  have HT := Lib.hid h20
  rcases g5 with ⟨g5, g6, g7⟩ | ⟨g5, g6, g7⟩
  · go_enter Try.func11, Try.ntmps11
    go_upto_region 1 with fail
    have hB := Box.new w #[.int .u32 0, .int .u32 0, .int .u8 0, .int .u8 0, .int .u8 0, .int .u16 0, .bool false] 25
    have hu : Up w (w.alloc (.cells #[.int .u32 0, .int .u32 0, .int .u8 0, .int .u8 0, .int .u8 0, .int .u16 0, .bool false] 25)) := up_al _ (Below.refl _ _)
    generalize (w.alloc (.cells #[.int .u32 0, .int .u32 0, .int .u8 0, .int .u8 0, .int .u8 0, .int .u16 0, .bool false] 25)) = w0 at hB hu ⊢
    obtain ⟨k0, k1, k2, k3, k4, k5, k6, f0, f1, f2, f3, f4, f5, f6⟩ := Box.c7 hB
    go_wp2_with fail
    refine (num2 s 2 (by omega) _).mono ?_
    rintro e w1 ⟨rfl, rfl⟩
    go_wp2_with fail
    refine (of20 s _ (by omega)).mono ?_
    rintro e w2 ⟨rfl, rfl⟩
    go_upto_region 13 with fail
    refine wp_region_rel4 21 (fun W => Up w0 W) (fun W W' => Up W W') (Ys [Det (.string s),
        Det (.int .u8 (s[1].toNat : Int)),
        Det (.string s),
        Det (.string (s.extract 4 6)),
        Det (.int .u32 (wd (L s) 4)),
        Det (.int .u16 (wd (L s) 4)),
        Det (.string s),
        Det (.int .u8 0),
        Det (.bool false),
        Det (.string s),
        Det (.int .u8 (s[8].toNat : Int)),
        Det (.string s),
        Det (.int .u8 (s[9].toNat : Int)),
        Det (.string s),
        Det (.string (s.extract 12 16)),
        Det (.int .u32 (qd (L s) 12)),
        Det (.string s),
        Det (.string (s.extract 16 20)),
        Det (.int .u32 (qd (L s) 16)),
        Det (HV (qd (L s) 12) (qd (L s) 16) (s[9].toNat : Int) (s[8].toNat : Int) (s[1].toNat : Int) (wd (L s) 4) false),
        New w0.heap.size [.int .u32 0, .int .u32 0, .int .u8 0, .int .u8 0, .int .u8 0, .int .u16 0, .bool false]]) (by kernel_rfl) (by kernel_rfl) (by kernel_rfl) (up_dr (Below.refl _ _)) (Stable.ys ⟨Det.st _, Det.st _, Det.st _, Det.st _, Det.st _, Det.st _, Det.st _, Det.st _, Det.st _, Det.st _, Det.st _, Det.st _, Det.st _, Det.st _, Det.st _, Det.st _, Det.st _, Det.st _, Det.st _, Det.st _, New.st _ _, trivial⟩) ?_ ?_
    all_goals simp only [List.take_succ_cons, List.take_zero, List.drop_succ_cons, List.drop_zero]
    ·
      -- 0: Op.move t0
      refine obligs_cons ?_ ?_
      · intro aa ww hC hdep hvar KK hK
        have d0 : aa.tmps.getD 0 undef = .string s := hvar 0 (slotOk_spec (by kernel_rfl))
        have d0_ := d0; rw [Array.getD_eq_getD_getElem?] at d0_
        clear hdep hvar
        (unfold opTo; go_simp; try simp only [opUpon])
        exact hK _ _ rfl hC (Below.refl _ _)
      -- 1: Op.index 9 t47 (const (1:i64))
      refine obligs_cons ?_ ?_
      · intro aa ww hC hdep hvar KK hK
        have d47 : aa.tmps.getD 47 undef = .string s := dep_of hdep 0 47 (by kernel_rfl)
        have d47_ := d47; rw [Array.getD_eq_getD_getElem?] at d47_
        clear hdep hvar
        (unfold opTo; go_simp; try simp only [opUpon])
        exact hK _ _ rfl hC (Below.refl _ _)
      -- 2: Op.move t0
      refine obligs_cons ?_ ?_
      · intro aa ww hC hdep hvar KK hK
        have d0 : aa.tmps.getD 0 undef = .string s := hvar 0 (slotOk_spec (by kernel_rfl))
        have d0_ := d0; rw [Array.getD_eq_getD_getElem?] at d0_
        clear hdep hvar
        (unfold opTo; go_simp; try simp only [opUpon])
        exact hK _ _ rfl hC (Below.refl _ _)
      -- 3: Op.slice 9 t49 (some (const (4:i64))) (some (const (6:i64))) none
      refine obligs_cons ?_ ?_
      · intro aa ww hC hdep hvar KK hK
        have d49 : aa.tmps.getD 49 undef = .string s := dep_of hdep 2 49 (by kernel_rfl)
        have d49_ := d49; rw [Array.getD_eq_getD_getElem?] at d49_
        clear hdep hvar
        (unfold opTo; go_simp; try simp only [opUpon])
        exact hK _ _ rfl hC (Below.refl _ _)
      -- 4: Op.call { value (Operand.func 19), args := #[t50], argTypes := #[9] }
      refine obligs_cons ?_ ?_
      · intro aa ww hC hdep hvar KK hK
        have d50 : aa.tmps.getD 50 undef = .string (s.extract 4 6) := dep_of hdep 3 50 (by kernel_rfl)
        have d50_ := d50; rw [Array.getD_eq_getD_getElem?] at d50_
        clear hdep hvar
        (unfold opTo; go_simp; try simp only [opUpon])
        exact (num2 s 4 (by have := HT.out; omega) _).mono fun e w2 h => by obtain ⟨h1, rfl⟩ := h; exact ⟨_, h1, hK _ _ rfl hC (Below.refl _ _)⟩
      -- 5: Op.convert 22 23 t51
      refine obligs_cons ?_ ?_
      · intro aa ww hC hdep hvar KK hK
        have d51 : aa.tmps.getD 51 undef = .int .u32 (wd (L s) 4) := dep_of hdep 4 51 (by kernel_rfl)
        have d51_ := d51; rw [Array.getD_eq_getD_getElem?] at d51_
        clear hdep hvar
        (unfold opTo; go_simp; try simp only [opUpon])
        exact hK _ _ rfl hC (Below.refl _ _)
      -- 6: Op.move t0
      refine obligs_cons ?_ ?_
      · intro aa ww hC hdep hvar KK hK
        have d0 : aa.tmps.getD 0 undef = .string s := hvar 0 (slotOk_spec (by kernel_rfl))
        have d0_ := d0; rw [Array.getD_eq_getD_getElem?] at d0_
        clear hdep hvar
        (unfold opTo; go_simp; try simp only [opUpon])
        exact hK _ _ rfl hC (Below.refl _ _)
      -- 7: Op.index 9 t53 (const (6:i64))
      refine obligs_cons ?_ ?_
      · intro aa ww hC hdep hvar KK hK
        have d53 : aa.tmps.getD 53 undef = .string s := dep_of hdep 6 53 (by kernel_rfl)
        have d53_ := d53; rw [Array.getD_eq_getD_getElem?] at d53_
        clear hdep hvar
        (unfold opTo; go_simp; try simp only [opUpon])
        exact hK _ _ rfl hC (Below.refl _ _)
      -- 8: Op.binOp BinOp.eql 5 t54 (const (64:u8)) 5
      refine obligs_cons ?_ ?_
      · intro aa ww hC hdep hvar KK hK
        have d54 : aa.tmps.getD 54 undef = .int .u8 0 := dep_of hdep 7 54 (by kernel_rfl)
        have d54_ := d54; rw [Array.getD_eq_getD_getElem?] at d54_
        clear hdep hvar
        (unfold opTo; go_simp; try simp only [opUpon])
        exact hK _ _ rfl hC (Below.refl _ _)
      -- 9: Op.move t0
      refine obligs_cons ?_ ?_
      · intro aa ww hC hdep hvar KK hK
        have d0 : aa.tmps.getD 0 undef = .string s := hvar 0 (slotOk_spec (by kernel_rfl))
        have d0_ := d0; rw [Array.getD_eq_getD_getElem?] at d0_
        clear hdep hvar
        (unfold opTo; go_simp; try simp only [opUpon])
        exact hK _ _ rfl hC (Below.refl _ _)
      -- 10: Op.index 9 t56 (const (8:i64))
      refine obligs_cons ?_ ?_
      · intro aa ww hC hdep hvar KK hK
        have d56 : aa.tmps.getD 56 undef = .string s := dep_of hdep 9 56 (by kernel_rfl)
        have d56_ := d56; rw [Array.getD_eq_getD_getElem?] at d56_
        clear hdep hvar
        (unfold opTo; go_simp; try simp only [opUpon])
        exact hK _ _ rfl hC (Below.refl _ _)
      -- 11: Op.move t0
      refine obligs_cons ?_ ?_
      · intro aa ww hC hdep hvar KK hK
        have d0 : aa.tmps.getD 0 undef = .string s := hvar 0 (slotOk_spec (by kernel_rfl))
        have d0_ := d0; rw [Array.getD_eq_getD_getElem?] at d0_
        clear hdep hvar
        (unfold opTo; go_simp; try simp only [opUpon])
        exact hK _ _ rfl hC (Below.refl _ _)
      -- 12: Op.index 9 t58 (const (9:i64))
      refine obligs_cons ?_ ?_
      · intro aa ww hC hdep hvar KK hK
        have d58 : aa.tmps.getD 58 undef = .string s := dep_of hdep 11 58 (by kernel_rfl)
        have d58_ := d58; rw [Array.getD_eq_getD_getElem?] at d58_
        clear hdep hvar
        (unfold opTo; go_simp; try simp only [opUpon])
        exact hK _ _ rfl hC (Below.refl _ _)
      -- 13: Op.move t0
      refine obligs_cons ?_ ?_
      · intro aa ww hC hdep hvar KK hK
        have d0 : aa.tmps.getD 0 undef = .string s := hvar 0 (slotOk_spec (by kernel_rfl))
        have d0_ := d0; rw [Array.getD_eq_getD_getElem?] at d0_
        clear hdep hvar
        (unfold opTo; go_simp; try simp only [opUpon])
        exact hK _ _ rfl hC (Below.refl _ _)
      -- 14: Op.slice 9 t60 (some (const (12:i64))) (some (const (16:i64))) none
      refine obligs_cons ?_ ?_
      · intro aa ww hC hdep hvar KK hK
        have d60 : aa.tmps.getD 60 undef = .string s := dep_of hdep 13 60 (by kernel_rfl)
        have d60_ := d60; rw [Array.getD_eq_getD_getElem?] at d60_
        clear hdep hvar
        (unfold opTo; go_simp; try simp only [opUpon])
        exact hK _ _ rfl hC (Below.refl _ _)
      -- 15: Op.call { value (Operand.func 19), args := #[t61], argTypes := #[9] }
      refine obligs_cons ?_ ?_
      · intro aa ww hC hdep hvar KK hK
        have d61 : aa.tmps.getD 61 undef = .string (s.extract 12 16) := dep_of hdep 14 61 (by kernel_rfl)
        have d61_ := d61; rw [Array.getD_eq_getD_getElem?] at d61_
        clear hdep hvar
        (unfold opTo; go_simp; try simp only [opUpon])
        exact (num4 s 12 (by have := HT.out; omega) _).mono fun e w2 h => by obtain ⟨h1, rfl⟩ := h; exact ⟨_, h1, hK _ _ rfl hC (Below.refl _ _)⟩
      -- 16: Op.move t0
      refine obligs_cons ?_ ?_
      · intro aa ww hC hdep hvar KK hK
        have d0 : aa.tmps.getD 0 undef = .string s := hvar 0 (slotOk_spec (by kernel_rfl))
        have d0_ := d0; rw [Array.getD_eq_getD_getElem?] at d0_
        clear hdep hvar
        (unfold opTo; go_simp; try simp only [opUpon])
        exact hK _ _ rfl hC (Below.refl _ _)
      -- 17: Op.slice 9 t63 (some (const (16:i64))) (some (const (20:i64))) none
      refine obligs_cons ?_ ?_
      · intro aa ww hC hdep hvar KK hK
        have d63 : aa.tmps.getD 63 undef = .string s := dep_of hdep 16 63 (by kernel_rfl)
        have d63_ := d63; rw [Array.getD_eq_getD_getElem?] at d63_
        clear hdep hvar
        (unfold opTo; go_simp; try simp only [opUpon])
        exact hK _ _ rfl hC (Below.refl _ _)
      -- 18: Op.call { value (Operand.func 19), args := #[t64], argTypes := #[9] }
      refine obligs_cons ?_ ?_
      · intro aa ww hC hdep hvar KK hK
        have d64 : aa.tmps.getD 64 undef = .string (s.extract 16 20) := dep_of hdep 17 64 (by kernel_rfl)
        have d64_ := d64; rw [Array.getD_eq_getD_getElem?] at d64_
        clear hdep hvar
        (unfold opTo; go_simp; try simp only [opUpon])
        exact (num4 s 16 (by have := HT.out; omega) _).mono fun e w2 h => by obtain ⟨h1, rfl⟩ := h; exact ⟨_, h1, hK _ _ rfl hC (Below.refl _ _)⟩
      -- 19: Op.build 25 #[(4, t48), (5, t52), (6, t55), (3, t57), (2, t59), (0, t62), (1, t65)]
      refine obligs_cons ?_ ?_
      · intro aa ww hC hdep hvar KK hK
        have d48 : aa.tmps.getD 48 undef = .int .u8 (s[1].toNat : Int) := dep_of hdep 1 48 (by kernel_rfl)
        have d52 : aa.tmps.getD 52 undef = .int .u16 (wd (L s) 4) := dep_of hdep 5 52 (by kernel_rfl)
        have d55 : aa.tmps.getD 55 undef = .bool false := dep_of hdep 8 55 (by kernel_rfl)
        have d57 : aa.tmps.getD 57 undef = .int .u8 (s[8].toNat : Int) := dep_of hdep 10 57 (by kernel_rfl)
        have d59 : aa.tmps.getD 59 undef = .int .u8 (s[9].toNat : Int) := dep_of hdep 12 59 (by kernel_rfl)
        have d62 : aa.tmps.getD 62 undef = .int .u32 (qd (L s) 12) := dep_of hdep 15 62 (by kernel_rfl)
        have d65 : aa.tmps.getD 65 undef = .int .u32 (qd (L s) 16) := dep_of hdep 18 65 (by kernel_rfl)
        have d48_ := d48; rw [Array.getD_eq_getD_getElem?] at d48_
        have d52_ := d52; rw [Array.getD_eq_getD_getElem?] at d52_
        have d55_ := d55; rw [Array.getD_eq_getD_getElem?] at d55_
        have d57_ := d57; rw [Array.getD_eq_getD_getElem?] at d57_
        have d59_ := d59; rw [Array.getD_eq_getD_getElem?] at d59_
        have d62_ := d62; rw [Array.getD_eq_getD_getElem?] at d62_
        have d65_ := d65; rw [Array.getD_eq_getD_getElem?] at d65_
        clear hdep hvar
        (unfold opTo; go_simp; try simp only [opUpon])
        exact hK _ _ rfl hC (Below.refl _ _)
      -- 20: Op.alloc 25
      refine obligs_cons ?_ ?_
      · intro aa ww hC hdep hvar KK hK
        clear hdep hvar
        (unfold opTo; go_simp; try simp only [opUpon])
        exact hK _ _ ⟨_, rfl, hC.size, Box.new _ _ _⟩ (up_al _ hC) (up_al _ (Below.refl _ _))
      exact obligs_nil
    intro vals ww hC hY
    have e0 : vals 0 = .string s := hY 0 _ _ rfl rfl
    have e1 : vals 1 = .int .u8 (s[1].toNat : Int) := hY 1 _ _ rfl rfl
    have e2 : vals 2 = .string s := hY 2 _ _ rfl rfl
    have e3 : vals 3 = .string (s.extract 4 6) := hY 3 _ _ rfl rfl
    have e4 : vals 4 = .int .u32 (wd (L s) 4) := hY 4 _ _ rfl rfl
    have e5 : vals 5 = .int .u16 (wd (L s) 4) := hY 5 _ _ rfl rfl
    have e6 : vals 6 = .string s := hY 6 _ _ rfl rfl
    have e7 : vals 7 = .int .u8 0 := hY 7 _ _ rfl rfl
    have e8 : vals 8 = .bool false := hY 8 _ _ rfl rfl
    have e9 : vals 9 = .string s := hY 9 _ _ rfl rfl
    have e10 : vals 10 = .int .u8 (s[8].toNat : Int) := hY 10 _ _ rfl rfl
    have e11 : vals 11 = .string s := hY 11 _ _ rfl rfl
    have e12 : vals 12 = .int .u8 (s[9].toNat : Int) := hY 12 _ _ rfl rfl
    have e13 : vals 13 = .string s := hY 13 _ _ rfl rfl
    have e14 : vals 14 = .string (s.extract 12 16) := hY 14 _ _ rfl rfl
    have e15 : vals 15 = .int .u32 (qd (L s) 12) := hY 15 _ _ rfl rfl
    have e16 : vals 16 = .string s := hY 16 _ _ rfl rfl
    have e17 : vals 17 = .string (s.extract 16 20) := hY 17 _ _ rfl rfl
    have e18 : vals 18 = .int .u32 (qd (L s) 16) := hY 18 _ _ rfl rfl
    have e19 : vals 19 = HV (qd (L s) 12) (qd (L s) 16) (s[9].toNat : Int) (s[8].toNat : Int) (s[1].toNat : Int) (wd (L s) 4) false := hY 19 _ _ rfl rfl
    obtain ⟨n5, e20, hM5, hN5⟩ : New w0.heap.size [.int .u32 0, .int .u32 0, .int .u8 0, .int .u8 0, .int .u8 0, .int .u16 0, .bool false] (vals 20) ww := hY 20 _ _ rfl rfl
    clear hY
    simp only [putAll, Act.put, List.setIfInBounds_toArray, List.set_cons_zero, List.set_cons_succ, e0, e1, e2, e3, e4, e5, e6, e7, e8, e9, e10, e11, e12, e13, e14, e15, e16, e17, e18, e19, e20]
    clear e0 e1 e2 e3 e4 e5 e6 e7 e8 e9 e10 e11 e12 e13 e14 e15 e16 e17 e18 e19 e20
    have hB2 := hB.up hC
    have hu2 := hu.on hC
    have hM6 : w.heap.size ≤ n5 := Nat.le_trans hu.size hM5
    have hne : n5 ≠ w.heap.size := by have := hB.1; omega
    have hne' : w.heap.size ≠ n5 := fun h => hne h.symm
    clear hB hu hC hM5 k0 k1 k2 k3 k4 k5 k6 f0 f1 f2 f3 f4 f5 f6
    obtain ⟨k0, k1, k2, k3, k4, k5, k6, f0, f1, f2, f3, f4, f5, f6⟩ := Box.c7 hN5
    go_wp2
    have hN6 := put7 hN5 (.int .u32 (qd (L s) 12)) (.int .u32 (qd (L s) 16)) (.int .u8 (s[9].toNat : Int)) (.int .u8 (s[8].toNat : Int)) (.int .u8 (s[1].toNat : Int)) (.int .u16 (wd (L s) 4)) (.bool false)
    have hB3 := far7 hB2 hne (.int .u32 (qd (L s) 12)) (.int .u32 (qd (L s) 16)) (.int .u8 (s[9].toNat : Int)) (.int .u8 (s[8].toNat : Int)) (.int .u8 (s[1].toNat : Int)) (.int .u16 (wd (L s) 4)) (.bool false)
    have hu3 := ups7 (b := n5) hu2 hM6 (.int .u32 (qd (L s) 12)) (.int .u32 (qd (L s) 16)) (.int .u8 (s[9].toNat : Int)) (.int .u8 (s[8].toNat : Int)) (.int .u8 (s[1].toNat : Int)) (.int .u16 (wd (L s) 4)) (.bool false)
    clear k0 k1 k2 k3 k4 k5 k6 f0 f1 f2 f3 f4 f5 f6 hN5 hB2 hu2
    generalize World.setCell _ ⟨n5, 6, none⟩ _ = w3 at hN6 hB3 hu3 ⊢
    obtain ⟨k0, k1, k2, k3, k4, k5, k6, f0, f1, f2, f3, f4, f5, f6⟩ := Box.c7 hB3
    obtain ⟨m0, m1, m2, m3, m4, m5, m6⟩ := Box.e7 hN6
    go_region
    all_goals
      have hB4 := Box.drew (put7 hB3 (.int .u32 (qd (L s) 12)) (.int .u32 (qd (L s) 16)) (.int .u8 (s[9].toNat : Int)) (.int .u8 (s[8].toNat : Int)) (.int .u8 (s[1].toNat : Int)) (.int .u16 (wd (L s) 4)) (.bool false))
      have hu4 := up_dr (ups7 (b := w.heap.size) hu3 (Nat.le_refl _) (.int .u32 (qd (L s) 12)) (.int .u32 (qd (L s) 16)) (.int .u8 (s[9].toNat : Int)) (.int .u8 (s[8].toNat : Int)) (.int .u8 (s[1].toNat : Int)) (.int .u16 (wd (L s) 4)) (.bool false))
      have gd : decide (wd (L s) 6 ≠ 0) = false := by rw [g7]; decide
      have gR : RV (L s) = HV (qd (L s) 12) (qd (L s) 16) (bt (L s) 9) (bt (L s) 8) (bt (L s) 1) (wd (L s) 4) false := by show HV _ _ _ _ _ _ (decide (wd (L s) 6 ≠ 0)) = _; rw [gd]
      have GR := Lib.hid gR; clear gR gd
      generalize World.drew _ = W4 at hB4 hu4 ⊢
      clear k0 k1 k2 k3 k4 k5 k6 f0 f1 f2 f3 f4 f5 f6 hB3 hu3 hN6 m0 m1 m2 m3 m4 m5 m6
      obtain ⟨k0, k1, k2, k3, k4, k5, k6, f0, f1, f2, f3, f4, f5, f6⟩ := Box.c7 hB4
      go_wp2
      (try simp only [Exit.inBlock, Exit.then])
      refine bodyPost_ret (v := .tuple #[HV (qd (L s) 12) (qd (L s) 16) (s[9].toNat : Int) (s[8].toNat : Int) (s[1].toNat : Int) (wd (L s) 4) false, .string (s.extract 20 s.size), .int .i64 0]) ?_ rfl ⟨?_, hu4⟩
      · rw [results_cell_tmp2 rfl]; go_simp
      · rw [HD.out, HL.out, E1.out, E8.out, E9.out, GR.out]
  · go_enter Try.func11, Try.ntmps11
    go_upto_region 1 with fail
    have hB := Box.new w #[.int .u32 0, .int .u32 0, .int .u8 0, .int .u8 0, .int .u8 0, .int .u16 0, .bool false] 25
    have hu : Up w (w.alloc (.cells #[.int .u32 0, .int .u32 0, .int .u8 0, .int .u8 0, .int .u8 0, .int .u16 0, .bool false] 25)) := up_al _ (Below.refl _ _)
    generalize (w.alloc (.cells #[.int .u32 0, .int .u32 0, .int .u8 0, .int .u8 0, .int .u8 0, .int .u16 0, .bool false] 25)) = w0 at hB hu ⊢
    obtain ⟨k0, k1, k2, k3, k4, k5, k6, f0, f1, f2, f3, f4, f5, f6⟩ := Box.c7 hB
    go_wp2_with fail
    refine (num2 s 2 (by omega) _).mono ?_
    rintro e w1 ⟨rfl, rfl⟩
    go_wp2_with fail
    refine (of20 s _ (by omega)).mono ?_
    rintro e w2 ⟨rfl, rfl⟩
    go_upto_region 13 with fail
    refine wp_region_rel4 21 (fun W => Up w0 W) (fun W W' => Up W W') (Ys [Det (.string s),
        Det (.int .u8 (s[1].toNat : Int)),
        Det (.string s),
        Det (.string (s.extract 4 6)),
        Det (.int .u32 (wd (L s) 4)),
        Det (.int .u16 (wd (L s) 4)),
        Det (.string s),
        Det (.int .u8 64),
        Det (.bool true),
        Det (.string s),
        Det (.int .u8 (s[8].toNat : Int)),
        Det (.string s),
        Det (.int .u8 (s[9].toNat : Int)),
        Det (.string s),
        Det (.string (s.extract 12 16)),
        Det (.int .u32 (qd (L s) 12)),
        Det (.string s),
        Det (.string (s.extract 16 20)),
        Det (.int .u32 (qd (L s) 16)),
        Det (HV (qd (L s) 12) (qd (L s) 16) (s[9].toNat : Int) (s[8].toNat : Int) (s[1].toNat : Int) (wd (L s) 4) true),
        New w0.heap.size [.int .u32 0, .int .u32 0, .int .u8 0, .int .u8 0, .int .u8 0, .int .u16 0, .bool false]]) (by kernel_rfl) (by kernel_rfl) (by kernel_rfl) (up_dr (Below.refl _ _)) (Stable.ys ⟨Det.st _, Det.st _, Det.st _, Det.st _, Det.st _, Det.st _, Det.st _, Det.st _, Det.st _, Det.st _, Det.st _, Det.st _, Det.st _, Det.st _, Det.st _, Det.st _, Det.st _, Det.st _, Det.st _, Det.st _, New.st _ _, trivial⟩) ?_ ?_
    all_goals simp only [List.take_succ_cons, List.take_zero, List.drop_succ_cons, List.drop_zero]
    ·
      -- 0: Op.move t0
      refine obligs_cons ?_ ?_
      · intro aa ww hC hdep hvar KK hK
        have d0 : aa.tmps.getD 0 undef = .string s := hvar 0 (slotOk_spec (by kernel_rfl))
        have d0_ := d0; rw [Array.getD_eq_getD_getElem?] at d0_
        clear hdep hvar
        (unfold opTo; go_simp; try simp only [opUpon])
        exact hK _ _ rfl hC (Below.refl _ _)
      -- 1: Op.index 9 t47 (const (1:i64))
      refine obligs_cons ?_ ?_
      · intro aa ww hC hdep hvar KK hK
        have d47 : aa.tmps.getD 47 undef = .string s := dep_of hdep 0 47 (by kernel_rfl)
        have d47_ := d47; rw [Array.getD_eq_getD_getElem?] at d47_
        clear hdep hvar
        (unfold opTo; go_simp; try simp only [opUpon])
        exact hK _ _ rfl hC (Below.refl _ _)
      -- 2: Op.move t0
      refine obligs_cons ?_ ?_
      · intro aa ww hC hdep hvar KK hK
        have d0 : aa.tmps.getD 0 undef = .string s := hvar 0 (slotOk_spec (by kernel_rfl))
        have d0_ := d0; rw [Array.getD_eq_getD_getElem?] at d0_
        clear hdep hvar
        (unfold opTo; go_simp; try simp only [opUpon])
        exact hK _ _ rfl hC (Below.refl _ _)
      -- 3: Op.slice 9 t49 (some (const (4:i64))) (some (const (6:i64))) none
      refine obligs_cons ?_ ?_
      · intro aa ww hC hdep hvar KK hK
        have d49 : aa.tmps.getD 49 undef = .string s := dep_of hdep 2 49 (by kernel_rfl)
        have d49_ := d49; rw [Array.getD_eq_getD_getElem?] at d49_
        clear hdep hvar
        (unfold opTo; go_simp; try simp only [opUpon])
        exact hK _ _ rfl hC (Below.refl _ _)
      -- 4: Op.call { value (Operand.func 19), args := #[t50], argTypes := #[9] }
      refine obligs_cons ?_ ?_
      · intro aa ww hC hdep hvar KK hK
        have d50 : aa.tmps.getD 50 undef = .string (s.extract 4 6) := dep_of hdep 3 50 (by kernel_rfl)
        have d50_ := d50; rw [Array.getD_eq_getD_getElem?] at d50_
        clear hdep hvar
        (unfold opTo; go_simp; try simp only [opUpon])
        exact (num2 s 4 (by have := HT.out; omega) _).mono fun e w2 h => by obtain ⟨h1, rfl⟩ := h; exact ⟨_, h1, hK _ _ rfl hC (Below.refl _ _)⟩
      -- 5: Op.convert 22 23 t51
      refine obligs_cons ?_ ?_
      · intro aa ww hC hdep hvar KK hK
        have d51 : aa.tmps.getD 51 undef = .int .u32 (wd (L s) 4) := dep_of hdep 4 51 (by kernel_rfl)
        have d51_ := d51; rw [Array.getD_eq_getD_getElem?] at d51_
        clear hdep hvar
        (unfold opTo; go_simp; try simp only [opUpon])
        exact hK _ _ rfl hC (Below.refl _ _)
      -- 6: Op.move t0
      refine obligs_cons ?_ ?_
      · intro aa ww hC hdep hvar KK hK
        have d0 : aa.tmps.getD 0 undef = .string s := hvar 0 (slotOk_spec (by kernel_rfl))
        have d0_ := d0; rw [Array.getD_eq_getD_getElem?] at d0_
        clear hdep hvar
        (unfold opTo; go_simp; try simp only [opUpon])
        exact hK _ _ rfl hC (Below.refl _ _)
      -- 7: Op.index 9 t53 (const (6:i64))
      refine obligs_cons ?_ ?_
      · intro aa ww hC hdep hvar KK hK
        have d53 : aa.tmps.getD 53 undef = .string s := dep_of hdep 6 53 (by kernel_rfl)
        have d53_ := d53; rw [Array.getD_eq_getD_getElem?] at d53_
        clear hdep hvar
        (unfold opTo; go_simp; try simp only [opUpon])
        exact hK _ _ rfl hC (Below.refl _ _)
      -- 8: Op.binOp BinOp.eql 5 t54 (const (64:u8)) 5
      refine obligs_cons ?_ ?_
      · intro aa ww hC hdep hvar KK hK
        have d54 : aa.tmps.getD 54 undef = .int .u8 64 := dep_of hdep 7 54 (by kernel_rfl)
        have d54_ := d54; rw [Array.getD_eq_getD_getElem?] at d54_
        clear hdep hvar
        (unfold opTo; go_simp; try simp only [opUpon])
        exact hK _ _ rfl hC (Below.refl _ _)
      -- 9: Op.move t0
      refine obligs_cons ?_ ?_
      · intro aa ww hC hdep hvar KK hK
        have d0 : aa.tmps.getD 0 undef = .string s := hvar 0 (slotOk_spec (by kernel_rfl))
        have d0_ := d0; rw [Array.getD_eq_getD_getElem?] at d0_
        clear hdep hvar
        (unfold opTo; go_simp; try simp only [opUpon])
        exact hK _ _ rfl hC (Below.refl _ _)
      -- 10: Op.index 9 t56 (const (8:i64))
      refine obligs_cons ?_ ?_
      · intro aa ww hC hdep hvar KK hK
        have d56 : aa.tmps.getD 56 undef = .string s := dep_of hdep 9 56 (by kernel_rfl)
        have d56_ := d56; rw [Array.getD_eq_getD_getElem?] at d56_
        clear hdep hvar
        (unfold opTo; go_simp; try simp only [opUpon])
        exact hK _ _ rfl hC (Below.refl _ _)
      -- 11: Op.move t0
      refine obligs_cons ?_ ?_
      · intro aa ww hC hdep hvar KK hK
        have d0 : aa.tmps.getD 0 undef = .string s := hvar 0 (slotOk_spec (by kernel_rfl))
        have d0_ := d0; rw [Array.getD_eq_getD_getElem?] at d0_
        clear hdep hvar
        (unfold opTo; go_simp; try simp only [opUpon])
        exact hK _ _ rfl hC (Below.refl _ _)
      -- 12: Op.index 9 t58 (const (9:i64))
      refine obligs_cons ?_ ?_
      · intro aa ww hC hdep hvar KK hK
        have d58 : aa.tmps.getD 58 undef = .string s := dep_of hdep 11 58 (by kernel_rfl)
        have d58_ := d58; rw [Array.getD_eq_getD_getElem?] at d58_
        clear hdep hvar
        (unfold opTo; go_simp; try simp only [opUpon])
        exact hK _ _ rfl hC (Below.refl _ _)
      -- 13: Op.move t0
      refine obligs_cons ?_ ?_
      · intro aa ww hC hdep hvar KK hK
        have d0 : aa.tmps.getD 0 undef = .string s := hvar 0 (slotOk_spec (by kernel_rfl))
        have d0_ := d0; rw [Array.getD_eq_getD_getElem?] at d0_
        clear hdep hvar
        (unfold opTo; go_simp; try simp only [opUpon])
        exact hK _ _ rfl hC (Below.refl _ _)
      -- 14: Op.slice 9 t60 (some (const (12:i64))) (some (const (16:i64))) none
      refine obligs_cons ?_ ?_
      · intro aa ww hC hdep hvar KK hK
        have d60 : aa.tmps.getD 60 undef = .string s := dep_of hdep 13 60 (by kernel_rfl)
        have d60_ := d60; rw [Array.getD_eq_getD_getElem?] at d60_
        clear hdep hvar
        (unfold opTo; go_simp; try simp only [opUpon])
        exact hK _ _ rfl hC (Below.refl _ _)
      -- 15: Op.call { value (Operand.func 19), args := #[t61], argTypes := #[9] }
      refine obligs_cons ?_ ?_
      · intro aa ww hC hdep hvar KK hK
        have d61 : aa.tmps.getD 61 undef = .string (s.extract 12 16) := dep_of hdep 14 61 (by kernel_rfl)
        have d61_ := d61; rw [Array.getD_eq_getD_getElem?] at d61_
        clear hdep hvar
        (unfold opTo; go_simp; try simp only [opUpon])
        exact (num4 s 12 (by have := HT.out; omega) _).mono fun e w2 h => by obtain ⟨h1, rfl⟩ := h; exact ⟨_, h1, hK _ _ rfl hC (Below.refl _ _)⟩
      -- 16: Op.move t0
      refine obligs_cons ?_ ?_
      · intro aa ww hC hdep hvar KK hK
        have d0 : aa.tmps.getD 0 undef = .string s := hvar 0 (slotOk_spec (by kernel_rfl))
        have d0_ := d0; rw [Array.getD_eq_getD_getElem?] at d0_
        clear hdep hvar
        (unfold opTo; go_simp; try simp only [opUpon])
        exact hK _ _ rfl hC (Below.refl _ _)
      -- 17: Op.slice 9 t63 (some (const (16:i64))) (some (const (20:i64))) none
      refine obligs_cons ?_ ?_
      · intro aa ww hC hdep hvar KK hK
        have d63 : aa.tmps.getD 63 undef = .string s := dep_of hdep 16 63 (by kernel_rfl)
        have d63_ := d63; rw [Array.getD_eq_getD_getElem?] at d63_
        clear hdep hvar
        (unfold opTo; go_simp; try simp only [opUpon])
        exact hK _ _ rfl hC (Below.refl _ _)
      -- 18: Op.call { value (Operand.func 19), args := #[t64], argTypes := #[9] }
      refine obligs_cons ?_ ?_
      · intro aa ww hC hdep hvar KK hK
        have d64 : aa.tmps.getD 64 undef = .string (s.extract 16 20) := dep_of hdep 17 64 (by kernel_rfl)
        have d64_ := d64; rw [Array.getD_eq_getD_getElem?] at d64_
        clear hdep hvar
        (unfold opTo; go_simp; try simp only [opUpon])
        exact (num4 s 16 (by have := HT.out; omega) _).mono fun e w2 h => by obtain ⟨h1, rfl⟩ := h; exact ⟨_, h1, hK _ _ rfl hC (Below.refl _ _)⟩
      -- 19: Op.build 25 #[(4, t48), (5, t52), (6, t55), (3, t57), (2, t59), (0, t62), (1, t65)]
      refine obligs_cons ?_ ?_
      · intro aa ww hC hdep hvar KK hK
        have d48 : aa.tmps.getD 48 undef = .int .u8 (s[1].toNat : Int) := dep_of hdep 1 48 (by kernel_rfl)
        have d52 : aa.tmps.getD 52 undef = .int .u16 (wd (L s) 4) := dep_of hdep 5 52 (by kernel_rfl)
        have d55 : aa.tmps.getD 55 undef = .bool true := dep_of hdep 8 55 (by kernel_rfl)
        have d57 : aa.tmps.getD 57 undef = .int .u8 (s[8].toNat : Int) := dep_of hdep 10 57 (by kernel_rfl)
        have d59 : aa.tmps.getD 59 undef = .int .u8 (s[9].toNat : Int) := dep_of hdep 12 59 (by kernel_rfl)
        have d62 : aa.tmps.getD 62 undef = .int .u32 (qd (L s) 12) := dep_of hdep 15 62 (by kernel_rfl)
        have d65 : aa.tmps.getD 65 undef = .int .u32 (qd (L s) 16) := dep_of hdep 18 65 (by kernel_rfl)
        have d48_ := d48; rw [Array.getD_eq_getD_getElem?] at d48_
        have d52_ := d52; rw [Array.getD_eq_getD_getElem?] at d52_
        have d55_ := d55; rw [Array.getD_eq_getD_getElem?] at d55_
        have d57_ := d57; rw [Array.getD_eq_getD_getElem?] at d57_
        have d59_ := d59; rw [Array.getD_eq_getD_getElem?] at d59_
        have d62_ := d62; rw [Array.getD_eq_getD_getElem?] at d62_
        have d65_ := d65; rw [Array.getD_eq_getD_getElem?] at d65_
        clear hdep hvar
        (unfold opTo; go_simp; try simp only [opUpon])
        exact hK _ _ rfl hC (Below.refl _ _)
      -- 20: Op.alloc 25
      refine obligs_cons ?_ ?_
      · intro aa ww hC hdep hvar KK hK
        clear hdep hvar
        (unfold opTo; go_simp; try simp only [opUpon])
        exact hK _ _ ⟨_, rfl, hC.size, Box.new _ _ _⟩ (up_al _ hC) (up_al _ (Below.refl _ _))
      exact obligs_nil
    intro vals ww hC hY
    have e0 : vals 0 = .string s := hY 0 _ _ rfl rfl
    have e1 : vals 1 = .int .u8 (s[1].toNat : Int) := hY 1 _ _ rfl rfl
    have e2 : vals 2 = .string s := hY 2 _ _ rfl rfl
    have e3 : vals 3 = .string (s.extract 4 6) := hY 3 _ _ rfl rfl
    have e4 : vals 4 = .int .u32 (wd (L s) 4) := hY 4 _ _ rfl rfl
    have e5 : vals 5 = .int .u16 (wd (L s) 4) := hY 5 _ _ rfl rfl
    have e6 : vals 6 = .string s := hY 6 _ _ rfl rfl
    have e7 : vals 7 = .int .u8 64 := hY 7 _ _ rfl rfl
    have e8 : vals 8 = .bool true := hY 8 _ _ rfl rfl
    have e9 : vals 9 = .string s := hY 9 _ _ rfl rfl
    have e10 : vals 10 = .int .u8 (s[8].toNat : Int) := hY 10 _ _ rfl rfl
    have e11 : vals 11 = .string s := hY 11 _ _ rfl rfl
    have e12 : vals 12 = .int .u8 (s[9].toNat : Int) := hY 12 _ _ rfl rfl
    have e13 : vals 13 = .string s := hY 13 _ _ rfl rfl
    have e14 : vals 14 = .string (s.extract 12 16) := hY 14 _ _ rfl rfl
    have e15 : vals 15 = .int .u32 (qd (L s) 12) := hY 15 _ _ rfl rfl
    have e16 : vals 16 = .string s := hY 16 _ _ rfl rfl
    have e17 : vals 17 = .string (s.extract 16 20) := hY 17 _ _ rfl rfl
    have e18 : vals 18 = .int .u32 (qd (L s) 16) := hY 18 _ _ rfl rfl
    have e19 : vals 19 = HV (qd (L s) 12) (qd (L s) 16) (s[9].toNat : Int) (s[8].toNat : Int) (s[1].toNat : Int) (wd (L s) 4) true := hY 19 _ _ rfl rfl
    obtain ⟨n5, e20, hM5, hN5⟩ : New w0.heap.size [.int .u32 0, .int .u32 0, .int .u8 0, .int .u8 0, .int .u8 0, .int .u16 0, .bool false] (vals 20) ww := hY 20 _ _ rfl rfl
    clear hY
    simp only [putAll, Act.put, List.setIfInBounds_toArray, List.set_cons_zero, List.set_cons_succ, e0, e1, e2, e3, e4, e5, e6, e7, e8, e9, e10, e11, e12, e13, e14, e15, e16, e17, e18, e19, e20]
    clear e0 e1 e2 e3 e4 e5 e6 e7 e8 e9 e10 e11 e12 e13 e14 e15 e16 e17 e18 e19 e20
    have hB2 := hB.up hC
    have hu2 := hu.on hC
    have hM6 : w.heap.size ≤ n5 := Nat.le_trans hu.size hM5
    have hne : n5 ≠ w.heap.size := by have := hB.1; omega
    have hne' : w.heap.size ≠ n5 := fun h => hne h.symm
    clear hB hu hC hM5 k0 k1 k2 k3 k4 k5 k6 f0 f1 f2 f3 f4 f5 f6
    obtain ⟨k0, k1, k2, k3, k4, k5, k6, f0, f1, f2, f3, f4, f5, f6⟩ := Box.c7 hN5
    go_wp2
    have hN6 := put7 hN5 (.int .u32 (qd (L s) 12)) (.int .u32 (qd (L s) 16)) (.int .u8 (s[9].toNat : Int)) (.int .u8 (s[8].toNat : Int)) (.int .u8 (s[1].toNat : Int)) (.int .u16 (wd (L s) 4)) (.bool true)
    have hB3 := far7 hB2 hne (.int .u32 (qd (L s) 12)) (.int .u32 (qd (L s) 16)) (.int .u8 (s[9].toNat : Int)) (.int .u8 (s[8].toNat : Int)) (.int .u8 (s[1].toNat : Int)) (.int .u16 (wd (L s) 4)) (.bool true)
    have hu3 := ups7 (b := n5) hu2 hM6 (.int .u32 (qd (L s) 12)) (.int .u32 (qd (L s) 16)) (.int .u8 (s[9].toNat : Int)) (.int .u8 (s[8].toNat : Int)) (.int .u8 (s[1].toNat : Int)) (.int .u16 (wd (L s) 4)) (.bool true)
    clear k0 k1 k2 k3 k4 k5 k6 f0 f1 f2 f3 f4 f5 f6 hN5 hB2 hu2
    generalize World.setCell _ ⟨n5, 6, none⟩ _ = w3 at hN6 hB3 hu3 ⊢
    obtain ⟨k0, k1, k2, k3, k4, k5, k6, f0, f1, f2, f3, f4, f5, f6⟩ := Box.c7 hB3
    obtain ⟨m0, m1, m2, m3, m4, m5, m6⟩ := Box.e7 hN6
    go_region
    all_goals
      have hB4 := Box.drew (put7 hB3 (.int .u32 (qd (L s) 12)) (.int .u32 (qd (L s) 16)) (.int .u8 (s[9].toNat : Int)) (.int .u8 (s[8].toNat : Int)) (.int .u8 (s[1].toNat : Int)) (.int .u16 (wd (L s) 4)) (.bool true))
      have hu4 := up_dr (ups7 (b := w.heap.size) hu3 (Nat.le_refl _) (.int .u32 (qd (L s) 12)) (.int .u32 (qd (L s) 16)) (.int .u8 (s[9].toNat : Int)) (.int .u8 (s[8].toNat : Int)) (.int .u8 (s[1].toNat : Int)) (.int .u16 (wd (L s) 4)) (.bool true))
      have gd : decide (wd (L s) 6 ≠ 0) = true := by rw [g7]; decide
      have gR : RV (L s) = HV (qd (L s) 12) (qd (L s) 16) (bt (L s) 9) (bt (L s) 8) (bt (L s) 1) (wd (L s) 4) true := by show HV _ _ _ _ _ _ (decide (wd (L s) 6 ≠ 0)) = _; rw [gd]
      have GR := Lib.hid gR; clear gR gd
      generalize World.drew _ = W4 at hB4 hu4 ⊢
      clear k0 k1 k2 k3 k4 k5 k6 f0 f1 f2 f3 f4 f5 f6 hB3 hu3 hN6 m0 m1 m2 m3 m4 m5 m6
      obtain ⟨k0, k1, k2, k3, k4, k5, k6, f0, f1, f2, f3, f4, f5, f6⟩ := Box.c7 hB4
      go_wp2
      (try simp only [Exit.inBlock, Exit.then])
      refine bodyPost_ret (v := .tuple #[HV (qd (L s) 12) (qd (L s) 16) (s[9].toNat : Int) (s[8].toNat : Int) (s[1].toNat : Int) (wd (L s) 4) true, .string (s.extract 20 s.size), .int .i64 0]) ?_ rfl ⟨?_, hu4⟩
      · rw [results_cell_tmp2 rfl]; go_simp
      · rw [HD.out, HL.out, E1.out, E8.out, E9.out, GR.out]
theorem refDecode (s : ByteArray) (w : World) (hs : s.size ≤ 1099511627776) :
    Calls Try.prog 11 #[.string s] w fun e w' => e = .returned (DV (L s)) ∧ Up w w' := by
  by_cases c0 : (L s).length < 20
  · exact refDecode0 s w hs c0
  by_cases c1 : bt (L s) 0 / 16 ≠ 4
  · exact refDecode1 s w hs c0 c1
  by_cases c2 : bt (L s) 0 % 16 ≠ 5
  · exact refDecode2 s w hs c0 c1 c2
  by_cases c3 : wd (L s) 2 ≠ ((L s).length : Int)
  · exact refDecode3 s w hs c0 c1 c2 c3
  by_cases c4 : ck (wsum ((L s).take 20)) ≠ 0
  · exact refDecode4 s w hs c0 c1 c2 c3 c4
  by_cases c5 : (wd (L s) 6 ≠ 0 ∧ wd (L s) 6 ≠ 16384)
  · exact refDecode5 s w hs c0 c1 c2 c3 c4 c5
  exact refDecode6 s w hs c0 c1 c2 c3 c4 c5
end Go.Proofs.Ytolebodpcefcfaa.ip
