/- T R: contracts, part 5. Condition: as each says. -/
import Derived.Test.YtafckmbgefbonaaGreatVTR3
import Derived.Test.YtafckmbgefbonaaGreatVTRW25
import Derived.Test.YtafckmbgefbonaaGreatVTRW5
import Derived.Test.YtafckmbgefbonaaGreatVTR4
set_option linter.unusedVariables false
set_option linter.unusedSimpArgs false
set_option maxRecDepth 100000
set_option maxHeartbeats 8000000
namespace Go.Proofs.YtafckmbgefbonaaGreat.ip
open RowKit Shelf sm nb im

theorem Box.e7 {W : World} {b : Nat} {x0 x1 x2 x3 x4 x5 x6 : Value} (h : Box W b [x0, x1, x2, x3, x4, x5, x6]) : W.cell? ⟨b, 0, none⟩ = some (x0) ∧ W.cell? ⟨b, 1, none⟩ = some (x1) ∧ W.cell? ⟨b, 2, none⟩ = some (x2) ∧ W.cell? ⟨b, 3, none⟩ = some (x3) ∧ W.cell? ⟨b, 4, none⟩ = some (x4) ∧ W.cell? ⟨b, 5, none⟩ = some (x5) ∧ W.cell? ⟨b, 6, none⟩ = some (x6) :=
 ⟨h.at 0 rfl, h.at 1 rfl, h.at 2 rfl, h.at 3 rfl, h.at 4 rfl, h.at 5 rfl, h.at 6 rfl⟩
end Go.Proofs.YtafckmbgefbonaaGreat.ip

namespace Go.Proofs.YtafckmbgefbonaaGreat.ip
open RowKit Shelf sm nb im

theorem far7 {W : World} {b c : Nat} {vs : List Value} (h : Box W b vs) (hc : c ≠ b) (y0 y1 y2 y3 y4 y5 y6 : Value) : Box (((((((W.setCell ⟨c, 0, none⟩ y0).setCell ⟨c, 1, none⟩ y1).setCell ⟨c, 2, none⟩ y2).setCell ⟨c, 3, none⟩ y3).setCell ⟨c, 4, none⟩ y4).setCell ⟨c, 5, none⟩ y5).setCell ⟨c, 6, none⟩ y6) b vs := (Box.far (Box.far (Box.far (Box.far (Box.far (Box.far (Box.far h hc y0) hc y1) hc y2) hc y3) hc y4) hc y5) hc y6)
theorem sub_size (s : ByteArray) (i j : Nat) (h : i ≤ j) (hj : j ≤ s.size) : (s.extract i j).size = j - i := by simp; omega
theorem num2 (s : ByteArray) (k : Nat) (h : k + 2 ≤ s.size) (w : World) :
  Calls Tryz.prog 49 #[.string (s.extract k (k + 2))] w fun e w' => e = .returned (.int .u32 (wd (L s) k)) ∧ w = w' := by
 have hz := sub_size s k (k + 2) (by omega) h
 refine (refNum (s.extract k (k + 2)) w (by omega)).mono fun e w' ⟨h1, h2⟩ => ⟨?_, h2⟩
 rw [h1, hz, show k + 2 - k = 2 by omega, L_extract, show k + 2 - k = 2 by omega, nm2]
theorem num4 (s : ByteArray) (k : Nat) (h : k + 4 ≤ s.size) (w : World) :
  Calls Tryz.prog 49 #[.string (s.extract k (k + 4))] w fun e w' => e = .returned (.int .u32 (qd (L s) k)) ∧ w = w' := by
 have hz := sub_size s k (k + 4) (by omega) h
 refine (refNum (s.extract k (k + 4)) w (by omega)).mono fun e w' ⟨h1, h2⟩ => ⟨?_, h2⟩
 rw [h1, hz, show k + 4 - k = 4 by omega, L_extract, show k + 4 - k = 4 by omega, nm4]
theorem of20 (s : ByteArray) (w : World) (h : 20 ≤ s.size) :
  Calls Tryz.prog 64 #[.string (s.extract 0 20)] w fun e w' => e = .returned (.int .u16 (ck (wsum ((L s).take 20)))) ∧ w = w' := by
 have hz := sub_size s 0 20 (by omega) h
 refine (su.refOf (s.extract 0 20) w (by omega)).mono fun e w' ⟨h1, h2⟩ => ⟨?_, h2⟩
 rw [h1, L_extract, List.drop_zero]

theorem refDecode0 (s : ByteArray) (w : World) (hs : s.size ≤ 1099511627776)  (c0 : (L s).length < 20) :
  Calls Tryz.prog 75 #[.string s] w fun e w' => e = .returned (DV (L s)) ∧ Up w w' := by
 have HD := Lib.hid (DV_err (dec_50 c0) (by decide))
 have h20 : (s.size : Int) < 20 := by rw [L_len] at c0; omega
 clear c0
 go_enter Tryz.func75, Tryz.ntmps75
 go_upto_region 1 with fail
 have hB := Box.new w #[.int .u32 0, .int .u32 0, .int .u8 0, .int .u8 0, .int .u8 0, .int .u16 0, .bool false] 59
 have hu : Up w (w.alloc (.cells #[.int .u32 0, .int .u32 0, .int .u8 0, .int .u8 0, .int .u8 0, .int .u16 0, .bool false] 59)) := up_al _ bR
 generalize World.alloc w _ = w0 at hB hu ⊢
 obtain ⟨k0, k1, k2, k3, k4, k5, k6, f0, f1, f2, f3, f4, f5, f6⟩ := Box.c7 hB
 go_wp2
 refine fin7 hB hu (Nat.le_refl _) ?_
 clear k0 k1 k2 k3 k4 k5 k6 f0 f1 f2 f3 f4 f5 f6 hB hu
 intro W3 hB3 hu3
 obtain ⟨k0, k1, k2, k3, k4, k5, k6, f0, f1, f2, f3, f4, f5, f6⟩ := Box.c7 hB3
 (try simp only [Exit.inBlock, Exit.then])
 refine bodyPost_ret (v := .tuple #[HV 0 0 0 0 0 0 false, .string ByteArray.empty, .int .i64 50]) ?_ rfl ⟨congrArg Ending.returned HD.out.symm, hu3⟩
 rw [results_cell_tmp2 rfl]; go_simp; rfl
theorem refDecode1 (s : ByteArray) (w : World) (hs : s.size ≤ 1099511627776) (c0 : ¬ ((L s).length < 20)) (c1 : bt (L s) 0 / 16 ≠ 4) :
  Calls Tryz.prog 75 #[.string s] w fun e w' => e = .returned (DV (L s)) ∧ Up w w' := by
 have HD := Lib.hid (DV_err (dec_51 c0  c1) (by decide))
 have h20 : 20 ≤ s.size := by rw [L_len] at c0; omega
 have l0 : 0 < s.size := by omega
 have E0 := bt_at s 0 l0
 have b0 := c_lt s[0]
 have g1 : ¬ (s[0].toNat : Int) / 16 = 4 := by rw [E0]; exact c1
 clear c0 c1
 clear E0
 have HT := Lib.hid h20
 go_enter Tryz.func75, Tryz.ntmps75
 go_upto_region 1 with fail
 have hB := Box.new w #[.int .u32 0, .int .u32 0, .int .u8 0, .int .u8 0, .int .u8 0, .int .u16 0, .bool false] 59
 have hu : Up w (w.alloc (.cells #[.int .u32 0, .int .u32 0, .int .u8 0, .int .u8 0, .int .u8 0, .int .u16 0, .bool false] 59)) := up_al _ bR
 generalize World.alloc w _ = w0 at hB hu ⊢
 obtain ⟨k0, k1, k2, k3, k4, k5, k6, f0, f1, f2, f3, f4, f5, f6⟩ := Box.c7 hB
 go_wp2
 refine fin7 hB hu (Nat.le_refl _) ?_
 clear k0 k1 k2 k3 k4 k5 k6 f0 f1 f2 f3 f4 f5 f6 hB hu
 intro W3 hB3 hu3
 obtain ⟨k0, k1, k2, k3, k4, k5, k6, f0, f1, f2, f3, f4, f5, f6⟩ := Box.c7 hB3
 (try simp only [Exit.inBlock, Exit.then])
 refine bodyPost_ret (v := .tuple #[HV 0 0 0 0 0 0 false, .string ByteArray.empty, .int .i64 51]) ?_ rfl ⟨congrArg Ending.returned HD.out.symm, hu3⟩
 rw [results_cell_tmp2 rfl]; go_simp; rfl
theorem refDecode2 (s : ByteArray) (w : World) (hs : s.size ≤ 1099511627776) (c0 : ¬ ((L s).length < 20)) (c1 : ¬ (bt (L s) 0 / 16 ≠ 4)) (c2 : bt (L s) 0 % 16 ≠ 5) :
  Calls Tryz.prog 75 #[.string s] w fun e w' => e = .returned (DV (L s)) ∧ Up w w' := by
 have HD := Lib.hid (DV_err (dec_52 c0 (Decidable.not_not.1 c1) c2) (by decide))
 have h20 : 20 ≤ s.size := by rw [L_len] at c0; omega
 have l0 : 0 < s.size := by omega
 have E0 := bt_at s 0 l0
 have b0 := c_lt s[0]
 have g1 : (s[0].toNat : Int) / 16 = 4 := by rw [E0]; exact Decidable.not_not.1 c1
 have g2 : ¬ (s[0].toNat : Int) % 16 = 5 := by rw [E0]; exact c2
 clear c0 c1 c2
 clear E0
 have HT := Lib.hid h20
 go_enter Tryz.func75, Tryz.ntmps75
 go_upto_region 1 with fail
 have hB := Box.new w #[.int .u32 0, .int .u32 0, .int .u8 0, .int .u8 0, .int .u8 0, .int .u16 0, .bool false] 59
 have hu : Up w (w.alloc (.cells #[.int .u32 0, .int .u32 0, .int .u8 0, .int .u8 0, .int .u8 0, .int .u16 0, .bool false] 59)) := up_al _ bR
 generalize World.alloc w _ = w0 at hB hu ⊢
 obtain ⟨k0, k1, k2, k3, k4, k5, k6, f0, f1, f2, f3, f4, f5, f6⟩ := Box.c7 hB
 go_wp2
 refine fin7 hB hu (Nat.le_refl _) ?_
 clear k0 k1 k2 k3 k4 k5 k6 f0 f1 f2 f3 f4 f5 f6 hB hu
 intro W3 hB3 hu3
 obtain ⟨k0, k1, k2, k3, k4, k5, k6, f0, f1, f2, f3, f4, f5, f6⟩ := Box.c7 hB3
 (try simp only [Exit.inBlock, Exit.then])
 refine bodyPost_ret (v := .tuple #[HV 0 0 0 0 0 0 false, .string ByteArray.empty, .int .i64 52]) ?_ rfl ⟨congrArg Ending.returned HD.out.symm, hu3⟩
 rw [results_cell_tmp2 rfl]; go_simp; rfl
theorem refDecode3 (s : ByteArray) (w : World) (hs : s.size ≤ 1099511627776) (c0 : ¬ ((L s).length < 20)) (c1 : ¬ (bt (L s) 0 / 16 ≠ 4)) (c2 : ¬ (bt (L s) 0 % 16 ≠ 5)) (c3 : wd (L s) 2 ≠ ((L s).length : Int)) :
  Calls Tryz.prog 75 #[.string s] w fun e w' => e = .returned (DV (L s)) ∧ Up w w' := by
 have HD := Lib.hid (DV_err (dec_53 c0 (Decidable.not_not.1 c1) (Decidable.not_not.1 c2) c3) (by decide))
 have h20 : 20 ≤ s.size := by rw [L_len] at c0; omega
 have l0 : 0 < s.size := by omega
 have E0 := bt_at s 0 l0
 have b0 := c_lt s[0]
 have g1 : (s[0].toNat : Int) / 16 = 4 := by rw [E0]; exact Decidable.not_not.1 c1
 have g2 : (s[0].toNat : Int) % 16 = 5 := by rw [E0]; exact Decidable.not_not.1 c2
 have bw := wd_bd (L s) 2
 have g3 : ¬ wd (L s) 2 = (s.size : Int) := c3
 have y1 : IntKind.i64.wrap (wd (L s) 2) = wd (L s) 2 := IntWalk.i64_in _ (by omega)
 clear c0 c1 c2 c3
 clear E0
 have HT := Lib.hid h20
 have i4 : (4 : Int) ≤ (s.size : Int) := by omega
 go_enter Tryz.func75, Tryz.ntmps75
 go_upto_region 1 with fail
 have hB := Box.new w #[.int .u32 0, .int .u32 0, .int .u8 0, .int .u8 0, .int .u8 0, .int .u16 0, .bool false] 59
 have hu : Up w (w.alloc (.cells #[.int .u32 0, .int .u32 0, .int .u8 0, .int .u8 0, .int .u8 0, .int .u16 0, .bool false] 59)) := up_al _ bR
 generalize World.alloc w _ = w0 at hB hu ⊢
 obtain ⟨k0, k1, k2, k3, k4, k5, k6, f0, f1, f2, f3, f4, f5, f6⟩ := Box.c7 hB
 go_wp2_with fail
 refine (num2 s 2 (by omega) _).mono ?_
 rintro e w1 ⟨rfl, rfl⟩
 go_wp2
 refine fin7 hB hu (Nat.le_refl _) ?_
 clear k0 k1 k2 k3 k4 k5 k6 f0 f1 f2 f3 f4 f5 f6 hB hu
 intro W3 hB3 hu3
 obtain ⟨k0, k1, k2, k3, k4, k5, k6, f0, f1, f2, f3, f4, f5, f6⟩ := Box.c7 hB3
 (try simp only [Exit.inBlock, Exit.then])
 refine bodyPost_ret (v := .tuple #[HV 0 0 0 0 0 0 false, .string ByteArray.empty, .int .i64 53]) ?_ rfl ⟨congrArg Ending.returned HD.out.symm, hu3⟩
 rw [results_cell_tmp2 rfl]; go_simp; rfl
theorem refDecode4 (s : ByteArray) (w : World) (hs : s.size ≤ 1099511627776) (c0 : ¬ ((L s).length < 20)) (c1 : ¬ (bt (L s) 0 / 16 ≠ 4)) (c2 : ¬ (bt (L s) 0 % 16 ≠ 5)) (c3 : ¬ (wd (L s) 2 ≠ ((L s).length : Int))) (c4 : ck (wsum ((L s).take 20)) ≠ 0) :
  Calls Tryz.prog 75 #[.string s] w fun e w' => e = .returned (DV (L s)) ∧ Up w w' := by
 have HD := Lib.hid (DV_err (dec_55 c0 (Decidable.not_not.1 c1) (Decidable.not_not.1 c2) (Decidable.not_not.1 c3) c4) (by decide))
 have h20 : 20 ≤ s.size := by rw [L_len] at c0; omega
 have l0 : 0 < s.size := by omega
 have E0 := bt_at s 0 l0
 have b0 := c_lt s[0]
 have g1 : (s[0].toNat : Int) / 16 = 4 := by rw [E0]; exact Decidable.not_not.1 c1
 have g2 : (s[0].toNat : Int) % 16 = 5 := by rw [E0]; exact Decidable.not_not.1 c2
 have bw := wd_bd (L s) 2
 have g3 : wd (L s) 2 = (s.size : Int) := Decidable.not_not.1 c3
 have g4 : ¬ ck (wsum ((L s).take 20)) = 0 := c4
 have y1 : IntKind.i64.wrap (wd (L s) 2) = wd (L s) 2 := IntWalk.i64_in _ (by omega)
 clear c0 c1 c2 c3 c4
 clear E0
 have HT := Lib.hid h20
 have i4 : (4 : Int) ≤ (s.size : Int) := by omega
 have i20 : (20 : Int) ≤ (s.size : Int) := by omega
 go_enter Tryz.func75, Tryz.ntmps75
 go_upto_region 1 with fail
 have hB := Box.new w #[.int .u32 0, .int .u32 0, .int .u8 0, .int .u8 0, .int .u8 0, .int .u16 0, .bool false] 59
 have hu : Up w (w.alloc (.cells #[.int .u32 0, .int .u32 0, .int .u8 0, .int .u8 0, .int .u8 0, .int .u16 0, .bool false] 59)) := up_al _ bR
 generalize World.alloc w _ = w0 at hB hu ⊢
 obtain ⟨k0, k1, k2, k3, k4, k5, k6, f0, f1, f2, f3, f4, f5, f6⟩ := Box.c7 hB
 go_wp2_with fail
 refine (num2 s 2 (by omega) _).mono ?_
 rintro e w1 ⟨rfl, rfl⟩
 go_wp2_with fail
 refine (of20 s _ (by omega)).mono ?_
 rintro e w2 ⟨rfl, rfl⟩
 go_wp2
 refine fin7 hB hu (Nat.le_refl _) ?_
 clear k0 k1 k2 k3 k4 k5 k6 f0 f1 f2 f3 f4 f5 f6 hB hu
 intro W3 hB3 hu3
 obtain ⟨k0, k1, k2, k3, k4, k5, k6, f0, f1, f2, f3, f4, f5, f6⟩ := Box.c7 hB3
 (try simp only [Exit.inBlock, Exit.then])
 refine bodyPost_ret (v := .tuple #[HV 0 0 0 0 0 0 false, .string ByteArray.empty, .int .i64 55]) ?_ rfl ⟨congrArg Ending.returned HD.out.symm, hu3⟩
 rw [results_cell_tmp2 rfl]; go_simp; rfl
theorem refDecode5 (s : ByteArray) (w : World) (hs : s.size ≤ 1099511627776) (c0 : ¬ ((L s).length < 20)) (c1 : ¬ (bt (L s) 0 / 16 ≠ 4)) (c2 : ¬ (bt (L s) 0 % 16 ≠ 5)) (c3 : ¬ (wd (L s) 2 ≠ ((L s).length : Int))) (c4 : ¬ (ck (wsum ((L s).take 20)) ≠ 0)) (c5 : (wd (L s) 6 ≠ 0 ∧ wd (L s) 6 ≠ 16384)) :
  Calls Tryz.prog 75 #[.string s] w fun e w' => e = .returned (DV (L s)) ∧ Up w w' := by
 have HD := Lib.hid (DV_err (dec_54 c0 (Decidable.not_not.1 c1) (Decidable.not_not.1 c2) (Decidable.not_not.1 c3) (Decidable.not_not.1 c4) c5) (by decide))
 have h20 : 20 ≤ s.size := by rw [L_len] at c0; omega
 have l0 : 0 < s.size := by omega
 have E0 := bt_at s 0 l0
 have b0 := c_lt s[0]
 have g1 : (s[0].toNat : Int) / 16 = 4 := by rw [E0]; exact Decidable.not_not.1 c1
 have g2 : (s[0].toNat : Int) % 16 = 5 := by rw [E0]; exact Decidable.not_not.1 c2
 have bw := wd_bd (L s) 2
 have g3 : wd (L s) 2 = (s.size : Int) := Decidable.not_not.1 c3
 have g4 : ck (wsum ((L s).take 20)) = 0 := Decidable.not_not.1 c4
 have y1 : IntKind.i64.wrap (wd (L s) 2) = wd (L s) 2 := IntWalk.i64_in _ (by omega)
 have l6 : 6 < s.size := by omega
 have l7 : 7 < s.size := by omega
 have j6 : (6 : Int) < (s.size : Int) := by omega
 have j7 : (7 : Int) < (s.size : Int) := by omega
 have E6 := bt_at s 6 l6
 have E7 := bt_at s 7 l7
 have EW : wd (L s) 6 = (s[6].toNat : Int) * 256 + (s[7].toNat : Int) := by rw [E6, E7]; rfl
 have b6 := c_lt s[6]; have b7 := c_lt s[7]
 have g5 : (¬ (s[6].toNat : Int) = 0 ∧ ¬ (s[6].toNat : Int) = 64) ∨ ((s[6].toNat : Int) = 0 ∧ ¬ (s[7].toNat : Int) = 0) ∨ ((s[6].toNat : Int) = 64 ∧ ¬ (s[7].toNat : Int) = 0) := by omega
 clear E6 E7 EW
 clear c0 c1 c2 c3 c4 c5
 clear E0
 have HT := Lib.hid h20
 have i4 : (4 : Int) ≤ (s.size : Int) := by omega
 have i20 : (20 : Int) ≤ (s.size : Int) := by omega
 rcases g5 with ⟨g5, g6⟩ | ⟨g5, g6⟩ | ⟨g5, g6⟩
 all_goals
  go_enter Tryz.func75, Tryz.ntmps75
  go_upto_region 1 with fail
  have hB := Box.new w #[.int .u32 0, .int .u32 0, .int .u8 0, .int .u8 0, .int .u8 0, .int .u16 0, .bool false] 59
  have hu : Up w (w.alloc (.cells #[.int .u32 0, .int .u32 0, .int .u8 0, .int .u8 0, .int .u8 0, .int .u16 0, .bool false] 59)) := up_al _ bR
  generalize World.alloc w _ = w0 at hB hu ⊢
  obtain ⟨k0, k1, k2, k3, k4, k5, k6, f0, f1, f2, f3, f4, f5, f6⟩ := Box.c7 hB
  go_wp2_with fail
  refine (num2 s 2 (by omega) _).mono ?_
  rintro e w1 ⟨rfl, rfl⟩
  go_wp2_with fail
  refine (of20 s _ (by omega)).mono ?_
  rintro e w2 ⟨rfl, rfl⟩
  go_wp2
  refine fin7 hB hu (Nat.le_refl _) ?_
  clear k0 k1 k2 k3 k4 k5 k6 f0 f1 f2 f3 f4 f5 f6 hB hu
  intro W3 hB3 hu3
  obtain ⟨k0, k1, k2, k3, k4, k5, k6, f0, f1, f2, f3, f4, f5, f6⟩ := Box.c7 hB3
  (try simp only [Exit.inBlock, Exit.then])
  refine bodyPost_ret (v := .tuple #[HV 0 0 0 0 0 0 false, .string ByteArray.empty, .int .i64 54]) ?_ rfl ⟨congrArg Ending.returned HD.out.symm, hu3⟩
  rw [results_cell_tmp2 rfl]; go_simp; rfl
theorem refDecode6 (s : ByteArray) (w : World) (hs : s.size ≤ 1099511627776) (c0 : ¬ ((L s).length < 20)) (c1 : ¬ (bt (L s) 0 / 16 ≠ 4)) (c2 : ¬ (bt (L s) 0 % 16 ≠ 5)) (c3 : ¬ (wd (L s) 2 ≠ ((L s).length : Int))) (c4 : ¬ (ck (wsum ((L s).take 20)) ≠ 0)) (c5 : ¬ (wd (L s) 6 ≠ 0 ∧ wd (L s) 6 ≠ 16384)) :
  Calls Tryz.prog 75 #[.string s] w fun e w' => e = .returned (DV (L s)) ∧ Up w w' := by
 have HD := Lib.hid (DV_ok (dec_0 c0 (Decidable.not_not.1 c1) (Decidable.not_not.1 c2) (Decidable.not_not.1 c3) (Decidable.not_not.1 c4) c5))
 have h20 : 20 ≤ s.size := by rw [L_len] at c0; omega
 have l0 : 0 < s.size := by omega
 have E0 := bt_at s 0 l0
 have b0 := c_lt s[0]
 have g1 : (s[0].toNat : Int) / 16 = 4 := by rw [E0]; exact Decidable.not_not.1 c1
 have g2 : (s[0].toNat : Int) % 16 = 5 := by rw [E0]; exact Decidable.not_not.1 c2
 have bw := wd_bd (L s) 2
 have g3 : wd (L s) 2 = (s.size : Int) := Decidable.not_not.1 c3
 have g4 : ck (wsum ((L s).take 20)) = 0 := Decidable.not_not.1 c4
 have y1 : IntKind.i64.wrap (wd (L s) 2) = wd (L s) 2 := IntWalk.i64_in _ (by omega)
 have l1 : 1 < s.size := by omega
 have l6 : 6 < s.size := by omega
 have l7 : 7 < s.size := by omega
 have l8 : 8 < s.size := by omega
 have l9 : 9 < s.size := by omega
 have j1 : (1 : Int) < (s.size : Int) := by omega
 have j6 : (6 : Int) < (s.size : Int) := by omega
 have j7 : (7 : Int) < (s.size : Int) := by omega
 have j8 : (8 : Int) < (s.size : Int) := by omega
 have j9 : (9 : Int) < (s.size : Int) := by omega
 have i4 : (4 : Int) ≤ (s.size : Int) := by omega
 have i6 : (6 : Int) ≤ (s.size : Int) := by omega
 have i12 : (12 : Int) ≤ (s.size : Int) := by omega
 have i16 : (16 : Int) ≤ (s.size : Int) := by omega
 have i20 : (20 : Int) ≤ (s.size : Int) := by omega
 have E1 := Lib.hid (bt_at s 1 l1); have E8 := Lib.hid (bt_at s 8 l8); have E9 := Lib.hid (bt_at s 9 l9)
 have E6 := bt_at s 6 l6
 have E7 := bt_at s 7 l7
 have EW : wd (L s) 6 = (s[6].toNat : Int) * 256 + (s[7].toNat : Int) := by rw [E6, E7]; rfl
 have b6 := c_lt s[6]; have b7 := c_lt s[7]
 have g5 : ((s[6].toNat : Int) = 0 ∧ (s[7].toNat : Int) = 0 ∧ wd (L s) 6 = 0) ∨ ((s[6].toNat : Int) = 64 ∧ (s[7].toNat : Int) = 0 ∧ wd (L s) 6 = 16384) := by omega
 have bw4 := wd_bd (L s) 4
 have y4 : IntKind.u16.wrap (wd (L s) 4) = wd (L s) 4 := by rw [IntKind.wrap_u16]; omega
 have hL : tx ((L s).drop 20) = s.extract 20 s.size := by rw [tx_extract, List.take_of_length_le (by rw [List.length_drop, L_len]; exact Nat.le_refl _)]
 have HL := Lib.hid hL
 clear E6 E7 EW E0 c0 c1 c2 c3 c4 c5 hL
 have HT := Lib.hid h20
 rcases g5 with ⟨g5, g6, g7⟩ | ⟨g5, g6, g7⟩
 ·go_enter Tryz.func75, Tryz.ntmps75
  go_upto_region 1 with fail
  have hB := Box.new w #[.int .u32 0, .int .u32 0, .int .u8 0, .int .u8 0, .int .u8 0, .int .u16 0, .bool false] 59
  have hu : Up w (w.alloc (.cells #[.int .u32 0, .int .u32 0, .int .u8 0, .int .u8 0, .int .u8 0, .int .u16 0, .bool false] 59)) := up_al _ bR
  generalize World.alloc w _ = w0 at hB hu ⊢
  obtain ⟨k0, k1, k2, k3, k4, k5, k6, f0, f1, f2, f3, f4, f5, f6⟩ := Box.c7 hB
  go_wp2_with fail
  refine (num2 s 2 (by omega) _).mono ?_
  rintro e w1 ⟨rfl, rfl⟩
  go_wp2_with fail
  refine (of20 s _ (by omega)).mono ?_
  rintro e w2 ⟨rfl, rfl⟩
  go_upto_region 13 with fail
  refine wp_region_rel4 21 (fun W => Up w0 W) (fun W W' => Up W W') (Ys [Det (.string s),
    Det (.int .u8 (s[1].toNat : Int)),
    Det (.string s),
    Det (.string (s.extract 4 6)),
    Det (.int .u32 (wd (L s) 4)),
    Det (.int .u16 (wd (L s) 4)),
    Det (.string s),
    Det (.int .u8 0),
    Det (.bool false),
    Det (.string s),
    Det (.int .u8 (s[8].toNat : Int)),
    Det (.string s),
    Det (.int .u8 (s[9].toNat : Int)),
    Det (.string s),
    Det (.string (s.extract 12 16)),
    Det (.int .u32 (qd (L s) 12)),
    Det (.string s),
    Det (.string (s.extract 16 20)),
    Det (.int .u32 (qd (L s) 16)),
    Det (HV (qd (L s) 12) (qd (L s) 16) (s[9].toNat : Int) (s[8].toNat : Int) (s[1].toNat : Int) (wd (L s) 4) false),
    New w0.heap.size [.int .u32 0, .int .u32 0, .int .u8 0, .int .u8 0, .int .u8 0, .int .u16 0, .bool false]]) (by kernel_rfl) (by kernel_rfl) (by kernel_rfl) (up_dr bR) (Stable.ys ⟨Det.st _, Det.st _, Det.st _, Det.st _, Det.st _, Det.st _, Det.st _, Det.st _, Det.st _, Det.st _, Det.st _, Det.st _, Det.st _, Det.st _, Det.st _, Det.st _, Det.st _, Det.st _, Det.st _, Det.st _, New.st _ _, trivial⟩) ?_ ?_
  all_goals simp only [List.take_succ_cons, List.take_zero, List.drop_succ_cons, List.drop_zero]
  ·
   refine oC ?_ ?_
   ·intro aa ww hC hp hv KK hK
    have d0 : aa.tmps.getD 0 undef = .string s := hv 0 (slotOk_spec (by kernel_rfl))
    have d0_ := gD d0
    clear hp hv
    (unfold opTo; go_simp; try simp only [opUpon])
    exact hK _ _ rfl hC bR
   refine oC ?_ ?_
   ·intro aa ww hC hp hv KK hK
    have d47 : aa.tmps.getD 47 undef = .string s := dep_of hp 0 47 (by kernel_rfl)
    have d47_ := gD d47
    clear hp hv
    (unfold opTo; go_simp; try simp only [opUpon])
    exact hK _ _ rfl hC bR
   refine oC ?_ ?_
   ·intro aa ww hC hp hv KK hK
    have d0 : aa.tmps.getD 0 undef = .string s := hv 0 (slotOk_spec (by kernel_rfl))
    have d0_ := gD d0
    clear hp hv
    (unfold opTo; go_simp; try simp only [opUpon])
    exact hK _ _ rfl hC bR
   refine oC ?_ ?_
   ·intro aa ww hC hp hv KK hK
    have d49 : aa.tmps.getD 49 undef = .string s := dep_of hp 2 49 (by kernel_rfl)
    have d49_ := gD d49
    clear hp hv
    (unfold opTo; go_simp; try simp only [opUpon])
    exact hK _ _ rfl hC bR
   refine oC ?_ ?_
   ·intro aa ww hC hp hv KK hK
    have d50 : aa.tmps.getD 50 undef = .string (s.extract 4 6) := dep_of hp 3 50 (by kernel_rfl)
    have d50_ := gD d50
    clear hp hv
    (unfold opTo; go_simp; try simp only [opUpon])
    exact (num2 s 4 (by have := HT.out; omega) _).mono fun e w2 h => by obtain ⟨h1, rfl⟩ := h; exact ⟨_, h1, hK _ _ rfl hC bR⟩
   refine oC ?_ ?_
   ·intro aa ww hC hp hv KK hK
    have d51 : aa.tmps.getD 51 undef = .int .u32 (wd (L s) 4) := dep_of hp 4 51 (by kernel_rfl)
    have d51_ := gD d51
    clear hp hv
    (unfold opTo; go_simp; try simp only [opUpon])
    exact hK _ _ rfl hC bR
   refine oC ?_ ?_
   ·intro aa ww hC hp hv KK hK
    have d0 : aa.tmps.getD 0 undef = .string s := hv 0 (slotOk_spec (by kernel_rfl))
    have d0_ := gD d0
    clear hp hv
    (unfold opTo; go_simp; try simp only [opUpon])
    exact hK _ _ rfl hC bR
   refine oC ?_ ?_
   ·intro aa ww hC hp hv KK hK
    have d53 : aa.tmps.getD 53 undef = .string s := dep_of hp 6 53 (by kernel_rfl)
    have d53_ := gD d53
    clear hp hv
    (unfold opTo; go_simp; try simp only [opUpon])
    exact hK _ _ rfl hC bR
   refine oC ?_ ?_
   ·intro aa ww hC hp hv KK hK
    have d54 : aa.tmps.getD 54 undef = .int .u8 0 := dep_of hp 7 54 (by kernel_rfl)
    have d54_ := gD d54
    clear hp hv
    (unfold opTo; go_simp; try simp only [opUpon])
    exact hK _ _ rfl hC bR
   refine oC ?_ ?_
   ·intro aa ww hC hp hv KK hK
    have d0 : aa.tmps.getD 0 undef = .string s := hv 0 (slotOk_spec (by kernel_rfl))
    have d0_ := gD d0
    clear hp hv
    (unfold opTo; go_simp; try simp only [opUpon])
    exact hK _ _ rfl hC bR
   refine oC ?_ ?_
   ·intro aa ww hC hp hv KK hK
    have d56 : aa.tmps.getD 56 undef = .string s := dep_of hp 9 56 (by kernel_rfl)
    have d56_ := gD d56
    clear hp hv
    (unfold opTo; go_simp; try simp only [opUpon])
    exact hK _ _ rfl hC bR
   refine oC ?_ ?_
   ·intro aa ww hC hp hv KK hK
    have d0 : aa.tmps.getD 0 undef = .string s := hv 0 (slotOk_spec (by kernel_rfl))
    have d0_ := gD d0
    clear hp hv
    (unfold opTo; go_simp; try simp only [opUpon])
    exact hK _ _ rfl hC bR
   refine oC ?_ ?_
   ·intro aa ww hC hp hv KK hK
    have d58 : aa.tmps.getD 58 undef = .string s := dep_of hp 11 58 (by kernel_rfl)
    have d58_ := gD d58
    clear hp hv
    (unfold opTo; go_simp; try simp only [opUpon])
    exact hK _ _ rfl hC bR
   refine oC ?_ ?_
   ·intro aa ww hC hp hv KK hK
    have d0 : aa.tmps.getD 0 undef = .string s := hv 0 (slotOk_spec (by kernel_rfl))
    have d0_ := gD d0
    clear hp hv
    (unfold opTo; go_simp; try simp only [opUpon])
    exact hK _ _ rfl hC bR
   refine oC ?_ ?_
   ·intro aa ww hC hp hv KK hK
    have d60 : aa.tmps.getD 60 undef = .string s := dep_of hp 13 60 (by kernel_rfl)
    have d60_ := gD d60
    clear hp hv
    (unfold opTo; go_simp; try simp only [opUpon])
    exact hK _ _ rfl hC bR
   refine oC ?_ ?_
   ·intro aa ww hC hp hv KK hK
    have d61 : aa.tmps.getD 61 undef = .string (s.extract 12 16) := dep_of hp 14 61 (by kernel_rfl)
    have d61_ := gD d61
    clear hp hv
    (unfold opTo; go_simp; try simp only [opUpon])
    exact (num4 s 12 (by have := HT.out; omega) _).mono fun e w2 h => by obtain ⟨h1, rfl⟩ := h; exact ⟨_, h1, hK _ _ rfl hC bR⟩
   refine oC ?_ ?_
   ·intro aa ww hC hp hv KK hK
    have d0 : aa.tmps.getD 0 undef = .string s := hv 0 (slotOk_spec (by kernel_rfl))
    have d0_ := gD d0
    clear hp hv
    (unfold opTo; go_simp; try simp only [opUpon])
    exact hK _ _ rfl hC bR
   refine oC ?_ ?_
   ·intro aa ww hC hp hv KK hK
    have d63 : aa.tmps.getD 63 undef = .string s := dep_of hp 16 63 (by kernel_rfl)
    have d63_ := gD d63
    clear hp hv
    (unfold opTo; go_simp; try simp only [opUpon])
    exact hK _ _ rfl hC bR
   refine oC ?_ ?_
   ·intro aa ww hC hp hv KK hK
    have d64 : aa.tmps.getD 64 undef = .string (s.extract 16 20) := dep_of hp 17 64 (by kernel_rfl)
    have d64_ := gD d64
    clear hp hv
    (unfold opTo; go_simp; try simp only [opUpon])
    exact (num4 s 16 (by have := HT.out; omega) _).mono fun e w2 h => by obtain ⟨h1, rfl⟩ := h; exact ⟨_, h1, hK _ _ rfl hC bR⟩
   refine oC ?_ ?_
   ·intro aa ww hC hp hv KK hK
    have d48 : aa.tmps.getD 48 undef = .int .u8 (s[1].toNat : Int) := dep_of hp 1 48 (by kernel_rfl)
    have d52 : aa.tmps.getD 52 undef = .int .u16 (wd (L s) 4) := dep_of hp 5 52 (by kernel_rfl)
    have d55 : aa.tmps.getD 55 undef = .bool false := dep_of hp 8 55 (by kernel_rfl)
    have d57 : aa.tmps.getD 57 undef = .int .u8 (s[8].toNat : Int) := dep_of hp 10 57 (by kernel_rfl)
    have d59 : aa.tmps.getD 59 undef = .int .u8 (s[9].toNat : Int) := dep_of hp 12 59 (by kernel_rfl)
    have d62 : aa.tmps.getD 62 undef = .int .u32 (qd (L s) 12) := dep_of hp 15 62 (by kernel_rfl)
    have d65 : aa.tmps.getD 65 undef = .int .u32 (qd (L s) 16) := dep_of hp 18 65 (by kernel_rfl)
    have d48_ := gD d48
    have d52_ := gD d52
    have d55_ := gD d55
    have d57_ := gD d57
    have d59_ := gD d59
    have d62_ := gD d62
    have d65_ := gD d65
    clear hp hv
    (unfold opTo; go_simp; try simp only [opUpon])
    exact hK _ _ rfl hC bR
   refine oC ?_ ?_
   ·intro aa ww hC hp hv KK hK
    clear hp hv
    (unfold opTo; go_simp; try simp only [opUpon])
    exact hK _ _ ⟨_, rfl, hC.size, Box.new _ _ _⟩ (up_al _ hC) (up_al _ bR)
   exact obligs_nil
  intro vals ww hC hY
  have e0 : vals 0 = .string s := hY 0 _ _ rfl rfl
  have e1 : vals 1 = .int .u8 (s[1].toNat : Int) := hY 1 _ _ rfl rfl
  have e2 : vals 2 = .string s := hY 2 _ _ rfl rfl
  have e3 : vals 3 = .string (s.extract 4 6) := hY 3 _ _ rfl rfl
  have e4 : vals 4 = .int .u32 (wd (L s) 4) := hY 4 _ _ rfl rfl
  have e5 : vals 5 = .int .u16 (wd (L s) 4) := hY 5 _ _ rfl rfl
  have e6 : vals 6 = .string s := hY 6 _ _ rfl rfl
  have e7 : vals 7 = .int .u8 0 := hY 7 _ _ rfl rfl
  have e8 : vals 8 = .bool false := hY 8 _ _ rfl rfl
  have e9 : vals 9 = .string s := hY 9 _ _ rfl rfl
  have e10 : vals 10 = .int .u8 (s[8].toNat : Int) := hY 10 _ _ rfl rfl
  have e11 : vals 11 = .string s := hY 11 _ _ rfl rfl
  have e12 : vals 12 = .int .u8 (s[9].toNat : Int) := hY 12 _ _ rfl rfl
  have e13 : vals 13 = .string s := hY 13 _ _ rfl rfl
  have e14 : vals 14 = .string (s.extract 12 16) := hY 14 _ _ rfl rfl
  have e15 : vals 15 = .int .u32 (qd (L s) 12) := hY 15 _ _ rfl rfl
  have e16 : vals 16 = .string s := hY 16 _ _ rfl rfl
  have e17 : vals 17 = .string (s.extract 16 20) := hY 17 _ _ rfl rfl
  have e18 : vals 18 = .int .u32 (qd (L s) 16) := hY 18 _ _ rfl rfl
  have e19 : vals 19 = HV (qd (L s) 12) (qd (L s) 16) (s[9].toNat : Int) (s[8].toNat : Int) (s[1].toNat : Int) (wd (L s) 4) false := hY 19 _ _ rfl rfl
  obtain ⟨n5, e20, hM5, hN5⟩ : New w0.heap.size [.int .u32 0, .int .u32 0, .int .u8 0, .int .u8 0, .int .u8 0, .int .u16 0, .bool false] (vals 20) ww := hY 20 _ _ rfl rfl
  clear hY
  simp only [putAll, Act.put, List.setIfInBounds_toArray, List.set_cons_zero, List.set_cons_succ, e0, e1, e2, e3, e4, e5, e6, e7, e8, e9, e10, e11, e12, e13, e14, e15, e16, e17, e18, e19, e20]
  clear e0 e1 e2 e3 e4 e5 e6 e7 e8 e9 e10 e11 e12 e13 e14 e15 e16 e17 e18 e19 e20
  have hB2 := hB.up hC
  have hu2 := hu.on hC
  have hM6 : w.heap.size ≤ n5 := Nat.le_trans hu.size hM5
  have hne : n5 ≠ w.heap.size := by have := hB.1; omega
  have hne' : w.heap.size ≠ n5 := fun h => hne h.symm
  clear hB hu hC hM5 k0 k1 k2 k3 k4 k5 k6 f0 f1 f2 f3 f4 f5 f6
  obtain ⟨k0, k1, k2, k3, k4, k5, k6, f0, f1, f2, f3, f4, f5, f6⟩ := Box.c7 hN5
  go_wp2
  have hN6 := put7 hN5 (.int .u32 (qd (L s) 12)) (.int .u32 (qd (L s) 16)) (.int .u8 (s[9].toNat : Int)) (.int .u8 (s[8].toNat : Int)) (.int .u8 (s[1].toNat : Int)) (.int .u16 (wd (L s) 4)) (.bool false)
  have hB3 := far7 hB2 hne (.int .u32 (qd (L s) 12)) (.int .u32 (qd (L s) 16)) (.int .u8 (s[9].toNat : Int)) (.int .u8 (s[8].toNat : Int)) (.int .u8 (s[1].toNat : Int)) (.int .u16 (wd (L s) 4)) (.bool false)
  have hu3 := ups7 (b := n5) hu2 hM6 (.int .u32 (qd (L s) 12)) (.int .u32 (qd (L s) 16)) (.int .u8 (s[9].toNat : Int)) (.int .u8 (s[8].toNat : Int)) (.int .u8 (s[1].toNat : Int)) (.int .u16 (wd (L s) 4)) (.bool false)
  clear k0 k1 k2 k3 k4 k5 k6 f0 f1 f2 f3 f4 f5 f6 hN5 hB2 hu2
  generalize World.setCell _ ⟨n5, 6, none⟩ _ = w3 at hN6 hB3 hu3 ⊢
  obtain ⟨k0, k1, k2, k3, k4, k5, k6, f0, f1, f2, f3, f4, f5, f6⟩ := Box.c7 hB3
  obtain ⟨m0, m1, m2, m3, m4, m5, m6⟩ := Box.e7 hN6
  go_region
  all_goals
   have hB4 := Box.drew (put7 hB3 (.int .u32 (qd (L s) 12)) (.int .u32 (qd (L s) 16)) (.int .u8 (s[9].toNat : Int)) (.int .u8 (s[8].toNat : Int)) (.int .u8 (s[1].toNat : Int)) (.int .u16 (wd (L s) 4)) (.bool false))
   have hu4 := up_dr (ups7 (b := w.heap.size) hu3 (Nat.le_refl _) (.int .u32 (qd (L s) 12)) (.int .u32 (qd (L s) 16)) (.int .u8 (s[9].toNat : Int)) (.int .u8 (s[8].toNat : Int)) (.int .u8 (s[1].toNat : Int)) (.int .u16 (wd (L s) 4)) (.bool false))
   have gd : decide (wd (L s) 6 ≠ 0) = false := by rw [g7]; decide
   have gR : RV (L s) = HV (qd (L s) 12) (qd (L s) 16) (bt (L s) 9) (bt (L s) 8) (bt (L s) 1) (wd (L s) 4) false := by show HV _ _ _ _ _ _ (decide (wd (L s) 6 ≠ 0)) = _; rw [gd]
   have GR := Lib.hid gR; clear gR gd
   generalize World.drew _ = W4 at hB4 hu4 ⊢
   clear k0 k1 k2 k3 k4 k5 k6 f0 f1 f2 f3 f4 f5 f6 hB3 hu3 hN6 m0 m1 m2 m3 m4 m5 m6
   obtain ⟨k0, k1, k2, k3, k4, k5, k6, f0, f1, f2, f3, f4, f5, f6⟩ := Box.c7 hB4
   go_wp2
   (try simp only [Exit.inBlock, Exit.then])
   refine bodyPost_ret (v := .tuple #[HV (qd (L s) 12) (qd (L s) 16) (s[9].toNat : Int) (s[8].toNat : Int) (s[1].toNat : Int) (wd (L s) 4) false, .string (s.extract 20 s.size), .int .i64 0]) ?_ rfl ⟨?_, hu4⟩
   ·rw [results_cell_tmp2 rfl]; go_simp
   ·rw [HD.out, HL.out, E1.out, E8.out, E9.out, GR.out]
 ·go_enter Tryz.func75, Tryz.ntmps75
  go_upto_region 1 with fail
  have hB := Box.new w #[.int .u32 0, .int .u32 0, .int .u8 0, .int .u8 0, .int .u8 0, .int .u16 0, .bool false] 59
  have hu : Up w (w.alloc (.cells #[.int .u32 0, .int .u32 0, .int .u8 0, .int .u8 0, .int .u8 0, .int .u16 0, .bool false] 59)) := up_al _ bR
  generalize World.alloc w _ = w0 at hB hu ⊢
  obtain ⟨k0, k1, k2, k3, k4, k5, k6, f0, f1, f2, f3, f4, f5, f6⟩ := Box.c7 hB
  go_wp2_with fail
  refine (num2 s 2 (by omega) _).mono ?_
  rintro e w1 ⟨rfl, rfl⟩
  go_wp2_with fail
  refine (of20 s _ (by omega)).mono ?_
  rintro e w2 ⟨rfl, rfl⟩
  go_upto_region 13 with fail
  refine wp_region_rel4 21 (fun W => Up w0 W) (fun W W' => Up W W') (Ys [Det (.string s),
    Det (.int .u8 (s[1].toNat : Int)),
    Det (.string s),
    Det (.string (s.extract 4 6)),
    Det (.int .u32 (wd (L s) 4)),
    Det (.int .u16 (wd (L s) 4)),
    Det (.string s),
    Det (.int .u8 64),
    Det (.bool true),
    Det (.string s),
    Det (.int .u8 (s[8].toNat : Int)),
    Det (.string s),
    Det (.int .u8 (s[9].toNat : Int)),
    Det (.string s),
    Det (.string (s.extract 12 16)),
    Det (.int .u32 (qd (L s) 12)),
    Det (.string s),
    Det (.string (s.extract 16 20)),
    Det (.int .u32 (qd (L s) 16)),
    Det (HV (qd (L s) 12) (qd (L s) 16) (s[9].toNat : Int) (s[8].toNat : Int) (s[1].toNat : Int) (wd (L s) 4) true),
    New w0.heap.size [.int .u32 0, .int .u32 0, .int .u8 0, .int .u8 0, .int .u8 0, .int .u16 0, .bool false]]) (by kernel_rfl) (by kernel_rfl) (by kernel_rfl) (up_dr bR) (Stable.ys ⟨Det.st _, Det.st _, Det.st _, Det.st _, Det.st _, Det.st _, Det.st _, Det.st _, Det.st _, Det.st _, Det.st _, Det.st _, Det.st _, Det.st _, Det.st _, Det.st _, Det.st _, Det.st _, Det.st _, Det.st _, New.st _ _, trivial⟩) ?_ ?_
  all_goals simp only [List.take_succ_cons, List.take_zero, List.drop_succ_cons, List.drop_zero]
  ·
   refine oC ?_ ?_
   ·intro aa ww hC hp hv KK hK
    have d0 : aa.tmps.getD 0 undef = .string s := hv 0 (slotOk_spec (by kernel_rfl))
    have d0_ := gD d0
    clear hp hv
    (unfold opTo; go_simp; try simp only [opUpon])
    exact hK _ _ rfl hC bR
   refine oC ?_ ?_
   ·intro aa ww hC hp hv KK hK
    have d47 : aa.tmps.getD 47 undef = .string s := dep_of hp 0 47 (by kernel_rfl)
    have d47_ := gD d47
    clear hp hv
    (unfold opTo; go_simp; try simp only [opUpon])
    exact hK _ _ rfl hC bR
   refine oC ?_ ?_
   ·intro aa ww hC hp hv KK hK
    have d0 : aa.tmps.getD 0 undef = .string s := hv 0 (slotOk_spec (by kernel_rfl))
    have d0_ := gD d0
    clear hp hv
    (unfold opTo; go_simp; try simp only [opUpon])
    exact hK _ _ rfl hC bR
   refine oC ?_ ?_
   ·intro aa ww hC hp hv KK hK
    have d49 : aa.tmps.getD 49 undef = .string s := dep_of hp 2 49 (by kernel_rfl)
    have d49_ := gD d49
    clear hp hv
    (unfold opTo; go_simp; try simp only [opUpon])
    exact hK _ _ rfl hC bR
   refine oC ?_ ?_
   ·intro aa ww hC hp hv KK hK
    have d50 : aa.tmps.getD 50 undef = .string (s.extract 4 6) := dep_of hp 3 50 (by kernel_rfl)
    have d50_ := gD d50
    clear hp hv
    (unfold opTo; go_simp; try simp only [opUpon])
    exact (num2 s 4 (by have := HT.out; omega) _).mono fun e w2 h => by obtain ⟨h1, rfl⟩ := h; exact ⟨_, h1, hK _ _ rfl hC bR⟩
   refine oC ?_ ?_
   ·intro aa ww hC hp hv KK hK
    have d51 : aa.tmps.getD 51 undef = .int .u32 (wd (L s) 4) := dep_of hp 4 51 (by kernel_rfl)
    have d51_ := gD d51
    clear hp hv
    (unfold opTo; go_simp; try simp only [opUpon])
    exact hK _ _ rfl hC bR
   refine oC ?_ ?_
   ·intro aa ww hC hp hv KK hK
    have d0 : aa.tmps.getD 0 undef = .string s := hv 0 (slotOk_spec (by kernel_rfl))
    have d0_ := gD d0
    clear hp hv
    (unfold opTo; go_simp; try simp only [opUpon])
    exact hK _ _ rfl hC bR
   refine oC ?_ ?_
   ·intro aa ww hC hp hv KK hK
    have d53 : aa.tmps.getD 53 undef = .string s := dep_of hp 6 53 (by kernel_rfl)
    have d53_ := gD d53
    clear hp hv
    (unfold opTo; go_simp; try simp only [opUpon])
    exact hK _ _ rfl hC bR
   refine oC ?_ ?_
   ·intro aa ww hC hp hv KK hK
    have d54 : aa.tmps.getD 54 undef = .int .u8 64 := dep_of hp 7 54 (by kernel_rfl)
    have d54_ := gD d54
    clear hp hv
    (unfold opTo; go_simp; try simp only [opUpon])
    exact hK _ _ rfl hC bR
   refine oC ?_ ?_
   ·intro aa ww hC hp hv KK hK
    have d0 : aa.tmps.getD 0 undef = .string s := hv 0 (slotOk_spec (by kernel_rfl))
    have d0_ := gD d0
    clear hp hv
    (unfold opTo; go_simp; try simp only [opUpon])
    exact hK _ _ rfl hC bR
   refine oC ?_ ?_
   ·intro aa ww hC hp hv KK hK
    have d56 : aa.tmps.getD 56 undef = .string s := dep_of hp 9 56 (by kernel_rfl)
    have d56_ := gD d56
    clear hp hv
    (unfold opTo; go_simp; try simp only [opUpon])
    exact hK _ _ rfl hC bR
   refine oC ?_ ?_
   ·intro aa ww hC hp hv KK hK
    have d0 : aa.tmps.getD 0 undef = .string s := hv 0 (slotOk_spec (by kernel_rfl))
    have d0_ := gD d0
    clear hp hv
    (unfold opTo; go_simp; try simp only [opUpon])
    exact hK _ _ rfl hC bR
   refine oC ?_ ?_
   ·intro aa ww hC hp hv KK hK
    have d58 : aa.tmps.getD 58 undef = .string s := dep_of hp 11 58 (by kernel_rfl)
    have d58_ := gD d58
    clear hp hv
    (unfold opTo; go_simp; try simp only [opUpon])
    exact hK _ _ rfl hC bR
   refine oC ?_ ?_
   ·intro aa ww hC hp hv KK hK
    have d0 : aa.tmps.getD 0 undef = .string s := hv 0 (slotOk_spec (by kernel_rfl))
    have d0_ := gD d0
    clear hp hv
    (unfold opTo; go_simp; try simp only [opUpon])
    exact hK _ _ rfl hC bR
   refine oC ?_ ?_
   ·intro aa ww hC hp hv KK hK
    have d60 : aa.tmps.getD 60 undef = .string s := dep_of hp 13 60 (by kernel_rfl)
    have d60_ := gD d60
    clear hp hv
    (unfold opTo; go_simp; try simp only [opUpon])
    exact hK _ _ rfl hC bR
   refine oC ?_ ?_
   ·intro aa ww hC hp hv KK hK
    have d61 : aa.tmps.getD 61 undef = .string (s.extract 12 16) := dep_of hp 14 61 (by kernel_rfl)
    have d61_ := gD d61
    clear hp hv
    (unfold opTo; go_simp; try simp only [opUpon])
    exact (num4 s 12 (by have := HT.out; omega) _).mono fun e w2 h => by obtain ⟨h1, rfl⟩ := h; exact ⟨_, h1, hK _ _ rfl hC bR⟩
   refine oC ?_ ?_
   ·intro aa ww hC hp hv KK hK
    have d0 : aa.tmps.getD 0 undef = .string s := hv 0 (slotOk_spec (by kernel_rfl))
    have d0_ := gD d0
    clear hp hv
    (unfold opTo; go_simp; try simp only [opUpon])
    exact hK _ _ rfl hC bR
   refine oC ?_ ?_
   ·intro aa ww hC hp hv KK hK
    have d63 : aa.tmps.getD 63 undef = .string s := dep_of hp 16 63 (by kernel_rfl)
    have d63_ := gD d63
    clear hp hv
    (unfold opTo; go_simp; try simp only [opUpon])
    exact hK _ _ rfl hC bR
   refine oC ?_ ?_
   ·intro aa ww hC hp hv KK hK
    have d64 : aa.tmps.getD 64 undef = .string (s.extract 16 20) := dep_of hp 17 64 (by kernel_rfl)
    have d64_ := gD d64
    clear hp hv
    (unfold opTo; go_simp; try simp only [opUpon])
    exact (num4 s 16 (by have := HT.out; omega) _).mono fun e w2 h => by obtain ⟨h1, rfl⟩ := h; exact ⟨_, h1, hK _ _ rfl hC bR⟩
   refine oC ?_ ?_
   ·intro aa ww hC hp hv KK hK
    have d48 : aa.tmps.getD 48 undef = .int .u8 (s[1].toNat : Int) := dep_of hp 1 48 (by kernel_rfl)
    have d52 : aa.tmps.getD 52 undef = .int .u16 (wd (L s) 4) := dep_of hp 5 52 (by kernel_rfl)
    have d55 : aa.tmps.getD 55 undef = .bool true := dep_of hp 8 55 (by kernel_rfl)
    have d57 : aa.tmps.getD 57 undef = .int .u8 (s[8].toNat : Int) := dep_of hp 10 57 (by kernel_rfl)
    have d59 : aa.tmps.getD 59 undef = .int .u8 (s[9].toNat : Int) := dep_of hp 12 59 (by kernel_rfl)
    have d62 : aa.tmps.getD 62 undef = .int .u32 (qd (L s) 12) := dep_of hp 15 62 (by kernel_rfl)
    have d65 : aa.tmps.getD 65 undef = .int .u32 (qd (L s) 16) := dep_of hp 18 65 (by kernel_rfl)
    have d48_ := gD d48
    have d52_ := gD d52
    have d55_ := gD d55
    have d57_ := gD d57
    have d59_ := gD d59
    have d62_ := gD d62
    have d65_ := gD d65
    clear hp hv
    (unfold opTo; go_simp; try simp only [opUpon])
    exact hK _ _ rfl hC bR
   refine oC ?_ ?_
   ·intro aa ww hC hp hv KK hK
    clear hp hv
    (unfold opTo; go_simp; try simp only [opUpon])
    exact hK _ _ ⟨_, rfl, hC.size, Box.new _ _ _⟩ (up_al _ hC) (up_al _ bR)
   exact obligs_nil
  intro vals ww hC hY
  have e0 : vals 0 = .string s := hY 0 _ _ rfl rfl
  have e1 : vals 1 = .int .u8 (s[1].toNat : Int) := hY 1 _ _ rfl rfl
  have e2 : vals 2 = .string s := hY 2 _ _ rfl rfl
  have e3 : vals 3 = .string (s.extract 4 6) := hY 3 _ _ rfl rfl
  have e4 : vals 4 = .int .u32 (wd (L s) 4) := hY 4 _ _ rfl rfl
  have e5 : vals 5 = .int .u16 (wd (L s) 4) := hY 5 _ _ rfl rfl
  have e6 : vals 6 = .string s := hY 6 _ _ rfl rfl
  have e7 : vals 7 = .int .u8 64 := hY 7 _ _ rfl rfl
  have e8 : vals 8 = .bool true := hY 8 _ _ rfl rfl
  have e9 : vals 9 = .string s := hY 9 _ _ rfl rfl
  have e10 : vals 10 = .int .u8 (s[8].toNat : Int) := hY 10 _ _ rfl rfl
  have e11 : vals 11 = .string s := hY 11 _ _ rfl rfl
  have e12 : vals 12 = .int .u8 (s[9].toNat : Int) := hY 12 _ _ rfl rfl
  have e13 : vals 13 = .string s := hY 13 _ _ rfl rfl
  have e14 : vals 14 = .string (s.extract 12 16) := hY 14 _ _ rfl rfl
  have e15 : vals 15 = .int .u32 (qd (L s) 12) := hY 15 _ _ rfl rfl
  have e16 : vals 16 = .string s := hY 16 _ _ rfl rfl
  have e17 : vals 17 = .string (s.extract 16 20) := hY 17 _ _ rfl rfl
  have e18 : vals 18 = .int .u32 (qd (L s) 16) := hY 18 _ _ rfl rfl
  have e19 : vals 19 = HV (qd (L s) 12) (qd (L s) 16) (s[9].toNat : Int) (s[8].toNat : Int) (s[1].toNat : Int) (wd (L s) 4) true := hY 19 _ _ rfl rfl
  obtain ⟨n5, e20, hM5, hN5⟩ : New w0.heap.size [.int .u32 0, .int .u32 0, .int .u8 0, .int .u8 0, .int .u8 0, .int .u16 0, .bool false] (vals 20) ww := hY 20 _ _ rfl rfl
  clear hY
  simp only [putAll, Act.put, List.setIfInBounds_toArray, List.set_cons_zero, List.set_cons_succ, e0, e1, e2, e3, e4, e5, e6, e7, e8, e9, e10, e11, e12, e13, e14, e15, e16, e17, e18, e19, e20]
  clear e0 e1 e2 e3 e4 e5 e6 e7 e8 e9 e10 e11 e12 e13 e14 e15 e16 e17 e18 e19 e20
  have hB2 := hB.up hC
  have hu2 := hu.on hC
  have hM6 : w.heap.size ≤ n5 := Nat.le_trans hu.size hM5
  have hne : n5 ≠ w.heap.size := by have := hB.1; omega
  have hne' : w.heap.size ≠ n5 := fun h => hne h.symm
  clear hB hu hC hM5 k0 k1 k2 k3 k4 k5 k6 f0 f1 f2 f3 f4 f5 f6
  obtain ⟨k0, k1, k2, k3, k4, k5, k6, f0, f1, f2, f3, f4, f5, f6⟩ := Box.c7 hN5
  go_wp2
  have hN6 := put7 hN5 (.int .u32 (qd (L s) 12)) (.int .u32 (qd (L s) 16)) (.int .u8 (s[9].toNat : Int)) (.int .u8 (s[8].toNat : Int)) (.int .u8 (s[1].toNat : Int)) (.int .u16 (wd (L s) 4)) (.bool true)
  have hB3 := far7 hB2 hne (.int .u32 (qd (L s) 12)) (.int .u32 (qd (L s) 16)) (.int .u8 (s[9].toNat : Int)) (.int .u8 (s[8].toNat : Int)) (.int .u8 (s[1].toNat : Int)) (.int .u16 (wd (L s) 4)) (.bool true)
  have hu3 := ups7 (b := n5) hu2 hM6 (.int .u32 (qd (L s) 12)) (.int .u32 (qd (L s) 16)) (.int .u8 (s[9].toNat : Int)) (.int .u8 (s[8].toNat : Int)) (.int .u8 (s[1].toNat : Int)) (.int .u16 (wd (L s) 4)) (.bool true)
  clear k0 k1 k2 k3 k4 k5 k6 f0 f1 f2 f3 f4 f5 f6 hN5 hB2 hu2
  generalize World.setCell _ ⟨n5, 6, none⟩ _ = w3 at hN6 hB3 hu3 ⊢
  obtain ⟨k0, k1, k2, k3, k4, k5, k6, f0, f1, f2, f3, f4, f5, f6⟩ := Box.c7 hB3
  obtain ⟨m0, m1, m2, m3, m4, m5, m6⟩ := Box.e7 hN6
  go_region
  all_goals
   have hB4 := Box.drew (put7 hB3 (.int .u32 (qd (L s) 12)) (.int .u32 (qd (L s) 16)) (.int .u8 (s[9].toNat : Int)) (.int .u8 (s[8].toNat : Int)) (.int .u8 (s[1].toNat : Int)) (.int .u16 (wd (L s) 4)) (.bool true))
   have hu4 := up_dr (ups7 (b := w.heap.size) hu3 (Nat.le_refl _) (.int .u32 (qd (L s) 12)) (.int .u32 (qd (L s) 16)) (.int .u8 (s[9].toNat : Int)) (.int .u8 (s[8].toNat : Int)) (.int .u8 (s[1].toNat : Int)) (.int .u16 (wd (L s) 4)) (.bool true))
   have gd : decide (wd (L s) 6 ≠ 0) = true := by rw [g7]; decide
   have gR : RV (L s) = HV (qd (L s) 12) (qd (L s) 16) (bt (L s) 9) (bt (L s) 8) (bt (L s) 1) (wd (L s) 4) true := by show HV _ _ _ _ _ _ (decide (wd (L s) 6 ≠ 0)) = _; rw [gd]
   have GR := Lib.hid gR; clear gR gd
   generalize World.drew _ = W4 at hB4 hu4 ⊢
   clear k0 k1 k2 k3 k4 k5 k6 f0 f1 f2 f3 f4 f5 f6 hB3 hu3 hN6 m0 m1 m2 m3 m4 m5 m6
   obtain ⟨k0, k1, k2, k3, k4, k5, k6, f0, f1, f2, f3, f4, f5, f6⟩ := Box.c7 hB4
   go_wp2
   (try simp only [Exit.inBlock, Exit.then])
   refine bodyPost_ret (v := .tuple #[HV (qd (L s) 12) (qd (L s) 16) (s[9].toNat : Int) (s[8].toNat : Int) (s[1].toNat : Int) (wd (L s) 4) true, .string (s.extract 20 s.size), .int .i64 0]) ?_ rfl ⟨?_, hu4⟩
   ·rw [results_cell_tmp2 rfl]; go_simp
   ·rw [HD.out, HL.out, E1.out, E8.out, E9.out, GR.out]
theorem refDecode (s : ByteArray) (w : World) (hs : s.size ≤ 1099511627776) :
  Calls Tryz.prog 75 #[.string s] w fun e w' => e = .returned (DV (L s)) ∧ Up w w' := by
 by_cases c0 : (L s).length < 20
 ·exact refDecode0 s w hs c0
 by_cases c1 : bt (L s) 0 / 16 ≠ 4
 ·exact refDecode1 s w hs c0 c1
 by_cases c2 : bt (L s) 0 % 16 ≠ 5
 ·exact refDecode2 s w hs c0 c1 c2
 by_cases c3 : wd (L s) 2 ≠ ((L s).length : Int)
 ·exact refDecode3 s w hs c0 c1 c2 c3
 by_cases c4 : ck (wsum ((L s).take 20)) ≠ 0
 ·exact refDecode4 s w hs c0 c1 c2 c3 c4
 by_cases c5 : (wd (L s) 6 ≠ 0 ∧ wd (L s) 6 ≠ 16384)
 ·exact refDecode5 s w hs c0 c1 c2 c3 c4 c5
 exact refDecode6 s w hs c0 c1 c2 c3 c4 c5
end Go.Proofs.YtafckmbgefbonaaGreat.ip

namespace Go.Proofs.YtafckmbgefbonaaGreat.pk
open RowKit Shelf Lib sm nb pm

theorem results_cell2_tmp2 {fn : Func} {p q u v : Tmp} {ty tz : TypeId} (h : fn.results = #[.cell p ty, .cell q tz, .tmp u, .tmp v]) (tmps : Array Value) (P : Program) (w : World) :
  (results fn tmps).run P w =
   ((asAddr (tmps.getD p undef)).run P w).andThen fun a w₁ => ((loadVar ty a).run P w₁).andThen fun x w₂ =>
   ((asAddr (tmps.getD q undef)).run P w₂).andThen fun b w₃ => ((loadVar tz b).run P w₃).andThen fun y w₄ => .ok (.tuple #[x, y, tmps.getD u undef, tmps.getD v undef]) w₄ := by
 simp only [results, h]
 simp [Sem.run_bind, Result.andThen]

theorem refHeads0 (s : ByteArray) (w : World) (hs : s.size ≤ 1048576) (c0 : im.dec (L s) ≠ 0) :
  Calls Tryz.prog 39 #[.string s] w fun e w' => e = .returned (.tuple #[ip.HV 0 0 0 0 0 0 false, tc.HV 0 0 0 0 0 0 0 ByteArray.empty, .string ByteArray.empty, .int .i64 (im.dec (L s) : Nat)]) ∧ Up w w' := by
 obtain ⟨n, hn⟩ : ∃ n, im.dec (L s) = n := ⟨_, rfl⟩
 rw [hn] at c0 ⊢
 have HD := Lib.hid (ip.DV_err hn c0)
 have c1 : ¬ (n : Int) = 0 := by omega
 clear hn c0
 go_enter Tryz.func39, Tryz.ntmps39
 go_upto_region 1 with fail
 have hA := Box.new w #[.int .u32 0, .int .u32 0, .int .u8 0, .int .u8 0, .int .u8 0, .int .u16 0, .bool false] 59
 have hu : Up w (w.alloc (.cells #[.int .u32 0, .int .u32 0, .int .u8 0, .int .u8 0, .int .u8 0, .int .u16 0, .bool false] 59)) := up_al _ bR
 have hz := szN hA
 generalize World.alloc w _ = w0 at hA hu hz ⊢
 obtain ⟨a0, ha0⟩ : ∃ a0, a0 = w.heap.size := ⟨_, rfl⟩
 have hla : w.heap.size ≤ a0 := by omega
 rw [← ha0] at hA hz ⊢
 clear ha0
 have hB := Box.new w0 #[.int .u16 0, .int .u16 0, .int .u32 0, .int .u32 0, .int .u8 0, .int .u16 0, .int .u16 0, .string { data := #[] }] 55
 have hA1 := hA.up (up_al (.cells #[.int .u16 0, .int .u16 0, .int .u32 0, .int .u32 0, .int .u8 0, .int .u16 0, .int .u16 0, .string { data := #[] }] 55) (Below.refl _ w0))
 have hu1 : Up w (w0.alloc (.cells #[.int .u16 0, .int .u16 0, .int .u32 0, .int .u32 0, .int .u8 0, .int .u16 0, .int .u16 0, .string { data := #[] }] 55)) := up_al _ hu
 generalize (w0.alloc (.cells #[.int .u16 0, .int .u16 0, .int .u32 0, .int .u32 0, .int .u8 0, .int .u16 0, .int .u16 0, .string { data := #[] }] 55)) = w1 at hA1 hB hu1 ⊢
 rw [hz] at hB
 clear hz hA hu w0
 go_wp2_with fail
 refine (ip.refDecode s w1 (by omega)).mono ?_
 rintro e w2 ⟨rfl, hv⟩
 rw [HD.out]
 have hA2 := hA1.up hv
 have hB2 := hB.up hv
 have hu2 := hu1.on hv
 clear hA1 hB hu1 hv
 go_upto_region 2 with fail
 have hC := Box.new w2 #[.int .u32 0, .int .u32 0, .int .u8 0, .int .u8 0, .int .u8 0, .int .u16 0, .bool false] 59
 have hA3 := hA2.alloc (.cells #[.int .u32 0, .int .u32 0, .int .u8 0, .int .u8 0, .int .u8 0, .int .u16 0, .bool false] 59)
 have hB3 := hB2.alloc (.cells #[.int .u32 0, .int .u32 0, .int .u8 0, .int .u8 0, .int .u8 0, .int .u16 0, .bool false] 59)
 have hu3 := up_al (.cells #[.int .u32 0, .int .u32 0, .int .u8 0, .int .u8 0, .int .u8 0, .int .u16 0, .bool false] 59) hu2
 generalize World.alloc w2 _ = w3 at hA3 hB3 hC hu3 ⊢
 generalize w2.heap.size = g0 at hC ⊢
 clear hA2 hB2 hu2 w2
 obtain ⟨ak0, ak1, ak2, ak3, ak4, ak5, ak6, af0, af1, af2, af3, af4, af5, af6⟩ := ip.Box.c7 hA3
 obtain ⟨bk0, bk1, bk2, bk3, bk4, bk5, bk6, bk7, bf0, bf1, bf2, bf3, bf4, bf5, bf6, bf7⟩ := tc.Box.c8 hB3
 go_wp2_with fail
 have hA5 := ip.put7 hA3 (.int .u32 0) (.int .u32 0) (.int .u8 0) (.int .u8 0) (.int .u8 0) (.int .u16 0) (.bool false)
 have hB5 := ip.far7 hB3 (show a0 ≠ a0 + 1 by omega) (.int .u32 0) (.int .u32 0) (.int .u8 0) (.int .u8 0) (.int .u8 0) (.int .u16 0) (.bool false)
 have hu5 := ip.ups7 (b := a0) hu3 hla (.int .u32 0) (.int .u32 0) (.int .u8 0) (.int .u8 0) (.int .u8 0) (.int .u16 0) (.bool false)
 generalize World.setCell _ ⟨a0, 6, none⟩ _ = W5 at hA5 hB5 hu5 ⊢
 have hB6 := tc.put8 hB5 (.int .u16 0) (.int .u16 0) (.int .u32 0) (.int .u32 0) (.int .u8 0) (.int .u16 0) (.int .u16 0) (.string { data := #[] })
 have hA6 := tc.far8 hA5 (show a0 + 1 ≠ a0 by omega) (.int .u16 0) (.int .u16 0) (.int .u32 0) (.int .u32 0) (.int .u8 0) (.int .u16 0) (.int .u16 0) (.string { data := #[] })
 have hu6 := tc.ups8 (b := a0 + 1) hu5 (by omega) (.int .u16 0) (.int .u16 0) (.int .u32 0) (.int .u32 0) (.int .u8 0) (.int .u16 0) (.int .u16 0) (.string { data := #[] })
 generalize World.setCell _ ⟨a0 + 1, 7, none⟩ _ = W6 at hA6 hB6 hu6 ⊢
 clear ak0 af0 ak1 af1 ak2 af2 ak3 af3 ak4 af4 ak5 af5 ak6 af6
 clear bk0 bf0 bk1 bf1 bk2 bf2 bk3 bf3 bk4 bf4 bk5 bf5 bk6 bf6 bk7 bf7
 obtain ⟨ak0, ak1, ak2, ak3, ak4, ak5, ak6, af0, af1, af2, af3, af4, af5, af6⟩ := ip.Box.c7 hA6
 obtain ⟨bk0, bk1, bk2, bk3, bk4, bk5, bk6, bk7, bf0, bf1, bf2, bf3, bf4, bf5, bf6, bf7⟩ := tc.Box.c8 hB6
 (try simp only [Exit.inBlock, Exit.then])
 refine bodyPost_ret (v := .tuple #[ip.HV 0 0 0 0 0 0 false, tc.HV 0 0 0 0 0 0 0 { data := #[] }, .string { data := #[] }, .int .i64 n]) ?_ rfl ⟨rfl, hu6⟩
 rw [results_cell2_tmp2 rfl]; go_simp

theorem refHeads1 (s Y : ByteArray) (w : World) (hs : s.size ≤ 1048576) (A B Q T S I : Int) (d : Bool) (hV : ip.DV (L s) = .tuple #[ip.HV A B Q T S I d, .string Y, .int .i64 0]) (hQ : ¬ Q = 6) :
  Calls Tryz.prog 39 #[.string s] w fun e w' => e = .returned (.tuple #[ip.HV 0 0 0 0 0 0 false, tc.HV 0 0 0 0 0 0 0 ByteArray.empty, .string ByteArray.empty, .int .i64 80]) ∧ Up w w' := by
 have HD := Lib.hid hV
 clear hV
 go_enter Tryz.func39, Tryz.ntmps39
 go_upto_region 1 with fail
 have hA := Box.new w #[.int .u32 0, .int .u32 0, .int .u8 0, .int .u8 0, .int .u8 0, .int .u16 0, .bool false] 59
 have hu : Up w (w.alloc (.cells #[.int .u32 0, .int .u32 0, .int .u8 0, .int .u8 0, .int .u8 0, .int .u16 0, .bool false] 59)) := up_al _ bR
 have hz := szN hA
 generalize World.alloc w _ = w0 at hA hu hz ⊢
 obtain ⟨a0, ha0⟩ : ∃ a0, a0 = w.heap.size := ⟨_, rfl⟩
 have hla : w.heap.size ≤ a0 := by omega
 rw [← ha0] at hA hz ⊢
 clear ha0
 have hB := Box.new w0 #[.int .u16 0, .int .u16 0, .int .u32 0, .int .u32 0, .int .u8 0, .int .u16 0, .int .u16 0, .string { data := #[] }] 55
 have hA1 := hA.up (up_al (.cells #[.int .u16 0, .int .u16 0, .int .u32 0, .int .u32 0, .int .u8 0, .int .u16 0, .int .u16 0, .string { data := #[] }] 55) (Below.refl _ w0))
 have hu1 : Up w (w0.alloc (.cells #[.int .u16 0, .int .u16 0, .int .u32 0, .int .u32 0, .int .u8 0, .int .u16 0, .int .u16 0, .string { data := #[] }] 55)) := up_al _ hu
 generalize (w0.alloc (.cells #[.int .u16 0, .int .u16 0, .int .u32 0, .int .u32 0, .int .u8 0, .int .u16 0, .int .u16 0, .string { data := #[] }] 55)) = w1 at hA1 hB hu1 ⊢
 rw [hz] at hB
 clear hz hA hu w0
 go_wp2_with fail
 refine (ip.refDecode s w1 (by omega)).mono ?_
 rintro e w2 ⟨rfl, hv⟩
 rw [HD.out]
 have hA2 := hA1.up hv
 have hB2 := hB.up hv
 have hu2 := hu1.on hv
 clear hA1 hB hu1 hv
 go_upto_region 2 with fail
 have hC := Box.new w2 #[.int .u32 A, .int .u32 B, .int .u8 Q, .int .u8 T, .int .u8 S, .int .u16 I, .bool d] 59
 have hA3 := alN hC hA2
 have hB3 := alN hC hB2
 have hu3 := upM hC hu2
 generalize World.alloc w2 _ = w3 at hA3 hB3 hC hu3 ⊢
 generalize w2.heap.size = g0 at hC ⊢
 clear hA2 hB2 hu2 w2
 obtain ⟨ak0, ak1, ak2, ak3, ak4, ak5, ak6, af0, af1, af2, af3, af4, af5, af6⟩ := ip.Box.c7 hA3
 obtain ⟨bk0, bk1, bk2, bk3, bk4, bk5, bk6, bk7, bf0, bf1, bf2, bf3, bf4, bf5, bf6, bf7⟩ := tc.Box.c8 hB3
 obtain ⟨ck0, ck1, ck2, ck3, ck4, ck5, ck6, cf0, cf1, cf2, cf3, cf4, cf5, cf6⟩ := ip.Box.c7 hC
 go_wp2_with fail
 have hA5 := ip.put7 hA3 (.int .u32 0) (.int .u32 0) (.int .u8 0) (.int .u8 0) (.int .u8 0) (.int .u16 0) (.bool false)
 have hB5 := ip.far7 hB3 (show a0 ≠ a0 + 1 by omega) (.int .u32 0) (.int .u32 0) (.int .u8 0) (.int .u8 0) (.int .u8 0) (.int .u16 0) (.bool false)
 have hu5 := ip.ups7 (b := a0) hu3 hla (.int .u32 0) (.int .u32 0) (.int .u8 0) (.int .u8 0) (.int .u8 0) (.int .u16 0) (.bool false)
 generalize World.setCell _ ⟨a0, 6, none⟩ _ = W5 at hA5 hB5 hu5 ⊢
 have hB6 := tc.put8 hB5 (.int .u16 0) (.int .u16 0) (.int .u32 0) (.int .u32 0) (.int .u8 0) (.int .u16 0) (.int .u16 0) (.string { data := #[] })
 have hA6 := tc.far8 hA5 (show a0 + 1 ≠ a0 by omega) (.int .u16 0) (.int .u16 0) (.int .u32 0) (.int .u32 0) (.int .u8 0) (.int .u16 0) (.int .u16 0) (.string { data := #[] })
 have hu6 := tc.ups8 (b := a0 + 1) hu5 (by omega) (.int .u16 0) (.int .u16 0) (.int .u32 0) (.int .u32 0) (.int .u8 0) (.int .u16 0) (.int .u16 0) (.string { data := #[] })
 generalize World.setCell _ ⟨a0 + 1, 7, none⟩ _ = W6 at hA6 hB6 hu6 ⊢
 clear ak0 af0 ak1 af1 ak2 af2 ak3 af3 ak4 af4 ak5 af5 ak6 af6
 clear bk0 bf0 bk1 bf1 bk2 bf2 bk3 bf3 bk4 bf4 bk5 bf5 bk6 bf6 bk7 bf7
 clear ck0 cf0 ck1 cf1 ck2 cf2 ck3 cf3 ck4 cf4 ck5 cf5 ck6 cf6
 obtain ⟨ak0, ak1, ak2, ak3, ak4, ak5, ak6, af0, af1, af2, af3, af4, af5, af6⟩ := ip.Box.c7 hA6
 obtain ⟨bk0, bk1, bk2, bk3, bk4, bk5, bk6, bk7, bf0, bf1, bf2, bf3, bf4, bf5, bf6, bf7⟩ := tc.Box.c8 hB6
 (try simp only [Exit.inBlock, Exit.then])
 refine bodyPost_ret (v := .tuple #[ip.HV 0 0 0 0 0 0 false, tc.HV 0 0 0 0 0 0 0 { data := #[] }, .string { data := #[] }, .int .i64 80]) ?_ rfl ⟨rfl, hu6⟩
 rw [results_cell2_tmp2 rfl]; go_simp

theorem refHeads2 (s Y D o : ByteArray) (x y : Nat) (w : World) (hs : s.size ≤ 1048576) (hx : x ≤ 4294967295) (hy : y ≤ 4294967295) (hY : Y.size ≤ 1099511627776) (T S I : Int) (d : Bool) (hV : ip.DV (L s) = .tuple #[ip.HV (x : Nat) (y : Nat) 6 T S I d, .string Y, .int .i64 0])
  (p q sq ak fl wi ur e0 : Int) (hT : tc.DV x y (L Y) = .tuple #[tc.HV p q sq ak fl wi ur o, .string D, .int .i64 e0]) :
  Calls Tryz.prog 39 #[.string s] w fun e w' => e = .returned (.tuple #[ip.HV (x : Nat) (y : Nat) 6 T S I d, tc.HV p q sq ak fl wi ur o, .string D, .int .i64 e0]) ∧ Up w w' := by
 have HD := Lib.hid hV
 have HT := Lib.hid hT
 clear hV hT
 go_enter Tryz.func39, Tryz.ntmps39
 go_upto_region 1 with fail
 have hA := Box.new w #[.int .u32 0, .int .u32 0, .int .u8 0, .int .u8 0, .int .u8 0, .int .u16 0, .bool false] 59
 have hu : Up w (w.alloc (.cells #[.int .u32 0, .int .u32 0, .int .u8 0, .int .u8 0, .int .u8 0, .int .u16 0, .bool false] 59)) := up_al _ bR
 have hz := szN hA
 generalize World.alloc w _ = w0 at hA hu hz ⊢
 obtain ⟨a0, ha0⟩ : ∃ a0, a0 = w.heap.size := ⟨_, rfl⟩
 have hla : w.heap.size ≤ a0 := by omega
 rw [← ha0] at hA hz ⊢
 clear ha0
 have hB := Box.new w0 #[.int .u16 0, .int .u16 0, .int .u32 0, .int .u32 0, .int .u8 0, .int .u16 0, .int .u16 0, .string { data := #[] }] 55
 have hA1 := hA.up (up_al (.cells #[.int .u16 0, .int .u16 0, .int .u32 0, .int .u32 0, .int .u8 0, .int .u16 0, .int .u16 0, .string { data := #[] }] 55) (Below.refl _ w0))
 have hu1 : Up w (w0.alloc (.cells #[.int .u16 0, .int .u16 0, .int .u32 0, .int .u32 0, .int .u8 0, .int .u16 0, .int .u16 0, .string { data := #[] }] 55)) := up_al _ hu
 generalize (w0.alloc (.cells #[.int .u16 0, .int .u16 0, .int .u32 0, .int .u32 0, .int .u8 0, .int .u16 0, .int .u16 0, .string { data := #[] }] 55)) = w1 at hA1 hB hu1 ⊢
 rw [hz] at hB
 clear hz hA hu w0
 go_wp2_with fail
 refine (ip.refDecode s w1 (by omega)).mono ?_
 rintro e w2 ⟨rfl, hv⟩
 rw [HD.out]
 have hA2 := hA1.up hv
 have hB2 := hB.up hv
 have hu2 := hu1.on hv
 clear hA1 hB hu1 hv
 go_upto_region 2 with fail
 have hag : a0 + 1 < w2.heap.size := hB2.1
 have hC := Box.new w2 #[.int .u32 x, .int .u32 y, .int .u8 6, .int .u8 T, .int .u8 S, .int .u16 I, .bool d] 59
 have hA3 := alN hC hA2
 have hB3 := alN hC hB2
 have hu3 := upM hC hu2
 generalize World.alloc w2 _ = w3 at hA3 hB3 hC hu3 ⊢
 generalize w2.heap.size = g0 at hC hag ⊢
 clear hA2 hB2 hu2 w2
 obtain ⟨ck0, ck1, ck2, ck3, ck4, ck5, ck6, cf0, cf1, cf2, cf3, cf4, cf5, cf6⟩ := ip.Box.c7 hC
 go_wp2_with fail
 refine (tc.refDecode x y Y w3 hx hy hY).mono ?_
 rintro e w4 ⟨rfl, hv⟩
 rw [HT.out]
 clear ck0 cf0 ck1 cf1 ck2 cf2 ck3 cf3 ck4 cf4 ck5 cf5 ck6 cf6
 have hA4 := hA3.up hv
 have hB4 := hB3.up hv
 have hC4 := hC.up hv
 have hu4 := hu3.on hv
 clear hA3 hB3 hC hu3 hv
 go_upto_region 7 with fail
 have hat : a0 + 1 < w4.heap.size := hB4.1
 have hE := Box.new w4 #[.int .u16 p, .int .u16 q, .int .u32 sq, .int .u32 ak, .int .u8 fl, .int .u16 wi, .int .u16 ur, .string o] 55
 have hA5 := alN hE hA4
 have hB5 := alN hE hB4
 have hC5 := alN hE hC4
 have hu5 := upM hE hu4
 generalize World.alloc w4 _ = w5 at hA5 hB5 hC5 hE hu5 ⊢
 generalize w4.heap.size = t0 at hE hat ⊢
 clear hA4 hB4 hC4 hu4 w4
 refine wp_region_rel9 (fun W => Up w W ∧ (∃ x0 x1 x2 x3 x4 x5 x6, Box W a0 [x0, x1, x2, x3, x4, x5, x6]) ∧ (∃ x0 x1 x2 x3 x4 x5 x6 x7, Box W (a0 + 1) [x0, x1, x2, x3, x4, x5, x6, x7]) ∧ Box W g0 [.int .u32 x, .int .u32 y, .int .u8 6, .int .u8 T, .int .u8 S, .int .u16 I, .bool d] ∧ Box W t0 [.int .u16 p, .int .u16 q, .int .u32 sq, .int .u32 ak, .int .u8 fl, .int .u16 wi, .int .u16 ur, .string o])
  (fun W W' => (Box W a0 [.int .u32 x, .int .u32 y, .int .u8 6, .int .u8 T, .int .u8 S, .int .u16 I, .bool d] → Box W' a0 [.int .u32 x, .int .u32 y, .int .u8 6, .int .u8 T, .int .u8 S, .int .u16 I, .bool d]) ∧ (Box W (a0 + 1) [.int .u16 p, .int .u16 q, .int .u32 sq, .int .u32 ak, .int .u8 fl, .int .u16 wi, .int .u16 ur, .string o] → Box W' (a0 + 1) [.int .u16 p, .int .u16 q, .int .u32 sq, .int .u32 ak, .int .u8 fl, .int .u16 wi, .int .u16 ur, .string o]))
  (Ys [Det (.agg #[.int .u32 x, .int .u32 y, .int .u8 6, .int .u8 T, .int .u8 S, .int .u16 I, .bool d]), Det (.agg #[.int .u16 p, .int .u16 q, .int .u32 sq, .int .u32 ak, .int .u8 fl, .int .u16 wi, .int .u16 ur, .string o]), Det (.string D), Det (.int .i64 e0), fun _ W => Box W a0 [.int .u32 x, .int .u32 y, .int .u8 6, .int .u8 T, .int .u8 S, .int .u16 I, .bool d], fun _ W => Box W (a0 + 1) [.int .u16 p, .int .u16 q, .int .u32 sq, .int .u32 ak, .int .u8 fl, .int .u16 wi, .int .u16 ur, .string o], Det (.string D), Det (.int .i64 e0)])
  (by kernel_rfl) (by kernel_rfl) ⟨up_dr hu5, ⟨_, _, _, _, _, _, _, hA5.drew⟩, ⟨_, _, _, _, _, _, _, _, hB5.drew⟩, hC5.drew, hE.drew⟩
  (StableR.ys ⟨fun _ _ _ h _ => h, fun _ _ _ h _ => h, fun _ _ _ h _ => h, fun _ _ _ h _ => h, fun _ _ _ h hR => hR.1 h, fun _ _ _ h hR => hR.2 h, fun _ _ _ h _ => h, fun _ _ _ h _ => h, trivial⟩) ?_ ?_
 ·clear hA5 hB5 hC5 hE hu5
  refine oC ?_ ?_
  ·intro aa ww hC hp hvar KK hK
   have hC_ := hC
   obtain ⟨ru, ⟨x0, x1, x2, x3, x4, x5, x6, rA⟩, ⟨y0, y1, y2, y3, y4, y5, y6, y7, rB⟩, rG, rT⟩ := hC
   have d6 : aa.tmps.getD 6 undef = .pointer (some ⟨g0, 0, none⟩) := hvar 6 (slotOk_spec (by kernel_rfl))
   have d6_ := gD d6
   have c0 := rG.at 0 rfl; have c1 := rG.at 1 rfl; have c2 := rG.at 2 rfl; have c3 := rG.at 3 rfl; have c4 := rG.at 4 rfl; have c5 := rG.at 5 rfl; have c6 := rG.at 6 rfl
   clear hp hvar
   (unfold opTo; go_simp; try simp only [opUpon])
   exact hK _ _ rfl hC_ ⟨id, id⟩
  refine oC ?_ ?_
  ·intro aa ww hC hp hvar KK hK
   have hC_ := hC
   obtain ⟨ru, ⟨x0, x1, x2, x3, x4, x5, x6, rA⟩, ⟨y0, y1, y2, y3, y4, y5, y6, y7, rB⟩, rG, rT⟩ := hC
   have d9 : aa.tmps.getD 9 undef = .pointer (some ⟨t0, 0, none⟩) := hvar 9 (slotOk_spec (by kernel_rfl))
   have d9_ := gD d9
   have c0 := rT.at 0 rfl; have c1 := rT.at 1 rfl; have c2 := rT.at 2 rfl; have c3 := rT.at 3 rfl; have c4 := rT.at 4 rfl; have c5 := rT.at 5 rfl; have c6 := rT.at 6 rfl; have c7 := rT.at 7 rfl
   clear hp hvar
   (unfold opTo; go_simp; try simp only [opUpon])
   exact hK _ _ rfl hC_ ⟨id, id⟩
  refine oC ?_ ?_
  ·intro aa ww hC hp hvar KK hK
   have hC_ := hC
   obtain ⟨ru, ⟨x0, x1, x2, x3, x4, x5, x6, rA⟩, ⟨y0, y1, y2, y3, y4, y5, y6, y7, rB⟩, rG, rT⟩ := hC
   have d10 : aa.tmps.getD 10 undef = .string D := hvar 10 (slotOk_spec (by kernel_rfl))
   have d10_ := gD d10
   clear hp hvar
   (unfold opTo; go_simp; try simp only [opUpon])
   exact hK _ _ rfl hC_ ⟨id, id⟩
  refine oC ?_ ?_
  ·intro aa ww hC hp hvar KK hK
   have hC_ := hC
   obtain ⟨ru, ⟨x0, x1, x2, x3, x4, x5, x6, rA⟩, ⟨y0, y1, y2, y3, y4, y5, y6, y7, rB⟩, rG, rT⟩ := hC
   have d8 : aa.tmps.getD 8 undef = .int .i64 e0 := hvar 8 (slotOk_spec (by kernel_rfl))
   have d8_ := gD d8
   clear hp hvar
   (unfold opTo; go_simp; try simp only [opUpon])
   exact hK _ _ rfl hC_ ⟨id, id⟩
  refine oC ?_ ?_
  ·intro aa ww hC hp hvar KK hK
   have hC_ := hC
   obtain ⟨ru, ⟨x0, x1, x2, x3, x4, x5, x6, rA⟩, ⟨y0, y1, y2, y3, y4, y5, y6, y7, rB⟩, rG, rT⟩ := hC
   have d2 : aa.tmps.getD 2 undef = .pointer (some ⟨a0, 0, none⟩) := hvar 2 (slotOk_spec (by kernel_rfl))
   have d2_ := gD d2
   have d37 : aa.tmps.getD 37 undef = .agg #[.int .u32 x, .int .u32 y, .int .u8 6, .int .u8 T, .int .u8 S, .int .u16 I, .bool d] := dep_of hp 0 37 (by kernel_rfl)
   have d37_ := gD d37
   have c0 := rA.at 0 rfl; have c1 := rA.at 1 rfl; have c2 := rA.at 2 rfl; have c3 := rA.at 3 rfl; have c4 := rA.at 4 rfl; have c5 := rA.at 5 rfl; have c6 := rA.at 6 rfl
   have g0 := rA.fr 0 rfl; have g1 := rA.fr 1 rfl; have g2 := rA.fr 2 rfl; have g3 := rA.fr 3 rfl; have g4 := rA.fr 4 rfl; have g5 := rA.fr 5 rfl; have g6 := rA.fr 6 rfl
   clear hp hvar
   (unfold opTo; go_simp; try simp only [opUpon])
   exact hK _ _ (ip.put7 rA (.int .u32 x) (.int .u32 y) (.int .u8 6) (.int .u8 T) (.int .u8 S) (.int .u16 I) (.bool d)) ⟨ip.ups7 ru hla (.int .u32 x) (.int .u32 y) (.int .u8 6) (.int .u8 T) (.int .u8 S) (.int .u16 I) (.bool d), ⟨_, _, _, _, _, _, _, ip.put7 rA (.int .u32 x) (.int .u32 y) (.int .u8 6) (.int .u8 T) (.int .u8 S) (.int .u16 I) (.bool d)⟩, ⟨_, _, _, _, _, _, _, _, ip.far7 rB (by omega) (.int .u32 x) (.int .u32 y) (.int .u8 6) (.int .u8 T) (.int .u8 S) (.int .u16 I) (.bool d)⟩, ip.far7 rG (by omega) (.int .u32 x) (.int .u32 y) (.int .u8 6) (.int .u8 T) (.int .u8 S) (.int .u16 I) (.bool d), ip.far7 rT (by omega) (.int .u32 x) (.int .u32 y) (.int .u8 6) (.int .u8 T) (.int .u8 S) (.int .u16 I) (.bool d)⟩ ⟨fun _ => ip.put7 rA (.int .u32 x) (.int .u32 y) (.int .u8 6) (.int .u8 T) (.int .u8 S) (.int .u16 I) (.bool d), fun h => ip.far7 h (by omega) (.int .u32 x) (.int .u32 y) (.int .u8 6) (.int .u8 T) (.int .u8 S) (.int .u16 I) (.bool d)⟩
  refine oC ?_ ?_
  ·intro aa ww hC hp hvar KK hK
   have hC_ := hC
   obtain ⟨ru, ⟨x0, x1, x2, x3, x4, x5, x6, rA⟩, ⟨y0, y1, y2, y3, y4, y5, y6, y7, rB⟩, rG, rT⟩ := hC
   have d3 : aa.tmps.getD 3 undef = .pointer (some ⟨a0 + 1, 0, none⟩) := hvar 3 (slotOk_spec (by kernel_rfl))
   have d3_ := gD d3
   have d38 : aa.tmps.getD 38 undef = .agg #[.int .u16 p, .int .u16 q, .int .u32 sq, .int .u32 ak, .int .u8 fl, .int .u16 wi, .int .u16 ur, .string o] := dep_of hp 1 38 (by kernel_rfl)
   have d38_ := gD d38
   have c0 := rB.at 0 rfl; have c1 := rB.at 1 rfl; have c2 := rB.at 2 rfl; have c3 := rB.at 3 rfl; have c4 := rB.at 4 rfl; have c5 := rB.at 5 rfl; have c6 := rB.at 6 rfl; have c7 := rB.at 7 rfl
   have g0 := rB.fr 0 rfl; have g1 := rB.fr 1 rfl; have g2 := rB.fr 2 rfl; have g3 := rB.fr 3 rfl; have g4 := rB.fr 4 rfl; have g5 := rB.fr 5 rfl; have g6 := rB.fr 6 rfl; have g7 := rB.fr 7 rfl
   clear hp hvar
   (unfold opTo; go_simp; try simp only [opUpon])
   exact hK _ _ (tc.put8 rB (.int .u16 p) (.int .u16 q) (.int .u32 sq) (.int .u32 ak) (.int .u8 fl) (.int .u16 wi) (.int .u16 ur) (.string o)) ⟨tc.ups8 ru (by omega) (.int .u16 p) (.int .u16 q) (.int .u32 sq) (.int .u32 ak) (.int .u8 fl) (.int .u16 wi) (.int .u16 ur) (.string o), ⟨_, _, _, _, _, _, _, tc.far8 rA (by omega) (.int .u16 p) (.int .u16 q) (.int .u32 sq) (.int .u32 ak) (.int .u8 fl) (.int .u16 wi) (.int .u16 ur) (.string o)⟩, ⟨_, _, _, _, _, _, _, _, tc.put8 rB (.int .u16 p) (.int .u16 q) (.int .u32 sq) (.int .u32 ak) (.int .u8 fl) (.int .u16 wi) (.int .u16 ur) (.string o)⟩, tc.far8 rG (by omega) (.int .u16 p) (.int .u16 q) (.int .u32 sq) (.int .u32 ak) (.int .u8 fl) (.int .u16 wi) (.int .u16 ur) (.string o), tc.far8 rT (by omega) (.int .u16 p) (.int .u16 q) (.int .u32 sq) (.int .u32 ak) (.int .u8 fl) (.int .u16 wi) (.int .u16 ur) (.string o)⟩ ⟨fun h => tc.far8 h (by omega) (.int .u16 p) (.int .u16 q) (.int .u32 sq) (.int .u32 ak) (.int .u8 fl) (.int .u16 wi) (.int .u16 ur) (.string o), fun _ => tc.put8 rB (.int .u16 p) (.int .u16 q) (.int .u32 sq) (.int .u32 ak) (.int .u8 fl) (.int .u16 wi) (.int .u16 ur) (.string o)⟩
  refine oC ?_ ?_
  ·intro aa ww hC hp hvar KK hK
   have hC_ := hC
   obtain ⟨ru, ⟨x0, x1, x2, x3, x4, x5, x6, rA⟩, ⟨y0, y1, y2, y3, y4, y5, y6, y7, rB⟩, rG, rT⟩ := hC
   have d39 : aa.tmps.getD 39 undef = .string D := dep_of hp 2 39 (by kernel_rfl)
   have d39_ := gD d39
   clear hp hvar
   (unfold opTo; go_simp; try simp only [opUpon])
   exact hK _ _ rfl hC_ ⟨id, id⟩
  refine oC ?_ ?_
  ·intro aa ww hC hp hvar KK hK
   have hC_ := hC
   obtain ⟨ru, ⟨x0, x1, x2, x3, x4, x5, x6, rA⟩, ⟨y0, y1, y2, y3, y4, y5, y6, y7, rB⟩, rG, rT⟩ := hC
   have d40 : aa.tmps.getD 40 undef = .int .i64 e0 := dep_of hp 3 40 (by kernel_rfl)
   have d40_ := gD d40
   clear hp hvar
   (unfold opTo; go_simp; try simp only [opUpon])
   exact hK _ _ rfl hC_ ⟨id, id⟩
  exact obligs_nil
 intro vals ww hC hY
 have z0 : vals 0 = .agg #[.int .u32 x, .int .u32 y, .int .u8 6, .int .u8 T, .int .u8 S, .int .u16 I, .bool d] := hY 0 _ rfl
 have e1 : vals 1 = .agg #[.int .u16 p, .int .u16 q, .int .u32 sq, .int .u32 ak, .int .u8 fl, .int .u16 wi, .int .u16 ur, .string o] := hY 1 _ rfl
 have e2 : vals 2 = .string D := hY 2 _ rfl
 have e3 : vals 3 = .int .i64 e0 := hY 3 _ rfl
 have hA6 : Box ww a0 [.int .u32 x, .int .u32 y, .int .u8 6, .int .u8 T, .int .u8 S, .int .u16 I, .bool d] := hY 4 _ rfl
 have hB6 : Box ww (a0 + 1) [.int .u16 p, .int .u16 q, .int .u32 sq, .int .u32 ak, .int .u8 fl, .int .u16 wi, .int .u16 ur, .string o] := hY 5 _ rfl
 have e6 : vals 6 = .string D := hY 6 _ rfl
 have e7 : vals 7 = .int .i64 e0 := hY 7 _ rfl
 have hu6 := hC.1
 clear hY hC hA5 hB5 hC5 hE hu5
 simp only [putAll, Act.put, List.setIfInBounds_toArray, List.set_cons_zero, List.set_cons_succ, z0, e1, e2, e3, e6, e7]
 clear e1 e2 e3 e6 e7
 obtain ⟨ak0, ak1, ak2, ak3, ak4, ak5, ak6, af0, af1, af2, af3, af4, af5, af6⟩ := ip.Box.c7 hA6
 obtain ⟨bk0, bk1, bk2, bk3, bk4, bk5, bk6, bk7, bf0, bf1, bf2, bf3, bf4, bf5, bf6, bf7⟩ := tc.Box.c8 hB6
 go_wp2_with fail
 (try simp only [Exit.inBlock, Exit.then])
 refine bodyPost_ret (v := .tuple #[ip.HV (x : Nat) (y : Nat) 6 T S I d, tc.HV p q sq ak fl wi ur o, .string D, .int .i64 e0]) ?_ rfl ⟨rfl, hu6⟩
 rw [results_cell2_tmp2 rfl]; go_simp

end Go.Proofs.YtafckmbgefbonaaGreat.pk
