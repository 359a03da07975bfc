/- Package opt: does an option fit, is it there already. Condition: the arguments fit their kinds. -/
import Derived.Test.YtdlcglkeinlimaaOptLC
namespace Go.Proofs.Ytdlcglkeinlimaa.op
open Go.RowKit Go.Shelf Go.Lib Go.Proofs.Ytdlcglkeinlimaa.sm Go.Proofs.Ytdlcglkeinlimaa.nb Go.Proofs.Ytdlcglkeinlimaa.om
set_option linter.unusedVariables false

set_option maxHeartbeats 1000000 in
set_option maxRecDepth 100000 in
theorem fits2 (Z P : Nat) (S : ByteArray) (w : World) (hZ : Z ≤ 255) (hS : S.size = Z - 2) : Calls Try.prog 25 #[PV 2 Z P S] w fun e w' => e = .returned (.bool (lenOk 2 Z && nzb 2 (L S))) ∧ Up w w' := by
  by_cases h4 : Z = 4
  · subst h4
    have HA := Lib.hid (fun w => at16i S 0 w (by omega) (by omega))
    obtain ⟨z, hz⟩ : ∃ z, wd (L S) 0 = z := ⟨_, rfl⟩
    rw [show (0 : Int).toNat = 0 from rfl, hz] at HA
    have HE := Lib.hid (show (lenOk 2 4 && nzb 2 (L S)) = (z != 0) by unfold nzb; rw [hz]; simp [lenOk, bne]; rfl)
    clear hz
    go_enter Try.func25, Try.ntmps25
    go_upto_region 1 with fail
    have hA := Box.new w #[.int .u8 (2 : Nat), .int .i64 4, .int .i64 (P : Nat), .string S] 54
    have hu : Up w (w.alloc (.cells #[.int .u8 (2 : Nat), .int .i64 4, .int .i64 (P : Nat), .string S] 54)) := up_al _ (Below.refl _ _)
    generalize (w.alloc (.cells #[.int .u8 (2 : Nat), .int .i64 4, .int .i64 (P : Nat), .string S] 54)) = w0 at hA hu ⊢
    generalize w.heap.size = n0 at hA ⊢
    obtain ⟨k0, k1, k2, k3⟩ := Box.e4 hA
    go_wp2_with fail
    refine (HA.out w0).mono ?_
    rintro e_ w2 ⟨rfl, rfl⟩
    go_wp2
    go_ret
    exact ⟨ret_bool HE.out.symm, hu⟩
  · have i4 : ¬ (Z : Int) = 4 := by omega
    have HE := Lib.hid (show (lenOk 2 Z && nzb 2 (L S)) = false by simp [lenOk, h4])
    go_enter Try.func25, Try.ntmps25
    go_upto_region 1 with fail
    have hA := Box.new w #[.int .u8 (2 : Nat), .int .i64 (Z : Nat), .int .i64 (P : Nat), .string S] 54
    have hu : Up w (w.alloc (.cells #[.int .u8 (2 : Nat), .int .i64 (Z : Nat), .int .i64 (P : Nat), .string S] 54)) := up_al _ (Below.refl _ _)
    generalize (w.alloc (.cells #[.int .u8 (2 : Nat), .int .i64 (Z : Nat), .int .i64 (P : Nat), .string S] 54)) = w0 at hA hu ⊢
    generalize w.heap.size = n0 at hA ⊢
    obtain ⟨k0, k1, k2, k3⟩ := Box.e4 hA
    go_wp2
    go_ret
    exact ⟨ret_bool HE.out.symm, hu⟩
set_option maxHeartbeats 1000000 in
set_option maxRecDepth 100000 in
theorem fits3 (Z P : Nat) (S : ByteArray) (w : World) (hZ : Z ≤ 255) (hS : S.size = Z - 2) : Calls Try.prog 25 #[PV 3 Z P S] w fun e w' => e = .returned (.bool (lenOk 3 Z && nzb 3 (L S))) ∧ Up w w' := by
  have HE := Lib.hid (show (lenOk 3 Z && nzb 3 (L S)) = (Z == 3) by rw [nzb_x (by decide), Bool.and_true]; rfl)
  go_enter Try.func25, Try.ntmps25
  go_upto_region 1 with fail
  have hA := Box.new w #[.int .u8 (3 : Nat), .int .i64 (Z : Nat), .int .i64 (P : Nat), .string S] 54
  have hu : Up w (w.alloc (.cells #[.int .u8 (3 : Nat), .int .i64 (Z : Nat), .int .i64 (P : Nat), .string S] 54)) := up_al _ (Below.refl _ _)
  generalize (w.alloc (.cells #[.int .u8 (3 : Nat), .int .i64 (Z : Nat), .int .i64 (P : Nat), .string S] 54)) = w0 at hA hu ⊢
  generalize w.heap.size = n0 at hA ⊢
  obtain ⟨k0, k1, k2, k3⟩ := Box.e4 hA
  go_wp2
  go_ret
  exact ⟨ret_bool (by rw [HE.out]; exact eqb Z 3), hu⟩
set_option maxHeartbeats 1000000 in
set_option maxRecDepth 100000 in
theorem fits4 (Z P : Nat) (S : ByteArray) (w : World) (hZ : Z ≤ 255) (hS : S.size = Z - 2) : Calls Try.prog 25 #[PV 4 Z P S] w fun e w' => e = .returned (.bool (lenOk 4 Z && nzb 4 (L S))) ∧ Up w w' := by
  have HE := Lib.hid (show (lenOk 4 Z && nzb 4 (L S)) = (Z == 2) by rw [nzb_x (by decide), Bool.and_true]; rfl)
  go_enter Try.func25, Try.ntmps25
  go_upto_region 1 with fail
  have hA := Box.new w #[.int .u8 (4 : Nat), .int .i64 (Z : Nat), .int .i64 (P : Nat), .string S] 54
  have hu : Up w (w.alloc (.cells #[.int .u8 (4 : Nat), .int .i64 (Z : Nat), .int .i64 (P : Nat), .string S] 54)) := up_al _ (Below.refl _ _)
  generalize (w.alloc (.cells #[.int .u8 (4 : Nat), .int .i64 (Z : Nat), .int .i64 (P : Nat), .string S] 54)) = w0 at hA hu ⊢
  generalize w.heap.size = n0 at hA ⊢
  obtain ⟨k0, k1, k2, k3⟩ := Box.e4 hA
  go_wp2
  go_ret
  exact ⟨ret_bool (by rw [HE.out]; exact eqb Z 2), hu⟩
set_option maxHeartbeats 1000000 in
set_option maxRecDepth 100000 in
theorem fits8 (Z P : Nat) (S : ByteArray) (w : World) (hZ : Z ≤ 255) (hS : S.size = Z - 2) : Calls Try.prog 25 #[PV 8 Z P S] w fun e w' => e = .returned (.bool (lenOk 8 Z && nzb 8 (L S))) ∧ Up w w' := by
  have HE := Lib.hid (show (lenOk 8 Z && nzb 8 (L S)) = (Z == 10) by rw [nzb_x (by decide), Bool.and_true]; rfl)
  go_enter Try.func25, Try.ntmps25
  go_upto_region 1 with fail
  have hA := Box.new w #[.int .u8 (8 : Nat), .int .i64 (Z : Nat), .int .i64 (P : Nat), .string S] 54
  have hu : Up w (w.alloc (.cells #[.int .u8 (8 : Nat), .int .i64 (Z : Nat), .int .i64 (P : Nat), .string S] 54)) := up_al _ (Below.refl _ _)
  generalize (w.alloc (.cells #[.int .u8 (8 : Nat), .int .i64 (Z : Nat), .int .i64 (P : Nat), .string S] 54)) = w0 at hA hu ⊢
  generalize w.heap.size = n0 at hA ⊢
  obtain ⟨k0, k1, k2, k3⟩ := Box.e4 hA
  go_wp2
  go_ret
  exact ⟨ret_bool (by rw [HE.out]; exact eqb Z 10), hu⟩
set_option maxHeartbeats 1000000 in
set_option maxRecDepth 100000 in
theorem fits5 (Z P : Nat) (S : ByteArray) (w : World) (hZ : Z ≤ 255) (hS : S.size = Z - 2) : Calls Try.prog 25 #[PV 5 Z P S] w fun e w' => e = .returned (.bool (lenOk 5 Z && nzb 5 (L S))) ∧ Up w w' := by
  have HE := Lib.hid (show (lenOk 5 Z && nzb 5 (L S)) = (Z == 10 || Z == 18 || Z == 26 || Z == 34) by rw [nzb_x (by decide), Bool.and_true]; rfl)
  obtain ⟨n, hn⟩ : ∃ n, S.size = n := ⟨_, rfl⟩
  have HS := Lib.hid hS
  rw [hn] at hS
  by_cases h0 : n = 0
  · have i0 : ¬ (0 : Int) < (n : Int) := by omega
    have HF := Lib.hid (show (Z == 10 || Z == 18 || Z == 26 || Z == 34) = false by simp; omega)
    go_enter Try.func25, Try.ntmps25
    go_upto_region 1 with fail
    have hA := Box.new w #[.int .u8 (5 : Nat), .int .i64 (Z : Nat), .int .i64 (P : Nat), .string S] 54
    have hu : Up w (w.alloc (.cells #[.int .u8 (5 : Nat), .int .i64 (Z : Nat), .int .i64 (P : Nat), .string S] 54)) := up_al _ (Below.refl _ _)
    generalize (w.alloc (.cells #[.int .u8 (5 : Nat), .int .i64 (Z : Nat), .int .i64 (P : Nat), .string S] 54)) = w0 at hA hu ⊢
    generalize w.heap.size = n0 at hA ⊢
    obtain ⟨k0, k1, k2, k3⟩ := Box.e4 hA
    go_wp2
    go_ret
    exact ⟨ret_bool (by rw [HE.out, HF.out]), hu⟩
  have i0 : (0 : Int) < (n : Int) := by omega
  by_cases h8 : n % 8 = 0
  · have i8 : Int.tmod (n : Int) 8 = 0 := by rw [Int.tmod_eq_emod_of_nonneg (by omega)]; omega
    have HF := Lib.hid (show (Z == 10 || Z == 18 || Z == 26 || Z == 34) = decide (n ≤ 32) by rw [Bool.eq_iff_iff]; simp; omega)
    go_enter Try.func25, Try.ntmps25
    go_upto_region 1 with fail
    have hA := Box.new w #[.int .u8 (5 : Nat), .int .i64 (Z : Nat), .int .i64 (P : Nat), .string S] 54
    have hu : Up w (w.alloc (.cells #[.int .u8 (5 : Nat), .int .i64 (Z : Nat), .int .i64 (P : Nat), .string S] 54)) := up_al _ (Below.refl _ _)
    generalize (w.alloc (.cells #[.int .u8 (5 : Nat), .int .i64 (Z : Nat), .int .i64 (P : Nat), .string S] 54)) = w0 at hA hu ⊢
    generalize w.heap.size = n0 at hA ⊢
    obtain ⟨k0, k1, k2, k3⟩ := Box.e4 hA
    go_wp2
    go_ret
    exact ⟨ret_bool (by rw [HE.out, HF.out]; exact decide_eq_decide.2 (by omega)), hu⟩
  · have i8 : ¬ Int.tmod (n : Int) 8 = 0 := by rw [Int.tmod_eq_emod_of_nonneg (by omega)]; omega
    have HF := Lib.hid (show (Z == 10 || Z == 18 || Z == 26 || Z == 34) = false by simp; omega)
    go_enter Try.func25, Try.ntmps25
    go_upto_region 1 with fail
    have hA := Box.new w #[.int .u8 (5 : Nat), .int .i64 (Z : Nat), .int .i64 (P : Nat), .string S] 54
    have hu : Up w (w.alloc (.cells #[.int .u8 (5 : Nat), .int .i64 (Z : Nat), .int .i64 (P : Nat), .string S] 54)) := up_al _ (Below.refl _ _)
    generalize (w.alloc (.cells #[.int .u8 (5 : Nat), .int .i64 (Z : Nat), .int .i64 (P : Nat), .string S] 54)) = w0 at hA hu ⊢
    generalize w.heap.size = n0 at hA ⊢
    obtain ⟨k0, k1, k2, k3⟩ := Box.e4 hA
    go_wp2
    go_ret
    exact ⟨ret_bool (by rw [HE.out, HF.out]), hu⟩
set_option maxHeartbeats 1000000 in
set_option maxRecDepth 100000 in
theorem fitsx (K : Nat) (hK : K ≤ 255) (h2 : K ≠ 2) (h3 : K ≠ 3) (h4 : K ≠ 4) (h5 : K ≠ 5) (h8 : K ≠ 8) (Z P : Nat) (S : ByteArray) (w : World) (hZ : Z ≤ 255) (hS : S.size = Z - 2) : Calls Try.prog 25 #[PV K Z P S] w fun e w' => e = .returned (.bool (lenOk K Z && nzb K (L S))) ∧ Up w w' := by
  have HE := Lib.hid (show (lenOk K Z && nzb K (L S)) = decide (2 ≤ Z) by rw [nzb_x h2, Bool.and_true]; simp [lenOk, h2, h3, h4, h5, h8])
  have i2 : ¬ (K : Int) = 2 := by omega
  have i3 : ¬ (K : Int) = 3 := by omega
  have i4 : ¬ (K : Int) = 4 := by omega
  have i5 : ¬ (K : Int) = 5 := by omega
  have i8 : ¬ (K : Int) = 8 := by omega
  go_enter Try.func25, Try.ntmps25
  go_upto_region 1 with fail
  have hA := Box.new w #[.int .u8 (K : Nat), .int .i64 (Z : Nat), .int .i64 (P : Nat), .string S] 54
  have hu : Up w (w.alloc (.cells #[.int .u8 (K : Nat), .int .i64 (Z : Nat), .int .i64 (P : Nat), .string S] 54)) := up_al _ (Below.refl _ _)
  generalize (w.alloc (.cells #[.int .u8 (K : Nat), .int .i64 (Z : Nat), .int .i64 (P : Nat), .string S] 54)) = w0 at hA hu ⊢
  generalize w.heap.size = n0 at hA ⊢
  obtain ⟨k0, k1, k2, k3⟩ := Box.e4 hA
  go_wp2
  go_ret
  exact ⟨ret_bool (by rw [HE.out]; exact decide_eq_decide.2 (by omega)), hu⟩
set_option maxHeartbeats 1000000 in
set_option maxRecDepth 100000 in
theorem fitsC (K : Nat) (hK : K ≤ 255) (Z P : Nat) (S : ByteArray) (w : World) (hZ : Z ≤ 255) (hS : S.size = Z - 2) : Calls Try.prog 25 #[PV K Z P S] w fun e w' => e = .returned (.bool (lenOk K Z && nzb K (L S))) ∧ Up w w' := by
  by_cases h2 : K = 2
  · subst h2; exact fits2 Z P S w hZ hS
  by_cases h3 : K = 3
  · subst h3; exact fits3 Z P S w hZ hS
  by_cases h4 : K = 4
  · subst h4; exact fits4 Z P S w hZ hS
  by_cases h5 : K = 5
  · subst h5; exact fits5 Z P S w hZ hS
  by_cases h8 : K = 8
  · subst h8; exact fits8 Z P S w hZ hS
  exact fitsx K hK h2 h3 h4 h5 h8 Z P S w hZ hS
set_option maxHeartbeats 1000000 in
set_option maxRecDepth 100000 in
theorem among2 (Z P : Nat) (S : ByteArray) (m : Nat) (s : Int) (k t : Bool) (v e : Nat) (A : Option Addr) (n c : Nat) (bl : List (Nat × Nat)) (w : World) (hn : bl.length = n) : Calls Try.prog 26 #[PV 2 Z P S, OA m s k A n c t v e] w fun e_ w' => e_ = .returned (.bool (amg ⟨m, s, k, bl, t, v, e⟩ 2)) ∧ Up w w' := by
  have HE := Lib.hid (show amg ⟨m, s, k, bl, t, v, e⟩ 2 = decide (m ≠ 0) from rfl)
  go_enter Try.func26, Try.ntmps26
  go_upto_region 1 with fail
  have hA := (Box.new w #[.int .u8 (2 : Nat), .int .i64 (Z : Nat), .int .i64 (P : Nat), .string S] 54).alloc (.cells #[.int .u16 (m : Nat), .int .i64 s, .bool k, .slice A n c, .bool t, .int .u32 (v : Nat), .int .u32 (e : Nat)] 26)
  have hB := Box.new (w.alloc (.cells #[.int .u8 (2 : Nat), .int .i64 (Z : Nat), .int .i64 (P : Nat), .string S] 54)) #[.int .u16 (m : Nat), .int .i64 s, .bool k, .slice A n c, .bool t, .int .u32 (v : Nat), .int .u32 (e : Nat)] 26
  rw [show (w.alloc (.cells #[.int .u8 (2 : Nat), .int .i64 (Z : Nat), .int .i64 (P : Nat), .string S] 54)).heap.size = w.heap.size + 1 by simp] at hB
  have hu : Up w ((w.alloc (.cells #[.int .u8 (2 : Nat), .int .i64 (Z : Nat), .int .i64 (P : Nat), .string S] 54)).alloc (.cells #[.int .u16 (m : Nat), .int .i64 s, .bool k, .slice A n c, .bool t, .int .u32 (v : Nat), .int .u32 (e : Nat)] 26)) := up_al _ (up_al _ (Below.refl _ _))
  generalize ((w.alloc (.cells #[.int .u8 (2 : Nat), .int .i64 (Z : Nat), .int .i64 (P : Nat), .string S] 54)).alloc (.cells #[.int .u16 (m : Nat), .int .i64 s, .bool k, .slice A n c, .bool t, .int .u32 (v : Nat), .int .u32 (e : Nat)] 26)) = w0 at hA hB hu ⊢
  generalize w.heap.size = n0 at hA hB ⊢
  obtain ⟨k0, k1, k2, k3⟩ := Box.e4 hA
  obtain ⟨m0, m1, m2, m3, m4, m5, m6⟩ := Box.e7 hB
  go_wp2
  go_ret
  exact ⟨ret_bool (by rw [HE.out]; simp [bne]; first | done | (rw [Bool.eq_iff_iff]; simp)), hu⟩
set_option maxHeartbeats 1000000 in
set_option maxRecDepth 100000 in
theorem among3 (Z P : Nat) (S : ByteArray) (m : Nat) (s : Int) (k t : Bool) (v e : Nat) (A : Option Addr) (n c : Nat) (bl : List (Nat × Nat)) (w : World) (hn : bl.length = n) : Calls Try.prog 26 #[PV 3 Z P S, OA m s k A n c t v e] w fun e_ w' => e_ = .returned (.bool (amg ⟨m, s, k, bl, t, v, e⟩ 3)) ∧ Up w w' := by
  have HE := Lib.hid (show amg ⟨m, s, k, bl, t, v, e⟩ 3 = decide (s ≠ -1) from rfl)
  go_enter Try.func26, Try.ntmps26
  go_upto_region 1 with fail
  have hA := (Box.new w #[.int .u8 (3 : Nat), .int .i64 (Z : Nat), .int .i64 (P : Nat), .string S] 54).alloc (.cells #[.int .u16 (m : Nat), .int .i64 s, .bool k, .slice A n c, .bool t, .int .u32 (v : Nat), .int .u32 (e : Nat)] 26)
  have hB := Box.new (w.alloc (.cells #[.int .u8 (3 : Nat), .int .i64 (Z : Nat), .int .i64 (P : Nat), .string S] 54)) #[.int .u16 (m : Nat), .int .i64 s, .bool k, .slice A n c, .bool t, .int .u32 (v : Nat), .int .u32 (e : Nat)] 26
  rw [show (w.alloc (.cells #[.int .u8 (3 : Nat), .int .i64 (Z : Nat), .int .i64 (P : Nat), .string S] 54)).heap.size = w.heap.size + 1 by simp] at hB
  have hu : Up w ((w.alloc (.cells #[.int .u8 (3 : Nat), .int .i64 (Z : Nat), .int .i64 (P : Nat), .string S] 54)).alloc (.cells #[.int .u16 (m : Nat), .int .i64 s, .bool k, .slice A n c, .bool t, .int .u32 (v : Nat), .int .u32 (e : Nat)] 26)) := up_al _ (up_al _ (Below.refl _ _))
  generalize ((w.alloc (.cells #[.int .u8 (3 : Nat), .int .i64 (Z : Nat), .int .i64 (P : Nat), .string S] 54)).alloc (.cells #[.int .u16 (m : Nat), .int .i64 s, .bool k, .slice A n c, .bool t, .int .u32 (v : Nat), .int .u32 (e : Nat)] 26)) = w0 at hA hB hu ⊢
  generalize w.heap.size = n0 at hA hB ⊢
  obtain ⟨k0, k1, k2, k3⟩ := Box.e4 hA
  obtain ⟨m0, m1, m2, m3, m4, m5, m6⟩ := Box.e7 hB
  go_wp2
  go_ret
  exact ⟨ret_bool (by rw [HE.out]; simp [bne]; rw [Bool.eq_iff_iff]; simp), hu⟩
set_option maxHeartbeats 1000000 in
set_option maxRecDepth 100000 in
theorem among4 (Z P : Nat) (S : ByteArray) (m : Nat) (s : Int) (k t : Bool) (v e : Nat) (A : Option Addr) (n c : Nat) (bl : List (Nat × Nat)) (w : World) (hn : bl.length = n) : Calls Try.prog 26 #[PV 4 Z P S, OA m s k A n c t v e] w fun e_ w' => e_ = .returned (.bool (amg ⟨m, s, k, bl, t, v, e⟩ 4)) ∧ Up w w' := by
  have HE := Lib.hid (show amg ⟨m, s, k, bl, t, v, e⟩ 4 = k from rfl)
  go_enter Try.func26, Try.ntmps26
  go_upto_region 1 with fail
  have hA := (Box.new w #[.int .u8 (4 : Nat), .int .i64 (Z : Nat), .int .i64 (P : Nat), .string S] 54).alloc (.cells #[.int .u16 (m : Nat), .int .i64 s, .bool k, .slice A n c, .bool t, .int .u32 (v : Nat), .int .u32 (e : Nat)] 26)
  have hB := Box.new (w.alloc (.cells #[.int .u8 (4 : Nat), .int .i64 (Z : Nat), .int .i64 (P : Nat), .string S] 54)) #[.int .u16 (m : Nat), .int .i64 s, .bool k, .slice A n c, .bool t, .int .u32 (v : Nat), .int .u32 (e : Nat)] 26
  rw [show (w.alloc (.cells #[.int .u8 (4 : Nat), .int .i64 (Z : Nat), .int .i64 (P : Nat), .string S] 54)).heap.size = w.heap.size + 1 by simp] at hB
  have hu : Up w ((w.alloc (.cells #[.int .u8 (4 : Nat), .int .i64 (Z : Nat), .int .i64 (P : Nat), .string S] 54)).alloc (.cells #[.int .u16 (m : Nat), .int .i64 s, .bool k, .slice A n c, .bool t, .int .u32 (v : Nat), .int .u32 (e : Nat)] 26)) := up_al _ (up_al _ (Below.refl _ _))
  generalize ((w.alloc (.cells #[.int .u8 (4 : Nat), .int .i64 (Z : Nat), .int .i64 (P : Nat), .string S] 54)).alloc (.cells #[.int .u16 (m : Nat), .int .i64 s, .bool k, .slice A n c, .bool t, .int .u32 (v : Nat), .int .u32 (e : Nat)] 26)) = w0 at hA hB hu ⊢
  generalize w.heap.size = n0 at hA hB ⊢
  obtain ⟨k0, k1, k2, k3⟩ := Box.e4 hA
  obtain ⟨m0, m1, m2, m3, m4, m5, m6⟩ := Box.e7 hB
  go_wp2
  go_ret
  exact ⟨ret_bool (by exact HE.out.symm), hu⟩
set_option maxHeartbeats 1000000 in
set_option maxRecDepth 100000 in
theorem among5 (Z P : Nat) (S : ByteArray) (m : Nat) (s : Int) (k t : Bool) (v e : Nat) (A : Option Addr) (n c : Nat) (bl : List (Nat × Nat)) (w : World) (hn : bl.length = n) : Calls Try.prog 26 #[PV 5 Z P S, OA m s k A n c t v e] w fun e_ w' => e_ = .returned (.bool (amg ⟨m, s, k, bl, t, v, e⟩ 5)) ∧ Up w w' := by
  have HE := Lib.hid (show amg ⟨m, s, k, bl, t, v, e⟩ 5 = decide (0 < n) from (show decide (bl ≠ []) = _ from decide_eq_decide.2 (by rw [← hn]; exact List.length_pos_iff.symm)))
  go_enter Try.func26, Try.ntmps26
  go_upto_region 1 with fail
  have hA := (Box.new w #[.int .u8 (5 : Nat), .int .i64 (Z : Nat), .int .i64 (P : Nat), .string S] 54).alloc (.cells #[.int .u16 (m : Nat), .int .i64 s, .bool k, .slice A n c, .bool t, .int .u32 (v : Nat), .int .u32 (e : Nat)] 26)
  have hB := Box.new (w.alloc (.cells #[.int .u8 (5 : Nat), .int .i64 (Z : Nat), .int .i64 (P : Nat), .string S] 54)) #[.int .u16 (m : Nat), .int .i64 s, .bool k, .slice A n c, .bool t, .int .u32 (v : Nat), .int .u32 (e : Nat)] 26
  rw [show (w.alloc (.cells #[.int .u8 (5 : Nat), .int .i64 (Z : Nat), .int .i64 (P : Nat), .string S] 54)).heap.size = w.heap.size + 1 by simp] at hB
  have hu : Up w ((w.alloc (.cells #[.int .u8 (5 : Nat), .int .i64 (Z : Nat), .int .i64 (P : Nat), .string S] 54)).alloc (.cells #[.int .u16 (m : Nat), .int .i64 s, .bool k, .slice A n c, .bool t, .int .u32 (v : Nat), .int .u32 (e : Nat)] 26)) := up_al _ (up_al _ (Below.refl _ _))
  generalize ((w.alloc (.cells #[.int .u8 (5 : Nat), .int .i64 (Z : Nat), .int .i64 (P : Nat), .string S] 54)).alloc (.cells #[.int .u16 (m : Nat), .int .i64 s, .bool k, .slice A n c, .bool t, .int .u32 (v : Nat), .int .u32 (e : Nat)] 26)) = w0 at hA hB hu ⊢
  generalize w.heap.size = n0 at hA hB ⊢
  obtain ⟨k0, k1, k2, k3⟩ := Box.e4 hA
  obtain ⟨m0, m1, m2, m3, m4, m5, m6⟩ := Box.e7 hB
  go_wp2
  go_ret
  exact ⟨ret_bool (by rw [HE.out]), hu⟩
set_option maxHeartbeats 1000000 in
set_option maxRecDepth 100000 in
theorem among8 (Z P : Nat) (S : ByteArray) (m : Nat) (s : Int) (k t : Bool) (v e : Nat) (A : Option Addr) (n c : Nat) (bl : List (Nat × Nat)) (w : World) (hn : bl.length = n) : Calls Try.prog 26 #[PV 8 Z P S, OA m s k A n c t v e] w fun e_ w' => e_ = .returned (.bool (amg ⟨m, s, k, bl, t, v, e⟩ 8)) ∧ Up w w' := by
  have HE := Lib.hid (show amg ⟨m, s, k, bl, t, v, e⟩ 8 = t from rfl)
  go_enter Try.func26, Try.ntmps26
  go_upto_region 1 with fail
  have hA := (Box.new w #[.int .u8 (8 : Nat), .int .i64 (Z : Nat), .int .i64 (P : Nat), .string S] 54).alloc (.cells #[.int .u16 (m : Nat), .int .i64 s, .bool k, .slice A n c, .bool t, .int .u32 (v : Nat), .int .u32 (e : Nat)] 26)
  have hB := Box.new (w.alloc (.cells #[.int .u8 (8 : Nat), .int .i64 (Z : Nat), .int .i64 (P : Nat), .string S] 54)) #[.int .u16 (m : Nat), .int .i64 s, .bool k, .slice A n c, .bool t, .int .u32 (v : Nat), .int .u32 (e : Nat)] 26
  rw [show (w.alloc (.cells #[.int .u8 (8 : Nat), .int .i64 (Z : Nat), .int .i64 (P : Nat), .string S] 54)).heap.size = w.heap.size + 1 by simp] at hB
  have hu : Up w ((w.alloc (.cells #[.int .u8 (8 : Nat), .int .i64 (Z : Nat), .int .i64 (P : Nat), .string S] 54)).alloc (.cells #[.int .u16 (m : Nat), .int .i64 s, .bool k, .slice A n c, .bool t, .int .u32 (v : Nat), .int .u32 (e : Nat)] 26)) := up_al _ (up_al _ (Below.refl _ _))
  generalize ((w.alloc (.cells #[.int .u8 (8 : Nat), .int .i64 (Z : Nat), .int .i64 (P : Nat), .string S] 54)).alloc (.cells #[.int .u16 (m : Nat), .int .i64 s, .bool k, .slice A n c, .bool t, .int .u32 (v : Nat), .int .u32 (e : Nat)] 26)) = w0 at hA hB hu ⊢
  generalize w.heap.size = n0 at hA hB ⊢
  obtain ⟨k0, k1, k2, k3⟩ := Box.e4 hA
  obtain ⟨m0, m1, m2, m3, m4, m5, m6⟩ := Box.e7 hB
  go_wp2
  go_ret
  exact ⟨ret_bool (by exact HE.out.symm), hu⟩
set_option maxHeartbeats 1000000 in
set_option maxRecDepth 100000 in
theorem amongx (K : Nat) (hK : K ≤ 255) (h2 : K ≠ 2) (h3 : K ≠ 3) (h4 : K ≠ 4) (h5 : K ≠ 5) (h8 : K ≠ 8) (Z P : Nat) (S : ByteArray) (m : Nat) (s : Int) (k t : Bool) (v e : Nat) (A : Option Addr) (n c : Nat) (bl : List (Nat × Nat)) (w : World) (hn : bl.length = n) : Calls Try.prog 26 #[PV K Z P S, OA m s k A n c t v e] w fun e_ w' => e_ = .returned (.bool (amg ⟨m, s, k, bl, t, v, e⟩ K)) ∧ Up w w' := by
  have HE := Lib.hid (show amg ⟨m, s, k, bl, t, v, e⟩ K = false by unfold amg; rw [if_neg h2, if_neg h3, if_neg h4, if_neg h5, if_neg h8])
  have i2 : ¬ (K : Int) = 2 := by omega
  have i3 : ¬ (K : Int) = 3 := by omega
  have i4 : ¬ (K : Int) = 4 := by omega
  have i5 : ¬ (K : Int) = 5 := by omega
  have i8 : ¬ (K : Int) = 8 := by omega
  go_enter Try.func26, Try.ntmps26
  go_upto_region 1 with fail
  have hA := (Box.new w #[.int .u8 (K : Nat), .int .i64 (Z : Nat), .int .i64 (P : Nat), .string S] 54).alloc (.cells #[.int .u16 (m : Nat), .int .i64 s, .bool k, .slice A n c, .bool t, .int .u32 (v : Nat), .int .u32 (e : Nat)] 26)
  have hB := Box.new (w.alloc (.cells #[.int .u8 (K : Nat), .int .i64 (Z : Nat), .int .i64 (P : Nat), .string S] 54)) #[.int .u16 (m : Nat), .int .i64 s, .bool k, .slice A n c, .bool t, .int .u32 (v : Nat), .int .u32 (e : Nat)] 26
  rw [show (w.alloc (.cells #[.int .u8 (K : Nat), .int .i64 (Z : Nat), .int .i64 (P : Nat), .string S] 54)).heap.size = w.heap.size + 1 by simp] at hB
  have hu : Up w ((w.alloc (.cells #[.int .u8 (K : Nat), .int .i64 (Z : Nat), .int .i64 (P : Nat), .string S] 54)).alloc (.cells #[.int .u16 (m : Nat), .int .i64 s, .bool k, .slice A n c, .bool t, .int .u32 (v : Nat), .int .u32 (e : Nat)] 26)) := up_al _ (up_al _ (Below.refl _ _))
  generalize ((w.alloc (.cells #[.int .u8 (K : Nat), .int .i64 (Z : Nat), .int .i64 (P : Nat), .string S] 54)).alloc (.cells #[.int .u16 (m : Nat), .int .i64 s, .bool k, .slice A n c, .bool t, .int .u32 (v : Nat), .int .u32 (e : Nat)] 26)) = w0 at hA hB hu ⊢
  generalize w.heap.size = n0 at hA hB ⊢
  obtain ⟨k0, k1, k2, k3⟩ := Box.e4 hA
  obtain ⟨m0, m1, m2, m3, m4, m5, m6⟩ := Box.e7 hB
  go_wp2
  go_ret
  exact ⟨ret_bool HE.out.symm, hu⟩
set_option maxHeartbeats 1000000 in
set_option maxRecDepth 100000 in
theorem amongC (K : Nat) (hK : K ≤ 255) (Z P : Nat) (S : ByteArray) (m : Nat) (s : Int) (k t : Bool) (v e : Nat) (A : Option Addr) (n c : Nat) (bl : List (Nat × Nat)) (w : World) (hn : bl.length = n) : Calls Try.prog 26 #[PV K Z P S, OA m s k A n c t v e] w fun e_ w' => e_ = .returned (.bool (amg ⟨m, s, k, bl, t, v, e⟩ K)) ∧ Up w w' := by
  by_cases h2 : K = 2
  · subst h2; exact among2 Z P S m s k t v e A n c bl w hn
  by_cases h3 : K = 3
  · subst h3; exact among3 Z P S m s k t v e A n c bl w hn
  by_cases h4 : K = 4
  · subst h4; exact among4 Z P S m s k t v e A n c bl w hn
  by_cases h5 : K = 5
  · subst h5; exact among5 Z P S m s k t v e A n c bl w hn
  by_cases h8 : K = 8
  · subst h8; exact among8 Z P S m s k t v e A n c bl w hn
  exact amongx K hK h2 h3 h4 h5 h8 Z P S m s k t v e A n c bl w hn
end Go.Proofs.Ytdlcglkeinlimaa.op
