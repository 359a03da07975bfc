/- The document's answer for opt: which options there are none of, which lengths, which kinds, which are the same. Condition: the arguments fit their kinds. -/
import Derived.Test.YtdlcglkeinlimaaOptA
namespace Go.Proofs.Ytdlcglkeinlimaa.op
open Go.RowKit Go.Shelf Go.Lib Go.Proofs.Ytdlcglkeinlimaa.sm Go.Proofs.Ytdlcglkeinlimaa.nb Go.Proofs.Ytdlcglkeinlimaa.om
set_option linter.unusedVariables false

theorem Box.e7 {W : World} {b : Nat} {x0 x1 x2 x3 x4 x5 x6 : Value} (h : Box W b [x0, x1, x2, x3, x4, x5, x6]) : W.cell? ⟨b, 0, none⟩ = some x0 ∧ W.cell? ⟨b, 1, none⟩ = some x1 ∧ W.cell? ⟨b, 2, none⟩ = some x2 ∧ W.cell? ⟨b, 3, none⟩ = some x3 ∧ W.cell? ⟨b, 4, none⟩ = some x4 ∧ W.cell? ⟨b, 5, none⟩ = some x5 ∧ W.cell? ⟨b, 6, none⟩ = some x6 := ⟨h.at 0 rfl, h.at 1 rfl, h.at 2 rfl, h.at 3 rfl, h.at 4 rfl, h.at 5 rfl, h.at 6 rfl⟩
theorem Box.c7 {W : World} {b : Nat} {x0 x1 x2 x3 x4 x5 x6 : Value} (h : Box W b [x0, x1, x2, x3, x4, x5, x6]) : W.cell? ⟨b, 0, none⟩ = some x0 ∧ W.cell? ⟨b, 1, none⟩ = some x1 ∧ W.cell? ⟨b, 2, none⟩ = some x2 ∧ W.cell? ⟨b, 3, none⟩ = some x3 ∧ W.cell? ⟨b, 4, none⟩ = some x4 ∧ W.cell? ⟨b, 5, none⟩ = some x5 ∧ W.cell? ⟨b, 6, none⟩ = some x6 ∧ W.frozen? ⟨b, 0, none⟩ = false ∧ W.frozen? ⟨b, 1, none⟩ = false ∧ W.frozen? ⟨b, 2, none⟩ = false ∧ W.frozen? ⟨b, 3, none⟩ = false ∧ W.frozen? ⟨b, 4, none⟩ = false ∧ W.frozen? ⟨b, 5, none⟩ = false ∧ W.frozen? ⟨b, 6, none⟩ = false := ⟨h.at 0 rfl, h.at 1 rfl, h.at 2 rfl, h.at 3 rfl, h.at 4 rfl, h.at 5 rfl, h.at 6 rfl, h.fr 0 rfl, h.fr 1 rfl, h.fr 2 rfl, h.fr 3 rfl, h.fr 4 rfl, h.fr 5 rfl, h.fr 6 rfl⟩
theorem put7 {W : World} {b : Nat} {x0 x1 x2 x3 x4 x5 x6 : Value} (hB : Box W b [x0, x1, x2, x3, x4, x5, x6]) (y0 y1 y2 y3 y4 y5 y6 : Value) : Box ((((((((W.setCell ⟨b, 0, none⟩ y0).setCell ⟨b, 1, none⟩ y1).setCell ⟨b, 2, none⟩ y2).setCell ⟨b, 3, none⟩ y3).setCell ⟨b, 4, none⟩ y4).setCell ⟨b, 5, none⟩ y5).setCell ⟨b, 6, none⟩ y6)) b [y0, y1, y2, y3, y4, y5, y6] := (((((((hB.set 0 y0).set 1 y1).set 2 y2).set 3 y3).set 4 y4).set 5 y5).set 6 y6)
theorem ups7 {w W : World} {b : Nat} (hu : Up w W) (hb : w.heap.size ≤ b) (y0 y1 y2 y3 y4 y5 y6 : Value) : Up w ((((((((W.setCell ⟨b, 0, none⟩ y0).setCell ⟨b, 1, none⟩ y1).setCell ⟨b, 2, none⟩ y2).setCell ⟨b, 3, none⟩ y3).setCell ⟨b, 4, none⟩ y4).setCell ⟨b, 5, none⟩ y5).setCell ⟨b, 6, none⟩ y6)) := (up_set (up_set (up_set (up_set (up_set (up_set (up_set hu hb) hb) hb) hb) hb) hb) hb)
theorem far7 {W : World} {b c : Nat} {vs : List Value} (h : Box W b vs) (hc : c ≠ b) (y0 y1 y2 y3 y4 y5 y6 : Value) : Box ((((((((W.setCell ⟨c, 0, none⟩ y0).setCell ⟨c, 1, none⟩ y1).setCell ⟨c, 2, none⟩ y2).setCell ⟨c, 3, none⟩ y3).setCell ⟨c, 4, none⟩ y4).setCell ⟨c, 5, none⟩ y5).setCell ⟨c, 6, none⟩ y6)) b vs := (((((((h.far hc y0).far hc y1).far hc y2).far hc y3).far hc y4).far hc y5).far hc y6)
theorem refNone (w : World) : Calls Try.prog 18 #[] w fun e w' => e = .returned (OA 0 (-1) false none 0 0 false 0 0) ∧ Up w w' := by
  go_enter Try.func18, Try.ntmps18
  go_upto_region 1 with fail
  have hB := Box.new w #[.int .u16 0, .int .i64 0, .bool false, .slice none 0 0, .bool false, .int .u32 0, .int .u32 0] 26
  have hu : Up w (w.alloc (.cells #[.int .u16 0, .int .i64 0, .bool false, .slice none 0 0, .bool false, .int .u32 0, .int .u32 0] 26)) := up_al _ (Below.refl _ _)
  generalize (w.alloc (.cells #[.int .u16 0, .int .i64 0, .bool false, .slice none 0 0, .bool false, .int .u32 0, .int .u32 0] 26)) = w0 at hB hu ⊢
  obtain ⟨k0, k1, k2, k3, k4, k5, k6, f0, f1, f2, f3, f4, f5, f6⟩ := Box.c7 hB
  go_wp2
  have hBB := put7 hB (.int .u16 0) (.int .i64 (-1)) (.bool false) (.slice none 0 0) (.bool false) (.int .u32 0) (.int .u32 0)
  have huu := ups7 (b := w.heap.size) hu (Nat.le_refl _) (.int .u16 0) (.int .i64 (-1)) (.bool false) (.slice none 0 0) (.bool false) (.int .u32 0) (.int .u32 0)
  generalize World.setCell _ ⟨w.heap.size, 6, none⟩ _ = W3 at hBB huu ⊢
  clear k0 k1 k2 k3 k4 k5 k6 f0 f1 f2 f3 f4 f5 f6 hB hu
  obtain ⟨k0, k1, k2, k3, k4, k5, k6⟩ := Box.e7 hBB
  (try simp only [Exit.inBlock, Exit.then])
  refine bodyPost_ret (v := OA 0 (-1) false none 0 0 false 0 0) ?_ rfl ⟨rfl, huu⟩
  rw [results_cell1 rfl]; go_simp
theorem refKnown (k : Nat) (w : World) (hk : k ≤ 255) : Calls Try.prog 45 #[.int .i64 (k : Nat)] w fun e w' => e = .returned (.bool (known k)) ∧ w = w' := by
  by_cases h1 : 2 ≤ k
  · by_cases h2 : k ≤ 5
    · have HE := Lib.hid (show known k = true by simp [known, h1, h2])
      go_enter Try.func45, Try.ntmps45
      go_wp2
      go_ret
      exact ⟨ret_bool HE.out.symm, rfl⟩
    · by_cases h3 : k = 8
      · subst h3
        go_enter Try.func45, Try.ntmps45
        go_wp2
        go_ret
        exact ⟨rfl, rfl⟩
      · have HE := Lib.hid (show known k = false by simp [known, h2, h3])
        have h4 : ¬ (k : Int) = 8 := by omega
        go_enter Try.func45, Try.ntmps45
        go_wp2
        go_ret
        exact ⟨ret_bool (by rw [HE.out]; simp; omega), rfl⟩
  · have HE := Lib.hid (show known k = false by simp [known, h1]; omega)
    have h4 : ¬ (k : Int) = 8 := by omega
    go_enter Try.func45, Try.ntmps45
    go_wp2
    go_ret
    exact ⟨ret_bool (by rw [HE.out]; simp; omega), rfl⟩
theorem eqb (n : Nat) (c : Nat) : ((n : Int) == (c : Int)) = (n == c) := by
  rw [Bool.eq_iff_iff, beq_iff_eq, beq_iff_eq]; omega
theorem refRight (k n : Nat) (w : World) (hk : k ≤ 255) (hn : n ≤ 255) : Calls Try.prog 44 #[.int .i64 (k : Nat), .int .i64 (n : Nat)] w fun e w' => e = .returned (.bool (lenOk k n)) ∧ w = w' := by
  by_cases h2 : k = 2
  · subst h2
    have HE := Lib.hid (show lenOk 2 n = (n == 4) from rfl)
    go_enter Try.func44, Try.ntmps44
    go_wp2
    go_ret
    exact ⟨ret_bool (by rw [HE.out]; exact eqb n 4), rfl⟩
  by_cases h3 : k = 3
  · subst h3
    have HE := Lib.hid (show lenOk 3 n = (n == 3) from rfl)
    go_enter Try.func44, Try.ntmps44
    go_wp2
    go_ret
    exact ⟨ret_bool (by rw [HE.out]; exact eqb n 3), rfl⟩
  by_cases h4 : k = 4
  · subst h4
    have HE := Lib.hid (show lenOk 4 n = (n == 2) from rfl)
    go_enter Try.func44, Try.ntmps44
    go_wp2
    go_ret
    exact ⟨ret_bool (by rw [HE.out]; exact eqb n 2), rfl⟩
  by_cases h8 : k = 8
  · subst h8
    have HE := Lib.hid (show lenOk 8 n = (n == 10) from rfl)
    go_enter Try.func44, Try.ntmps44
    go_wp2
    go_ret
    exact ⟨ret_bool (by rw [HE.out]; exact eqb n 10), rfl⟩
  by_cases h5 : k = 5
  · subst h5
    by_cases c1 : n = 10
    · subst c1
      go_enter Try.func44, Try.ntmps44
      go_wp2
      go_ret
      exact ⟨rfl, rfl⟩
    by_cases c2 : n = 18
    · subst c2
      go_enter Try.func44, Try.ntmps44
      go_wp2
      go_ret
      exact ⟨rfl, rfl⟩
    by_cases c3 : n = 26
    · subst c3
      go_enter Try.func44, Try.ntmps44
      go_wp2
      go_ret
      exact ⟨rfl, rfl⟩
    have HE := Lib.hid (show lenOk 5 n = (n == 34) by simp [lenOk, c1, c2, c3])
    have i1 : ¬ (n : Int) = 10 := by omega
    have i2 : ¬ (n : Int) = 18 := by omega
    have i3 : ¬ (n : Int) = 26 := by omega
    go_enter Try.func44, Try.ntmps44
    go_wp2
    go_ret
    exact ⟨ret_bool (by rw [HE.out, Bool.eq_iff_iff]; simp; omega), rfl⟩
  have HE := Lib.hid (show lenOk k n = decide (2 ≤ n) by simp [lenOk, h2, h3, h4, h5, h8])
  have i2 : ¬ (k : Int) = 2 := by omega
  have i3 : ¬ (k : Int) = 3 := by omega
  have i4 : ¬ (k : Int) = 4 := by omega
  have i5 : ¬ (k : Int) = 5 := by omega
  have i8 : ¬ (k : Int) = 8 := by omega
  go_enter Try.func44, Try.ntmps44
  go_wp2
  go_ret
  exact ⟨ret_bool (by rw [HE.out]; exact decide_eq_decide.2 (by omega)), rfl⟩
set_option maxHeartbeats 4000000 in
set_option maxRecDepth 100000 in
theorem same0 (m : Nat) (s : Int) (k t : Bool) (v e : Nat) (A A' : Option Addr) (n c c' : Nat) (b b' : List (Nat × Nat)) (m' : Nat) (s' : Int) (k' : Bool) (t' : Bool) (v' : Nat) (e' : Nat) (n' : Nat) (w : World) (h : ¬ (m : Int) = m') :
    Calls Try.prog 16 #[OA m s k A n c t v e, OA m' s' k' A' n' c' t' v' e'] w fun e_ w' => e_ = .returned (.bool false) ∧ Up w w' := by
  go_enter Try.func16, Try.ntmps16
  go_upto_region 1 with fail
  have U0 : Up w ((w.alloc (.cells #[.int .u16 (m : Nat), .int .i64 s, .bool k, .slice A n c, .bool t, .int .u32 (v : Nat), .int .u32 (e : Nat)] 26)).alloc (.cells #[.int .u16 (m' : Nat), .int .i64 s', .bool k', .slice A' n' c', .bool t', .int .u32 (v' : Nat), .int .u32 (e' : Nat)] 26)) := up_al _ (up_al _ (Below.refl _ _))
  have A0 := (Box.new w #[.int .u16 (m : Nat), .int .i64 s, .bool k, .slice A n c, .bool t, .int .u32 (v : Nat), .int .u32 (e : Nat)] 26).alloc (.cells #[.int .u16 (m' : Nat), .int .i64 s', .bool k', .slice A' n' c', .bool t', .int .u32 (v' : Nat), .int .u32 (e' : Nat)] 26)
  have B0 := Box.new (w.alloc (.cells #[.int .u16 (m : Nat), .int .i64 s, .bool k, .slice A n c, .bool t, .int .u32 (v : Nat), .int .u32 (e : Nat)] 26)) #[.int .u16 (m' : Nat), .int .i64 s', .bool k', .slice A' n' c', .bool t', .int .u32 (v' : Nat), .int .u32 (e' : Nat)] 26
  rw [show (w.alloc (.cells #[.int .u16 (m : Nat), .int .i64 s, .bool k, .slice A n c, .bool t, .int .u32 (v : Nat), .int .u32 (e : Nat)] 26)).heap.size = w.heap.size + 1 by simp] at B0
  generalize ((w.alloc (.cells #[.int .u16 (m : Nat), .int .i64 s, .bool k, .slice A n c, .bool t, .int .u32 (v : Nat), .int .u32 (e : Nat)] 26)).alloc (.cells #[.int .u16 (m' : Nat), .int .i64 s', .bool k', .slice A' n' c', .bool t', .int .u32 (v' : Nat), .int .u32 (e' : Nat)] 26)) = w0 at U0 A0 B0 ⊢
  generalize w.heap.size = n0 at A0 B0 ⊢
  obtain ⟨k0, k1, k2, k3, k4, k5, k6⟩ := Box.e7 A0
  obtain ⟨m0, m1, m2, m3, m4, m5, m6⟩ := Box.e7 B0
  go_wp2
  go_ret
  exact ⟨rfl, U0⟩
set_option maxHeartbeats 4000000 in
set_option maxRecDepth 100000 in
theorem same1 (m : Nat) (s : Int) (k t : Bool) (v e : Nat) (A A' : Option Addr) (n c c' : Nat) (b b' : List (Nat × Nat)) (s' : Int) (k' : Bool) (t' : Bool) (v' : Nat) (e' : Nat) (n' : Nat) (w : World) (h : ¬ (s : Int) = s') :
    Calls Try.prog 16 #[OA m s k A n c t v e, OA m s' k' A' n' c' t' v' e'] w fun e_ w' => e_ = .returned (.bool false) ∧ Up w w' := by
  go_enter Try.func16, Try.ntmps16
  go_upto_region 1 with fail
  have U0 : Up w ((w.alloc (.cells #[.int .u16 (m : Nat), .int .i64 s, .bool k, .slice A n c, .bool t, .int .u32 (v : Nat), .int .u32 (e : Nat)] 26)).alloc (.cells #[.int .u16 (m : Nat), .int .i64 s', .bool k', .slice A' n' c', .bool t', .int .u32 (v' : Nat), .int .u32 (e' : Nat)] 26)) := up_al _ (up_al _ (Below.refl _ _))
  have A0 := (Box.new w #[.int .u16 (m : Nat), .int .i64 s, .bool k, .slice A n c, .bool t, .int .u32 (v : Nat), .int .u32 (e : Nat)] 26).alloc (.cells #[.int .u16 (m : Nat), .int .i64 s', .bool k', .slice A' n' c', .bool t', .int .u32 (v' : Nat), .int .u32 (e' : Nat)] 26)
  have B0 := Box.new (w.alloc (.cells #[.int .u16 (m : Nat), .int .i64 s, .bool k, .slice A n c, .bool t, .int .u32 (v : Nat), .int .u32 (e : Nat)] 26)) #[.int .u16 (m : Nat), .int .i64 s', .bool k', .slice A' n' c', .bool t', .int .u32 (v' : Nat), .int .u32 (e' : Nat)] 26
  rw [show (w.alloc (.cells #[.int .u16 (m : Nat), .int .i64 s, .bool k, .slice A n c, .bool t, .int .u32 (v : Nat), .int .u32 (e : Nat)] 26)).heap.size = w.heap.size + 1 by simp] at B0
  generalize ((w.alloc (.cells #[.int .u16 (m : Nat), .int .i64 s, .bool k, .slice A n c, .bool t, .int .u32 (v : Nat), .int .u32 (e : Nat)] 26)).alloc (.cells #[.int .u16 (m : Nat), .int .i64 s', .bool k', .slice A' n' c', .bool t', .int .u32 (v' : Nat), .int .u32 (e' : Nat)] 26)) = w0 at U0 A0 B0 ⊢
  generalize w.heap.size = n0 at A0 B0 ⊢
  obtain ⟨k0, k1, k2, k3, k4, k5, k6⟩ := Box.e7 A0
  obtain ⟨m0, m1, m2, m3, m4, m5, m6⟩ := Box.e7 B0
  go_wp2
  go_ret
  exact ⟨rfl, U0⟩
set_option maxHeartbeats 4000000 in
set_option maxRecDepth 100000 in
theorem same2 (m : Nat) (s : Int) (k t : Bool) (v e : Nat) (A A' : Option Addr) (n c c' : Nat) (b b' : List (Nat × Nat)) (k' : Bool) (t' : Bool) (v' : Nat) (e' : Nat) (n' : Nat) (w : World) (h : k ≠ k') :
    Calls Try.prog 16 #[OA m s k A n c t v e, OA m s k' A' n' c' t' v' e'] w fun e_ w' => e_ = .returned (.bool false) ∧ Up w w' := by
  cases k <;> cases k' <;> (try exact absurd rfl h)
  all_goals
    clear h
    go_enter Try.func16, Try.ntmps16
    go_wp2
    go_ret
    exact ⟨rfl, up_al _ (up_al _ (Below.refl _ _))⟩
set_option maxHeartbeats 4000000 in
set_option maxRecDepth 100000 in
theorem same3 (m : Nat) (s : Int) (k t : Bool) (v e : Nat) (A A' : Option Addr) (n c c' : Nat) (b b' : List (Nat × Nat)) (t' : Bool) (v' : Nat) (e' : Nat) (n' : Nat) (w : World) (h : t ≠ t') :
    Calls Try.prog 16 #[OA m s k A n c t v e, OA m s k A' n' c' t' v' e'] w fun e_ w' => e_ = .returned (.bool false) ∧ Up w w' := by
  cases t <;> cases t' <;> (try exact absurd rfl h)
  all_goals
    clear h
    go_enter Try.func16, Try.ntmps16
    go_wp2
    go_ret
    exact ⟨rfl, up_al _ (up_al _ (Below.refl _ _))⟩
set_option maxHeartbeats 4000000 in
set_option maxRecDepth 100000 in
theorem same4 (m : Nat) (s : Int) (k t : Bool) (v e : Nat) (A A' : Option Addr) (n c c' : Nat) (b b' : List (Nat × Nat)) (v' : Nat) (e' : Nat) (n' : Nat) (w : World) (h : ¬ (v : Int) = v') :
    Calls Try.prog 16 #[OA m s k A n c t v e, OA m s k A' n' c' t v' e'] w fun e_ w' => e_ = .returned (.bool false) ∧ Up w w' := by
  go_enter Try.func16, Try.ntmps16
  go_upto_region 1 with fail
  have U0 : Up w ((w.alloc (.cells #[.int .u16 (m : Nat), .int .i64 s, .bool k, .slice A n c, .bool t, .int .u32 (v : Nat), .int .u32 (e : Nat)] 26)).alloc (.cells #[.int .u16 (m : Nat), .int .i64 s, .bool k, .slice A' n' c', .bool t, .int .u32 (v' : Nat), .int .u32 (e' : Nat)] 26)) := up_al _ (up_al _ (Below.refl _ _))
  have A0 := (Box.new w #[.int .u16 (m : Nat), .int .i64 s, .bool k, .slice A n c, .bool t, .int .u32 (v : Nat), .int .u32 (e : Nat)] 26).alloc (.cells #[.int .u16 (m : Nat), .int .i64 s, .bool k, .slice A' n' c', .bool t, .int .u32 (v' : Nat), .int .u32 (e' : Nat)] 26)
  have B0 := Box.new (w.alloc (.cells #[.int .u16 (m : Nat), .int .i64 s, .bool k, .slice A n c, .bool t, .int .u32 (v : Nat), .int .u32 (e : Nat)] 26)) #[.int .u16 (m : Nat), .int .i64 s, .bool k, .slice A' n' c', .bool t, .int .u32 (v' : Nat), .int .u32 (e' : Nat)] 26
  rw [show (w.alloc (.cells #[.int .u16 (m : Nat), .int .i64 s, .bool k, .slice A n c, .bool t, .int .u32 (v : Nat), .int .u32 (e : Nat)] 26)).heap.size = w.heap.size + 1 by simp] at B0
  generalize ((w.alloc (.cells #[.int .u16 (m : Nat), .int .i64 s, .bool k, .slice A n c, .bool t, .int .u32 (v : Nat), .int .u32 (e : Nat)] 26)).alloc (.cells #[.int .u16 (m : Nat), .int .i64 s, .bool k, .slice A' n' c', .bool t, .int .u32 (v' : Nat), .int .u32 (e' : Nat)] 26)) = w0 at U0 A0 B0 ⊢
  generalize w.heap.size = n0 at A0 B0 ⊢
  obtain ⟨k0, k1, k2, k3, k4, k5, k6⟩ := Box.e7 A0
  obtain ⟨m0, m1, m2, m3, m4, m5, m6⟩ := Box.e7 B0
  go_wp2
  go_ret
  exact ⟨rfl, U0⟩
set_option maxHeartbeats 4000000 in
set_option maxRecDepth 100000 in
theorem same5 (m : Nat) (s : Int) (k t : Bool) (v e : Nat) (A A' : Option Addr) (n c c' : Nat) (b b' : List (Nat × Nat)) (e' : Nat) (n' : Nat) (w : World) (h : ¬ (e : Int) = e') :
    Calls Try.prog 16 #[OA m s k A n c t v e, OA m s k A' n' c' t v e'] w fun e_ w' => e_ = .returned (.bool false) ∧ Up w w' := by
  go_enter Try.func16, Try.ntmps16
  go_upto_region 1 with fail
  have U0 : Up w ((w.alloc (.cells #[.int .u16 (m : Nat), .int .i64 s, .bool k, .slice A n c, .bool t, .int .u32 (v : Nat), .int .u32 (e : Nat)] 26)).alloc (.cells #[.int .u16 (m : Nat), .int .i64 s, .bool k, .slice A' n' c', .bool t, .int .u32 (v : Nat), .int .u32 (e' : Nat)] 26)) := up_al _ (up_al _ (Below.refl _ _))
  have A0 := (Box.new w #[.int .u16 (m : Nat), .int .i64 s, .bool k, .slice A n c, .bool t, .int .u32 (v : Nat), .int .u32 (e : Nat)] 26).alloc (.cells #[.int .u16 (m : Nat), .int .i64 s, .bool k, .slice A' n' c', .bool t, .int .u32 (v : Nat), .int .u32 (e' : Nat)] 26)
  have B0 := Box.new (w.alloc (.cells #[.int .u16 (m : Nat), .int .i64 s, .bool k, .slice A n c, .bool t, .int .u32 (v : Nat), .int .u32 (e : Nat)] 26)) #[.int .u16 (m : Nat), .int .i64 s, .bool k, .slice A' n' c', .bool t, .int .u32 (v : Nat), .int .u32 (e' : Nat)] 26
  rw [show (w.alloc (.cells #[.int .u16 (m : Nat), .int .i64 s, .bool k, .slice A n c, .bool t, .int .u32 (v : Nat), .int .u32 (e : Nat)] 26)).heap.size = w.heap.size + 1 by simp] at B0
  generalize ((w.alloc (.cells #[.int .u16 (m : Nat), .int .i64 s, .bool k, .slice A n c, .bool t, .int .u32 (v : Nat), .int .u32 (e : Nat)] 26)).alloc (.cells #[.int .u16 (m : Nat), .int .i64 s, .bool k, .slice A' n' c', .bool t, .int .u32 (v : Nat), .int .u32 (e' : Nat)] 26)) = w0 at U0 A0 B0 ⊢
  generalize w.heap.size = n0 at A0 B0 ⊢
  obtain ⟨k0, k1, k2, k3, k4, k5, k6⟩ := Box.e7 A0
  obtain ⟨m0, m1, m2, m3, m4, m5, m6⟩ := Box.e7 B0
  go_wp2
  go_ret
  exact ⟨rfl, U0⟩
set_option maxHeartbeats 4000000 in
set_option maxRecDepth 100000 in
theorem same6 (m : Nat) (s : Int) (k t : Bool) (v e : Nat) (A A' : Option Addr) (n c c' : Nat) (b b' : List (Nat × Nat)) (n' : Nat) (w : World) (h : ¬ (n : Int) = n') :
    Calls Try.prog 16 #[OA m s k A n c t v e, OA m s k A' n' c' t v e] w fun e_ w' => e_ = .returned (.bool false) ∧ Up w w' := by
  go_enter Try.func16, Try.ntmps16
  go_upto_region 1 with fail
  have U0 : Up w ((w.alloc (.cells #[.int .u16 (m : Nat), .int .i64 s, .bool k, .slice A n c, .bool t, .int .u32 (v : Nat), .int .u32 (e : Nat)] 26)).alloc (.cells #[.int .u16 (m : Nat), .int .i64 s, .bool k, .slice A' n' c', .bool t, .int .u32 (v : Nat), .int .u32 (e : Nat)] 26)) := up_al _ (up_al _ (Below.refl _ _))
  have A0 := (Box.new w #[.int .u16 (m : Nat), .int .i64 s, .bool k, .slice A n c, .bool t, .int .u32 (v : Nat), .int .u32 (e : Nat)] 26).alloc (.cells #[.int .u16 (m : Nat), .int .i64 s, .bool k, .slice A' n' c', .bool t, .int .u32 (v : Nat), .int .u32 (e : Nat)] 26)
  have B0 := Box.new (w.alloc (.cells #[.int .u16 (m : Nat), .int .i64 s, .bool k, .slice A n c, .bool t, .int .u32 (v : Nat), .int .u32 (e : Nat)] 26)) #[.int .u16 (m : Nat), .int .i64 s, .bool k, .slice A' n' c', .bool t, .int .u32 (v : Nat), .int .u32 (e : Nat)] 26
  rw [show (w.alloc (.cells #[.int .u16 (m : Nat), .int .i64 s, .bool k, .slice A n c, .bool t, .int .u32 (v : Nat), .int .u32 (e : Nat)] 26)).heap.size = w.heap.size + 1 by simp] at B0
  generalize ((w.alloc (.cells #[.int .u16 (m : Nat), .int .i64 s, .bool k, .slice A n c, .bool t, .int .u32 (v : Nat), .int .u32 (e : Nat)] 26)).alloc (.cells #[.int .u16 (m : Nat), .int .i64 s, .bool k, .slice A' n' c', .bool t, .int .u32 (v : Nat), .int .u32 (e : Nat)] 26)) = w0 at U0 A0 B0 ⊢
  generalize w.heap.size = n0 at A0 B0 ⊢
  obtain ⟨k0, k1, k2, k3, k4, k5, k6⟩ := Box.e7 A0
  obtain ⟨m0, m1, m2, m3, m4, m5, m6⟩ := Box.e7 B0
  go_wp2
  go_ret
  exact ⟨rfl, U0⟩
theorem ne_getD {b b' : List (Nat × Nat)} {k : Nat} {x y : Nat × Nat} (h : b[k]? = some x) (h' : b'[k]? = some y) (hn : x ≠ y) : b ≠ b' := fun e => by
  subst e; rw [h] at h'; exact hn (Option.some.inj h')
theorem eq_all {b b' : List (Nat × Nat)} {n : Nat} (h : b.length = n) (h' : b'.length = n) (ha : ∀ j, j < n → b[j]? = b'[j]?) : b = b' := by
  apply List.ext_getElem? 
  intro j
  by_cases hj : j < n
  · exact ha j hj
  · rw [List.getElem?_eq_none (by omega), List.getElem?_eq_none (by omega)]
theorem same_bl (m : Nat) (s : Int) (k t : Bool) (v e : Nat) (b b' : List (Nat × Nat)) : same ⟨m, s, k, b, t, v, e⟩ ⟨m, s, k, b', t, v, e⟩ = (b == b') := by simp [same]
set_option maxHeartbeats 4000000 in
set_option maxRecDepth 100000 in
theorem same7 (m : Nat) (s : Int) (k t : Bool) (v e : Nat) (A A' : Option Addr) (n c c' : Nat) (b b' : List (Nat × Nat)) (w : World) (hr : RdB w A b) (hr' : RdB w A' b') (hn : b.length = n) (hn' : b'.length = n) (hm : n ≤ maxLen) :
    Calls Try.prog 16 #[OA m s k A n c t v e, OA m s k A' n c' t v e] w fun e_ w' => e_ = .returned (.bool (same ⟨m, s, k, b, t, v, e⟩ ⟨m, s, k, b', t, v, e⟩)) ∧ Up w w' := by
  unfold maxLen at hm
  have HS := Lib.hid (same_bl m s k t v e b b')
  have HN := Lib.hid hn; have HN' := Lib.hid hn'
  go_enter Try.func16, Try.ntmps16
  go_upto_region 1 with fail
  have U0 : Up w ((w.alloc (.cells #[.int .u16 (m : Nat), .int .i64 s, .bool k, .slice A n c, .bool t, .int .u32 (v : Nat), .int .u32 (e : Nat)] 26)).alloc (.cells #[.int .u16 (m : Nat), .int .i64 s, .bool k, .slice A' n c', .bool t, .int .u32 (v : Nat), .int .u32 (e : Nat)] 26)) := up_al _ (up_al _ (Below.refl _ _))
  have A0 := (Box.new w #[.int .u16 (m : Nat), .int .i64 s, .bool k, .slice A n c, .bool t, .int .u32 (v : Nat), .int .u32 (e : Nat)] 26).alloc (.cells #[.int .u16 (m : Nat), .int .i64 s, .bool k, .slice A' n c', .bool t, .int .u32 (v : Nat), .int .u32 (e : Nat)] 26)
  have B0 := Box.new (w.alloc (.cells #[.int .u16 (m : Nat), .int .i64 s, .bool k, .slice A n c, .bool t, .int .u32 (v : Nat), .int .u32 (e : Nat)] 26)) #[.int .u16 (m : Nat), .int .i64 s, .bool k, .slice A' n c', .bool t, .int .u32 (v : Nat), .int .u32 (e : Nat)] 26
  rw [show (w.alloc (.cells #[.int .u16 (m : Nat), .int .i64 s, .bool k, .slice A n c, .bool t, .int .u32 (v : Nat), .int .u32 (e : Nat)] 26)).heap.size = w.heap.size + 1 by simp] at B0
  generalize ((w.alloc (.cells #[.int .u16 (m : Nat), .int .i64 s, .bool k, .slice A n c, .bool t, .int .u32 (v : Nat), .int .u32 (e : Nat)] 26)).alloc (.cells #[.int .u16 (m : Nat), .int .i64 s, .bool k, .slice A' n c', .bool t, .int .u32 (v : Nat), .int .u32 (e : Nat)] 26)) = w0 at U0 A0 B0 ⊢
  generalize w.heap.size = n0 at A0 B0 ⊢
  obtain ⟨k0, k1, k2, k3, k4, k5, k6⟩ := Box.e7 A0
  obtain ⟨m0, m1, m2, m3, m4, m5, m6⟩ := Box.e7 B0
  go_wp2_with fail
  go_loopw [5] (fun i wr => ∃ j : Nat, j ≤ n ∧ i = .int .i64 j ∧ Hid (∀ q, q < j → b[q]? = b'[q]?) ∧ Up w0 wr) (fun i _ => n - (intOf i).toNat)
  case atStart => exact ⟨0, Nat.zero_le _, rfl, fun q hq => absurd hq (Nat.not_lt_zero _), Below.refl _ _⟩
  case round =>
    obtain ⟨j, hj, rfl, hall, hb⟩ := hrel
    clear k0 k1 k2 k3 k4 k5 k6 m0 m1 m2 m3 m4 m5 m6
    have A1 := A0.up hb
    have B1 := B0.up hb
    obtain ⟨k0, k1, k2, k3, k4, k5, k6⟩ := Box.e7 A1
    obtain ⟨m0, m1, m2, m3, m4, m5, m6⟩ := Box.e7 B1
    by_cases hlt : j < n
    · obtain ⟨g, off, hA, hg, x1, x2, c1, c2, hx⟩ := ((hr.up U0).up hb).at_ (k := j) (by rw [HN.out]; exact hlt)
      obtain ⟨g', off', hA', hg', y1, y2, d1, d2, hy⟩ := ((hr'.up U0).up hb).at_ (k := j) (by rw [HN'.out]; exact hlt)
      subst hA; subst hA'
      by_cases h1 : x1 = y1
      · subst h1
        by_cases h2 : x2 = y2
        · subst h2
          clear hr hr'
          have hq := Lib.hid (hx.out.trans hy.out.symm)
          go_wp2_with fail
          go_quiet (fail)
          go_wp2
          go_roundw
          case rel =>
            refine ⟨j + 1, by omega, by go_num, fun q hq' => ?_, below_drewN hb _⟩
            by_cases hqj : q < j
            · exact hall.out q hqj
            · obtain rfl : q = j := by omega
              exact hq.out
          case measure => simp [intOf]; omega
        · have hne : ¬ (x2 : Int) = y2 := by omega
          have HE := Lib.hid (show same ⟨m, s, k, b, t, v, e⟩ ⟨m, s, k, b', t, v, e⟩ = false by
            rw [HS.out]; simpa using ne_getD hx.out hy.out (by intro e; cases e; exact h2 rfl))
          clear hr hr' hx hy
          go_wp2_with fail
          go_quiet (fail)
          go_wp2
          go_ret
          exact ⟨ret_bool HE.out.symm, U0.on (below_drewN hb _)⟩
      · have hne : ¬ (x1 : Int) = y1 := by omega
        have HE := Lib.hid (show same ⟨m, s, k, b, t, v, e⟩ ⟨m, s, k, b', t, v, e⟩ = false by
          rw [HS.out]; simpa using ne_getD hx.out hy.out (by intro e; cases e; exact h1 rfl))
        clear hr hr' hx hy
        go_wp2_with fail
        go_quiet (fail)
        go_wp2
        go_ret
        exact ⟨ret_bool HE.out.symm, U0.on (below_drewN hb _)⟩
    · obtain rfl : j = n := by omega
      have HE := Lib.hid (eq_all HN.out HN'.out hall.out)
      go_wp2
      go_ret
      exact ⟨ret_bool (by rw [HS.out, HE.out]; simp), U0.on hb⟩
theorem same_f (a b : Opz) (h : a ≠ b) : same a b = false := by
  cases hs : same a b
  · rfl
  · exact absurd ((same_iff a b).1 hs) h
theorem refSame (m m' : Nat) (s s' : Int) (k k' t t' : Bool) (v v' e e' : Nat) (A A' : Option Addr) (n n' c c' : Nat) (b b' : List (Nat × Nat)) (w : World) (hr : RdB w A b) (hr' : RdB w A' b') (hn : b.length = n) (hn' : b'.length = n') (hm : n ≤ maxLen) :
    Calls Try.prog 16 #[OA m s k A n c t v e, OA m' s' k' A' n' c' t' v' e'] w fun e_ w' => e_ = .returned (.bool (same ⟨m, s, k, b, t, v, e⟩ ⟨m', s', k', b', t', v', e'⟩)) ∧ Up w w' := by
  by_cases hc : m = m'
  case neg =>
    rw [same_f _ _ (by intro h; cases h; exact hc rfl)]
    exact same0 _ _ _ _ _ _ _ _ _ _ _ b b' _ _ _ _ _ _ _ w (by omega)
  subst hc
  by_cases hc : s = s'
  case neg =>
    rw [same_f _ _ (by intro h; cases h; exact hc rfl)]
    exact same1 _ _ _ _ _ _ _ _ _ _ _ b b' _ _ _ _ _ _ w (by omega)
  subst hc
  by_cases hc : k = k'
  case neg =>
    rw [same_f _ _ (by intro h; cases h; exact hc rfl)]
    exact same2 _ _ _ _ _ _ _ _ _ _ _ b b' _ _ _ _ _ w hc
  subst hc
  by_cases hc : t = t'
  case neg =>
    rw [same_f _ _ (by intro h; cases h; exact hc rfl)]
    exact same3 _ _ _ _ _ _ _ _ _ _ _ b b' _ _ _ _ w hc
  subst hc
  by_cases hc : v = v'
  case neg =>
    rw [same_f _ _ (by intro h; cases h; exact hc rfl)]
    exact same4 _ _ _ _ _ _ _ _ _ _ _ b b' _ _ _ w (by omega)
  subst hc
  by_cases hc : e = e'
  case neg =>
    rw [same_f _ _ (by intro h; cases h; exact hc rfl)]
    exact same5 _ _ _ _ _ _ _ _ _ _ _ b b' _ _ w (by omega)
  subst hc
  by_cases hc : n = n'
  case neg =>
    rw [same_f _ _ (by intro h; cases h; exact hc (hn.symm.trans hn'))]
    exact same6 _ _ _ _ _ _ _ _ _ _ _ b b' _ w (by omega)
  subst hc
  exact same7 m s k t v e A A' n c c' b b' w hr hr' hn hn' hm
end Go.Proofs.Ytdlcglkeinlimaa.op
