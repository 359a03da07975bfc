/- T R W: contracts, part 5. Condition: as each says. -/
import Derived.Test.YtafckmbgefbonaaGreatVTRW4
set_option linter.unusedVariables false
set_option linter.unusedSimpArgs false
set_option maxRecDepth 100000
set_option maxHeartbeats 8000000
namespace Go.Proofs.YtafckmbgefbonaaGreat.op
open RowKit Shelf Lib sm nb om

theorem Box.e7 {W : World} {b : Nat} {x0 x1 x2 x3 x4 x5 x6 : Value} (h : Box W b [x0, x1, x2, x3, x4, x5, x6]) : W.cell? ⟨b, 0, none⟩ = some x0 ∧ W.cell? ⟨b, 1, none⟩ = some x1 ∧ W.cell? ⟨b, 2, none⟩ = some x2 ∧ W.cell? ⟨b, 3, none⟩ = some x3 ∧ W.cell? ⟨b, 4, none⟩ = some x4 ∧ W.cell? ⟨b, 5, none⟩ = some x5 ∧ W.cell? ⟨b, 6, none⟩ = some x6 := ⟨h.at 0 rfl, h.at 1 rfl, h.at 2 rfl, h.at 3 rfl, h.at 4 rfl, h.at 5 rfl, h.at 6 rfl⟩
theorem Box.c7 {W : World} {b : Nat} {x0 x1 x2 x3 x4 x5 x6 : Value} (h : Box W b [x0, x1, x2, x3, x4, x5, x6]) : W.cell? ⟨b, 0, none⟩ = some x0 ∧ W.cell? ⟨b, 1, none⟩ = some x1 ∧ W.cell? ⟨b, 2, none⟩ = some x2 ∧ W.cell? ⟨b, 3, none⟩ = some x3 ∧ W.cell? ⟨b, 4, none⟩ = some x4 ∧ W.cell? ⟨b, 5, none⟩ = some x5 ∧ W.cell? ⟨b, 6, none⟩ = some x6 ∧ W.frozen? ⟨b, 0, none⟩ = false ∧ W.frozen? ⟨b, 1, none⟩ = false ∧ W.frozen? ⟨b, 2, none⟩ = false ∧ W.frozen? ⟨b, 3, none⟩ = false ∧ W.frozen? ⟨b, 4, none⟩ = false ∧ W.frozen? ⟨b, 5, none⟩ = false ∧ W.frozen? ⟨b, 6, none⟩ = false := ⟨h.at 0 rfl, h.at 1 rfl, h.at 2 rfl, h.at 3 rfl, h.at 4 rfl, h.at 5 rfl, h.at 6 rfl, h.fr 0 rfl, h.fr 1 rfl, h.fr 2 rfl, h.fr 3 rfl, h.fr 4 rfl, h.fr 5 rfl, h.fr 6 rfl⟩
theorem put7 {W : World} {b : Nat} {x0 x1 x2 x3 x4 x5 x6 : Value} (hB : Box W b [x0, x1, x2, x3, x4, x5, x6]) (y0 y1 y2 y3 y4 y5 y6 : Value) : Box ((((((((W.setCell ⟨b, 0, none⟩ y0).setCell ⟨b, 1, none⟩ y1).setCell ⟨b, 2, none⟩ y2).setCell ⟨b, 3, none⟩ y3).setCell ⟨b, 4, none⟩ y4).setCell ⟨b, 5, none⟩ y5).setCell ⟨b, 6, none⟩ y6)) b [y0, y1, y2, y3, y4, y5, y6] := (((((((hB.set 0 y0).set 1 y1).set 2 y2).set 3 y3).set 4 y4).set 5 y5).set 6 y6)
theorem ups7 {w W : World} {b : Nat} (hu : Up w W) (hb : w.heap.size ≤ b) (y0 y1 y2 y3 y4 y5 y6 : Value) : Up w ((((((((W.setCell ⟨b, 0, none⟩ y0).setCell ⟨b, 1, none⟩ y1).setCell ⟨b, 2, none⟩ y2).setCell ⟨b, 3, none⟩ y3).setCell ⟨b, 4, none⟩ y4).setCell ⟨b, 5, none⟩ y5).setCell ⟨b, 6, none⟩ y6)) := (up_set (up_set (up_set (up_set (up_set (up_set (up_set hu hb) hb) hb) hb) hb) hb) hb)
theorem far7 {W : World} {b c : Nat} {vs : List Value} (h : Box W b vs) (hc : c ≠ b) (y0 y1 y2 y3 y4 y5 y6 : Value) : Box ((((((((W.setCell ⟨c, 0, none⟩ y0).setCell ⟨c, 1, none⟩ y1).setCell ⟨c, 2, none⟩ y2).setCell ⟨c, 3, none⟩ y3).setCell ⟨c, 4, none⟩ y4).setCell ⟨c, 5, none⟩ y5).setCell ⟨c, 6, none⟩ y6)) b vs := (((((((h.far hc y0).far hc y1).far hc y2).far hc y3).far hc y4).far hc y5).far hc y6)
theorem refNone (w : World) : Calls Tryz.prog 78 #[] w fun e w' => e = .returned (OA 0 (-1) false none 0 0 false 0 0) ∧ Up w w' := by
 go_enter Tryz.func78, Tryz.ntmps78
 go_upto_region 1 with fail
 have hB := Box.new w #[.int .u16 0, .int .i64 0, .bool false, .slice none 0 0, .bool false, .int .u32 0, .int .u32 0] 28
 have hu : Up w (w.alloc (.cells #[.int .u16 0, .int .i64 0, .bool false, .slice none 0 0, .bool false, .int .u32 0, .int .u32 0] 28)) := up_al _ bR
 generalize World.alloc w _ = w0 at hB hu ⊢
 obtain ⟨k0, k1, k2, k3, k4, k5, k6, f0, f1, f2, f3, f4, f5, f6⟩ := Box.c7 hB
 go_wp2
 have hBB := put7 hB (.int .u16 0) (.int .i64 (-1)) (.bool false) (.slice none 0 0) (.bool false) (.int .u32 0) (.int .u32 0)
 have huu := ups7 (b := w.heap.size) hu (Nat.le_refl _) (.int .u16 0) (.int .i64 (-1)) (.bool false) (.slice none 0 0) (.bool false) (.int .u32 0) (.int .u32 0)
 generalize World.setCell _ ⟨w.heap.size, 6, none⟩ _ = W3 at hBB huu ⊢
 clear k0 k1 k2 k3 k4 k5 k6 f0 f1 f2 f3 f4 f5 f6 hB hu
 obtain ⟨k0, k1, k2, k3, k4, k5, k6⟩ := Box.e7 hBB
 (try simp only [Exit.inBlock, Exit.then])
 refine bodyPost_ret (v := OA 0 (-1) false none 0 0 false 0 0) ?_ rfl ⟨rfl, huu⟩
 rw [results_cell1 rfl]; go_simp
theorem refKnown (k : Nat) (w : World) (hk : k ≤ 255) : Calls Tryz.prog 112 #[.int .i64 k] w fun e w' => e = .returned (.bool (known k)) ∧ w = w' := by
 by_cases h1 : 2 ≤ k
 ·by_cases h2 : k ≤ 5
  ·have HE := Lib.hid (show known k = true by simp [known, h1, h2])
   go_enter Tryz.func112, Tryz.ntmps112
   go_wp2
   go_ret
   exact ⟨ret_bool HE.out.symm, rfl⟩
  ·by_cases h3 : k = 8
   ·subst h3
    go_enter Tryz.func112, Tryz.ntmps112
    go_wp2
    go_ret
    exact ⟨rfl, rfl⟩
   ·have HE := Lib.hid (show known k = false by simp [known, h2, h3])
    have h4 : ¬ (k : Int) = 8 := by omega
    go_enter Tryz.func112, Tryz.ntmps112
    go_wp2
    go_ret
    exact ⟨ret_bool (by rw [HE.out]; simp; omega), rfl⟩
 ·have HE := Lib.hid (show known k = false by simp [known, h1]; omega)
  have h4 : ¬ (k : Int) = 8 := by omega
  go_enter Tryz.func112, Tryz.ntmps112
  go_wp2
  go_ret
  exact ⟨ret_bool (by rw [HE.out]; simp; omega), rfl⟩
theorem eqb (n : Nat) (c : Nat) : ((n : Int) == (c : Int)) = (n == c) := by
 rw [Bool.eq_iff_iff, beq_iff_eq, beq_iff_eq]; omega
theorem refRight (k n : Nat) (w : World) (hk : k ≤ 255) (hn : n ≤ 255) : Calls Tryz.prog 111 #[.int .i64 k, .int .i64 n] w fun e w' => e = .returned (.bool (lenOk k n)) ∧ w = w' := by
 by_cases h2 : k = 2
 ·subst h2
  have HE := Lib.hid (show lenOk 2 n = (n == 4) from rfl)
  go_enter Tryz.func111, Tryz.ntmps111
  go_wp2
  go_ret
  exact ⟨ret_bool (by rw [HE.out]; exact eqb n 4), rfl⟩
 by_cases h3 : k = 3
 ·subst h3
  have HE := Lib.hid (show lenOk 3 n = (n == 3) from rfl)
  go_enter Tryz.func111, Tryz.ntmps111
  go_wp2
  go_ret
  exact ⟨ret_bool (by rw [HE.out]; exact eqb n 3), rfl⟩
 by_cases h4 : k = 4
 ·subst h4
  have HE := Lib.hid (show lenOk 4 n = (n == 2) from rfl)
  go_enter Tryz.func111, Tryz.ntmps111
  go_wp2
  go_ret
  exact ⟨ret_bool (by rw [HE.out]; exact eqb n 2), rfl⟩
 by_cases h8 : k = 8
 ·subst h8
  have HE := Lib.hid (show lenOk 8 n = (n == 10) from rfl)
  go_enter Tryz.func111, Tryz.ntmps111
  go_wp2
  go_ret
  exact ⟨ret_bool (by rw [HE.out]; exact eqb n 10), rfl⟩
 by_cases h5 : k = 5
 ·subst h5
  by_cases c1 : n = 10
  ·subst c1
   go_enter Tryz.func111, Tryz.ntmps111
   go_wp2
   go_ret
   exact ⟨rfl, rfl⟩
  by_cases c2 : n = 18
  ·subst c2
   go_enter Tryz.func111, Tryz.ntmps111
   go_wp2
   go_ret
   exact ⟨rfl, rfl⟩
  by_cases c3 : n = 26
  ·subst c3
   go_enter Tryz.func111, Tryz.ntmps111
   go_wp2
   go_ret
   exact ⟨rfl, rfl⟩
  have HE := Lib.hid (show lenOk 5 n = (n == 34) by simp [lenOk, c1, c2, c3])
  have i1 : ¬ (n : Int) = 10 := by omega
  have i2 : ¬ (n : Int) = 18 := by omega
  have i3 : ¬ (n : Int) = 26 := by omega
  go_enter Tryz.func111, Tryz.ntmps111
  go_wp2
  go_ret
  exact ⟨ret_bool (by rw [HE.out, Bool.eq_iff_iff]; simp; omega), rfl⟩
 have HE := Lib.hid (show lenOk k n = decide (2 ≤ n) by simp [lenOk, h2, h3, h4, h5, h8])
 have i2 : ¬ (k : Int) = 2 := by omega
 have i3 : ¬ (k : Int) = 3 := by omega
 have i4 : ¬ (k : Int) = 4 := by omega
 have i5 : ¬ (k : Int) = 5 := by omega
 have i8 : ¬ (k : Int) = 8 := by omega
 go_enter Tryz.func111, Tryz.ntmps111
 go_wp2
 go_ret
 exact ⟨ret_bool (by rw [HE.out]; exact decide_eq_decide.2 (by omega)), rfl⟩
theorem same0 (m : Nat) (s : Int) (k t : Bool) (v e : Nat) (A A' : Option Addr) (n c c' : Nat) (b b' : List (Nat × Nat)) (m' : Nat) (s' : Int) (k' : Bool) (t' : Bool) (v' : Nat) (e' : Nat) (n' : Nat) (w : World) (h : ¬ (m : Int) = m') :
  Calls Tryz.prog 35 #[OA m s k A n c t v e, OA m' s' k' A' n' c' t' v' e'] w fun e_ w' => e_ = .returned (.bool false) ∧ Up w w' := by
 go_enter Tryz.func35, Tryz.ntmps35
 go_upto_region 1 with fail
 have U0 : Up w ((w.alloc (.cells #[.int .u16 m, .int .i64 s, .bool k, .slice A n c, .bool t, .int .u32 v, .int .u32 e] 28)).alloc (.cells #[.int .u16 m', .int .i64 s', .bool k', .slice A' n' c', .bool t', .int .u32 v', .int .u32 e'] 28)) := up_al _ (up_al _ bR)
 have A0 := (Box.new w #[.int .u16 m, .int .i64 s, .bool k, .slice A n c, .bool t, .int .u32 v, .int .u32 e] 28).alloc (.cells #[.int .u16 m', .int .i64 s', .bool k', .slice A' n' c', .bool t', .int .u32 v', .int .u32 e'] 28)
 have B0 := Box.new (w.alloc (.cells #[.int .u16 m, .int .i64 s, .bool k, .slice A n c, .bool t, .int .u32 v, .int .u32 e] 28)) #[.int .u16 m', .int .i64 s', .bool k', .slice A' n' c', .bool t', .int .u32 v', .int .u32 e'] 28
 rw [show (w.alloc (.cells #[.int .u16 m, .int .i64 s, .bool k, .slice A n c, .bool t, .int .u32 v, .int .u32 e] 28)).heap.size = w.heap.size + 1 by simp] at B0
 generalize ((w.alloc (.cells #[.int .u16 m, .int .i64 s, .bool k, .slice A n c, .bool t, .int .u32 v, .int .u32 e] 28)).alloc (.cells #[.int .u16 m', .int .i64 s', .bool k', .slice A' n' c', .bool t', .int .u32 v', .int .u32 e'] 28)) = w0 at U0 A0 B0 ⊢
 generalize w.heap.size = n0 at A0 B0 ⊢
 obtain ⟨k0, k1, k2, k3, k4, k5, k6⟩ := Box.e7 A0
 obtain ⟨m0, m1, m2, m3, m4, m5, m6⟩ := Box.e7 B0
 go_wp2
 go_ret
 exact ⟨rfl, U0⟩
theorem same1 (m : Nat) (s : Int) (k t : Bool) (v e : Nat) (A A' : Option Addr) (n c c' : Nat) (b b' : List (Nat × Nat)) (s' : Int) (k' : Bool) (t' : Bool) (v' : Nat) (e' : Nat) (n' : Nat) (w : World) (h : ¬ (s : Int) = s') :
  Calls Tryz.prog 35 #[OA m s k A n c t v e, OA m s' k' A' n' c' t' v' e'] w fun e_ w' => e_ = .returned (.bool false) ∧ Up w w' := by
 go_enter Tryz.func35, Tryz.ntmps35
 go_upto_region 1 with fail
 have U0 : Up w ((w.alloc (.cells #[.int .u16 m, .int .i64 s, .bool k, .slice A n c, .bool t, .int .u32 v, .int .u32 e] 28)).alloc (.cells #[.int .u16 m, .int .i64 s', .bool k', .slice A' n' c', .bool t', .int .u32 v', .int .u32 e'] 28)) := up_al _ (up_al _ bR)
 have A0 := (Box.new w #[.int .u16 m, .int .i64 s, .bool k, .slice A n c, .bool t, .int .u32 v, .int .u32 e] 28).alloc (.cells #[.int .u16 m, .int .i64 s', .bool k', .slice A' n' c', .bool t', .int .u32 v', .int .u32 e'] 28)
 have B0 := Box.new (w.alloc (.cells #[.int .u16 m, .int .i64 s, .bool k, .slice A n c, .bool t, .int .u32 v, .int .u32 e] 28)) #[.int .u16 m, .int .i64 s', .bool k', .slice A' n' c', .bool t', .int .u32 v', .int .u32 e'] 28
 rw [show (w.alloc (.cells #[.int .u16 m, .int .i64 s, .bool k, .slice A n c, .bool t, .int .u32 v, .int .u32 e] 28)).heap.size = w.heap.size + 1 by simp] at B0
 generalize ((w.alloc (.cells #[.int .u16 m, .int .i64 s, .bool k, .slice A n c, .bool t, .int .u32 v, .int .u32 e] 28)).alloc (.cells #[.int .u16 m, .int .i64 s', .bool k', .slice A' n' c', .bool t', .int .u32 v', .int .u32 e'] 28)) = w0 at U0 A0 B0 ⊢
 generalize w.heap.size = n0 at A0 B0 ⊢
 obtain ⟨k0, k1, k2, k3, k4, k5, k6⟩ := Box.e7 A0
 obtain ⟨m0, m1, m2, m3, m4, m5, m6⟩ := Box.e7 B0
 go_wp2
 go_ret
 exact ⟨rfl, U0⟩
theorem same2 (m : Nat) (s : Int) (k t : Bool) (v e : Nat) (A A' : Option Addr) (n c c' : Nat) (b b' : List (Nat × Nat)) (k' : Bool) (t' : Bool) (v' : Nat) (e' : Nat) (n' : Nat) (w : World) (h : k ≠ k') :
  Calls Tryz.prog 35 #[OA m s k A n c t v e, OA m s k' A' n' c' t' v' e'] w fun e_ w' => e_ = .returned (.bool false) ∧ Up w w' := by
 cases k <;> cases k' <;> (try exact absurd rfl h)
 all_goals
  clear h
  go_enter Tryz.func35, Tryz.ntmps35
  go_wp2
  go_ret
  exact ⟨rfl, up_al _ (up_al _ bR)⟩
theorem same3 (m : Nat) (s : Int) (k t : Bool) (v e : Nat) (A A' : Option Addr) (n c c' : Nat) (b b' : List (Nat × Nat)) (t' : Bool) (v' : Nat) (e' : Nat) (n' : Nat) (w : World) (h : t ≠ t') :
  Calls Tryz.prog 35 #[OA m s k A n c t v e, OA m s k A' n' c' t' v' e'] w fun e_ w' => e_ = .returned (.bool false) ∧ Up w w' := by
 cases t <;> cases t' <;> (try exact absurd rfl h)
 all_goals
  clear h
  go_enter Tryz.func35, Tryz.ntmps35
  go_wp2
  go_ret
  exact ⟨rfl, up_al _ (up_al _ bR)⟩
theorem same4 (m : Nat) (s : Int) (k t : Bool) (v e : Nat) (A A' : Option Addr) (n c c' : Nat) (b b' : List (Nat × Nat)) (v' : Nat) (e' : Nat) (n' : Nat) (w : World) (h : ¬ (v : Int) = v') :
  Calls Tryz.prog 35 #[OA m s k A n c t v e, OA m s k A' n' c' t v' e'] w fun e_ w' => e_ = .returned (.bool false) ∧ Up w w' := by
 go_enter Tryz.func35, Tryz.ntmps35
 go_upto_region 1 with fail
 have U0 : Up w ((w.alloc (.cells #[.int .u16 m, .int .i64 s, .bool k, .slice A n c, .bool t, .int .u32 v, .int .u32 e] 28)).alloc (.cells #[.int .u16 m, .int .i64 s, .bool k, .slice A' n' c', .bool t, .int .u32 v', .int .u32 e'] 28)) := up_al _ (up_al _ bR)
 have A0 := (Box.new w #[.int .u16 m, .int .i64 s, .bool k, .slice A n c, .bool t, .int .u32 v, .int .u32 e] 28).alloc (.cells #[.int .u16 m, .int .i64 s, .bool k, .slice A' n' c', .bool t, .int .u32 v', .int .u32 e'] 28)
 have B0 := Box.new (w.alloc (.cells #[.int .u16 m, .int .i64 s, .bool k, .slice A n c, .bool t, .int .u32 v, .int .u32 e] 28)) #[.int .u16 m, .int .i64 s, .bool k, .slice A' n' c', .bool t, .int .u32 v', .int .u32 e'] 28
 rw [show (w.alloc (.cells #[.int .u16 m, .int .i64 s, .bool k, .slice A n c, .bool t, .int .u32 v, .int .u32 e] 28)).heap.size = w.heap.size + 1 by simp] at B0
 generalize ((w.alloc (.cells #[.int .u16 m, .int .i64 s, .bool k, .slice A n c, .bool t, .int .u32 v, .int .u32 e] 28)).alloc (.cells #[.int .u16 m, .int .i64 s, .bool k, .slice A' n' c', .bool t, .int .u32 v', .int .u32 e'] 28)) = w0 at U0 A0 B0 ⊢
 generalize w.heap.size = n0 at A0 B0 ⊢
 obtain ⟨k0, k1, k2, k3, k4, k5, k6⟩ := Box.e7 A0
 obtain ⟨m0, m1, m2, m3, m4, m5, m6⟩ := Box.e7 B0
 go_wp2
 go_ret
 exact ⟨rfl, U0⟩
theorem same5 (m : Nat) (s : Int) (k t : Bool) (v e : Nat) (A A' : Option Addr) (n c c' : Nat) (b b' : List (Nat × Nat)) (e' : Nat) (n' : Nat) (w : World) (h : ¬ (e : Int) = e') :
  Calls Tryz.prog 35 #[OA m s k A n c t v e, OA m s k A' n' c' t v e'] w fun e_ w' => e_ = .returned (.bool false) ∧ Up w w' := by
 go_enter Tryz.func35, Tryz.ntmps35
 go_upto_region 1 with fail
 have U0 : Up w ((w.alloc (.cells #[.int .u16 m, .int .i64 s, .bool k, .slice A n c, .bool t, .int .u32 v, .int .u32 e] 28)).alloc (.cells #[.int .u16 m, .int .i64 s, .bool k, .slice A' n' c', .bool t, .int .u32 v, .int .u32 e'] 28)) := up_al _ (up_al _ bR)
 have A0 := (Box.new w #[.int .u16 m, .int .i64 s, .bool k, .slice A n c, .bool t, .int .u32 v, .int .u32 e] 28).alloc (.cells #[.int .u16 m, .int .i64 s, .bool k, .slice A' n' c', .bool t, .int .u32 v, .int .u32 e'] 28)
 have B0 := Box.new (w.alloc (.cells #[.int .u16 m, .int .i64 s, .bool k, .slice A n c, .bool t, .int .u32 v, .int .u32 e] 28)) #[.int .u16 m, .int .i64 s, .bool k, .slice A' n' c', .bool t, .int .u32 v, .int .u32 e'] 28
 rw [show (w.alloc (.cells #[.int .u16 m, .int .i64 s, .bool k, .slice A n c, .bool t, .int .u32 v, .int .u32 e] 28)).heap.size = w.heap.size + 1 by simp] at B0
 generalize ((w.alloc (.cells #[.int .u16 m, .int .i64 s, .bool k, .slice A n c, .bool t, .int .u32 v, .int .u32 e] 28)).alloc (.cells #[.int .u16 m, .int .i64 s, .bool k, .slice A' n' c', .bool t, .int .u32 v, .int .u32 e'] 28)) = w0 at U0 A0 B0 ⊢
 generalize w.heap.size = n0 at A0 B0 ⊢
 obtain ⟨k0, k1, k2, k3, k4, k5, k6⟩ := Box.e7 A0
 obtain ⟨m0, m1, m2, m3, m4, m5, m6⟩ := Box.e7 B0
 go_wp2
 go_ret
 exact ⟨rfl, U0⟩
theorem same6 (m : Nat) (s : Int) (k t : Bool) (v e : Nat) (A A' : Option Addr) (n c c' : Nat) (b b' : List (Nat × Nat)) (n' : Nat) (w : World) (h : ¬ (n : Int) = n') :
  Calls Tryz.prog 35 #[OA m s k A n c t v e, OA m s k A' n' c' t v e] w fun e_ w' => e_ = .returned (.bool false) ∧ Up w w' := by
 go_enter Tryz.func35, Tryz.ntmps35
 go_upto_region 1 with fail
 have U0 : Up w ((w.alloc (.cells #[.int .u16 m, .int .i64 s, .bool k, .slice A n c, .bool t, .int .u32 v, .int .u32 e] 28)).alloc (.cells #[.int .u16 m, .int .i64 s, .bool k, .slice A' n' c', .bool t, .int .u32 v, .int .u32 e] 28)) := up_al _ (up_al _ bR)
 have A0 := (Box.new w #[.int .u16 m, .int .i64 s, .bool k, .slice A n c, .bool t, .int .u32 v, .int .u32 e] 28).alloc (.cells #[.int .u16 m, .int .i64 s, .bool k, .slice A' n' c', .bool t, .int .u32 v, .int .u32 e] 28)
 have B0 := Box.new (w.alloc (.cells #[.int .u16 m, .int .i64 s, .bool k, .slice A n c, .bool t, .int .u32 v, .int .u32 e] 28)) #[.int .u16 m, .int .i64 s, .bool k, .slice A' n' c', .bool t, .int .u32 v, .int .u32 e] 28
 rw [show (w.alloc (.cells #[.int .u16 m, .int .i64 s, .bool k, .slice A n c, .bool t, .int .u32 v, .int .u32 e] 28)).heap.size = w.heap.size + 1 by simp] at B0
 generalize ((w.alloc (.cells #[.int .u16 m, .int .i64 s, .bool k, .slice A n c, .bool t, .int .u32 v, .int .u32 e] 28)).alloc (.cells #[.int .u16 m, .int .i64 s, .bool k, .slice A' n' c', .bool t, .int .u32 v, .int .u32 e] 28)) = w0 at U0 A0 B0 ⊢
 generalize w.heap.size = n0 at A0 B0 ⊢
 obtain ⟨k0, k1, k2, k3, k4, k5, k6⟩ := Box.e7 A0
 obtain ⟨m0, m1, m2, m3, m4, m5, m6⟩ := Box.e7 B0
 go_wp2
 go_ret
 exact ⟨rfl, U0⟩
theorem ne_getD {b b' : List (Nat × Nat)} {k : Nat} {x y : Nat × Nat} (h : b[k]? = some x) (h' : b'[k]? = some y) (hn : x ≠ y) : b ≠ b' := fun e => by
 subst e; rw [h] at h'; exact hn (Option.some.inj h')
theorem eq_all {b b' : List (Nat × Nat)} {n : Nat} (h : b.length = n) (h' : b'.length = n) (ha : ∀ j, j < n → b[j]? = b'[j]?) : b = b' := by
 apply List.ext_getElem? 
 intro j
 by_cases hj : j < n
 ·exact ha j hj
 ·rw [List.getElem?_eq_none (by omega), List.getElem?_eq_none (by omega)]
theorem same_bl (m : Nat) (s : Int) (k t : Bool) (v e : Nat) (b b' : List (Nat × Nat)) : same ⟨m, s, k, b, t, v, e⟩ ⟨m, s, k, b', t, v, e⟩ = (b == b') := by simp [same]
theorem same7 (m : Nat) (s : Int) (k t : Bool) (v e : Nat) (A A' : Option Addr) (n c c' : Nat) (b b' : List (Nat × Nat)) (w : World) (hr : RdB w A b) (hr' : RdB w A' b') (hn : b.length = n) (hn' : b'.length = n) (hm : n ≤ maxLen) :
  Calls Tryz.prog 35 #[OA m s k A n c t v e, OA m s k A' n c' t v e] w fun e_ w' => e_ = .returned (.bool (same ⟨m, s, k, b, t, v, e⟩ ⟨m, s, k, b', t, v, e⟩)) ∧ Up w w' := by
 unfold maxLen at hm
 have HS := Lib.hid (same_bl m s k t v e b b')
 have HN := Lib.hid hn; have HN' := Lib.hid hn'
 go_enter Tryz.func35, Tryz.ntmps35
 go_upto_region 1 with fail
 have U0 : Up w ((w.alloc (.cells #[.int .u16 m, .int .i64 s, .bool k, .slice A n c, .bool t, .int .u32 v, .int .u32 e] 28)).alloc (.cells #[.int .u16 m, .int .i64 s, .bool k, .slice A' n c', .bool t, .int .u32 v, .int .u32 e] 28)) := up_al _ (up_al _ bR)
 have A0 := (Box.new w #[.int .u16 m, .int .i64 s, .bool k, .slice A n c, .bool t, .int .u32 v, .int .u32 e] 28).alloc (.cells #[.int .u16 m, .int .i64 s, .bool k, .slice A' n c', .bool t, .int .u32 v, .int .u32 e] 28)
 have B0 := Box.new (w.alloc (.cells #[.int .u16 m, .int .i64 s, .bool k, .slice A n c, .bool t, .int .u32 v, .int .u32 e] 28)) #[.int .u16 m, .int .i64 s, .bool k, .slice A' n c', .bool t, .int .u32 v, .int .u32 e] 28
 rw [show (w.alloc (.cells #[.int .u16 m, .int .i64 s, .bool k, .slice A n c, .bool t, .int .u32 v, .int .u32 e] 28)).heap.size = w.heap.size + 1 by simp] at B0
 generalize ((w.alloc (.cells #[.int .u16 m, .int .i64 s, .bool k, .slice A n c, .bool t, .int .u32 v, .int .u32 e] 28)).alloc (.cells #[.int .u16 m, .int .i64 s, .bool k, .slice A' n c', .bool t, .int .u32 v, .int .u32 e] 28)) = w0 at U0 A0 B0 ⊢
 generalize w.heap.size = n0 at A0 B0 ⊢
 obtain ⟨k0, k1, k2, k3, k4, k5, k6⟩ := Box.e7 A0
 obtain ⟨m0, m1, m2, m3, m4, m5, m6⟩ := Box.e7 B0
 go_wp2_with fail
 go_loopw [5] (fun i wr => ∃ j : Nat, j ≤ n ∧ i = .int .i64 j ∧ Hid (∀ q, q < j → b[q]? = b'[q]?) ∧ Up w0 wr) (fun i _ => n - (intOf i).toNat)
 case atStart => exact ⟨0, Nat.zero_le _, rfl, fun q hq => absurd hq (Nat.not_lt_zero _), Below.refl _ _⟩
 case round =>
  obtain ⟨j, hj, rfl, hall, hb⟩ := hrel
  clear k0 k1 k2 k3 k4 k5 k6 m0 m1 m2 m3 m4 m5 m6
  have A1 := A0.up hb
  have B1 := B0.up hb
  obtain ⟨k0, k1, k2, k3, k4, k5, k6⟩ := Box.e7 A1
  obtain ⟨m0, m1, m2, m3, m4, m5, m6⟩ := Box.e7 B1
  by_cases hlt : j < n
  ·obtain ⟨g, off, hA, hg, x1, x2, c1, c2, hx⟩ := ((hr.up U0).up hb).at_ (k := j) (by rw [HN.out]; exact hlt)
   obtain ⟨g', off', hA', hg', y1, y2, d1, d2, hy⟩ := ((hr'.up U0).up hb).at_ (k := j) (by rw [HN'.out]; exact hlt)
   subst hA; subst hA'
   by_cases h1 : x1 = y1
   ·subst h1
    by_cases h2 : x2 = y2
    ·subst h2
     clear hr hr'
     have hq := Lib.hid (hx.out.trans hy.out.symm)
     go_wp2_with fail
     go_quiet (fail)
     go_wp2
     go_roundw
     case rel =>
      refine ⟨j + 1, by omega, by go_num, fun q hq' => ?_, below_drewN hb _⟩
      by_cases hqj : q < j
      ·exact hall.out q hqj
      ·obtain rfl : q = j := by omega
       exact hq.out
     case measure => simp [intOf]; omega
    ·have hne : ¬ (x2 : Int) = y2 := by omega
     have HE := Lib.hid (show same ⟨m, s, k, b, t, v, e⟩ ⟨m, s, k, b', t, v, e⟩ = false by
      rw [HS.out]; simpa using ne_getD hx.out hy.out (by intro e; cases e; exact h2 rfl))
     clear hr hr' hx hy
     go_wp2_with fail
     go_quiet (fail)
     go_wp2
     go_ret
     exact ⟨ret_bool HE.out.symm, U0.on (below_drewN hb _)⟩
   ·have hne : ¬ (x1 : Int) = y1 := by omega
    have HE := Lib.hid (show same ⟨m, s, k, b, t, v, e⟩ ⟨m, s, k, b', t, v, e⟩ = false by
     rw [HS.out]; simpa using ne_getD hx.out hy.out (by intro e; cases e; exact h1 rfl))
    clear hr hr' hx hy
    go_wp2_with fail
    go_quiet (fail)
    go_wp2
    go_ret
    exact ⟨ret_bool HE.out.symm, U0.on (below_drewN hb _)⟩
  ·obtain rfl : j = n := by omega
   have HE := Lib.hid (eq_all HN.out HN'.out hall.out)
   go_wp2
   go_ret
   exact ⟨ret_bool (by rw [HS.out, HE.out]; simp), U0.on hb⟩
theorem same_f (a b : Opz) (h : a ≠ b) : same a b = false := by
 cases hs : same a b
 ·rfl
 ·exact absurd ((same_iff a b).1 hs) h
theorem refSame (m m' : Nat) (s s' : Int) (k k' t t' : Bool) (v v' e e' : Nat) (A A' : Option Addr) (n n' c c' : Nat) (b b' : List (Nat × Nat)) (w : World) (hr : RdB w A b) (hr' : RdB w A' b') (hn : b.length = n) (hn' : b'.length = n') (hm : n ≤ maxLen) :
  Calls Tryz.prog 35 #[OA m s k A n c t v e, OA m' s' k' A' n' c' t' v' e'] w fun e_ w' => e_ = .returned (.bool (same ⟨m, s, k, b, t, v, e⟩ ⟨m', s', k', b', t', v', e'⟩)) ∧ Up w w' := by
 by_cases hc : m = m'
 case neg =>
  rw [same_f _ _ (by intro h; cases h; exact hc rfl)]
  exact same0 _ _ _ _ _ _ _ _ _ _ _ b b' _ _ _ _ _ _ _ w (by omega)
 subst hc
 by_cases hc : s = s'
 case neg =>
  rw [same_f _ _ (by intro h; cases h; exact hc rfl)]
  exact same1 _ _ _ _ _ _ _ _ _ _ _ b b' _ _ _ _ _ _ w (by omega)
 subst hc
 by_cases hc : k = k'
 case neg =>
  rw [same_f _ _ (by intro h; cases h; exact hc rfl)]
  exact same2 _ _ _ _ _ _ _ _ _ _ _ b b' _ _ _ _ _ w hc
 subst hc
 by_cases hc : t = t'
 case neg =>
  rw [same_f _ _ (by intro h; cases h; exact hc rfl)]
  exact same3 _ _ _ _ _ _ _ _ _ _ _ b b' _ _ _ _ w hc
 subst hc
 by_cases hc : v = v'
 case neg =>
  rw [same_f _ _ (by intro h; cases h; exact hc rfl)]
  exact same4 _ _ _ _ _ _ _ _ _ _ _ b b' _ _ _ w (by omega)
 subst hc
 by_cases hc : e = e'
 case neg =>
  rw [same_f _ _ (by intro h; cases h; exact hc rfl)]
  exact same5 _ _ _ _ _ _ _ _ _ _ _ b b' _ _ w (by omega)
 subst hc
 by_cases hc : n = n'
 case neg =>
  rw [same_f _ _ (by intro h; cases h; exact hc (hn.symm.trans hn'))]
  exact same6 _ _ _ _ _ _ _ _ _ _ _ b b' _ w (by omega)
 subst hc
 exact same7 m s k t v e A A' n c c' b b' w hr hr' hn hn' hm
end Go.Proofs.YtafckmbgefbonaaGreat.op

namespace Go.Proofs.YtafckmbgefbonaaGreat.pk
open RowKit Shelf Lib sm nb pm

abbrev SA (a p b q y z f i m : Nat) (s : Int) (k : Bool) (A : Option Addr) (n c : Nat) (t : Bool) (v e : Nat) (S : ByteArray) : Value := .agg #[.int .u32 a, .int .u16 p, .int .u32 b, .int .u16 q, .int .u32 y, .int .u32 z, .int .u8 f, .int .u16 i, .int .u16 m, .int .i64 s, .bool k, .slice A n c, .bool t, .int .u32 v, .int .u32 e, .string S]
theorem e16 {W : World} {b : Nat} {x0 x1 x2 x3 x4 x5 x6 x7 x8 x9 x10 x11 x12 x13 x14 x15 : Value} (h : Box W b [x0, x1, x2, x3, x4, x5, x6, x7, x8, x9, x10, x11, x12, x13, x14, x15]) : W.cell? ⟨b, 0, none⟩ = some x0 ∧ W.cell? ⟨b, 1, none⟩ = some x1 ∧ W.cell? ⟨b, 2, none⟩ = some x2 ∧ W.cell? ⟨b, 3, none⟩ = some x3 ∧ W.cell? ⟨b, 4, none⟩ = some x4 ∧ W.cell? ⟨b, 5, none⟩ = some x5 ∧ W.cell? ⟨b, 6, none⟩ = some x6 ∧ W.cell? ⟨b, 7, none⟩ = some x7 ∧ W.cell? ⟨b, 8, none⟩ = some x8 ∧ W.cell? ⟨b, 9, none⟩ = some x9 ∧ W.cell? ⟨b, 10, none⟩ = some x10 ∧ W.cell? ⟨b, 11, none⟩ = some x11 ∧ W.cell? ⟨b, 12, none⟩ = some x12 ∧ W.cell? ⟨b, 13, none⟩ = some x13 ∧ W.cell? ⟨b, 14, none⟩ = some x14 ∧ W.cell? ⟨b, 15, none⟩ = some x15 :=
 ⟨h.at 0 rfl, h.at 1 rfl, h.at 2 rfl, h.at 3 rfl, h.at 4 rfl, h.at 5 rfl, h.at 6 rfl, h.at 7 rfl, h.at 8 rfl, h.at 9 rfl, h.at 10 rfl, h.at 11 rfl, h.at 12 rfl, h.at 13 rfl, h.at 14 rfl, h.at 15 rfl⟩
theorem same0 (a p b q y z f i m : Nat) (s : Int) (k : Bool) (A : Option Addr) (n c : Nat) (t : Bool) (v e : Nat) (S : ByteArray) (a' : Nat) (p' : Nat) (b' : Nat) (q' : Nat) (y' : Nat) (z' : Nat) (f' : Nat) (i' : Nat) (m' : Nat) (s' : Int) (k' : Bool) (A' : Option Addr) (n' : Nat) (c' : Nat) (t' : Bool) (v' : Nat) (e' : Nat) (S' : ByteArray) (w : World) (h : ¬ (a : Int) = a') :
  Calls Tryz.prog 13 #[SA a p b q y z f i m s k A n c t v e S, SA a' p' b' q' y' z' f' i' m' s' k' A' n' c' t' v' e' S'] w fun e_ w' => e_ = .returned (.bool false) ∧ Up w w' := by
 go_enter Tryz.func13, Tryz.ntmps13
 go_upto_region 1 with fail
 have U0 : Up w ((w.alloc (.cells #[.int .u32 a, .int .u16 p, .int .u32 b, .int .u16 q, .int .u32 y, .int .u32 z, .int .u8 f, .int .u16 i, .int .u16 m, .int .i64 s, .bool k, .slice A n c, .bool t, .int .u32 v, .int .u32 e, .string S] 30)).alloc (.cells #[.int .u32 a', .int .u16 p', .int .u32 b', .int .u16 q', .int .u32 y', .int .u32 z', .int .u8 f', .int .u16 i', .int .u16 m', .int .i64 s', .bool k', .slice A' n' c', .bool t', .int .u32 v', .int .u32 e', .string S'] 30)) := up_al _ (up_al _ bR)
 have A0 := (Box.new w #[.int .u32 a, .int .u16 p, .int .u32 b, .int .u16 q, .int .u32 y, .int .u32 z, .int .u8 f, .int .u16 i, .int .u16 m, .int .i64 s, .bool k, .slice A n c, .bool t, .int .u32 v, .int .u32 e, .string S] 30).alloc (.cells #[.int .u32 a', .int .u16 p', .int .u32 b', .int .u16 q', .int .u32 y', .int .u32 z', .int .u8 f', .int .u16 i', .int .u16 m', .int .i64 s', .bool k', .slice A' n' c', .bool t', .int .u32 v', .int .u32 e', .string S'] 30)
 have B0 := Box.new (w.alloc (.cells #[.int .u32 a, .int .u16 p, .int .u32 b, .int .u16 q, .int .u32 y, .int .u32 z, .int .u8 f, .int .u16 i, .int .u16 m, .int .i64 s, .bool k, .slice A n c, .bool t, .int .u32 v, .int .u32 e, .string S] 30)) #[.int .u32 a', .int .u16 p', .int .u32 b', .int .u16 q', .int .u32 y', .int .u32 z', .int .u8 f', .int .u16 i', .int .u16 m', .int .i64 s', .bool k', .slice A' n' c', .bool t', .int .u32 v', .int .u32 e', .string S'] 30
 rw [show (w.alloc (.cells #[.int .u32 a, .int .u16 p, .int .u32 b, .int .u16 q, .int .u32 y, .int .u32 z, .int .u8 f, .int .u16 i, .int .u16 m, .int .i64 s, .bool k, .slice A n c, .bool t, .int .u32 v, .int .u32 e, .string S] 30)).heap.size = w.heap.size + 1 by simp] at B0
 generalize ((w.alloc (.cells #[.int .u32 a, .int .u16 p, .int .u32 b, .int .u16 q, .int .u32 y, .int .u32 z, .int .u8 f, .int .u16 i, .int .u16 m, .int .i64 s, .bool k, .slice A n c, .bool t, .int .u32 v, .int .u32 e, .string S] 30)).alloc (.cells #[.int .u32 a', .int .u16 p', .int .u32 b', .int .u16 q', .int .u32 y', .int .u32 z', .int .u8 f', .int .u16 i', .int .u16 m', .int .i64 s', .bool k', .slice A' n' c', .bool t', .int .u32 v', .int .u32 e', .string S'] 30)) = w0 at U0 A0 B0 ⊢
 generalize w.heap.size = n0 at A0 B0 ⊢
 obtain ⟨k0, k1, k2, k3, k4, k5, k6, k7, k8, k9, k10, k11, k12, k13, k14, k15⟩ := e16 A0
 obtain ⟨m0, m1, m2, m3, m4, m5, m6, m7, m8, m9, m10, m11, m12, m13, m14, m15⟩ := e16 B0
 go_wp2
 go_ret
 exact ⟨rfl, U0⟩
theorem same1 (a p b q y z f i m : Nat) (s : Int) (k : Bool) (A : Option Addr) (n c : Nat) (t : Bool) (v e : Nat) (S : ByteArray) (p' : Nat) (b' : Nat) (q' : Nat) (y' : Nat) (z' : Nat) (f' : Nat) (i' : Nat) (m' : Nat) (s' : Int) (k' : Bool) (A' : Option Addr) (n' : Nat) (c' : Nat) (t' : Bool) (v' : Nat) (e' : Nat) (S' : ByteArray) (w : World) (h : ¬ (p : Int) = p') :
  Calls Tryz.prog 13 #[SA a p b q y z f i m s k A n c t v e S, SA a p' b' q' y' z' f' i' m' s' k' A' n' c' t' v' e' S'] w fun e_ w' => e_ = .returned (.bool false) ∧ Up w w' := by
 go_enter Tryz.func13, Tryz.ntmps13
 go_upto_region 1 with fail
 have U0 : Up w ((w.alloc (.cells #[.int .u32 a, .int .u16 p, .int .u32 b, .int .u16 q, .int .u32 y, .int .u32 z, .int .u8 f, .int .u16 i, .int .u16 m, .int .i64 s, .bool k, .slice A n c, .bool t, .int .u32 v, .int .u32 e, .string S] 30)).alloc (.cells #[.int .u32 a, .int .u16 p', .int .u32 b', .int .u16 q', .int .u32 y', .int .u32 z', .int .u8 f', .int .u16 i', .int .u16 m', .int .i64 s', .bool k', .slice A' n' c', .bool t', .int .u32 v', .int .u32 e', .string S'] 30)) := up_al _ (up_al _ bR)
 have A0 := (Box.new w #[.int .u32 a, .int .u16 p, .int .u32 b, .int .u16 q, .int .u32 y, .int .u32 z, .int .u8 f, .int .u16 i, .int .u16 m, .int .i64 s, .bool k, .slice A n c, .bool t, .int .u32 v, .int .u32 e, .string S] 30).alloc (.cells #[.int .u32 a, .int .u16 p', .int .u32 b', .int .u16 q', .int .u32 y', .int .u32 z', .int .u8 f', .int .u16 i', .int .u16 m', .int .i64 s', .bool k', .slice A' n' c', .bool t', .int .u32 v', .int .u32 e', .string S'] 30)
 have B0 := Box.new (w.alloc (.cells #[.int .u32 a, .int .u16 p, .int .u32 b, .int .u16 q, .int .u32 y, .int .u32 z, .int .u8 f, .int .u16 i, .int .u16 m, .int .i64 s, .bool k, .slice A n c, .bool t, .int .u32 v, .int .u32 e, .string S] 30)) #[.int .u32 a, .int .u16 p', .int .u32 b', .int .u16 q', .int .u32 y', .int .u32 z', .int .u8 f', .int .u16 i', .int .u16 m', .int .i64 s', .bool k', .slice A' n' c', .bool t', .int .u32 v', .int .u32 e', .string S'] 30
 rw [show (w.alloc (.cells #[.int .u32 a, .int .u16 p, .int .u32 b, .int .u16 q, .int .u32 y, .int .u32 z, .int .u8 f, .int .u16 i, .int .u16 m, .int .i64 s, .bool k, .slice A n c, .bool t, .int .u32 v, .int .u32 e, .string S] 30)).heap.size = w.heap.size + 1 by simp] at B0
 generalize ((w.alloc (.cells #[.int .u32 a, .int .u16 p, .int .u32 b, .int .u16 q, .int .u32 y, .int .u32 z, .int .u8 f, .int .u16 i, .int .u16 m, .int .i64 s, .bool k, .slice A n c, .bool t, .int .u32 v, .int .u32 e, .string S] 30)).alloc (.cells #[.int .u32 a, .int .u16 p', .int .u32 b', .int .u16 q', .int .u32 y', .int .u32 z', .int .u8 f', .int .u16 i', .int .u16 m', .int .i64 s', .bool k', .slice A' n' c', .bool t', .int .u32 v', .int .u32 e', .string S'] 30)) = w0 at U0 A0 B0 ⊢
 generalize w.heap.size = n0 at A0 B0 ⊢
 obtain ⟨k0, k1, k2, k3, k4, k5, k6, k7, k8, k9, k10, k11, k12, k13, k14, k15⟩ := e16 A0
 obtain ⟨m0, m1, m2, m3, m4, m5, m6, m7, m8, m9, m10, m11, m12, m13, m14, m15⟩ := e16 B0
 go_wp2
 go_ret
 exact ⟨rfl, U0⟩
theorem same2 (a p b q y z f i m : Nat) (s : Int) (k : Bool) (A : Option Addr) (n c : Nat) (t : Bool) (v e : Nat) (S : ByteArray) (b' : Nat) (q' : Nat) (y' : Nat) (z' : Nat) (f' : Nat) (i' : Nat) (m' : Nat) (s' : Int) (k' : Bool) (A' : Option Addr) (n' : Nat) (c' : Nat) (t' : Bool) (v' : Nat) (e' : Nat) (S' : ByteArray) (w : World) (h : ¬ (b : Int) = b') :
  Calls Tryz.prog 13 #[SA a p b q y z f i m s k A n c t v e S, SA a p b' q' y' z' f' i' m' s' k' A' n' c' t' v' e' S'] w fun e_ w' => e_ = .returned (.bool false) ∧ Up w w' := by
 go_enter Tryz.func13, Tryz.ntmps13
 go_upto_region 1 with fail
 have U0 : Up w ((w.alloc (.cells #[.int .u32 a, .int .u16 p, .int .u32 b, .int .u16 q, .int .u32 y, .int .u32 z, .int .u8 f, .int .u16 i, .int .u16 m, .int .i64 s, .bool k, .slice A n c, .bool t, .int .u32 v, .int .u32 e, .string S] 30)).alloc (.cells #[.int .u32 a, .int .u16 p, .int .u32 b', .int .u16 q', .int .u32 y', .int .u32 z', .int .u8 f', .int .u16 i', .int .u16 m', .int .i64 s', .bool k', .slice A' n' c', .bool t', .int .u32 v', .int .u32 e', .string S'] 30)) := up_al _ (up_al _ bR)
 have A0 := (Box.new w #[.int .u32 a, .int .u16 p, .int .u32 b, .int .u16 q, .int .u32 y, .int .u32 z, .int .u8 f, .int .u16 i, .int .u16 m, .int .i64 s, .bool k, .slice A n c, .bool t, .int .u32 v, .int .u32 e, .string S] 30).alloc (.cells #[.int .u32 a, .int .u16 p, .int .u32 b', .int .u16 q', .int .u32 y', .int .u32 z', .int .u8 f', .int .u16 i', .int .u16 m', .int .i64 s', .bool k', .slice A' n' c', .bool t', .int .u32 v', .int .u32 e', .string S'] 30)
 have B0 := Box.new (w.alloc (.cells #[.int .u32 a, .int .u16 p, .int .u32 b, .int .u16 q, .int .u32 y, .int .u32 z, .int .u8 f, .int .u16 i, .int .u16 m, .int .i64 s, .bool k, .slice A n c, .bool t, .int .u32 v, .int .u32 e, .string S] 30)) #[.int .u32 a, .int .u16 p, .int .u32 b', .int .u16 q', .int .u32 y', .int .u32 z', .int .u8 f', .int .u16 i', .int .u16 m', .int .i64 s', .bool k', .slice A' n' c', .bool t', .int .u32 v', .int .u32 e', .string S'] 30
 rw [show (w.alloc (.cells #[.int .u32 a, .int .u16 p, .int .u32 b, .int .u16 q, .int .u32 y, .int .u32 z, .int .u8 f, .int .u16 i, .int .u16 m, .int .i64 s, .bool k, .slice A n c, .bool t, .int .u32 v, .int .u32 e, .string S] 30)).heap.size = w.heap.size + 1 by simp] at B0
 generalize ((w.alloc (.cells #[.int .u32 a, .int .u16 p, .int .u32 b, .int .u16 q, .int .u32 y, .int .u32 z, .int .u8 f, .int .u16 i, .int .u16 m, .int .i64 s, .bool k, .slice A n c, .bool t, .int .u32 v, .int .u32 e, .string S] 30)).alloc (.cells #[.int .u32 a, .int .u16 p, .int .u32 b', .int .u16 q', .int .u32 y', .int .u32 z', .int .u8 f', .int .u16 i', .int .u16 m', .int .i64 s', .bool k', .slice A' n' c', .bool t', .int .u32 v', .int .u32 e', .string S'] 30)) = w0 at U0 A0 B0 ⊢
 generalize w.heap.size = n0 at A0 B0 ⊢
 obtain ⟨k0, k1, k2, k3, k4, k5, k6, k7, k8, k9, k10, k11, k12, k13, k14, k15⟩ := e16 A0
 obtain ⟨m0, m1, m2, m3, m4, m5, m6, m7, m8, m9, m10, m11, m12, m13, m14, m15⟩ := e16 B0
 go_wp2
 go_ret
 exact ⟨rfl, U0⟩
theorem same3 (a p b q y z f i m : Nat) (s : Int) (k : Bool) (A : Option Addr) (n c : Nat) (t : Bool) (v e : Nat) (S : ByteArray) (q' : Nat) (y' : Nat) (z' : Nat) (f' : Nat) (i' : Nat) (m' : Nat) (s' : Int) (k' : Bool) (A' : Option Addr) (n' : Nat) (c' : Nat) (t' : Bool) (v' : Nat) (e' : Nat) (S' : ByteArray) (w : World) (h : ¬ (q : Int) = q') :
  Calls Tryz.prog 13 #[SA a p b q y z f i m s k A n c t v e S, SA a p b q' y' z' f' i' m' s' k' A' n' c' t' v' e' S'] w fun e_ w' => e_ = .returned (.bool false) ∧ Up w w' := by
 go_enter Tryz.func13, Tryz.ntmps13
 go_upto_region 1 with fail
 have U0 : Up w ((w.alloc (.cells #[.int .u32 a, .int .u16 p, .int .u32 b, .int .u16 q, .int .u32 y, .int .u32 z, .int .u8 f, .int .u16 i, .int .u16 m, .int .i64 s, .bool k, .slice A n c, .bool t, .int .u32 v, .int .u32 e, .string S] 30)).alloc (.cells #[.int .u32 a, .int .u16 p, .int .u32 b, .int .u16 q', .int .u32 y', .int .u32 z', .int .u8 f', .int .u16 i', .int .u16 m', .int .i64 s', .bool k', .slice A' n' c', .bool t', .int .u32 v', .int .u32 e', .string S'] 30)) := up_al _ (up_al _ bR)
 have A0 := (Box.new w #[.int .u32 a, .int .u16 p, .int .u32 b, .int .u16 q, .int .u32 y, .int .u32 z, .int .u8 f, .int .u16 i, .int .u16 m, .int .i64 s, .bool k, .slice A n c, .bool t, .int .u32 v, .int .u32 e, .string S] 30).alloc (.cells #[.int .u32 a, .int .u16 p, .int .u32 b, .int .u16 q', .int .u32 y', .int .u32 z', .int .u8 f', .int .u16 i', .int .u16 m', .int .i64 s', .bool k', .slice A' n' c', .bool t', .int .u32 v', .int .u32 e', .string S'] 30)
 have B0 := Box.new (w.alloc (.cells #[.int .u32 a, .int .u16 p, .int .u32 b, .int .u16 q, .int .u32 y, .int .u32 z, .int .u8 f, .int .u16 i, .int .u16 m, .int .i64 s, .bool k, .slice A n c, .bool t, .int .u32 v, .int .u32 e, .string S] 30)) #[.int .u32 a, .int .u16 p, .int .u32 b, .int .u16 q', .int .u32 y', .int .u32 z', .int .u8 f', .int .u16 i', .int .u16 m', .int .i64 s', .bool k', .slice A' n' c', .bool t', .int .u32 v', .int .u32 e', .string S'] 30
 rw [show (w.alloc (.cells #[.int .u32 a, .int .u16 p, .int .u32 b, .int .u16 q, .int .u32 y, .int .u32 z, .int .u8 f, .int .u16 i, .int .u16 m, .int .i64 s, .bool k, .slice A n c, .bool t, .int .u32 v, .int .u32 e, .string S] 30)).heap.size = w.heap.size + 1 by simp] at B0
 generalize ((w.alloc (.cells #[.int .u32 a, .int .u16 p, .int .u32 b, .int .u16 q, .int .u32 y, .int .u32 z, .int .u8 f, .int .u16 i, .int .u16 m, .int .i64 s, .bool k, .slice A n c, .bool t, .int .u32 v, .int .u32 e, .string S] 30)).alloc (.cells #[.int .u32 a, .int .u16 p, .int .u32 b, .int .u16 q', .int .u32 y', .int .u32 z', .int .u8 f', .int .u16 i', .int .u16 m', .int .i64 s', .bool k', .slice A' n' c', .bool t', .int .u32 v', .int .u32 e', .string S'] 30)) = w0 at U0 A0 B0 ⊢
 generalize w.heap.size = n0 at A0 B0 ⊢
 obtain ⟨k0, k1, k2, k3, k4, k5, k6, k7, k8, k9, k10, k11, k12, k13, k14, k15⟩ := e16 A0
 obtain ⟨m0, m1, m2, m3, m4, m5, m6, m7, m8, m9, m10, m11, m12, m13, m14, m15⟩ := e16 B0
 go_wp2
 go_ret
 exact ⟨rfl, U0⟩
theorem same4 (a p b q y z f i m : Nat) (s : Int) (k : Bool) (A : Option Addr) (n c : Nat) (t : Bool) (v e : Nat) (S : ByteArray) (y' : Nat) (z' : Nat) (f' : Nat) (i' : Nat) (m' : Nat) (s' : Int) (k' : Bool) (A' : Option Addr) (n' : Nat) (c' : Nat) (t' : Bool) (v' : Nat) (e' : Nat) (S' : ByteArray) (w : World) (h : ¬ (y : Int) = y') :
  Calls Tryz.prog 13 #[SA a p b q y z f i m s k A n c t v e S, SA a p b q y' z' f' i' m' s' k' A' n' c' t' v' e' S'] w fun e_ w' => e_ = .returned (.bool false) ∧ Up w w' := by
 go_enter Tryz.func13, Tryz.ntmps13
 go_upto_region 1 with fail
 have U0 : Up w ((w.alloc (.cells #[.int .u32 a, .int .u16 p, .int .u32 b, .int .u16 q, .int .u32 y, .int .u32 z, .int .u8 f, .int .u16 i, .int .u16 m, .int .i64 s, .bool k, .slice A n c, .bool t, .int .u32 v, .int .u32 e, .string S] 30)).alloc (.cells #[.int .u32 a, .int .u16 p, .int .u32 b, .int .u16 q, .int .u32 y', .int .u32 z', .int .u8 f', .int .u16 i', .int .u16 m', .int .i64 s', .bool k', .slice A' n' c', .bool t', .int .u32 v', .int .u32 e', .string S'] 30)) := up_al _ (up_al _ bR)
 have A0 := (Box.new w #[.int .u32 a, .int .u16 p, .int .u32 b, .int .u16 q, .int .u32 y, .int .u32 z, .int .u8 f, .int .u16 i, .int .u16 m, .int .i64 s, .bool k, .slice A n c, .bool t, .int .u32 v, .int .u32 e, .string S] 30).alloc (.cells #[.int .u32 a, .int .u16 p, .int .u32 b, .int .u16 q, .int .u32 y', .int .u32 z', .int .u8 f', .int .u16 i', .int .u16 m', .int .i64 s', .bool k', .slice A' n' c', .bool t', .int .u32 v', .int .u32 e', .string S'] 30)
 have B0 := Box.new (w.alloc (.cells #[.int .u32 a, .int .u16 p, .int .u32 b, .int .u16 q, .int .u32 y, .int .u32 z, .int .u8 f, .int .u16 i, .int .u16 m, .int .i64 s, .bool k, .slice A n c, .bool t, .int .u32 v, .int .u32 e, .string S] 30)) #[.int .u32 a, .int .u16 p, .int .u32 b, .int .u16 q, .int .u32 y', .int .u32 z', .int .u8 f', .int .u16 i', .int .u16 m', .int .i64 s', .bool k', .slice A' n' c', .bool t', .int .u32 v', .int .u32 e', .string S'] 30
 rw [show (w.alloc (.cells #[.int .u32 a, .int .u16 p, .int .u32 b, .int .u16 q, .int .u32 y, .int .u32 z, .int .u8 f, .int .u16 i, .int .u16 m, .int .i64 s, .bool k, .slice A n c, .bool t, .int .u32 v, .int .u32 e, .string S] 30)).heap.size = w.heap.size + 1 by simp] at B0
 generalize ((w.alloc (.cells #[.int .u32 a, .int .u16 p, .int .u32 b, .int .u16 q, .int .u32 y, .int .u32 z, .int .u8 f, .int .u16 i, .int .u16 m, .int .i64 s, .bool k, .slice A n c, .bool t, .int .u32 v, .int .u32 e, .string S] 30)).alloc (.cells #[.int .u32 a, .int .u16 p, .int .u32 b, .int .u16 q, .int .u32 y', .int .u32 z', .int .u8 f', .int .u16 i', .int .u16 m', .int .i64 s', .bool k', .slice A' n' c', .bool t', .int .u32 v', .int .u32 e', .string S'] 30)) = w0 at U0 A0 B0 ⊢
 generalize w.heap.size = n0 at A0 B0 ⊢
 obtain ⟨k0, k1, k2, k3, k4, k5, k6, k7, k8, k9, k10, k11, k12, k13, k14, k15⟩ := e16 A0
 obtain ⟨m0, m1, m2, m3, m4, m5, m6, m7, m8, m9, m10, m11, m12, m13, m14, m15⟩ := e16 B0
 go_wp2
 go_ret
 exact ⟨rfl, U0⟩
theorem same5 (a p b q y z f i m : Nat) (s : Int) (k : Bool) (A : Option Addr) (n c : Nat) (t : Bool) (v e : Nat) (S : ByteArray) (z' : Nat) (f' : Nat) (i' : Nat) (m' : Nat) (s' : Int) (k' : Bool) (A' : Option Addr) (n' : Nat) (c' : Nat) (t' : Bool) (v' : Nat) (e' : Nat) (S' : ByteArray) (w : World) (h : ¬ (z : Int) = z') :
  Calls Tryz.prog 13 #[SA a p b q y z f i m s k A n c t v e S, SA a p b q y z' f' i' m' s' k' A' n' c' t' v' e' S'] w fun e_ w' => e_ = .returned (.bool false) ∧ Up w w' := by
 go_enter Tryz.func13, Tryz.ntmps13
 go_upto_region 1 with fail
 have U0 : Up w ((w.alloc (.cells #[.int .u32 a, .int .u16 p, .int .u32 b, .int .u16 q, .int .u32 y, .int .u32 z, .int .u8 f, .int .u16 i, .int .u16 m, .int .i64 s, .bool k, .slice A n c, .bool t, .int .u32 v, .int .u32 e, .string S] 30)).alloc (.cells #[.int .u32 a, .int .u16 p, .int .u32 b, .int .u16 q, .int .u32 y, .int .u32 z', .int .u8 f', .int .u16 i', .int .u16 m', .int .i64 s', .bool k', .slice A' n' c', .bool t', .int .u32 v', .int .u32 e', .string S'] 30)) := up_al _ (up_al _ bR)
 have A0 := (Box.new w #[.int .u32 a, .int .u16 p, .int .u32 b, .int .u16 q, .int .u32 y, .int .u32 z, .int .u8 f, .int .u16 i, .int .u16 m, .int .i64 s, .bool k, .slice A n c, .bool t, .int .u32 v, .int .u32 e, .string S] 30).alloc (.cells #[.int .u32 a, .int .u16 p, .int .u32 b, .int .u16 q, .int .u32 y, .int .u32 z', .int .u8 f', .int .u16 i', .int .u16 m', .int .i64 s', .bool k', .slice A' n' c', .bool t', .int .u32 v', .int .u32 e', .string S'] 30)
 have B0 := Box.new (w.alloc (.cells #[.int .u32 a, .int .u16 p, .int .u32 b, .int .u16 q, .int .u32 y, .int .u32 z, .int .u8 f, .int .u16 i, .int .u16 m, .int .i64 s, .bool k, .slice A n c, .bool t, .int .u32 v, .int .u32 e, .string S] 30)) #[.int .u32 a, .int .u16 p, .int .u32 b, .int .u16 q, .int .u32 y, .int .u32 z', .int .u8 f', .int .u16 i', .int .u16 m', .int .i64 s', .bool k', .slice A' n' c', .bool t', .int .u32 v', .int .u32 e', .string S'] 30
 rw [show (w.alloc (.cells #[.int .u32 a, .int .u16 p, .int .u32 b, .int .u16 q, .int .u32 y, .int .u32 z, .int .u8 f, .int .u16 i, .int .u16 m, .int .i64 s, .bool k, .slice A n c, .bool t, .int .u32 v, .int .u32 e, .string S] 30)).heap.size = w.heap.size + 1 by simp] at B0
 generalize ((w.alloc (.cells #[.int .u32 a, .int .u16 p, .int .u32 b, .int .u16 q, .int .u32 y, .int .u32 z, .int .u8 f, .int .u16 i, .int .u16 m, .int .i64 s, .bool k, .slice A n c, .bool t, .int .u32 v, .int .u32 e, .string S] 30)).alloc (.cells #[.int .u32 a, .int .u16 p, .int .u32 b, .int .u16 q, .int .u32 y, .int .u32 z', .int .u8 f', .int .u16 i', .int .u16 m', .int .i64 s', .bool k', .slice A' n' c', .bool t', .int .u32 v', .int .u32 e', .string S'] 30)) = w0 at U0 A0 B0 ⊢
 generalize w.heap.size = n0 at A0 B0 ⊢
 obtain ⟨k0, k1, k2, k3, k4, k5, k6, k7, k8, k9, k10, k11, k12, k13, k14, k15⟩ := e16 A0
 obtain ⟨m0, m1, m2, m3, m4, m5, m6, m7, m8, m9, m10, m11, m12, m13, m14, m15⟩ := e16 B0
 go_wp2
 go_ret
 exact ⟨rfl, U0⟩
theorem same6 (a p b q y z f i m : Nat) (s : Int) (k : Bool) (A : Option Addr) (n c : Nat) (t : Bool) (v e : Nat) (S : ByteArray) (f' : Nat) (i' : Nat) (m' : Nat) (s' : Int) (k' : Bool) (A' : Option Addr) (n' : Nat) (c' : Nat) (t' : Bool) (v' : Nat) (e' : Nat) (S' : ByteArray) (w : World) (h : ¬ (f : Int) = f') :
  Calls Tryz.prog 13 #[SA a p b q y z f i m s k A n c t v e S, SA a p b q y z f' i' m' s' k' A' n' c' t' v' e' S'] w fun e_ w' => e_ = .returned (.bool false) ∧ Up w w' := by
 go_enter Tryz.func13, Tryz.ntmps13
 go_upto_region 1 with fail
 have U0 : Up w ((w.alloc (.cells #[.int .u32 a, .int .u16 p, .int .u32 b, .int .u16 q, .int .u32 y, .int .u32 z, .int .u8 f, .int .u16 i, .int .u16 m, .int .i64 s, .bool k, .slice A n c, .bool t, .int .u32 v, .int .u32 e, .string S] 30)).alloc (.cells #[.int .u32 a, .int .u16 p, .int .u32 b, .int .u16 q, .int .u32 y, .int .u32 z, .int .u8 f', .int .u16 i', .int .u16 m', .int .i64 s', .bool k', .slice A' n' c', .bool t', .int .u32 v', .int .u32 e', .string S'] 30)) := up_al _ (up_al _ bR)
 have A0 := (Box.new w #[.int .u32 a, .int .u16 p, .int .u32 b, .int .u16 q, .int .u32 y, .int .u32 z, .int .u8 f, .int .u16 i, .int .u16 m, .int .i64 s, .bool k, .slice A n c, .bool t, .int .u32 v, .int .u32 e, .string S] 30).alloc (.cells #[.int .u32 a, .int .u16 p, .int .u32 b, .int .u16 q, .int .u32 y, .int .u32 z, .int .u8 f', .int .u16 i', .int .u16 m', .int .i64 s', .bool k', .slice A' n' c', .bool t', .int .u32 v', .int .u32 e', .string S'] 30)
 have B0 := Box.new (w.alloc (.cells #[.int .u32 a, .int .u16 p, .int .u32 b, .int .u16 q, .int .u32 y, .int .u32 z, .int .u8 f, .int .u16 i, .int .u16 m, .int .i64 s, .bool k, .slice A n c, .bool t, .int .u32 v, .int .u32 e, .string S] 30)) #[.int .u32 a, .int .u16 p, .int .u32 b, .int .u16 q, .int .u32 y, .int .u32 z, .int .u8 f', .int .u16 i', .int .u16 m', .int .i64 s', .bool k', .slice A' n' c', .bool t', .int .u32 v', .int .u32 e', .string S'] 30
 rw [show (w.alloc (.cells #[.int .u32 a, .int .u16 p, .int .u32 b, .int .u16 q, .int .u32 y, .int .u32 z, .int .u8 f, .int .u16 i, .int .u16 m, .int .i64 s, .bool k, .slice A n c, .bool t, .int .u32 v, .int .u32 e, .string S] 30)).heap.size = w.heap.size + 1 by simp] at B0
 generalize ((w.alloc (.cells #[.int .u32 a, .int .u16 p, .int .u32 b, .int .u16 q, .int .u32 y, .int .u32 z, .int .u8 f, .int .u16 i, .int .u16 m, .int .i64 s, .bool k, .slice A n c, .bool t, .int .u32 v, .int .u32 e, .string S] 30)).alloc (.cells #[.int .u32 a, .int .u16 p, .int .u32 b, .int .u16 q, .int .u32 y, .int .u32 z, .int .u8 f', .int .u16 i', .int .u16 m', .int .i64 s', .bool k', .slice A' n' c', .bool t', .int .u32 v', .int .u32 e', .string S'] 30)) = w0 at U0 A0 B0 ⊢
 generalize w.heap.size = n0 at A0 B0 ⊢
 obtain ⟨k0, k1, k2, k3, k4, k5, k6, k7, k8, k9, k10, k11, k12, k13, k14, k15⟩ := e16 A0
 obtain ⟨m0, m1, m2, m3, m4, m5, m6, m7, m8, m9, m10, m11, m12, m13, m14, m15⟩ := e16 B0
 go_wp2
 go_ret
 exact ⟨rfl, U0⟩
theorem same7 (a p b q y z f i m : Nat) (s : Int) (k : Bool) (A : Option Addr) (n c : Nat) (t : Bool) (v e : Nat) (S : ByteArray) (i' : Nat) (m' : Nat) (s' : Int) (k' : Bool) (A' : Option Addr) (n' : Nat) (c' : Nat) (t' : Bool) (v' : Nat) (e' : Nat) (S' : ByteArray) (w : World) (h : ¬ (i : Int) = i') :
  Calls Tryz.prog 13 #[SA a p b q y z f i m s k A n c t v e S, SA a p b q y z f i' m' s' k' A' n' c' t' v' e' S'] w fun e_ w' => e_ = .returned (.bool false) ∧ Up w w' := by
 go_enter Tryz.func13, Tryz.ntmps13
 go_upto_region 1 with fail
 have U0 : Up w ((w.alloc (.cells #[.int .u32 a, .int .u16 p, .int .u32 b, .int .u16 q, .int .u32 y, .int .u32 z, .int .u8 f, .int .u16 i, .int .u16 m, .int .i64 s, .bool k, .slice A n c, .bool t, .int .u32 v, .int .u32 e, .string S] 30)).alloc (.cells #[.int .u32 a, .int .u16 p, .int .u32 b, .int .u16 q, .int .u32 y, .int .u32 z, .int .u8 f, .int .u16 i', .int .u16 m', .int .i64 s', .bool k', .slice A' n' c', .bool t', .int .u32 v', .int .u32 e', .string S'] 30)) := up_al _ (up_al _ bR)
 have A0 := (Box.new w #[.int .u32 a, .int .u16 p, .int .u32 b, .int .u16 q, .int .u32 y, .int .u32 z, .int .u8 f, .int .u16 i, .int .u16 m, .int .i64 s, .bool k, .slice A n c, .bool t, .int .u32 v, .int .u32 e, .string S] 30).alloc (.cells #[.int .u32 a, .int .u16 p, .int .u32 b, .int .u16 q, .int .u32 y, .int .u32 z, .int .u8 f, .int .u16 i', .int .u16 m', .int .i64 s', .bool k', .slice A' n' c', .bool t', .int .u32 v', .int .u32 e', .string S'] 30)
 have B0 := Box.new (w.alloc (.cells #[.int .u32 a, .int .u16 p, .int .u32 b, .int .u16 q, .int .u32 y, .int .u32 z, .int .u8 f, .int .u16 i, .int .u16 m, .int .i64 s, .bool k, .slice A n c, .bool t, .int .u32 v, .int .u32 e, .string S] 30)) #[.int .u32 a, .int .u16 p, .int .u32 b, .int .u16 q, .int .u32 y, .int .u32 z, .int .u8 f, .int .u16 i', .int .u16 m', .int .i64 s', .bool k', .slice A' n' c', .bool t', .int .u32 v', .int .u32 e', .string S'] 30
 rw [show (w.alloc (.cells #[.int .u32 a, .int .u16 p, .int .u32 b, .int .u16 q, .int .u32 y, .int .u32 z, .int .u8 f, .int .u16 i, .int .u16 m, .int .i64 s, .bool k, .slice A n c, .bool t, .int .u32 v, .int .u32 e, .string S] 30)).heap.size = w.heap.size + 1 by simp] at B0
 generalize ((w.alloc (.cells #[.int .u32 a, .int .u16 p, .int .u32 b, .int .u16 q, .int .u32 y, .int .u32 z, .int .u8 f, .int .u16 i, .int .u16 m, .int .i64 s, .bool k, .slice A n c, .bool t, .int .u32 v, .int .u32 e, .string S] 30)).alloc (.cells #[.int .u32 a, .int .u16 p, .int .u32 b, .int .u16 q, .int .u32 y, .int .u32 z, .int .u8 f, .int .u16 i', .int .u16 m', .int .i64 s', .bool k', .slice A' n' c', .bool t', .int .u32 v', .int .u32 e', .string S'] 30)) = w0 at U0 A0 B0 ⊢
 generalize w.heap.size = n0 at A0 B0 ⊢
 obtain ⟨k0, k1, k2, k3, k4, k5, k6, k7, k8, k9, k10, k11, k12, k13, k14, k15⟩ := e16 A0
 obtain ⟨m0, m1, m2, m3, m4, m5, m6, m7, m8, m9, m10, m11, m12, m13, m14, m15⟩ := e16 B0
 go_wp2
 go_ret
 exact ⟨rfl, U0⟩
theorem same8 (a p b q y z f i m : Nat) (s : Int) (k : Bool) (A : Option Addr) (n c : Nat) (t : Bool) (v e : Nat) (S : ByteArray) (m' : Nat) (s' : Int) (k' : Bool) (A' : Option Addr) (n' : Nat) (c' : Nat) (t' : Bool) (v' : Nat) (e' : Nat) (S' : ByteArray) (w : World) (hE : ∀ w', Up w w' → Calls Tryz.prog 35 #[op.OA m s k A n c t v e, op.OA m' s' k' A' n' c' t' v' e'] w' fun e_ w'' => e_ = .returned (.bool false) ∧ Up w' w'') :
  Calls Tryz.prog 13 #[SA a p b q y z f i m s k A n c t v e S, SA a p b q y z f i m' s' k' A' n' c' t' v' e' S'] w fun e_ w' => e_ = .returned (.bool false) ∧ Up w w' := by
 have HE := Lib.hid hE
 clear hE
 go_enter Tryz.func13, Tryz.ntmps13
 go_upto_region 1 with fail
 have U0 : Up w ((w.alloc (.cells #[.int .u32 a, .int .u16 p, .int .u32 b, .int .u16 q, .int .u32 y, .int .u32 z, .int .u8 f, .int .u16 i, .int .u16 m, .int .i64 s, .bool k, .slice A n c, .bool t, .int .u32 v, .int .u32 e, .string S] 30)).alloc (.cells #[.int .u32 a, .int .u16 p, .int .u32 b, .int .u16 q, .int .u32 y, .int .u32 z, .int .u8 f, .int .u16 i, .int .u16 m', .int .i64 s', .bool k', .slice A' n' c', .bool t', .int .u32 v', .int .u32 e', .string S'] 30)) := up_al _ (up_al _ bR)
 have A0 := (Box.new w #[.int .u32 a, .int .u16 p, .int .u32 b, .int .u16 q, .int .u32 y, .int .u32 z, .int .u8 f, .int .u16 i, .int .u16 m, .int .i64 s, .bool k, .slice A n c, .bool t, .int .u32 v, .int .u32 e, .string S] 30).alloc (.cells #[.int .u32 a, .int .u16 p, .int .u32 b, .int .u16 q, .int .u32 y, .int .u32 z, .int .u8 f, .int .u16 i, .int .u16 m', .int .i64 s', .bool k', .slice A' n' c', .bool t', .int .u32 v', .int .u32 e', .string S'] 30)
 have B0 := Box.new (w.alloc (.cells #[.int .u32 a, .int .u16 p, .int .u32 b, .int .u16 q, .int .u32 y, .int .u32 z, .int .u8 f, .int .u16 i, .int .u16 m, .int .i64 s, .bool k, .slice A n c, .bool t, .int .u32 v, .int .u32 e, .string S] 30)) #[.int .u32 a, .int .u16 p, .int .u32 b, .int .u16 q, .int .u32 y, .int .u32 z, .int .u8 f, .int .u16 i, .int .u16 m', .int .i64 s', .bool k', .slice A' n' c', .bool t', .int .u32 v', .int .u32 e', .string S'] 30
 rw [show (w.alloc (.cells #[.int .u32 a, .int .u16 p, .int .u32 b, .int .u16 q, .int .u32 y, .int .u32 z, .int .u8 f, .int .u16 i, .int .u16 m, .int .i64 s, .bool k, .slice A n c, .bool t, .int .u32 v, .int .u32 e, .string S] 30)).heap.size = w.heap.size + 1 by simp] at B0
 generalize ((w.alloc (.cells #[.int .u32 a, .int .u16 p, .int .u32 b, .int .u16 q, .int .u32 y, .int .u32 z, .int .u8 f, .int .u16 i, .int .u16 m, .int .i64 s, .bool k, .slice A n c, .bool t, .int .u32 v, .int .u32 e, .string S] 30)).alloc (.cells #[.int .u32 a, .int .u16 p, .int .u32 b, .int .u16 q, .int .u32 y, .int .u32 z, .int .u8 f, .int .u16 i, .int .u16 m', .int .i64 s', .bool k', .slice A' n' c', .bool t', .int .u32 v', .int .u32 e', .string S'] 30)) = w0 at U0 A0 B0 ⊢
 generalize w.heap.size = n0 at A0 B0 ⊢
 obtain ⟨k0, k1, k2, k3, k4, k5, k6, k7, k8, k9, k10, k11, k12, k13, k14, k15⟩ := e16 A0
 obtain ⟨m0, m1, m2, m3, m4, m5, m6, m7, m8, m9, m10, m11, m12, m13, m14, m15⟩ := e16 B0
 go_wp2_with fail
 refine (HE.out w0 U0).mono ?_
 rintro e_ w1 ⟨rfl, hv⟩
 have A1 := A0.up hv
 have B1 := B0.up hv
 clear k0 m0 k1 m1 k2 m2 k3 m3 k4 m4 k5 m5 k6 m6 k7 m7 k8 m8 k9 m9 k10 m10 k11 m11 k12 m12 k13 m13 k14 m14 k15 m15
 obtain ⟨k0, k1, k2, k3, k4, k5, k6, k7, k8, k9, k10, k11, k12, k13, k14, k15⟩ := e16 A1
 obtain ⟨m0, m1, m2, m3, m4, m5, m6, m7, m8, m9, m10, m11, m12, m13, m14, m15⟩ := e16 B1
 go_wp2
 go_ret
 exact ⟨rfl, U0.on hv⟩
theorem same9 (a p b q y z f i m : Nat) (s : Int) (k : Bool) (A : Option Addr) (n c : Nat) (t : Bool) (v e : Nat) (S : ByteArray) (m' : Nat) (s' : Int) (k' : Bool) (A' : Option Addr) (n' : Nat) (c' : Nat) (t' : Bool) (v' : Nat) (e' : Nat) (S' : ByteArray) (w : World) (hE : ∀ w', Up w w' → Calls Tryz.prog 35 #[op.OA m s k A n c t v e, op.OA m' s' k' A' n' c' t' v' e'] w' fun e_ w'' => e_ = .returned (.bool true) ∧ Up w' w'') (hS : S ≠ S') :
  Calls Tryz.prog 13 #[SA a p b q y z f i m s k A n c t v e S, SA a p b q y z f i m' s' k' A' n' c' t' v' e' S'] w fun e_ w' => e_ = .returned (.bool false) ∧ Up w w' := by
 have HE := Lib.hid hE
 clear hE
 have hs : (S.toList == S'.toList) = false := by rw [beq_eq_false_iff_ne]; intro h; rw [ByteArray.toList_eq, ByteArray.toList_eq] at h; exact hS (ba_eq h)
 go_enter Tryz.func13, Tryz.ntmps13
 go_upto_region 1 with fail
 have U0 : Up w ((w.alloc (.cells #[.int .u32 a, .int .u16 p, .int .u32 b, .int .u16 q, .int .u32 y, .int .u32 z, .int .u8 f, .int .u16 i, .int .u16 m, .int .i64 s, .bool k, .slice A n c, .bool t, .int .u32 v, .int .u32 e, .string S] 30)).alloc (.cells #[.int .u32 a, .int .u16 p, .int .u32 b, .int .u16 q, .int .u32 y, .int .u32 z, .int .u8 f, .int .u16 i, .int .u16 m', .int .i64 s', .bool k', .slice A' n' c', .bool t', .int .u32 v', .int .u32 e', .string S'] 30)) := up_al _ (up_al _ bR)
 have A0 := (Box.new w #[.int .u32 a, .int .u16 p, .int .u32 b, .int .u16 q, .int .u32 y, .int .u32 z, .int .u8 f, .int .u16 i, .int .u16 m, .int .i64 s, .bool k, .slice A n c, .bool t, .int .u32 v, .int .u32 e, .string S] 30).alloc (.cells #[.int .u32 a, .int .u16 p, .int .u32 b, .int .u16 q, .int .u32 y, .int .u32 z, .int .u8 f, .int .u16 i, .int .u16 m', .int .i64 s', .bool k', .slice A' n' c', .bool t', .int .u32 v', .int .u32 e', .string S'] 30)
 have B0 := Box.new (w.alloc (.cells #[.int .u32 a, .int .u16 p, .int .u32 b, .int .u16 q, .int .u32 y, .int .u32 z, .int .u8 f, .int .u16 i, .int .u16 m, .int .i64 s, .bool k, .slice A n c, .bool t, .int .u32 v, .int .u32 e, .string S] 30)) #[.int .u32 a, .int .u16 p, .int .u32 b, .int .u16 q, .int .u32 y, .int .u32 z, .int .u8 f, .int .u16 i, .int .u16 m', .int .i64 s', .bool k', .slice A' n' c', .bool t', .int .u32 v', .int .u32 e', .string S'] 30
 rw [show (w.alloc (.cells #[.int .u32 a, .int .u16 p, .int .u32 b, .int .u16 q, .int .u32 y, .int .u32 z, .int .u8 f, .int .u16 i, .int .u16 m, .int .i64 s, .bool k, .slice A n c, .bool t, .int .u32 v, .int .u32 e, .string S] 30)).heap.size = w.heap.size + 1 by simp] at B0
 generalize ((w.alloc (.cells #[.int .u32 a, .int .u16 p, .int .u32 b, .int .u16 q, .int .u32 y, .int .u32 z, .int .u8 f, .int .u16 i, .int .u16 m, .int .i64 s, .bool k, .slice A n c, .bool t, .int .u32 v, .int .u32 e, .string S] 30)).alloc (.cells #[.int .u32 a, .int .u16 p, .int .u32 b, .int .u16 q, .int .u32 y, .int .u32 z, .int .u8 f, .int .u16 i, .int .u16 m', .int .i64 s', .bool k', .slice A' n' c', .bool t', .int .u32 v', .int .u32 e', .string S'] 30)) = w0 at U0 A0 B0 ⊢
 generalize w.heap.size = n0 at A0 B0 ⊢
 obtain ⟨k0, k1, k2, k3, k4, k5, k6, k7, k8, k9, k10, k11, k12, k13, k14, k15⟩ := e16 A0
 obtain ⟨m0, m1, m2, m3, m4, m5, m6, m7, m8, m9, m10, m11, m12, m13, m14, m15⟩ := e16 B0
 go_wp2_with fail
 refine (HE.out w0 U0).mono ?_
 rintro e_ w1 ⟨rfl, hv⟩
 have A1 := A0.up hv
 have B1 := B0.up hv
 clear k0 m0 k1 m1 k2 m2 k3 m3 k4 m4 k5 m5 k6 m6 k7 m7 k8 m8 k9 m9 k10 m10 k11 m11 k12 m12 k13 m13 k14 m14 k15 m15
 obtain ⟨k0, k1, k2, k3, k4, k5, k6, k7, k8, k9, k10, k11, k12, k13, k14, k15⟩ := e16 A1
 obtain ⟨m0, m1, m2, m3, m4, m5, m6, m7, m8, m9, m10, m11, m12, m13, m14, m15⟩ := e16 B1
 go_wp2
 go_ret
 exact ⟨rfl, U0.on hv⟩
theorem same10 (a p b q y z f i m : Nat) (s : Int) (k : Bool) (A : Option Addr) (n c : Nat) (t : Bool) (v e : Nat) (S : ByteArray) (m' : Nat) (s' : Int) (k' : Bool) (A' : Option Addr) (n' : Nat) (c' : Nat) (t' : Bool) (v' : Nat) (e' : Nat) (w : World) (hE : ∀ w', Up w w' → Calls Tryz.prog 35 #[op.OA m s k A n c t v e, op.OA m' s' k' A' n' c' t' v' e'] w' fun e_ w'' => e_ = .returned (.bool true) ∧ Up w' w'') :
  Calls Tryz.prog 13 #[SA a p b q y z f i m s k A n c t v e S, SA a p b q y z f i m' s' k' A' n' c' t' v' e' S] w fun e_ w' => e_ = .returned (.bool true) ∧ Up w w' := by
 have HE := Lib.hid hE
 clear hE
 go_enter Tryz.func13, Tryz.ntmps13
 go_upto_region 1 with fail
 have U0 : Up w ((w.alloc (.cells #[.int .u32 a, .int .u16 p, .int .u32 b, .int .u16 q, .int .u32 y, .int .u32 z, .int .u8 f, .int .u16 i, .int .u16 m, .int .i64 s, .bool k, .slice A n c, .bool t, .int .u32 v, .int .u32 e, .string S] 30)).alloc (.cells #[.int .u32 a, .int .u16 p, .int .u32 b, .int .u16 q, .int .u32 y, .int .u32 z, .int .u8 f, .int .u16 i, .int .u16 m', .int .i64 s', .bool k', .slice A' n' c', .bool t', .int .u32 v', .int .u32 e', .string S] 30)) := up_al _ (up_al _ bR)
 have A0 := (Box.new w #[.int .u32 a, .int .u16 p, .int .u32 b, .int .u16 q, .int .u32 y, .int .u32 z, .int .u8 f, .int .u16 i, .int .u16 m, .int .i64 s, .bool k, .slice A n c, .bool t, .int .u32 v, .int .u32 e, .string S] 30).alloc (.cells #[.int .u32 a, .int .u16 p, .int .u32 b, .int .u16 q, .int .u32 y, .int .u32 z, .int .u8 f, .int .u16 i, .int .u16 m', .int .i64 s', .bool k', .slice A' n' c', .bool t', .int .u32 v', .int .u32 e', .string S] 30)
 have B0 := Box.new (w.alloc (.cells #[.int .u32 a, .int .u16 p, .int .u32 b, .int .u16 q, .int .u32 y, .int .u32 z, .int .u8 f, .int .u16 i, .int .u16 m, .int .i64 s, .bool k, .slice A n c, .bool t, .int .u32 v, .int .u32 e, .string S] 30)) #[.int .u32 a, .int .u16 p, .int .u32 b, .int .u16 q, .int .u32 y, .int .u32 z, .int .u8 f, .int .u16 i, .int .u16 m', .int .i64 s', .bool k', .slice A' n' c', .bool t', .int .u32 v', .int .u32 e', .string S] 30
 rw [show (w.alloc (.cells #[.int .u32 a, .int .u16 p, .int .u32 b, .int .u16 q, .int .u32 y, .int .u32 z, .int .u8 f, .int .u16 i, .int .u16 m, .int .i64 s, .bool k, .slice A n c, .bool t, .int .u32 v, .int .u32 e, .string S] 30)).heap.size = w.heap.size + 1 by simp] at B0
 generalize ((w.alloc (.cells #[.int .u32 a, .int .u16 p, .int .u32 b, .int .u16 q, .int .u32 y, .int .u32 z, .int .u8 f, .int .u16 i, .int .u16 m, .int .i64 s, .bool k, .slice A n c, .bool t, .int .u32 v, .int .u32 e, .string S] 30)).alloc (.cells #[.int .u32 a, .int .u16 p, .int .u32 b, .int .u16 q, .int .u32 y, .int .u32 z, .int .u8 f, .int .u16 i, .int .u16 m', .int .i64 s', .bool k', .slice A' n' c', .bool t', .int .u32 v', .int .u32 e', .string S] 30)) = w0 at U0 A0 B0 ⊢
 generalize w.heap.size = n0 at A0 B0 ⊢
 obtain ⟨k0, k1, k2, k3, k4, k5, k6, k7, k8, k9, k10, k11, k12, k13, k14, k15⟩ := e16 A0
 obtain ⟨m0, m1, m2, m3, m4, m5, m6, m7, m8, m9, m10, m11, m12, m13, m14, m15⟩ := e16 B0
 go_wp2_with fail
 refine (HE.out w0 U0).mono ?_
 rintro e_ w1 ⟨rfl, hv⟩
 have A1 := A0.up hv
 have B1 := B0.up hv
 clear k0 m0 k1 m1 k2 m2 k3 m3 k4 m4 k5 m5 k6 m6 k7 m7 k8 m8 k9 m9 k10 m10 k11 m11 k12 m12 k13 m13 k14 m14 k15 m15
 obtain ⟨k0, k1, k2, k3, k4, k5, k6, k7, k8, k9, k10, k11, k12, k13, k14, k15⟩ := e16 A1
 obtain ⟨m0, m1, m2, m3, m4, m5, m6, m7, m8, m9, m10, m11, m12, m13, m14, m15⟩ := e16 B1
 go_wp2
 go_ret
 exact ⟨rfl, U0.on hv⟩
end Go.Proofs.YtafckmbgefbonaaGreat.pk

namespace Go.Proofs.YtafckmbgefbonaaGreat.pk
open RowKit Shelf Lib sm nb pm

open Classical in
noncomputable def sameS (g g' : Sg) : Bool := decide (g = g')
open Classical in
theorem sameS_t {g g' : Sg} (h : g = g') : sameS g g' = true := by unfold sameS; exact decide_eq_true h
open Classical in
theorem sameS_f {g g' : Sg} (h : g ≠ g') : sameS g g' = false := by unfold sameS; exact decide_eq_false h
theorem refSame (a p b q y z f i m : Nat) (s : Int) (k : Bool) (A : Option Addr) (n c : Nat) (t : Bool) (v e : Nat) (S : ByteArray) (bl : List (Nat × Nat)) (a' p' b' q' y' z' f' i' m' : Nat) (s' : Int) (k' : Bool) (A' : Option Addr) (n' c' : Nat) (t' : Bool) (v' e' : Nat) (S' : ByteArray) (bl' : List (Nat × Nat)) (w : World)
  (hr : op.RdB w A bl) (hr' : op.RdB w A' bl') (hn : bl.length = n) (hn' : bl'.length = n') (hm : n ≤ maxLen) :
  Calls Tryz.prog 13 #[SA a p b q y z f i m s k A n c t v e S, SA a' p' b' q' y' z' f' i' m' s' k' A' n' c' t' v' e' S'] w fun e_ w' =>
   e_ = .returned (.bool (sameS ⟨a, b, p, q, y, z, f, i, ⟨m, s, k, bl, t, v, e⟩, L S⟩ ⟨a', b', p', q', y', z', f', i', ⟨m', s', k', bl', t', v', e'⟩, L S'⟩)) ∧ Up w w' := by
 by_cases h0 : a = a'
 case neg => rw [sameS_f (by intro h; exact h0 (congrArg Sg.sa h))]; apply same0; omega
 subst h0
 by_cases h1 : p = p'
 case neg => rw [sameS_f (by intro h; exact h1 (congrArg Sg.sp h))]; apply same1; omega
 subst h1
 by_cases h2 : b = b'
 case neg => rw [sameS_f (by intro h; exact h2 (congrArg Sg.da h))]; apply same2; omega
 subst h2
 by_cases h3 : q = q'
 case neg => rw [sameS_f (by intro h; exact h3 (congrArg Sg.dp h))]; apply same3; omega
 subst h3
 by_cases h4 : y = y'
 case neg => rw [sameS_f (by intro h; exact h4 (congrArg Sg.sq h))]; apply same4; omega
 subst h4
 by_cases h5 : z = z'
 case neg => rw [sameS_f (by intro h; exact h5 (congrArg Sg.ak h))]; apply same5; omega
 subst h5
 by_cases h6 : f = f'
 case neg => rw [sameS_f (by intro h; exact h6 (congrArg Sg.fl h))]; apply same6; omega
 subst h6
 by_cases h7 : i = i'
 case neg => rw [sameS_f (by intro h; exact h7 (congrArg Sg.wi h))]; apply same7; omega
 subst h7
 have hE : ∀ w', Up w w' → Calls Tryz.prog 35 #[op.OA m s k A n c t v e, op.OA m' s' k' A' n' c' t' v' e'] w' fun e_ w'' => e_ = .returned (.bool (om.same ⟨m, s, k, bl, t, v, e⟩ ⟨m', s', k', bl', t', v', e'⟩)) ∧ Up w' w'' :=
  fun w' hu => op.refSame m m' s s' k k' t t' v v' e e' A A' n n' c c' bl bl' w' (hr.up hu) (hr'.up hu) hn hn' hm
 by_cases h8 : (⟨m, s, k, bl, t, v, e⟩ : om.Opz) = ⟨m', s', k', bl', t', v', e'⟩
 case neg =>
  rw [sameS_f (by intro h; exact h8 (congrArg Sg.op h))]
  apply same8
  rw [op.same_f _ _ h8] at hE
  exact hE
 rw [(om.same_iff _ _).2 h8] at hE
 by_cases h9 : S = S'
 case neg =>
  rw [sameS_f (by intro h; exact h9 (ba_eq (congrArg Sg.dt h)))]
  apply same9
  ·exact hE
  ·exact h9
 subst h9
 rw [sameS_t (by rw [h8])]
 apply same10
 exact hE
end Go.Proofs.YtafckmbgefbonaaGreat.pk

namespace Go.Proofs.YtafckmbgefbonaaGreat.nb
open RowKit Shelf

section
variable {P : Program}
def relBg (ops : Array Oper) (n : Nat) : Bool :=
  (List.range ops.size).all fun i => match ops[i]? with
    | none => true
    | some o => (match o.guard with | none => true | some (g, _) => waits ops i g && ((ops[g]?).bind (·.dst)).isSome) && (o.after.all fun e => !Region.binds .any e || decide (e.on < i)) &&
      (match o.dst with
       | none => true
       | some s => decide (s < n) && (List.range ops.size).all fun j => decide (j = i) || (match ops[j]? with | some oj => oj.dst != some s | none => true))
theorem relBg_guard {ops : Array Oper} {n : Nat} (h : relBg ops n = true) {i : Nat} {o : Oper} (ho : ops[i]? = some o) {g : Nat} {b : Bool} (hg : o.guard = some (g, b)) :
  waits ops i g = true ∧ ∃ og s, ops[g]? = some og ∧ og.dst = some s := by
 have hi : i < ops.size := (Array.getElem?_eq_some_iff.1 ho).1
 have h1 := List.all_eq_true.1 h i (List.mem_range.2 hi)
 simp only [ho, hg, Bool.and_eq_true] at h1
 obtain ⟨⟨⟨h2, h3⟩, _⟩, _⟩ := h1
 refine ⟨h2, ?_⟩
 cases hog : ops[g]? with
 | none => simp [hog] at h3
 | some og =>
  cases hs : og.dst with
  | none => simp [hog, hs] at h3
  | some s => exact ⟨og, s, rfl, hs⟩
theorem relBg_spec {ops : Array Oper} {n : Nat} (h : relBg ops n = true) {i : Nat} {o : Oper} (ho : ops[i]? = some o) :
  (∀ e ∈ o.after, Region.binds .any e = true → e.on < i) ∧ ∀ s, o.dst = some s → s < n ∧ ∀ j oj, j ≠ i → ops[j]? = some oj → oj.dst ≠ some s := by
 have hi : i < ops.size := (Array.getElem?_eq_some_iff.1 ho).1
 have h1 := List.all_eq_true.1 h i (List.mem_range.2 hi)
 simp only [ho, Bool.and_eq_true] at h1
 obtain ⟨⟨_, h3⟩, h4⟩ := h1
 refine ⟨fun e he hb => ?_, fun s hs => ?_⟩
 ·have h5 := Array.all_eq_true'.1 h3 e he
  simpa [hb] using h5
 ·simp only [hs, Bool.and_eq_true, decide_eq_true_eq] at h4
  refine ⟨h4.1, fun j oj hj hoj he => ?_⟩
  have hjl : j < ops.size := (Array.getElem?_eq_some_iff.1 hoj).1
  have h5 := List.all_eq_true.1 h4.2 j (List.mem_range.2 hjl)
  simp [hj, hoj, he] at h5

theorem wp_region_relg {id : Nat} {l : List Oper} {Q : Exit → Act → World → Prop} {a0 : Act} {w0 : World} (C : World → Prop) (R : World → World → Prop) (Y : Nat → Value → World → Prop)
  (hm : P.follows .mixedOrders = true) (hB : relBg l.toArray a0.tmps.size = true) (hC : C w0.drew)
  (hst : ∀ k v w w', Y k v w → R w w' → Y k v w')
  (hG : ∀ (i : Nat) (o : Oper) (g : Nat) (b : Bool), l.toArray[i]? = some o → o.guard = some (g, b) → ∀ v w, Y g v w → v = .bool b) (hop : obligs P l.toArray a0 C R Y l 0)
  (hend : ∀ a w, C w → (∀ k o s, l.toArray[k]? = some o → o.dst = some s → Y k (a.tmps.getD s undef) w) →
   (∀ s, (∀ (k : Nat) (o : Oper), l.toArray[k]? = some o → o.dst ≠ some s) → a.tmps.getD s undef = a0.tmps.getD s undef) → a.tmps.size = a0.tmps.size → a.defers = a0.defers → Q .normal a w) :
  (Code.region id l.toArray true).wp P Q a0 w0 := by
 refine wp_region_any hm (wpAny_inv (RelI l.toArray a0 C Y) ?_ ?_ _ _ _ _ ?_ (by simp) ?_)
 ·intro listed a w i hI hi
  obtain ⟨h2, o, ho, hall⟩ := mem_ready.1 hi
  obtain ⟨hlt, hdst⟩ := relBg_spec hB ho
  have hi' : i < l.toArray.size := (Array.getElem?_eq_some_iff.1 ho).1
  have hil : i < listed.size := by rw [hI.size]; exact hi'
  have hun : listed.getD i false = false := by simpa [hil] using h2
  unfold wpOp
  simp only [ho]
  have hw : Region.wanted o (yielded l.toArray a.tmps) = true := by
   unfold Region.wanted
   cases hgu : o.guard with
   | none => rfl
   | some p =>
    obtain ⟨g, b⟩ := p
    obtain ⟨hwt, og, s, hog, hs⟩ := relBg_guard hB ho hgu
    have hY := hI.done g og s hog hs (waits_listed hi hwt)
    have hv := hG i o g b ho hgu _ _ hY
    have hsz : s < a.tmps.size := by rw [hI.tsize]; exact ((relBg_spec hB hog).2 s hs).1
    show (yielded l.toArray a.tmps g == some b) = true
    have e1 : a.tmps[s]? = some (.bool b) := by
     rw [Array.getD_eq_getD_getElem?, Array.getElem?_eq_getElem hsz] at hv
     rw [Array.getElem?_eq_getElem hsz]; exact congrArg some hv
    unfold yielded
    rw [hog]
    simp only [Option.bind_some, hs, e1, beq_self_eq_true]
  rw [if_pos hw]
  refine .inl ?_
  have hob0 := obligs_at l 0 hop i o (by simpa using ho)
  rw [Nat.zero_add] at hob0
  have hob := hob0 a w hI.cls ?_ ?_ (fun u w' => Y i u w' ∧ C w' ∧ R w w') (fun u w' h1 h2 h3 => ⟨h1, h2, h3⟩)
  ·refine Oper.wp_mono (fun a' w' h => ?_) (opTo_wp hob)
   obtain ⟨v, rfl, hY, hCw, hR⟩ := h
   refine ⟨by simpa using hI.size, hCw, fun j oj hj hl e he hb => ?_, fun k ok s hk hs hl => ?_, fun s hs => ?_, ?_, ?_⟩
   ·rcases listed_set hl with rfl | hl'
    ·rw [ho] at hj; cases hj
     have := hall e he hb
     by_cases hei : e.on = j
     ·rw [hei]; simp [hil]
     ·simpa [Array.getElem?_setIfInBounds, Ne.symm hei] using this
    ·have := hI.closed j oj hj hl' e he hb
     by_cases hei : e.on = i
     ·rw [hei]; simp [hil]
     ·simpa [Array.getElem?_setIfInBounds, Ne.symm hei] using this
   ·rw [getD_put]
    by_cases hki : k = i
    ·subst hki
     rw [ho] at hk; cases hk
     rw [if_pos ⟨hs, by rw [hI.tsize]; exact (hdst s hs).1⟩]
     exact hY
    ·have hne : o.dst ≠ some s := fun he => (hdst s he).2 k ok hki hk hs
     rw [if_neg (fun hh => hne hh.1)]
     rcases listed_set hl with h | h
     ·exact absurd h hki
     ·exact hst k _ _ _ (hI.done k ok s hk hs h) hR
   ·rw [getD_put]
    have hne : o.dst ≠ some s := fun he => by
     have := hs i o ho he
     simp [hil] at this
    rw [if_neg (fun hh => hne hh.1)]
    refine hI.rest s fun k ok hk hsk => ?_
    have h5 := hs k ok hk hsk
    by_cases hki : k = i
    ·subst hki; exact hun
    ·simpa [Array.getElem?_setIfInBounds, Ne.symm hki] using h5
   ·show (a.put o.dst v).tmps.size = _
    rw [← hI.tsize]; unfold Act.put; cases o.dst <;> simp
   ·show (a.put o.dst v).defers = _
    rw [← hI.defers]; unfold Act.put; cases o.dst <;> rfl
  ·intro d od s hw hd hs
   refine hI.done d od s hd hs ?_
   unfold waits at hw
   simp only [ho] at hw
   obtain ⟨e, he, hb⟩ := Array.any_eq_true'.1 hw
   simp only [Bool.and_eq_true, beq_iff_eq] at hb
   rw [← hb.2]; exact hall e he hb.1
  ·intro s hs
   refine hI.rest s fun k ok hk hsk => ?_
   have hw := hs k ok hk hsk
   unfold waits at hw
   simp only [hk] at hw
   obtain ⟨e, he, hb⟩ := Array.any_eq_true'.1 hw
   simp only [Bool.and_eq_true, beq_iff_eq] at hb
   cases hlk : listed.getD k false with
   | false => rfl
   | true =>
    have := hI.closed k ok hk hlk e he hb.1
    rw [hb.2, hun] at this
    exact absurd this (by decide)
 ·intro listed a w hI hr
  have hl : ∀ k, k < l.toArray.size → listed.getD k false = true := by
   intro k
   induction k using Nat.strongRecOn with
   | _ k ih =>
    intro hk
    cases hlk : listed.getD k false with
    | true => rfl
    | false =>
     exfalso
     have hkl : k < listed.size := by rw [hI.size]; exact hk
     have ho : l.toArray[k]? = some l.toArray[k] := Array.getElem?_eq_getElem hk
     have hmem : k ∈ Region.ready .any l.toArray listed := mem_ready.2 ⟨by simpa [hkl] using hlk, _, ho, fun e he hb => by
      have h1 := (relBg_spec hB ho).1 e he hb
      exact ih e.on h1 (by omega)⟩
     rw [hr] at hmem; cases hmem
  exact hend a w hI.cls (fun k o s hk hs => hI.done k o s hk hs (hl k (Array.getElem?_eq_some_iff.1 hk).1)) (fun s hs => hI.rest s fun k o hk hsk => absurd hsk (hs k o hk)) hI.tsize hI.defers
 ·have : (Array.replicate l.toArray.size false).toList.count false ≤ l.toArray.size := by
   have := List.count_le_length (a := false) (l := (Array.replicate l.toArray.size false).toList)
   simp only [Array.length_toList, Array.size_replicate] at this
   exact this
  exact this
 ·refine ⟨by simp, hC, fun j oj hj hl => ?_, fun k o s hk hs hl => ?_, fun s _ => rfl, rfl, rfl⟩
  ·exact absurd hl (by rw [replicate_false_getD]; decide)
  ·exact absurd hl (by rw [replicate_false_getD]; decide)

theorem wp_region_rel2g {id : Nat} {l : List Oper} {Q : Exit → Act → World → Prop} {a0 : Act} {w0 : World} (C : World → Prop) (R : World → World → Prop) (Y : Nat → Value → World → Prop)
  (hm : P.follows .mixedOrders = true) (hB : relBg l.toArray a0.tmps.size = true) (hC : C w0.drew)
  (hst : ∀ k v w w', Y k v w → R w w' → Y k v w')
  (gs : List Nat) (hgs : (l.all fun o => match o.guard with | none => true | some (g, b) => b && gs.contains g) = true) (hgy : ∀ g, g ∈ gs → ∀ v w, Y g v w → v = .bool true) (hop : obligs P l.toArray a0 C R Y l 0)
  (hend : ∀ vals w, C w → (∀ k o s, l[k]? = some o → o.dst = some s → Y k (vals k) w) → Q .normal (putAll l 0 vals a0) w) :
  (Code.region id l.toArray true).wp P Q a0 w0 := by
 refine wp_region_relg C R Y hm hB hC hst (fun i o g b ho hgu v w hY => by
  have h1 := List.all_eq_true.1 hgs o (by simpa using Array.mem_of_getElem? ho)
  rw [hgu] at h1
  simp only [Bool.and_eq_true] at h1
  rw [h1.1]
  exact hgy g (by simpa using h1.2) v w hY) hop fun a w hCw hY hrest hsz hdf => ?_
 have e : a = putAll l 0 (fun k => a.tmps.getD (dstOf l k) undef) a0 := by
  refine act_ext (by rw [putAll_size]; exact hsz) (fun s => ?_) (by rw [putAll_defers]; exact hdf)
  by_cases h : ∃ (i : Nat) (o : Oper), l[i]? = some o ∧ o.dst = some s
  ·obtain ⟨i, o, hi, hs⟩ := h
   have hsp := (relBg_spec hB (i := i) (o := o) (by simpa using hi)).2 s hs
   rw [putAll_at l 0 _ a0 i o s (fun j oj hj hjo => hsp.2 j oj hj (by simpa using hjo)) hi hs hsp.1, Nat.zero_add]
   show _ = a.tmps.getD (dstOf l i) undef
   unfold dstOf
   rw [hi]
   simp [hs]
  ·rw [putAll_not l 0 _ a0 s (fun o ho he => by
    obtain ⟨j, hj, hjo⟩ := List.mem_iff_getElem.1 ho
    exact h ⟨j, o, by simp [hj, hjo], he⟩)]
   exact hrest s fun k o hk he => h ⟨k, o, by simpa using hk, he⟩
 rw [e]
 refine hend _ w hCw fun k o s hk hs => ?_
 show Y k (a.tmps.getD (dstOf l k) undef) w
 have : dstOf l k = s := by unfold dstOf; rw [hk]; simp [hs]
 rw [this]
 exact hY k o s (by simpa using hk) hs

end
end Go.Proofs.YtafckmbgefbonaaGreat.nb
