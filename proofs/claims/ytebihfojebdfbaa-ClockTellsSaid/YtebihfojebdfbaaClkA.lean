/- Times: which numbers may be, and sums: package clock's, and the document's answer. Condition: the numbers fit. -/
import Derived.Test.YtebihfojebdfbaaNetBase
namespace Go.Proofs.Ytebihfojebdfbaa.ck
open Go.RowKit Go.Shelf Go.Lib Go.Proofs.Ytebihfojebdfbaa.nb
set_option linter.unusedVariables false

/-- a number of 64 bits -/
def I64 (x : Int) : Prop := -9223372036854775808 ≤ x ∧ x ≤ 9223372036854775807
/-- a time -/
def mayB (t : Int) : Bool := decide (0 ≤ t ∧ t ≤ 17592186044416)
theorem mayB_t {t : Int} (h : 0 ≤ t ∧ t ≤ 17592186044416) : mayB t = true := by unfold mayB; exact decide_eq_true h
theorem mayB_f {t : Int} (h : ¬ (0 ≤ t ∧ t ≤ 17592186044416)) : mayB t = false := by unfold mayB; exact decide_eq_false h
theorem mayB_iff {t : Int} : mayB t = true ↔ 0 ≤ t ∧ t ≤ 17592186044416 := by unfold mayB; exact decide_eq_true_iff
/-- the sum, and what is wrong -/
def addV (t b : Int) : Int × Int := if mayB t = true ∧ 0 ≤ b then (if b ≤ 17592186044416 - t then (t + b, 0) else (0, 9)) else (0, 2)

theorem refMay (t : Int) (w : World) : Calls Try.prog 10 #[.int .i64 t] w fun e w' => e = .returned (.bool (mayB t)) ∧ w = w' := by
  by_cases c0 : 0 ≤ t
  · by_cases c1 : t ≤ 17592186044416
    · have E := Lib.hid (mayB_t ⟨c0, c1⟩)
      go_enter Try.func10, Try.ntmps10
      go_wp2
      go_ret
      exact ⟨ret_bool E.out.symm, rfl⟩
    · have E := Lib.hid (mayB_f (t := t) (by omega))
      go_enter Try.func10, Try.ntmps10
      go_wp2
      go_ret
      exact ⟨ret_bool E.out.symm, rfl⟩
  · have E := Lib.hid (mayB_f (t := t) (by omega))
    go_enter Try.func10, Try.ntmps10
    go_wp2
    go_ret
    exact ⟨ret_bool E.out.symm, rfl⟩
theorem refAdd (t b : Int) (w : World) (ht : I64 t) (hb : I64 b) : Calls Try.prog 8 #[.int .i64 t, .int .i64 b] w fun e w' => e = .returned (.tuple #[.int .i64 (addV t b).1, .int .i64 (addV t b).2]) ∧ w = w' := by
  obtain ⟨b1, b2⟩ := hb
  cases c0 : mayB t
  · have E := Lib.hid (show addV t b = (0, 2) by unfold addV; rw [c0]; rfl)
    have c0' := Lib.hid c0
    rw [E.out]
    have hm := refMay t w
    rw [c0] at hm
    clear c0
    go_enter Try.func8, Try.ntmps8
    go_wp2_with (go_at_call 10; refine hm.mono ?_; rintro e w' ⟨rfl, rfl⟩)
    go_ret2
    exact ⟨rfl, rfl⟩
  · have hm := refMay t w
    rw [c0] at hm
    obtain ⟨t1, t2⟩ := mayB_iff.1 c0
    by_cases c1 : 0 ≤ b
    · by_cases c2 : b ≤ 17592186044416 - t
      · have E := Lib.hid (show addV t b = (t + b, 0) by unfold addV; rw [if_pos ⟨c0, c1⟩, if_pos c2])
        rw [E.out]
        clear c0 E
        go_enter Try.func8, Try.ntmps8
        go_wp2_with (go_at_call 10; refine hm.mono ?_; rintro e w' ⟨rfl, rfl⟩)
        go_ret2
        exact ⟨rfl, rfl⟩
      · have E := Lib.hid (show addV t b = (0, 9) by unfold addV; rw [if_pos ⟨c0, c1⟩, if_neg c2])
        rw [E.out]
        clear c0 E
        go_enter Try.func8, Try.ntmps8
        go_wp2_with (go_at_call 10; refine hm.mono ?_; rintro e w' ⟨rfl, rfl⟩)
        go_ret2
        exact ⟨rfl, rfl⟩
    · have E := Lib.hid (show addV t b = (0, 2) by unfold addV; rw [if_neg (fun h => c1 h.2)])
      rw [E.out]
      clear c0 E
      go_enter Try.func8, Try.ntmps8
      go_wp2_with (go_at_call 10; refine hm.mono ?_; rintro e w' ⟨rfl, rfl⟩)
      go_ret2
      exact ⟨rfl, rfl⟩

theorem goMay (t : Int) (w : World) : Calls Try.prog 9 #[.int .i64 t] w fun e w' => e = .returned (.bool (mayB t)) ∧ w = w' := by
  by_cases c0 : 0 ≤ t
  · by_cases c1 : t ≤ 17592186044416
    · have E := Lib.hid (mayB_t ⟨c0, c1⟩)
      go_enter Try.func9, Try.ntmps9
      go_wp2
      go_ret
      exact ⟨ret_bool E.out.symm, rfl⟩
    · have E := Lib.hid (mayB_f (t := t) (by omega))
      go_enter Try.func9, Try.ntmps9
      go_wp2
      go_ret
      exact ⟨ret_bool E.out.symm, rfl⟩
  · have E := Lib.hid (mayB_f (t := t) (by omega))
    go_enter Try.func9, Try.ntmps9
    go_wp2
    go_ret
    exact ⟨ret_bool E.out.symm, rfl⟩
theorem goAdd (t b : Int) (w : World) (ht : I64 t) (hb : I64 b) : Calls Try.prog 7 #[.int .i64 t, .int .i64 b] w fun e w' => e = .returned (.tuple #[.int .i64 (addV t b).1, .int .i64 (addV t b).2]) ∧ w = w' := by
  obtain ⟨b1, b2⟩ := hb
  cases c0 : mayB t
  · have E := Lib.hid (show addV t b = (0, 2) by unfold addV; rw [c0]; rfl)
    have c0' := Lib.hid c0
    rw [E.out]
    have hm := goMay t w
    rw [c0] at hm
    clear c0
    go_enter Try.func7, Try.ntmps7
    go_wp2_with (go_at_call 9; refine hm.mono ?_; rintro e w' ⟨rfl, rfl⟩)
    go_ret2
    exact ⟨rfl, rfl⟩
  · have hm := goMay t w
    rw [c0] at hm
    obtain ⟨t1, t2⟩ := mayB_iff.1 c0
    by_cases c1 : 0 ≤ b
    · by_cases c2 : b ≤ 17592186044416 - t
      · have E := Lib.hid (show addV t b = (t + b, 0) by unfold addV; rw [if_pos ⟨c0, c1⟩, if_pos c2])
        rw [E.out]
        clear c0 E
        go_enter Try.func7, Try.ntmps7
        go_wp2_with (go_at_call 9; refine hm.mono ?_; rintro e w' ⟨rfl, rfl⟩)
        go_ret2
        exact ⟨rfl, rfl⟩
      · have E := Lib.hid (show addV t b = (0, 9) by unfold addV; rw [if_pos ⟨c0, c1⟩, if_neg c2])
        rw [E.out]
        clear c0 E
        go_enter Try.func7, Try.ntmps7
        go_wp2_with (go_at_call 9; refine hm.mono ?_; rintro e w' ⟨rfl, rfl⟩)
        go_ret2
        exact ⟨rfl, rfl⟩
    · have E := Lib.hid (show addV t b = (0, 2) by unfold addV; rw [if_neg (fun h => c1 h.2)])
      rw [E.out]
      clear c0 E
      go_enter Try.func7, Try.ntmps7
      go_wp2_with (go_at_call 9; refine hm.mono ?_; rintro e w' ⟨rfl, rfl⟩)
      go_ret2
      exact ⟨rfl, rfl⟩

end Go.Proofs.Ytebihfojebdfbaa.ck
