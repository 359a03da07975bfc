/- Package seq's Lift and the document's answer for it: both are the nearest place, for every input. Condition: the arguments fit their kinds. -/
import Derived.Test.YtkiiipnmfbeacaaSeqA
namespace Go.Proofs.Ytkiiipnmfbeacaa.sq
open Go.RowKit
set_option linter.unusedVariables false

theorem u64w (n : Int) : IntKind.u64.wrap n = n % 18446744073709551616 := by
  simp [IntKind.wrap, IntKind.bits, IntKind.signed]

theorem goLift (a b : Int) (w : World) (ha : 0 ≤ a ∧ a ≤ 18446744073709551615) (hb : 0 ≤ b ∧ b ≤ 4294967295) :
    Calls Try.prog 16 #[.int .u64 a, .int .u32 b] w fun e w' => e = .returned (.int .u64 (liftI a b)) ∧ w = w' := by
  have hw := way_bd (a % 4294967296) b
  have E1 : Hid (∀ v, v = way (a % 4294967296) b → liftI a b = if 18446744073709551616 ≤ a + v then a + v - 4294967296
    else if a + v < 4294967296 then a + v
    else if 4294967296 - v < v then a + v - 4294967296 else a + v) := fun v hv => by subst hv; rfl
  have U := Lib.hid @u64w
  go_enter Try.func16, Try.ntmps16
  go_wp2_with (first | (go_at_call 20; refine (way32 _ _ _ (by omega) hb).mono ?_; rintro e w' ⟨rfl, rfl⟩) | (go_at_call 21; refine (nearer _ _ _ _ ?c1 ?c2 ?c3 ?c4).mono ?_; rotate_left 4; rintro e w' ⟨rfl, rfl⟩))
  all_goals have hv := E1.out _ rfl
  all_goals generalize way (a % 4294967296) b = v at *
  all_goals try simp only [U.out] at *
  all_goals try omega
  all_goals go_ret
  all_goals refine ⟨ret_int ?_, rfl⟩
  all_goals rw [hv]
  all_goals (repeat' split) <;> omega

theorem refAway (a b : Int) (w : World) (ha : 0 ≤ a ∧ a ≤ 18446744073709551615) (hb : 0 ≤ b ∧ b ≤ 18446744073709551615) :
    Calls Try.prog 22 #[.int .u64 a, .int .u64 b] w fun e w' => e = .returned (.int .u64 (awayI a b)) ∧ w = w' := by
  by_cases h : b < a
  all_goals
    have E1 := Lib.hid (show awayI a b = if b < a then a - b else b - a from rfl)
    go_enter Try.func22, Try.ntmps22
    go_wp2
    go_ret
    exact ⟨ret_int (by rw [E1.out]; split <;> omega), rfl⟩

theorem refLift (a b : Int) (w : World) (ha : 0 ≤ a ∧ a ≤ 18446744073709551615) (hb : 0 ≤ b ∧ b ≤ 4294967295) :
    Calls Try.prog 17 #[.int .u64 a, .int .u32 b] w fun e w' => e = .returned (.int .u64 (liftI a b)) ∧ w = w' := by
  have hw := way_bd (a % 4294967296) b
  have E1 : Hid (∀ v, v = way (a % 4294967296) b → liftI a b = if 18446744073709551616 ≤ a + v then a + v - 4294967296
    else if a + v < 4294967296 then a + v
    else if 4294967296 - v < v then a + v - 4294967296 else a + v) := fun v hv => by subst hv; rfl
  have E2 : Hid (∀ x y : Int, awayI x y = if y < x then x - y else y - x) := fun _ _ => rfl
  have E3 : Hid (way (a % 4294967296) b = (b - a % 4294967296) % 4294967296) := rfl
  have U := Lib.hid @u64w
  go_enter Try.func17, Try.ntmps17
  go_wp2_with (first | (go_at_call 22; refine (refAway _ _ _ (by first | omega | (rw [U.out]; omega)) (by first | omega | (rw [U.out]; omega))).mono ?_; rintro e w' ⟨rfl, rfl⟩))
  all_goals have hv := E1.out _ rfl
  all_goals have hv2 := E3.out
  all_goals generalize way (a % 4294967296) b = v at *
  all_goals try simp only [U.out, E2.out] at *
  all_goals go_ret
  all_goals refine ⟨ret_int ?_, rfl⟩
  all_goals rw [hv]
  all_goals clear hv
  all_goals (repeat' split at *) <;> omega
end Go.Proofs.Ytkiiipnmfbeacaa.sq
