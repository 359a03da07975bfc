/- The four laws of package seq, walked: each returns true, for every input. Condition: the arguments fit their kinds. -/
import Derived.Test.YtkiiipnmfbeacaaSeqB
namespace Go.Proofs.Ytkiiipnmfbeacaa.sq
open Go.RowKit
set_option linter.unusedVariables false

theorem alive (w : World) : Calls Try.prog 15 #[] w fun e w' => e = .returned (.bool true) ∧ w = w' := by
  have l1 : lessB 4294967295 0 = true := by decide
  have l2 : lessB 0 2147483648 = false := by decide
  have l3 : lessB 2147483648 0 = false := by decide
  have s1 : subI 1 3 = -2 := by decide
  have s2 : subI 2147483648 0 = -2147483648 := by decide
  have i1 : inB 2 4294967295 4 = true := by decide
  have i2 : inB 3 4294967295 4 = false := by decide
  have m1 : maxI 4294967295 0 = 0 := by decide
  have f1 : liftI 4294967290 5 = 4294967301 := by decide
  have f2 : liftI 3 4294967295 = 4294967295 := by decide
  go_enter Try.func15, Try.ntmps15
  go_wp2_with (first
    | (go_at_call 7; refine (goLess _ _ _ (by omega) (by omega)).mono ?_; rintro e w' ⟨rfl, rfl⟩)
    | (go_at_call 9; refine (goSub _ _ _ (by omega) (by omega)).mono ?_; rintro e w' ⟨rfl, rfl⟩)
    | (go_at_call 11; refine (goIn _ _ _ _ (by omega) (by omega) (by omega)).mono ?_; rintro e w' ⟨rfl, rfl⟩)
    | (go_at_call 13; refine (goMax _ _ _ (by omega) (by omega)).mono ?_; rintro e w' ⟨rfl, rfl⟩)
    | (go_at_call 16; refine (goLift _ _ _ (by omega) (by omega)).mono ?_; rintro e w' ⟨rfl, rfl⟩))
  go_ret
  exact ⟨rfl, rfl⟩

theorem lawTells (a b n : Int) (w : World) (ha : 0 ≤ a ∧ a ≤ 4294967295) (hb : 0 ≤ b ∧ b ≤ 4294967295) (hn : 0 ≤ n ∧ n ≤ 4294967295) :
    Calls Try.prog 3 #[.int .u32 a, .int .u32 b, .int .u32 n] w fun e w' => e = .returned (.bool true) ∧ w = w' := by
  go_enter Try.func3, Try.ntmps3
  go_wp2_with (first
    | (go_at_call 7; refine (goLess _ _ _ (by omega) (by omega)).mono ?_; rintro e w' ⟨rfl, rfl⟩)
    | (go_at_call 9; refine (goSub _ _ _ (by omega) (by omega)).mono ?_; rintro e w' ⟨rfl, rfl⟩)
    | (go_at_call 11; refine (goIn _ _ _ _ (by omega) (by omega) (by omega)).mono ?_; rintro e w' ⟨rfl, rfl⟩)
    | (go_at_call 13; refine (goMax _ _ _ (by omega) (by omega)).mono ?_; rintro e w' ⟨rfl, rfl⟩)
    | (go_at_call 8; refine (refLess _ _ _ (by omega) (by omega)).mono ?_; rintro e w' ⟨rfl, rfl⟩)
    | (go_at_call 10; refine (refSub _ _ _ (by omega) (by omega)).mono ?_; rintro e w' ⟨rfl, rfl⟩)
    | (go_at_call 12; refine (refIn _ _ _ _ (by omega) (by omega) (by omega)).mono ?_; rintro e w' ⟨rfl, rfl⟩)
    | (go_at_call 14; refine (refMax _ _ _ (by omega) (by omega)).mono ?_; rintro e w' ⟨rfl, rfl⟩)
    | (go_at_call 15; refine (alive _).mono ?_; rintro e w' ⟨rfl, rfl⟩))
  go_ret
  exact ⟨rfl, rfl⟩

theorem liftI_bd (a b : Int) (ha : 0 ≤ a ∧ a ≤ 18446744073709551615) : 0 ≤ liftI a b ∧ liftI a b ≤ 18446744073709551615 := by
  have hw := way_bd (a % 4294967296) b
  unfold liftI
  generalize way (a % 4294967296) b = v at *
  (repeat' split) <;> omega
theorem liftI_mod (a b : Int) (hb : 0 ≤ b ∧ b ≤ 4294967295) : liftI a b % 4294967296 = b := by
  have hv : way (a % 4294967296) b = (b - a % 4294967296) % 4294967296 := rfl
  unfold liftI
  generalize way (a % 4294967296) b = v at *
  (repeat' split) <;> omega

theorem lawLifts (a b : Int) (w : World) (ha : 0 ≤ a ∧ a ≤ 18446744073709551615) (hb : 0 ≤ b ∧ b ≤ 4294967295) :
    Calls Try.prog 4 #[.int .u64 a, .int .u32 b] w fun e w' => e = .returned (.bool true) ∧ w = w' := by
  have hl := liftI_bd a b ha
  have hm : (liftI a b % 4294967296 == b) = true := by rw [liftI_mod a b hb]; simp
  go_enter Try.func4, Try.ntmps4
  go_wp2_with (first
    | (go_at_call 16; refine (goLift _ _ _ (by omega) (by omega)).mono ?_; rintro e w' ⟨rfl, rfl⟩)
    | (go_at_call 17; refine (refLift _ _ _ (by omega) (by omega)).mono ?_; rintro e w' ⟨rfl, rfl⟩)
    | (go_at_call 15; refine (alive _).mono ?_; rintro e w' ⟨rfl, rfl⟩))
  go_ret
  exact ⟨rfl, rfl⟩
end Go.Proofs.Ytkiiipnmfbeacaa.sq
