/- Package seq's third and fourth law, walked: each returns true, for every input. Condition: the arguments fit their kinds. -/
import Derived.Test.YtkiiipnmfbeacaaSeqC
namespace Go.Proofs.Ytkiiipnmfbeacaa.sq
open Go.RowKit
set_option linter.unusedVariables false

theorem way_move (a b c : Int) : way ((a + c) % 4294967296) ((b + c) % 4294967296) = way a b := by unfold way; omega
theorem less_move (a b c : Int) : lessB ((a + c) % 4294967296) ((b + c) % 4294967296) = lessB a b := by unfold lessB; rw [way_move]
theorem sub_move (a b c : Int) : subI ((a + c) % 4294967296) ((b + c) % 4294967296) = subI a b := by unfold subI; rw [way_move]
theorem in_move (a b c n : Int) : inB ((a + c) % 4294967296) ((b + c) % 4294967296) n = inB a b n := by unfold inB; rw [way_move]
theorem max_move (a b c : Int) : maxI ((a + c) % 4294967296) ((b + c) % 4294967296) = (maxI a b + c) % 4294967296 := by
  unfold maxI; rw [less_move]; split <;> rfl
theorem max_bd (a b : Int) (ha : 0 ≤ a ∧ a ≤ 4294967295) (hb : 0 ≤ b ∧ b ≤ 4294967295) : 0 ≤ maxI a b ∧ maxI a b ≤ 4294967295 := by
  unfold maxI; split <;> omega
theorem sub_back (a b : Int) (ha : 0 ≤ a ∧ a ≤ 4294967295) : (b + subI a b % 4294967296) % 4294967296 = a := by
  unfold subI way; split <;> omega
theorem sub_bd (a b : Int) : -2147483648 ≤ subI a b ∧ subI a b ≤ 2147483647 := by
  unfold subI way; split <;> omega

theorem lawMoves (a b c n : Int) (w : World) (ha : 0 ≤ a ∧ a ≤ 4294967295) (hb : 0 ≤ b ∧ b ≤ 4294967295) (hc : 0 ≤ c ∧ c ≤ 4294967295) (hn : 0 ≤ n ∧ n ≤ 4294967295) :
    Calls Try.prog 5 #[.int .u32 a, .int .u32 b, .int .u32 c, .int .u32 n] w fun e w' => e = .returned (.bool true) ∧ w = w' := by
  have f1 := less_move a b c
  have f2 := sub_move a b c
  have f3 := in_move a b c n
  have f4 := max_move a b c
  have f5 := sub_back a b ha
  have b1 := max_bd a b ha hb
  have b2 := sub_bd a b
  by_cases c1 : a = b
  · subst c1
    have g1 : lessB a a = false := by unfold lessB way; simp
    have g2 : (subI a a) = 0 := by unfold subI way; simp
    have g5 : (a - a == 2147483648) = false := by simp
    go_enter Try.func5, Try.ntmps5
    go_wp2_with (first
      | (go_at_call 7; refine (goLess _ _ _ (by omega) (by omega)).mono ?_; rintro e w' ⟨rfl, rfl⟩)
      | (go_at_call 9; refine (goSub _ _ _ (by omega) (by omega)).mono ?_; rintro e w' ⟨rfl, rfl⟩)
      | (go_at_call 11; refine (goIn _ _ _ _ (by omega) (by omega) (by omega)).mono ?_; rintro e w' ⟨rfl, rfl⟩)
      | (go_at_call 13; refine (goMax _ _ _ (by omega) (by omega)).mono ?_; rintro e w' ⟨rfl, rfl⟩)
      | (go_at_call 15; refine (alive _).mono ?_; rintro e w' ⟨rfl, rfl⟩))
    go_ret
    exact ⟨rfl, rfl⟩
  · have g3 : (a == b) = false := by simpa using c1
    have g4 : (a != b) = true := by simpa using c1
    by_cases c2 : (a - b) % 4294967296 = 2147483648
    · have g1 : lessB a b = false := by unfold lessB way; simp; omega
      have g2 : decide (subI a b < 0) = true := by unfold subI way; simp; split <;> omega
      have g5 : ((a - b) % 4294967296 != 2147483648) = false := by simpa using c2
      have g6 : ((a - b) % 4294967296 == 2147483648) = true := by simpa using c2
      clear c1 c2
      go_enter Try.func5, Try.ntmps5
      go_wp2_with (first
        | (go_at_call 7; refine (goLess _ _ _ (by omega) (by omega)).mono ?_; rintro e w' ⟨rfl, rfl⟩)
        | (go_at_call 9; refine (goSub _ _ _ (by omega) (by omega)).mono ?_; rintro e w' ⟨rfl, rfl⟩)
        | (go_at_call 11; refine (goIn _ _ _ _ (by omega) (by omega) (by omega)).mono ?_; rintro e w' ⟨rfl, rfl⟩)
        | (go_at_call 13; refine (goMax _ _ _ (by omega) (by omega)).mono ?_; rintro e w' ⟨rfl, rfl⟩)
        | (go_at_call 15; refine (alive _).mono ?_; rintro e w' ⟨rfl, rfl⟩))
      go_ret
      exact ⟨rfl, rfl⟩
    · have g5 : ((a - b) % 4294967296 != 2147483648) = true := by simpa using c2
      have g6 : ((a - b) % 4294967296 == 2147483648) = false := by simpa using c2
      have g7 : lessB b a = !lessB a b := by unfold lessB way; rw [Bool.eq_iff_iff]; simp; omega
      have g8 : decide (subI a b < 0) = lessB a b := by unfold subI lessB way; rw [Bool.eq_iff_iff]; simp; split <;> omega
      clear c1 c2
      cases g1 : lessB a b
      all_goals
        rw [g1] at g7 g8
        go_enter Try.func5, Try.ntmps5
        go_wp2_with (first
          | (go_at_call 7; refine (goLess _ _ _ (by omega) (by omega)).mono ?_; rintro e w' ⟨rfl, rfl⟩)
          | (go_at_call 9; refine (goSub _ _ _ (by omega) (by omega)).mono ?_; rintro e w' ⟨rfl, rfl⟩)
          | (go_at_call 11; refine (goIn _ _ _ _ (by omega) (by omega) (by omega)).mono ?_; rintro e w' ⟨rfl, rfl⟩)
          | (go_at_call 13; refine (goMax _ _ _ (by omega) (by omega)).mono ?_; rintro e w' ⟨rfl, rfl⟩)
          | (go_at_call 15; refine (alive _).mono ?_; rintro e w' ⟨rfl, rfl⟩))
        go_ret
        exact ⟨rfl, rfl⟩

theorem lift_finds (p x : Int) (hp : 0 ≤ p ∧ p ≤ 18446744073709551615) (hx : 0 ≤ x ∧ x ≤ 18446744073709551615) (h1 : p - x ≤ 2147483647) (h2 : x - p ≤ 2147483647) :
    liftI x (p % 4294967296) = p := by
  unfold liftI way
  (repeat' split) <;> omega

theorem lawFinds (p o : Int) (d : Bool) (w : World) (hp : 0 ≤ p ∧ p ≤ 18446744073709551615) (ho : 0 ≤ o ∧ o ≤ 4294967295) :
    Calls Try.prog 6 #[.int .u64 p, .int .u32 o, .bool d] w fun e w' => e = .returned (.bool true) ∧ w = w' := by
  cases d
  · by_cases c1 : p + o % 2147483648 ≤ 18446744073709551615
    · have f1 := lift_finds p (p + o % 2147483648) hp (by omega) (by omega) (by omega)
      go_enter Try.func6, Try.ntmps6
      go_wp2_with (first
        | (go_at_call 16; refine (goLift _ _ _ (by omega) (by omega)).mono ?_; rintro e w' ⟨rfl, rfl⟩)
        | (go_at_call 15; refine (alive _).mono ?_; rintro e w' ⟨rfl, rfl⟩))
      go_ret
      exact ⟨rfl, rfl⟩
    · have f1 : IntKind.u64.wrap (p + o % 2147483648) = p + o % 2147483648 - 18446744073709551616 := by rw [u64w]; omega
      go_enter Try.func6, Try.ntmps6
      go_wp2_with (first
        | (go_at_call 16; refine (goLift _ _ _ (by omega) (by omega)).mono ?_; rintro e w' ⟨rfl, rfl⟩)
        | (go_at_call 15; refine (alive _).mono ?_; rintro e w' ⟨rfl, rfl⟩))
      go_ret
      exact ⟨rfl, rfl⟩
  · by_cases c1 : o % 2147483648 ≤ p
    · have f1 := lift_finds p (p - o % 2147483648) hp (by omega) (by omega) (by omega)
      go_enter Try.func6, Try.ntmps6
      go_wp2_with (first
        | (go_at_call 16; refine (goLift _ _ _ (by omega) (by omega)).mono ?_; rintro e w' ⟨rfl, rfl⟩)
        | (go_at_call 15; refine (alive _).mono ?_; rintro e w' ⟨rfl, rfl⟩))
      go_ret
      exact ⟨rfl, rfl⟩
    · have c2 : p < o % 2147483648 := by omega
      go_enter Try.func6, Try.ntmps6
      go_wp2_with (first
        | (go_at_call 16; refine (goLift _ _ _ (by omega) (by omega)).mono ?_; rintro e w' ⟨rfl, rfl⟩)
        | (go_at_call 15; refine (alive _).mono ?_; rintro e w' ⟨rfl, rfl⟩))
      go_ret
      exact ⟨rfl, rfl⟩
end Go.Proofs.Ytkiiipnmfbeacaa.sq
