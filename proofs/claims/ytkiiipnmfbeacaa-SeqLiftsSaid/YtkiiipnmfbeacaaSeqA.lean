/- Package seq and the document's answer: what each inner function returns, for every input. Condition: the arguments fit their kinds. -/
import Derived.Test.YtkiiipnmfbeacaaRows
import Derived.WalkKit
import Derived.ProofKit
import Derived.Lib.Hide
namespace Go.Proofs.Ytkiiipnmfbeacaa.sq
open Go.RowKit
set_option linter.unusedVariables false

theorem ret_int {k : IntKind} {a b : Int} (h : a = b) : Ending.returned (.int k a) = .returned (.int k b) := by rw [h]
theorem ret_bool {a b : Bool} (h : a = b) : Ending.returned (.bool a) = .returned (.bool b) := by rw [h]
/-- the way from a to b -/
def way (a b : Int) : Int := (b - a) % 4294967296
theorem way_bd (a b : Int) : 0 ≤ way a b ∧ way a b ≤ 4294967295 := by unfold way; omega
/-- a is less than b -/
def lessB (a b : Int) : Bool := decide (0 < way a b ∧ way a b ≤ 2147483647)
/-- the way from b to a, with a sign -/
def subI (a b : Int) : Int := if way b a < 2147483648 then way b a else way b a - 4294967296
def inB (x a n : Int) : Bool := decide (way a x < n)
def maxI (a b : Int) : Int := if lessB a b then b else a
/-- the nearest place -/
def liftI (near s : Int) : Int :=
  if 18446744073709551616 ≤ near + way (near % 4294967296) s then near + way (near % 4294967296) s - 4294967296
  else if near + way (near % 4294967296) s < 4294967296 then near + way (near % 4294967296) s
  else if 4294967296 - way (near % 4294967296) s < way (near % 4294967296) s then near + way (near % 4294967296) s - 4294967296
  else near + way (near % 4294967296) s
def awayI (a b : Int) : Int := if b < a then a - b else b - a

theorem way32 (a b : Int) (w : World) (ha : 0 ≤ a ∧ a ≤ 4294967295) (hb : 0 ≤ b ∧ b ≤ 4294967295) :
    Calls Try.prog 20 #[.int .u32 a, .int .u32 b] w fun e w' => e = .returned (.int .u32 (way a b)) ∧ w = w' := by
  go_enter Try.func20, Try.ntmps20
  go_wp2
  go_ret
  exact ⟨rfl, rfl⟩
theorem refWay (a b : Int) (w : World) (ha : 0 ≤ a ∧ a ≤ 4294967295) (hb : 0 ≤ b ∧ b ≤ 4294967295) :
    Calls Try.prog 19 #[.int .u32 a, .int .u32 b] w fun e w' => e = .returned (.int .i64 (way a b)) ∧ w = w' := by
  go_enter Try.func19, Try.ntmps19
  go_wp2
  go_ret
  exact ⟨ret_int (by unfold way; omega), rfl⟩

theorem less32 (a b : Int) (w : World) (ha : 0 ≤ a ∧ a ≤ 4294967295) (hb : 0 ≤ b ∧ b ≤ 4294967295) :
    Calls Try.prog 18 #[.int .u32 a, .int .u32 b] w fun e w' => e = .returned (.bool (lessB a b)) ∧ w = w' := by
  have hw := way_bd a b
  by_cases h1 : 0 < way a b
  · have e1 : lessB a b = decide (way a b ≤ 2147483647) := by unfold lessB; simp [h1]
    go_enter Try.func18, Try.ntmps18
    go_wp2_with (go_at_call 20; refine (way32 _ _ _ ha hb).mono ?_; rintro e w' ⟨rfl, rfl⟩)
    go_ret
    exact ⟨rfl, rfl⟩
  · have e1 : lessB a b = false := by unfold lessB; simp [h1]
    go_enter Try.func18, Try.ntmps18
    go_wp2_with (go_at_call 20; refine (way32 _ _ _ ha hb).mono ?_; rintro e w' ⟨rfl, rfl⟩)
    go_ret
    exact ⟨rfl, rfl⟩
theorem goLess (a b : Int) (w : World) (ha : 0 ≤ a ∧ a ≤ 4294967295) (hb : 0 ≤ b ∧ b ≤ 4294967295) :
    Calls Try.prog 7 #[.int .u32 a, .int .u32 b] w fun e w' => e = .returned (.bool (lessB a b)) ∧ w = w' := by
  go_enter Try.func7, Try.ntmps7
  go_wp2_with (go_at_call 18; refine (less32 _ _ _ ha hb).mono ?_; rintro e w' ⟨rfl, rfl⟩)
  go_ret
  exact ⟨rfl, rfl⟩
theorem refLess (a b : Int) (w : World) (ha : 0 ≤ a ∧ a ≤ 4294967295) (hb : 0 ≤ b ∧ b ≤ 4294967295) :
    Calls Try.prog 8 #[.int .u32 a, .int .u32 b] w fun e w' => e = .returned (.bool (lessB a b)) ∧ w = w' := by
  have hw := way_bd a b
  by_cases h1 : 0 < way a b
  · have E1 := Lib.hid (show lessB a b = decide (way a b < 2147483648) by unfold lessB; rw [Bool.eq_iff_iff]; simp; omega)
    go_enter Try.func8, Try.ntmps8
    go_wp2_with (go_at_call 19; refine (refWay _ _ _ ha hb).mono ?_; rintro e w' ⟨rfl, rfl⟩)
    go_ret
    exact ⟨ret_bool E1.out.symm, rfl⟩
  · have e1 : lessB a b = false := by unfold lessB; simp [h1]
    go_enter Try.func8, Try.ntmps8
    go_wp2_with (go_at_call 19; refine (refWay _ _ _ ha hb).mono ?_; rintro e w' ⟨rfl, rfl⟩)
    go_ret
    exact ⟨rfl, rfl⟩

theorem goSub (a b : Int) (w : World) (ha : 0 ≤ a ∧ a ≤ 4294967295) (hb : 0 ≤ b ∧ b ≤ 4294967295) :
    Calls Try.prog 9 #[.int .u32 a, .int .u32 b] w fun e w' => e = .returned (.int .i64 (subI a b)) ∧ w = w' := by
  have hw := way_bd b a
  by_cases h1 : way b a < 2147483648
  all_goals
    have e1 : subI a b = if way b a < 2147483648 then way b a else way b a - 4294967296 := rfl
    simp only [h1, if_true, if_false] at e1
    have E1 := Lib.hid e1; clear e1
    go_enter Try.func9, Try.ntmps9
    go_wp2_with (go_at_call 20; refine (way32 _ _ _ hb ha).mono ?_; rintro e w' ⟨rfl, rfl⟩)
    go_ret
    exact ⟨ret_int E1.out.symm, rfl⟩
theorem refSub (a b : Int) (w : World) (ha : 0 ≤ a ∧ a ≤ 4294967295) (hb : 0 ≤ b ∧ b ≤ 4294967295) :
    Calls Try.prog 10 #[.int .u32 a, .int .u32 b] w fun e w' => e = .returned (.int .i64 (subI a b)) ∧ w = w' := by
  have hw := way_bd b a
  by_cases h1 : way b a < 2147483648
  all_goals
    have e1 : subI a b = if way b a < 2147483648 then way b a else way b a - 4294967296 := rfl
    simp only [h1, if_true, if_false] at e1
    have E1 := Lib.hid e1; clear e1
    go_enter Try.func10, Try.ntmps10
    go_wp2_with (go_at_call 19; refine (refWay _ _ _ hb ha).mono ?_; rintro e w' ⟨rfl, rfl⟩)
    go_ret
    exact ⟨ret_int E1.out.symm, rfl⟩

theorem goIn (x a n : Int) (w : World) (hx : 0 ≤ x ∧ x ≤ 4294967295) (ha : 0 ≤ a ∧ a ≤ 4294967295) (hn : 0 ≤ n ∧ n ≤ 4294967295) :
    Calls Try.prog 11 #[.int .u32 x, .int .u32 a, .int .u32 n] w fun e w' => e = .returned (.bool (inB x a n)) ∧ w = w' := by
  have hw := way_bd a x
  go_enter Try.func11, Try.ntmps11
  go_wp2_with (go_at_call 20; refine (way32 _ _ _ ha hx).mono ?_; rintro e w' ⟨rfl, rfl⟩)
  go_ret
  exact ⟨rfl, rfl⟩
theorem refIn (x a n : Int) (w : World) (hx : 0 ≤ x ∧ x ≤ 4294967295) (ha : 0 ≤ a ∧ a ≤ 4294967295) (hn : 0 ≤ n ∧ n ≤ 4294967295) :
    Calls Try.prog 12 #[.int .u32 x, .int .u32 a, .int .u32 n] w fun e w' => e = .returned (.bool (inB x a n)) ∧ w = w' := by
  have hw := way_bd a x
  go_enter Try.func12, Try.ntmps12
  go_wp2_with (go_at_call 19; refine (refWay _ _ _ ha hx).mono ?_; rintro e w' ⟨rfl, rfl⟩)
  go_ret
  exact ⟨rfl, rfl⟩

theorem goMax (a b : Int) (w : World) (ha : 0 ≤ a ∧ a ≤ 4294967295) (hb : 0 ≤ b ∧ b ≤ 4294967295) :
    Calls Try.prog 13 #[.int .u32 a, .int .u32 b] w fun e w' => e = .returned (.int .u32 (maxI a b)) ∧ w = w' := by
  cases h1 : lessB a b
  all_goals
    have e1 : maxI a b = if lessB a b then b else a := rfl
    rw [h1] at e1
    have E1 := Lib.hid e1; clear e1
    go_enter Try.func13, Try.ntmps13
    go_wp2_with (go_at_call 18; refine (less32 _ _ _ ha hb).mono ?_; rintro e w' ⟨rfl, rfl⟩)
    go_ret
    exact ⟨ret_int E1.out.symm, rfl⟩
theorem refMax (a b : Int) (w : World) (ha : 0 ≤ a ∧ a ≤ 4294967295) (hb : 0 ≤ b ∧ b ≤ 4294967295) :
    Calls Try.prog 14 #[.int .u32 a, .int .u32 b] w fun e w' => e = .returned (.int .u32 (maxI a b)) ∧ w = w' := by
  cases h1 : lessB a b
  all_goals
    have e1 : maxI a b = if lessB a b then b else a := rfl
    rw [h1] at e1
    have E1 := Lib.hid e1; clear e1
    go_enter Try.func14, Try.ntmps14
    go_wp2_with (go_at_call 8; refine (refLess _ _ _ ha hb).mono ?_; rintro e w' ⟨rfl, rfl⟩)
    go_ret
    exact ⟨ret_int E1.out.symm, rfl⟩

theorem way64 (a b : Int) (w : World) (ha : 0 ≤ a) (hab : a ≤ b) (hb : b ≤ 18446744073709551615) :
    Calls Try.prog 23 #[.int .u64 a, .int .u64 b] w fun e w' => e = .returned (.int .u64 (b - a)) ∧ w = w' := by
  go_enter Try.func23, Try.ntmps23
  go_wp2
  go_ret
  exact ⟨rfl, rfl⟩
theorem nearer (x a b : Int) (w : World) (ha : 0 ≤ a) (hx : a ≤ x) (hb : x ≤ b) (hb' : b ≤ 18446744073709551615) :
    Calls Try.prog 21 #[.int .u64 x, .int .u64 a, .int .u64 b] w fun e w' => e = .returned (.int .u64 (if x - a < b - x then a else b)) ∧ w = w' := by
  by_cases h : x - a < b - x
  all_goals
    go_enter Try.func21, Try.ntmps21
    go_wp2_with (first | (go_at_call 23; refine (way64 _ _ _ (by omega) (by omega) (by omega)).mono ?_; rintro e w' ⟨rfl, rfl⟩))
    go_ret
    exact ⟨rfl, rfl⟩

end Go.Proofs.Ytkiiipnmfbeacaa.sq
