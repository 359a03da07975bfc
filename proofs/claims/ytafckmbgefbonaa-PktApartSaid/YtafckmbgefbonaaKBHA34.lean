/- B H A: contracts, part 34. Condition: as each says. -/
import Derived.Test.YtafckmbgefbonaaKBHA15
import Derived.Lib.SliceRun
set_option linter.unusedVariables false
set_option linter.unusedSimpArgs false
namespace Go.Proofs.Ytafckmbgefbonaa.op
open Go.RowKit Go.Shelf Go.Lib Go.Proofs.Ytafckmbgefbonaa.sm Go.Proofs.Ytafckmbgefbonaa.nb Go.Proofs.Ytafckmbgefbonaa.om
set_option linter.unusedVariables false

theorem ownK_empty (w : World) : OwnK (w.alloc (.cells #[] 109)) w.heap.size (.slice (some ⟨w.heap.size, 0, none⟩) 0 0) [] :=
  World.ownsRow_lit (base := w.heap.size) (e := 109) (size := 2) w #[] 0 (Nat.le_refl _) (by unfold maxLen; omega) rfl
def CloneV (w w' : World) (v : Value) (xs : List (Nat × Nat)) : Prop := ∃ A' c', v = .slice A' xs.length c' ∧ OwnK w' w.heap.size (.slice A' xs.length c') xs ∧ Up w w'
theorem cloneB (A : Option Addr) (n c : Nat) (xs : List (Nat × Nat)) (w : World) (hn : xs.length = n) (hr : RdB w A xs) (hm : n ≤ 1048576) :
    Calls Try.prog 57 #[.slice A n c] w fun e w' => ∃ v, e = .returned v ∧ CloneV w w' v xs := by
  cases A with
  | none =>
    have h0 : xs = [] := by
      refine Classical.byContradiction fun h => ?_
      obtain ⟨b, off, e, _⟩ := hr h
      cases e
    subst h0
    obtain rfl : n = 0 := by simpa using hn.symm
    have hnil := fun (w : World) => Lib.run_eql_slice_nil (P := Try.prog) w 26 109 none 0 c 0 0 Try.underlying26
    clear hr hn
    go_enter Try.func57, Try.ntmps57
    go_wp2
    go_ret
    exact ⟨_, rfl, none, 0, rfl, OwnK.nil_ _ _, Below.refl _ _⟩
  | some ad =>
    have hnil := fun (w : World) => Lib.run_eql_slice_nil (P := Try.prog) w 26 109 (some ad) n c 0 0 Try.underlying26
    have HR := Lib.hid (hr.below ((RowKit.Below.refl _ _).alloc (Nat.le_refl _) (.cells #[] 109)) (Nat.le_refl _))
    have HN := Lib.hid hn; clear hn hr
    go_enter Try.func57, Try.ntmps57
    go_wp2_with (first
      | (at_builtin; refine app2src (.tmp 5) (.tmp 6) ad n c xs (ownK_empty _) rfl rfl rfl rfl HN.out HR.out (by simp) (by omega) (by simp) ?_; intro A' n' c' w1 hn' hown1 hb1))
    go_ret
    obtain rfl : xs.length = n' := by simpa using hn'
    exact ⟨_, rfl, A', c', rfl, by simpa using hown1, ((RowKit.Below.refl _ _).alloc (Nat.le_refl _) _).trans hb1⟩
end Go.Proofs.Ytafckmbgefbonaa.op
