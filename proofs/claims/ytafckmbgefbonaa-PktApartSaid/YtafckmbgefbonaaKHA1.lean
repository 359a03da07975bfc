/- H A: contracts, part 1. Condition: as each says. -/
import Derived.Test.YtafckmbgefbonaaKBHA5
import Derived.RangeFuncRecord
set_option linter.unusedVariables false
set_option linter.unusedSimpArgs false
namespace Go.Proofs.Ytafckmbgefbonaa.nb
open Go.RowKit Go.Shelf Go.Proofs.Ytafckmbgefbonaa.sm
set_option linter.unusedVariables false

def Row (W : World) (B : Nat) (xs : List Int) : Prop := ∀ i, i < xs.length → W.cell? ⟨B, i, none⟩ = some (.int .u8 (xs.getD i 0)) ∧ W.frozen? ⟨B, i, none⟩ = false
theorem Row.set {W : World} {B : Nat} {xs : List Int} (h : Row W B xs) (k : Nat) (v : Int) (hk : k < xs.length) : Row (W.setCell ⟨B, k, none⟩ (.int .u8 v)) B (xs.set k v) := fun i hi => by
  rw [List.length_set] at hi
  obtain ⟨h1, h2⟩ := h i hi
  refine ⟨?_, by rw [World.frozen?_setCell]; exact h2⟩
  by_cases hik : i = k
  · subst hik
    rw [World.cell?_setCell_same' _ _ _ (by rw [h1]; rfl)]
    simp [hi]
  · rw [World.cell?_setCell_other _ _ _ _ (by intro e; cases e; exact hik rfl), h1]
    simp [List.getD, List.getElem?_set, Ne.symm hik]
end Go.Proofs.Ytafckmbgefbonaa.nb
