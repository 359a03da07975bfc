/- O A: contracts, part 1. Condition: as each says. -/
import Derived.Test.YtkgcnmloojnblaaKPOA1
set_option linter.unusedVariables false
set_option linter.unusedSimpArgs false
namespace Go.Proofs.Ytkgcnmloojnblaa.wh
open Go.ChangeShapes Go.WideShapes Go.Deep Go.Joins Go.RowKit Go.Proofs.Ytkgcnmloojnblaa.nb Go.Proofs.Ytkgcnmloojnblaa.ck
set_option linter.unusedVariables false

section
variable {H : Type} {enc : TypeId × Value → H} {P : Program} {w : World} {base : Nat} {spare : Nat → Bool} {held : Bool}
end
set_option maxRecDepth 100000
def RdG (k : IntKind) (w : World) (A : Option Addr) (xs : List Int) : Prop := xs ≠ [] → ∃ g off, A = some ⟨g, off, none⟩ ∧ g < w.heap.size ∧ ∀ j, j < xs.length → w.cell? ⟨g, off + j, none⟩ = some (.int k (xs.getD j 0))
theorem RdG.up {k : IntKind} {w w' : World} {A : Option Addr} {xs : List Int} (h : RdG k w A xs) (u : Up w w') : RdG k w' A xs := fun hne => by
  obtain ⟨g, off, e, hg, hc⟩ := h hne
  exact ⟨g, off, e, Nat.lt_of_lt_of_le hg u.size, fun j hj => (u.cell (p := ⟨g, off + j, none⟩) hg).trans (hc j hj)⟩
theorem RdG.at_ {k : IntKind} {w : World} {A : Option Addr} {xs : List Int} {j : Nat} (h : RdG k w A xs) (hj : j < xs.length) : ∃ g off x, A = some ⟨g, off, none⟩ ∧ w.cell? ⟨g, off + j, none⟩ = some (.int k x) ∧ Hid (xs[j]? = some x) := by
  obtain ⟨g, off, e, hg, hc⟩ := h (fun h0 => by rw [h0] at hj; exact absurd hj (Nat.not_lt_zero _))
  refine ⟨g, off, _, e, hc j hj, (show xs[j]? = _ from ?_)⟩
  rw [List.getD_eq_getElem?_getD, List.getElem?_eq_getElem hj]; rfl
end Go.Proofs.Ytkgcnmloojnblaa.wh
