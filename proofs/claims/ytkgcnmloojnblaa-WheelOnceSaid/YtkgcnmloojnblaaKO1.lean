/- O: contracts, part 1. Condition: as each says. -/
import Derived.Test.YtkgcnmloojnblaaKPO1
set_option linter.unusedVariables false
set_option linter.unusedSimpArgs false
namespace Go.Proofs.Ytkgcnmloojnblaa.wh
open Go.RowKit Go.Shelf Go.Lib Go.Proofs.Ytkgcnmloojnblaa.nb Go.Proofs.Ytkgcnmloojnblaa.ck
set_option linter.unusedVariables false

section
variable {P Q LW : WP} {wS w w' : World} {Z F G : Nat → Prop} {b c : Nat} {n1 n2 n1' n2' m : Int} {x1 x2 x1' x2' : List Tm}
theorem RdK.new1 (w : World) (k : ByteArray) (T : TypeId) : RdK (w.alloc (.cells #[.string k] T)) (some ⟨w.heap.size, 0, none⟩) [k] := fun _ => by
  have hB := Box.new w #[.string k] T
  refine ⟨w.heap.size, 0, rfl, hB.1, fun j hj => ?_⟩
  match j, hj with
  | 0, _ => exact hB.at 0 rfl
/-! ### the calls -/
end
end Go.Proofs.Ytkgcnmloojnblaa.wh
