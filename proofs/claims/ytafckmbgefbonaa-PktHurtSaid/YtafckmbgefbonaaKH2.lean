/- H: contracts, part 2. Condition: as each says. -/
import Derived.Test.YtafckmbgefbonaaKH1
import Derived.Test.YtafckmbgefbonaaKBHA40
set_option linter.unusedVariables false
set_option linter.unusedSimpArgs false
namespace Go.Proofs.Ytafckmbgefbonaa.pk
open Go.ChangeShapes Go.WideShapes Go.ChangeAt Go.Deep Go.Joins Go.RowKit Go.Proofs.Ytafckmbgefbonaa.om Go.Proofs.Ytafckmbgefbonaa.nb Go.Proofs.Ytafckmbgefbonaa.pm
set_option linter.unusedVariables false

theorem wf_u16 {x : Int} (h : (Lit.int .u16 x).wf = true) : 0 ≤ x ∧ x ≤ 65535 := op.wf_u16 h
section
variable {H : Type} {enc : TypeId × Value → H} {W : World} {sp : Nat → Bool} {held : Bool} {fuel : Nat}
end
end Go.Proofs.Ytafckmbgefbonaa.pk
