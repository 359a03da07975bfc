/- P: contracts, part 3. Condition: as each says. -/
import Derived.Test.YtkgcnmloojnblaaKP2
import Derived.Test.YtkgcnmloojnblaaKPOAN10
set_option linter.unusedVariables false
set_option linter.unusedSimpArgs false
namespace Go.Proofs.Ytkgcnmloojnblaa.wf
open Go.Proofs.Ytkgcnmloojnblaa.wh Go.Proofs.Ytkgcnmloojnblaa.ck
set_option linter.unusedVariables false

theorem stopC_bd (xs : List Tm) (k : ByteArray) : 0 ≤ stopC xs k ∧ stopC xs k ≤ 1 := by unfold stopC; split <;> omega
end Go.Proofs.Ytkgcnmloojnblaa.wf
