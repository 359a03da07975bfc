/- A: contracts, part 1. Condition: as each says. -/
import Derived.Test.YtkgcnmloojnblaaKPOAN1
set_option linter.unusedVariables false
set_option linter.unusedSimpArgs false
namespace Go.Proofs.Ytkgcnmloojnblaa.nb
open Go.RowKit Go.Shelf Go.Proofs.Ytkgcnmloojnblaa.sm
set_option linter.unusedVariables false

def tx (l : List UInt8) : ByteArray := ⟨l.toArray⟩
/-! ### bytes that a call has gathered -/
section
variable {ops : Array Oper} {rest : List Oper} {o : Oper} {a : Act} {Q : Exit → Act → World → Prop} {w : World} {B : Nat} {v : Value}
end

/-! ### bits -/
/-! ### texts out of bytes -/
/-! ### values that lie in a block of their own -/
end Go.Proofs.Ytkgcnmloojnblaa.nb
