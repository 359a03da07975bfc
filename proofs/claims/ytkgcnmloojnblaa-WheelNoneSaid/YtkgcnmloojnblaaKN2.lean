/- N: contracts, part 2. Condition: as each says. -/
import Derived.Test.YtkgcnmloojnblaaKPOAN20
import Derived.Test.YtkgcnmloojnblaaKN1
import Derived.Test.YtkgcnmloojnblaaKPON1
set_option linter.unusedVariables false
set_option linter.unusedSimpArgs false
namespace Go.Proofs.Ytkgcnmloojnblaa.wh
open Go.RowKit Go.Shelf Go.Lib Go.Proofs.Ytkgcnmloojnblaa.nb Go.Proofs.Ytkgcnmloojnblaa.ck
set_option linter.unusedVariables false

theorem noneI (s0 : ByteArray) (a1 : Int) (w : World) (hs : s0.size ≤ maxLen) (h1 : I64 a1) :
    Calls Try.prog 6 #[.string s0, .int .i64 a1] w fun e w' => e = .returned (.bool true) ∧ Up w w' :=
  lawNone wlS.whS s0 a1 w hs
end Go.Proofs.Ytkgcnmloojnblaa.wh
