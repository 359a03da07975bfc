/- A law's contract, at integers: telling. Condition: the arguments fit their kinds. -/
import Derived.Test.YtjnlfnlodjbcjaaSumQ
import Derived.Test.YtjnlfnlodjbcjaaSumN
namespace Go.Proofs.Ytjnlfnlodjbcjaa.su
open Go.RowKit
set_option linter.unusedVariables false
end Go.Proofs.Ytjnlfnlodjbcjaa.su
