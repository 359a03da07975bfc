/- O: contracts, part 5. Condition: as each says. -/
import Derived.Test.YtkgcnmloojnblaaKPOAN20
import Derived.Test.YtkgcnmloojnblaaKOA1
import Derived.Test.YtkgcnmloojnblaaKPO2
import Derived.Test.YtkgcnmloojnblaaKO4
set_option linter.unusedVariables false
set_option linter.unusedSimpArgs false
namespace Go.Proofs.Ytkgcnmloojnblaa.wh
open Go.RowKit Go.Shelf Go.Lib Go.Proofs.Ytkgcnmloojnblaa.nb Go.Proofs.Ytkgcnmloojnblaa.ck
set_option linter.unusedVariables false

theorem onceI (A : Option Addr) (n c : Nat) (xs : List St) (w : World) (hr : RdP w A xs) (hn : xs.length = n) (hm : n ≤ maxLen) (hx : ∀ x ∈ xs, OkSt x) :
    Calls Try.prog 4 #[.slice A n c] w fun e w' => e = .returned (.bool true) ∧ Up w w' :=
  lawOnce wlS.whS A n c xs w (heavyC A n c xs w hr hn hm) hr hn hx
end Go.Proofs.Ytkgcnmloojnblaa.wh
