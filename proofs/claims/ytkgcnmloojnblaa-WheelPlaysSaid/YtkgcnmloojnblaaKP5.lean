/- P: contracts, part 5. Condition: as each says. -/
import Derived.Test.YtkgcnmloojnblaaKP3
import Derived.Test.YtkgcnmloojnblaaKPOAN20
import Derived.Test.YtkgcnmloojnblaaKP4
import Derived.Test.YtkgcnmloojnblaaKPO2
set_option linter.unusedVariables false
set_option linter.unusedSimpArgs false
namespace Go.Proofs.Ytkgcnmloojnblaa.wh
open Go.RowKit Go.Shelf Go.Lib Go.Proofs.Ytkgcnmloojnblaa.nb Go.Proofs.Ytkgcnmloojnblaa.ck
set_option linter.unusedVariables false

theorem playsI (a0 a1 : Int) (A : Option Addr) (n c : Nat) (xs : List St) (w : World) (h0 : I64 a0) (h1 : I64 a1) (hr : RdP w A xs) (hn : xs.length = n) (hm : n ≤ maxLen) (hx : ∀ x ∈ xs, OkSt x) :
    Calls Try.prog 3 #[.int .i64 a0, .int .i64 a1, .slice A n c] w fun e w' => e = .returned (.bool true) ∧ Up w w' := by
  by_cases hc : mayB a0 = true ∧ 0 ≤ a1 ∧ a1 ≤ 4096
  · exact plays_good wlS.whS a0 a1 A n c xs w (heavyC A n c xs w hr hn hm) hr hn hx hc.1 hc.2.1 hc.2.2
  · exact plays_bad wlS.whS a0 a1 A n c w (heavyC A n c xs w hr hn hm) h0 h1 hc
end Go.Proofs.Ytkgcnmloojnblaa.wh
