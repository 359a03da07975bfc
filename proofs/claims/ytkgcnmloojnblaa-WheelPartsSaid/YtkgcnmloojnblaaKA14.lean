/- A: contracts, part 14. Condition: as each says. -/
import Derived.Test.YtkgcnmloojnblaaKPOAN20
import Derived.Test.YtkgcnmloojnblaaKA13
set_option linter.unusedVariables false
set_option linter.unusedSimpArgs false
namespace Go.Proofs.Ytkgcnmloojnblaa.wh
open Go.RowKit Go.Shelf Go.Lib Go.Proofs.Ytkgcnmloojnblaa.nb Go.Proofs.Ytkgcnmloojnblaa.ck
set_option linter.unusedVariables false

theorem whU : Wh wlU.LW kvU okU 22 23 24 := wlU.wh_
theorem partsI (A : Option Addr) (n c : Nat) (xs : List Int) (A2 : Option Addr) (n2 c2 : Nat) (ps : List Int) (w : World) (hr : RdG .u32 w A xs) (hn : xs.length = n) (hm : n ≤ maxLen) (hx : ∀ x ∈ xs, 0 ≤ x ∧ x ≤ 4294967295)
    (hr2 : RdG .u16 w A2 ps) (hn2 : ps.length = n2) (hm2 : n2 ≤ maxLen) (hx2 : ∀ x ∈ ps, 0 ≤ x ∧ x ≤ 65535) :
    Calls Try.prog 5 #[.slice A n c, .slice A2 n2 c2] w fun e w' => e = .returned (.bool true) ∧ Up w w' :=
  lawParts wlS.whS whU A n c xs A2 n2 c2 ps w hr hn hm hx hr2 hn2 hm2 hx2
end Go.Proofs.Ytkgcnmloojnblaa.wh
