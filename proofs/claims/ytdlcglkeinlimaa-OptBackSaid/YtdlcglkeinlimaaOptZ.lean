/- Package opt keeps the contracts that the statements' walks stand on. Condition: none. -/
import Derived.Test.YtdlcglkeinlimaaOptLG
import Derived.Test.YtdlcglkeinlimaaOptLJ
namespace Go.Proofs.Ytdlcglkeinlimaa.op
theorem all_kept : NoneC ∧ MayC ∧ SameC ∧ EncC ∧ DecC ∧ TurnC := ⟨noneC, mayC, sameC, encC, decC, turnC⟩
end Go.Proofs.Ytdlcglkeinlimaa.op
