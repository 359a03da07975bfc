/- A law's contract, at integers: turning along. Condition: the arguments fit their kinds. -/
import Derived.Test.YtjnlfnlodjbcjaaSumQ
import Derived.Test.YtjnlfnlodjbcjaaSumL
namespace Go.Proofs.Ytjnlfnlodjbcjaa.su
open Go.RowKit
set_option linter.unusedVariables false
theorem lawTurnsI (s : ByteArray) (a : Int) (y : ByteArray) (w : World) (hs : s.size ≤ maxLen) (ha : 0 ≤ a ∧ a ≤ 65535) (hy : y.size ≤ maxLen) :
    Calls Try.prog 5 #[.string s, .int .u16 a, .string y] w fun e w' => e = .returned (.bool true) ∧ Below w.heap.size w w' := by
  obtain ⟨n, rfl⟩ := Int.eq_ofNat_of_zero_le ha.1
  exact lawTurns s y n w hs hy (by omega)
end Go.Proofs.Ytjnlfnlodjbcjaa.su
