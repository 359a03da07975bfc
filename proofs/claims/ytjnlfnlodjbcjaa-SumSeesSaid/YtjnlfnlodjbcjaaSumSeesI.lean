/- A law's contract, at integers: seeing. Condition: the arguments fit their kinds. -/
import Derived.Test.YtjnlfnlodjbcjaaSumQ
import Derived.Test.YtjnlfnlodjbcjaaSumK
namespace Go.Proofs.Ytjnlfnlodjbcjaa.su
open Go.RowKit
set_option linter.unusedVariables false
theorem lawSeesI (s : ByteArray) (i a b : Int) (w : World) (hs : s.size ≤ maxLen) (hi : 0 ≤ i ∧ i ≤ 65535) (ha : 0 ≤ a ∧ a ≤ 255) (hb : 0 ≤ b ∧ b ≤ 255) :
    Calls Try.prog 6 #[.string s, .int .u16 i, .int .u8 a, .int .u8 b] w fun e w' => e = .returned (.bool true) ∧ Below w.heap.size w w' := by
  obtain ⟨n, rfl⟩ := Int.eq_ofNat_of_zero_le hi.1
  obtain ⟨m, rfl⟩ := Int.eq_ofNat_of_zero_le ha.1
  obtain ⟨k, rfl⟩ := Int.eq_ofNat_of_zero_le hb.1
  exact lawSees s n m k w hs (by omega) (by omega) (by omega)
end Go.Proofs.Ytjnlfnlodjbcjaa.su
