/- The law's contract, its arguments in their order, as Go's numbers. Condition: the arguments fit their kinds; EncC, DecC. -/
import Derived.Test.YtecogakledajkaaTcpG
import Derived.Test.YtecogakledajkaaTcpQ
namespace Go.Proofs.Ytecogakledajkaa.tc
open Go.RowKit Go.Shelf Go.Proofs.Ytecogakledajkaa.sm Go.Proofs.Ytecogakledajkaa.nb Go.Proofs.Ytecogakledajkaa.cm
set_option linter.unusedVariables false

theorem lawReadsI (hE : EncC) (hD : DecC) (x y : Int) (s : ByteArray) (w : World) (hx : 0 ≤ x ∧ x ≤ 4294967295) (hy : 0 ≤ y ∧ y ≤ 4294967295) (hs : s.size ≤ maxLen) :
    Calls Try.prog 4 #[.int .u32 x, .int .u32 y, .string s] w fun e w' => e = .returned (.bool true) ∧ Up w w' := by
  obtain ⟨x, rfl⟩ := Int.eq_ofNat_of_zero_le hx.1
  obtain ⟨y, rfl⟩ := Int.eq_ofNat_of_zero_le hy.1
  exact lawReads hE hD x y s w (by omega) (by omega) hs
end Go.Proofs.Ytecogakledajkaa.tc
