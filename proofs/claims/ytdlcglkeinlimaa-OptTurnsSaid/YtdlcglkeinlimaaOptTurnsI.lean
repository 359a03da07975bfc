/- The law's contract, its arguments in their order, as Go's numbers. Condition: the arguments fit their kinds; the contracts. -/
import Derived.Test.YtdlcglkeinlimaaOptJ
import Derived.Test.YtdlcglkeinlimaaOptQ
namespace Go.Proofs.Ytdlcglkeinlimaa.op
open Go.RowKit Go.Shelf Go.Lib Go.Proofs.Ytdlcglkeinlimaa.sm Go.Proofs.Ytdlcglkeinlimaa.nb Go.Proofs.Ytdlcglkeinlimaa.om
set_option linter.unusedVariables false

theorem lawTurnsI (hN : NoneC) (hM : MayC) (hS : SameC) (hE : EncC) (hD : DecC) (hT : TurnC) (S : ByteArray) (b v e : Int) (w : World) (hz : S.size ≤ maxLen) (hb : 0 ≤ b ∧ b ≤ 4294967295) (hv : 0 ≤ v ∧ v ≤ 4294967295) (he : 0 ≤ e ∧ e ≤ 4294967295) :
    Calls Try.prog 4 #[.string S, .int .u32 b, .int .u32 v, .int .u32 e] w fun e_ w' => e_ = .returned (.bool true) ∧ Up w w' := by
  obtain ⟨b, rfl⟩ := Int.eq_ofNat_of_zero_le hb.1
  obtain ⟨v, rfl⟩ := Int.eq_ofNat_of_zero_le hv.1
  obtain ⟨e, rfl⟩ := Int.eq_ofNat_of_zero_le he.1
  exact lawTurns hN hM hS hE hD hT S b v e w (by unfold M32; omega) (by unfold M32; omega) (by unfold M32; omega) hz
end Go.Proofs.Ytdlcglkeinlimaa.op
