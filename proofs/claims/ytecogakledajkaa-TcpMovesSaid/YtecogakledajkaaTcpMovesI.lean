/- The law's contract, its arguments in their order, as Go's numbers. Condition: the arguments fit their kinds; EncC, DecC. -/
import Derived.Test.YtecogakledajkaaTcpKB
import Derived.Test.YtecogakledajkaaTcpQ
namespace Go.Proofs.Ytecogakledajkaa.tc
open Go.RowKit Go.Shelf Go.Proofs.Ytecogakledajkaa.sm Go.Proofs.Ytecogakledajkaa.nb Go.Proofs.Ytecogakledajkaa.cm
set_option linter.unusedVariables false

theorem lawMovesI (hE : EncC) (hD : DecC) (x y : Int) (s : ByteArray) (p q sq ak fl wi ur : Nat) (o : ByteArray) (p' q' sq' ak' fl' wi' ur' : Nat) (o' : ByteArray) (w : World) (hx : 0 ≤ x ∧ x ≤ 4294967295) (hy : 0 ≤ y ∧ y ≤ 4294967295) (hs : s.size ≤ maxLen) (h : Ok p q sq ak fl wi ur) (ho : o.size ≤ maxLen) (h' : Ok p' q' sq' ak' fl' wi' ur') (ho' : o'.size ≤ maxLen) :
    Calls Try.prog 6 #[.int .u32 x, .int .u32 y, (.string s), HV p q sq ak fl wi ur o, HV p' q' sq' ak' fl' wi' ur' o'] w fun e w' => e = .returned (.bool true) ∧ Up w w' := by
  obtain ⟨x, rfl⟩ := Int.eq_ofNat_of_zero_le hx.1
  obtain ⟨y, rfl⟩ := Int.eq_ofNat_of_zero_le hy.1
  exact lawMoves hE hD x y s p q sq ak fl wi ur p' q' sq' ak' fl' wi' ur' o o' w (by omega) (by omega) h h' hs ho ho'
end Go.Proofs.Ytecogakledajkaa.tc
