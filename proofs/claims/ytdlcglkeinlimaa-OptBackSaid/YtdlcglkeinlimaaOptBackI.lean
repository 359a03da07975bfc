/- The law's contract, its arguments in their order, as Go's numbers. Condition: the arguments fit their kinds; the contracts. -/
import Derived.Test.YtdlcglkeinlimaaOptL
import Derived.Test.YtdlcglkeinlimaaOptQ
namespace Go.Proofs.Ytdlcglkeinlimaa.op
open Go.RowKit Go.Shelf Go.Lib Go.Proofs.Ytdlcglkeinlimaa.sm Go.Proofs.Ytdlcglkeinlimaa.nb Go.Proofs.Ytdlcglkeinlimaa.om
set_option linter.unusedVariables false

theorem lawBackI (hN : NoneC) (hM : MayC) (hS : SameC) (hE : EncC) (hD : DecC) (hT : TurnC) (m : Nat) (s : Int) (k : Bool) (b : List (Nat × Nat)) (t : Bool) (v e : Nat) (A : Option Addr) (n c : Nat) (S : ByteArray) (x y z : Int) (w : World) (ho : OkA w m s k b t v e A n) (hz : S.size ≤ maxLen) (hx : 0 ≤ x ∧ x ≤ 4294967295) (hy : 0 ≤ y ∧ y ≤ 4294967295) (hzz : 0 ≤ z ∧ z ≤ 4294967295) :
    Calls Try.prog 5 #[OA m s k A n c t v e, .string S, .int .u32 x, .int .u32 y, .int .u32 z] w fun e_ w' => e_ = .returned (.bool true) ∧ Up w w' := by
  obtain ⟨x, rfl⟩ := Int.eq_ofNat_of_zero_le hx.1
  obtain ⟨y, rfl⟩ := Int.eq_ofNat_of_zero_le hy.1
  obtain ⟨z, rfl⟩ := Int.eq_ofNat_of_zero_le hzz.1
  exact lawBack hN hM hS hE hD hT m s k b t v e A n c S x y z w ho hz (by unfold M32; omega) (by unfold M32; omega) (by unfold M32; omega)
end Go.Proofs.Ytdlcglkeinlimaa.op
