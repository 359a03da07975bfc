/- The law's contract, its arguments in their order, as Go's numbers. Condition: the arguments fit their kinds; the contracts. -/
import Derived.Test.YtdlcglkeinlimaaOptN
import Derived.Test.YtdlcglkeinlimaaOptQ
namespace Go.Proofs.Ytdlcglkeinlimaa.op
open Go.RowKit Go.Shelf Go.Lib Go.Proofs.Ytdlcglkeinlimaa.sm Go.Proofs.Ytdlcglkeinlimaa.nb Go.Proofs.Ytdlcglkeinlimaa.om
set_option linter.unusedVariables false

theorem lawApartI (hN : NoneC) (hM : MayC) (hS : SameC) (hE : EncC) (hD : DecC) (hT : TurnC) (m : Nat) (s : Int) (k : Bool) (b : List (Nat × Nat)) (t : Bool) (v e : Nat) (A : Option Addr) (n c : Nat) (m' : Nat) (s' : Int) (k' : Bool) (b' : List (Nat × Nat)) (t' : Bool) (v' e' : Nat) (A' : Option Addr) (n' c' : Nat) (K Z : ByteArray) (w : World) (ho : OkA w m s k b t v e A n) (hp : OkA w m' s' k' b' t' v' e' A' n') (hK : K.size ≤ maxLen) (hZ : Z.size ≤ maxLen) :
    Calls Try.prog 6 #[OA m s k A n c t v e, OA m' s' k' A' n' c' t' v' e', .string K, .string Z] w fun e_ w' => e_ = .returned (.bool true) ∧ Up w w' :=
  lawApart hN hM hS hE hD hT m s k b t v e A n c m' s' k' b' t' v' e' A' n' c' K Z w ho hp hK hZ
end Go.Proofs.Ytdlcglkeinlimaa.op
