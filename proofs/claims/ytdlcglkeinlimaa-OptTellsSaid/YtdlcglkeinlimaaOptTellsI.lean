/- The law's contract, its arguments in their order, as Go's numbers. Condition: the arguments fit their kinds; the contracts. -/
import Derived.Test.YtdlcglkeinlimaaOptJ
import Derived.Test.YtdlcglkeinlimaaOptQ
namespace Go.Proofs.Ytdlcglkeinlimaa.op
open Go.RowKit Go.Shelf Go.Lib Go.Proofs.Ytdlcglkeinlimaa.sm Go.Proofs.Ytdlcglkeinlimaa.nb Go.Proofs.Ytdlcglkeinlimaa.om
set_option linter.unusedVariables false

theorem lawTellsI (hN : NoneC) (hM : MayC) (hS : SameC) (hE : EncC) (hD : DecC) (hT : TurnC) (m : Nat) (s : Int) (k : Bool) (b : List (Nat × Nat)) (t : Bool) (v e : Nat) (A : Option Addr) (n c : Nat) (m' : Nat) (s' : Int) (k' : Bool) (b' : List (Nat × Nat)) (t' : Bool) (v' e' : Nat) (A' : Option Addr) (n' c' : Nat) (S : ByteArray) (w : World) (ho : OkA w m s k b t v e A n) (hp : OkA w m' s' k' b' t' v' e' A' n') (hz : S.size ≤ maxLen) :
    Calls Try.prog 3 #[OA m s k A n c t v e, OA m' s' k' A' n' c' t' v' e', .string S] w fun e_ w' => e_ = .returned (.bool true) ∧ Up w w' :=
  lawTells hN hM hS hE hD hT m s k b t v e A n c m' s' k' b' t' v' e' A' n' c' S w ho hp hz
end Go.Proofs.Ytdlcglkeinlimaa.op
