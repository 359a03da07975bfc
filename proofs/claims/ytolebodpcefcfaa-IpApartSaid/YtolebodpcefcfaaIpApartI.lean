/- The law's contract, its arguments in their order. Condition: the arguments fit their kinds. -/
import Derived.Test.YtolebodpcefcfaaIpK
import Derived.Test.YtolebodpcefcfaaIpQ
namespace Go.Proofs.Ytolebodpcefcfaa.ip
open Go.RowKit Go.Proofs.Ytolebodpcefcfaa.im Go.Proofs.Ytolebodpcefcfaa.nb
theorem lawApartI (a b p t s i : Nat) (d : Bool) (a' b' p' t' s' i' : Nat) (d' : Bool) (la lb : ByteArray) (w : World) (h : Ok a b p t s i) (h' : Ok a' b' p' t' s' i') (hA : la.size ≤ maxLen) (hB : lb.size ≤ maxLen) :
    Calls Try.prog 6 #[HV a b p t s i d, HV a' b' p' t' s' i' d', .string la, .string lb] w fun e w' => e = .returned (.bool true) ∧ Up w w' :=
  lawApart a b p t s i a' b' p' t' s' i' d d' la lb w h h' hA hB
end Go.Proofs.Ytolebodpcefcfaa.ip
