/- The law's contract, its arguments as Go's numbers. Condition: the arguments fit their kinds. -/
import Derived.Test.YtolebodpcefcfaaIpL
import Derived.Test.YtolebodpcefcfaaIpQ
namespace Go.Proofs.Ytolebodpcefcfaa.ip
open Go.RowKit Go.Proofs.Ytolebodpcefcfaa.im Go.Proofs.Ytolebodpcefcfaa.nb
theorem lawBackI (a b p t s i : Nat) (d : Bool) (l : ByteArray) (bit cut : Int) (w : World) (h : Ok a b p t s i) (hm : l.size ≤ maxLen) (hb : 0 ≤ bit ∧ bit ≤ 255) (hc : 0 ≤ cut ∧ cut ≤ 65535) :
    Calls Try.prog 5 #[HV a b p t s i d, .string l, .int .u8 bit, .int .u16 cut] w fun e w' => e = .returned (.bool true) ∧ Up w w' := by
  obtain ⟨x, rfl⟩ := Int.eq_ofNat_of_zero_le hb.1
  obtain ⟨y, rfl⟩ := Int.eq_ofNat_of_zero_le hc.1
  exact lawBack a b p t s i d l x y w h hm (by omega) (by omega)
end Go.Proofs.Ytolebodpcefcfaa.ip
