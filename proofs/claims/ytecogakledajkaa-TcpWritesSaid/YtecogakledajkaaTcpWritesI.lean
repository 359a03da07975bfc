/- The law's contract, its arguments in their order, as Go's numbers. Condition: the arguments fit their kinds; EncC, DecC. -/
import Derived.Test.YtecogakledajkaaTcpG
import Derived.Test.YtecogakledajkaaTcpQ
namespace Go.Proofs.Ytecogakledajkaa.tc
open Go.RowKit Go.Shelf Go.Proofs.Ytecogakledajkaa.sm Go.Proofs.Ytecogakledajkaa.nb Go.Proofs.Ytecogakledajkaa.cm
set_option linter.unusedVariables false

theorem lawWritesI (hE : EncC) (hD : DecC) (x y : Int) (p q sq ak fl wi ur : Nat) (o d : ByteArray) (w : World) (hx : 0 ≤ x ∧ x ≤ 4294967295) (hy : 0 ≤ y ∧ y ≤ 4294967295) (h : Ok p q sq ak fl wi ur) (ho : o.size ≤ maxLen) (hd : d.size ≤ maxLen) :
    Calls Try.prog 3 #[.int .u32 x, .int .u32 y, HV p q sq ak fl wi ur o, .string d] w fun e w' => e = .returned (.bool true) ∧ Up w w' := by
  obtain ⟨x, rfl⟩ := Int.eq_ofNat_of_zero_le hx.1
  obtain ⟨y, rfl⟩ := Int.eq_ofNat_of_zero_le hy.1
  exact lawWrites hE hD x y p q sq ak fl wi ur o d w (by omega) (by omega) h ho hd
end Go.Proofs.Ytecogakledajkaa.tc
