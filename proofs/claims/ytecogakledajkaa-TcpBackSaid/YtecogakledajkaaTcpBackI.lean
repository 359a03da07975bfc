/- The law's contract, its arguments in their order, as Go's numbers. Condition: the arguments fit their kinds; EncC, DecC. -/
import Derived.Test.YtecogakledajkaaTcpL
import Derived.Test.YtecogakledajkaaTcpQ
namespace Go.Proofs.Ytecogakledajkaa.tc
open Go.RowKit Go.Shelf Go.Proofs.Ytecogakledajkaa.sm Go.Proofs.Ytecogakledajkaa.nb Go.Proofs.Ytecogakledajkaa.cm
set_option linter.unusedVariables false

theorem lawBackI (hE : EncC) (hD : DecC) (x y : Int) (p q sq ak fl wi ur : Nat) (o d : ByteArray) (bit other : Int) (w : World) (hx : 0 ≤ x ∧ x ≤ 4294967295) (hy : 0 ≤ y ∧ y ≤ 4294967295) (h : Ok p q sq ak fl wi ur) (ho : o.size ≤ maxLen) (hd : d.size ≤ maxLen) (hb : 0 ≤ bit ∧ bit ≤ 65535) (hc : 0 ≤ other ∧ other ≤ 255) :
    Calls Try.prog 5 #[.int .u32 x, .int .u32 y, HV p q sq ak fl wi ur o, .string d, .int .u16 bit, .int .u8 other] w fun e w' => e = .returned (.bool true) ∧ Up w w' := by
  obtain ⟨x, rfl⟩ := Int.eq_ofNat_of_zero_le hx.1
  obtain ⟨y, rfl⟩ := Int.eq_ofNat_of_zero_le hy.1
  obtain ⟨bit, rfl⟩ := Int.eq_ofNat_of_zero_le hb.1
  obtain ⟨other, rfl⟩ := Int.eq_ofNat_of_zero_le hc.1
  exact lawBack hE hD x y p q sq ak fl wi ur o d bit other w (by omega) (by omega) h hd ho (by omega) (by omega)
end Go.Proofs.Ytecogakledajkaa.tc
