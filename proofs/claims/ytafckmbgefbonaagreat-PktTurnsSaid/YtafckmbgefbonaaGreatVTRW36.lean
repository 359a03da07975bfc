/- T R W: contracts, part 36. Condition: as each says. -/
import Derived.Test.YtafckmbgefbonaaGreatVTRW15
import Derived.Test.YtafckmbgefbonaaGreatVTRW27
import Derived.Carry
import Derived.OpenShut
import Derived.Deep.Slices
import Derived.Deep.Fields
import Derived.ChangeSame
import Derived.Lib.SmallJoins
set_option linter.unusedVariables false
set_option linter.unusedSimpArgs false
set_option maxRecDepth 100000
set_option maxHeartbeats 8000000
namespace Go.Proofs.YtafckmbgefbonaaGreat.pk
open ChangeShapes WideShapes ChangeAt Deep Joins RowKit om nb pm

section
variable {H : Type} {enc : TypeId × Value → H} {W : World} {sp : Nat → Bool} {held : Bool} {fuel : Nat}
end
structure SegX (W : World) (g : Sg) (A : Option Addr) (n : Nat) : Prop where
 wf : WfS g
 sc : -9223372036854775808 ≤ g.op.sc ∧ g.op.sc ≤ 9223372036854775807
 len : g.op.bl.length = n
 rd : op.RdB W A g.op.bl
 max : n ≤ maxLen
 dt : g.dt.length ≤ maxLen
theorem SegX.up {W W' : World} {g : Sg} {A : Option Addr} {n : Nat} (h : SegX W g A n) (u : Up W W') : SegX W' g A n := ⟨h.wf, h.sc, h.len, h.rd.up u, h.max, h.dt⟩
end Go.Proofs.YtafckmbgefbonaaGreat.pk
