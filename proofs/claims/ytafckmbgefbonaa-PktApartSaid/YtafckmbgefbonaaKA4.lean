/- A: contracts, part 4. Condition: as each says. -/
import Derived.Test.YtafckmbgefbonaaKA3
set_option linter.unusedVariables false
set_option linter.unusedSimpArgs false
namespace Go.Proofs.Ytafckmbgefbonaa.pk
open Go.RowKit Go.Shelf Go.Lib Go.Proofs.Ytafckmbgefbonaa.sm Go.Proofs.Ytafckmbgefbonaa.nb Go.Proofs.Ytafckmbgefbonaa.pm
set_option linter.unusedVariables false

theorem lawApartI (g : Sg) (A : Option Addr) (n c : Nat) (h : Sg) (A2 : Option Addr) (n2 c2 : Nat) (a p b q y z v e : Nat) (up dn : Int) (w : World) (hg : SegX w g A n) (hh : SegX w h A2 n2) (hX : WfX ⟨a, b, p, q, y, z, v, e, up, dn⟩) (hup : -9223372036854775808 ≤ up ∧ up ≤ 9223372036854775807) (hdn : -9223372036854775808 ≤ dn ∧ dn ≤ 9223372036854775807) :
    Calls Try.prog 5 #[SGV g A n c, SGV h A2 n2 c2, SHV a p b q y z v e up dn] w fun e_ w' => e_ = .returned (.bool true) ∧ Up w w' :=
  lawApart g A n c h A2 n2 c2 a p b q y z v e up dn w hg hh hX
end Go.Proofs.Ytafckmbgefbonaa.pk
