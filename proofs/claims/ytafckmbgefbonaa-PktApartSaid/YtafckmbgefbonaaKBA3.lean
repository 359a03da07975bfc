/- B A: contracts, part 3. Condition: as each says. -/
import Derived.Test.YtafckmbgefbonaaKBHA38
import Derived.Test.YtafckmbgefbonaaKBA1
import Derived.Test.YtafckmbgefbonaaKBA2
set_option linter.unusedVariables false
set_option linter.unusedSimpArgs false
namespace Go.Proofs.Ytafckmbgefbonaa.pk
open Go.RowKit Go.Shelf Go.Lib Go.Proofs.Ytafckmbgefbonaa.sm Go.Proofs.Ytafckmbgefbonaa.nb Go.Proofs.Ytafckmbgefbonaa.pm
set_option linter.unusedVariables false

def TkV (t : Sg) (v : Value) (w : World) : Prop := SegV w v t
theorem TkV.st (t : Sg) : ∀ v w w', TkV t v w → Up w w' → TkV t v w' := fun _ _ _ h u => SegV.up h u
end Go.Proofs.Ytafckmbgefbonaa.pk
