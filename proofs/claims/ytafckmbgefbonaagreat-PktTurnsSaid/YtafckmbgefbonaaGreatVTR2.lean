/- T R: contracts, part 2. Condition: as each says. -/
import Derived.Test.YtafckmbgefbonaaGreatVTR1
import Derived.Test.YtafckmbgefbonaaGreatVTRW8
set_option linter.unusedVariables false
set_option linter.unusedSimpArgs false
set_option maxRecDepth 100000
set_option maxHeartbeats 8000000
namespace Go.Proofs.YtafckmbgefbonaaGreat.op
open RowKit Shelf Lib sm nb om

theorem refDecode (s : ByteArray) (w : World) (hs : s.size ≤ 1048576) :
  Calls Tryz.prog 40 #[.string s] w fun e_ w' => DecZ (L s) w e_ w' := (refDecodeN s w hs).mono fun _ _ h => h.z
end Go.Proofs.YtafckmbgefbonaaGreat.op
