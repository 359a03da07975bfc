/- T R W: contracts, part 25. Condition: as each says. -/
import Derived.Test.YtafckmbgefbonaaGreatVTRW4
import Derived.Test.YtafckmbgefbonaaGreatVTRW24
set_option linter.unusedVariables false
set_option linter.unusedSimpArgs false
set_option maxRecDepth 100000
set_option maxHeartbeats 8000000
namespace Go.Proofs.YtafckmbgefbonaaGreat.ip
open RowKit Shelf sm nb im

theorem refOfT (l : List UInt8) (w : World) (h : l.length ≤ 1099511627776) :
  Calls Tryz.prog 64 #[.string (tx l)] w fun e w' => e = .returned (.int .u16 (ck (wsum l))) ∧ w = w' := by
 have := su.refOf (tx l) w (by rw [tx_size]; exact h)
 rwa [L_tx] at this
end Go.Proofs.YtafckmbgefbonaaGreat.ip
