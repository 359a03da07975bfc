/- T R W: contracts, part 37. Condition: as each says. -/
import Derived.Test.YtafckmbgefbonaaGreatVTRW35
import Derived.Test.YtafckmbgefbonaaGreatVTRW36
set_option linter.unusedVariables false
set_option linter.unusedSimpArgs false
set_option maxRecDepth 100000
set_option maxHeartbeats 8000000
namespace Go.Proofs.YtafckmbgefbonaaGreat.pk
open RowKit Shelf Lib sm nb pm

theorem refSameV {x x' : Value} {g g' : Sg} (w : World) (h : SegV w x g) (h' : SegV w x' g') (hm : g.op.bl.length ≤ maxLen) : Calls Tryz.prog 13 #[x, x'] w fun e_ w' => e_ = .returned (.bool (sameS g g')) ∧ Up w w' := by
 obtain ⟨A, n, c, rfl, hn, hr⟩ := h
 obtain ⟨A', n', c', rfl, hn', hr'⟩ := h'
 obtain ⟨a, b, p, q, y, z, f, i, ⟨m, s, k, bl, t, v, e⟩, D⟩ := g
 obtain ⟨a', b', p', q', y', z', f', i', ⟨m', s', k', bl', t', v', e'⟩, D'⟩ := g'
 have := refSame a p b q y z f i m s k A n c t v e (tx D) bl a' p' b' q' y' z' f' i' m' s' k' A' n' c' t' v' e' (tx D') bl' w hr hr' hn hn' (by rw [← hn]; exact hm)
 rw [L_tx, L_tx] at this
 exact this
end Go.Proofs.YtafckmbgefbonaaGreat.pk
