/- T W: contracts, part 1. Condition: as each says. -/
import Derived.Test.YtafckmbgefbonaaGreatVTRW35
set_option linter.unusedVariables false
set_option linter.unusedSimpArgs false
set_option maxRecDepth 100000
set_option maxHeartbeats 8000000
namespace Go.Proofs.YtafckmbgefbonaaGreat.pk
open RowKit Shelf Lib sm nb pm

def heavy (g : Sg) : Bool := decide (4096 < g.dt.length) || decide (100 < g.op.bl.length)
theorem heavyV {x : Value} {g : Sg} (w : World) (h : SegV w x g) : Calls Tryz.prog 6 #[x] w fun e_ w' => e_ = .returned (.bool (heavy g)) ∧ Up w w' := by
 obtain ⟨A, n, c, rfl, hn, hr⟩ := h
 obtain ⟨a, b, p, q, y, z, f, i, ⟨m, s, k, bl, t, v, e⟩, D⟩ := g
 have HH := Lib.hid (show heavy ⟨a, b, p, q, y, z, f, i, ⟨m, s, k, bl, t, v, e⟩, D⟩ = (decide (4096 < (tx D).size) || decide (100 < n)) by rw [tx_size, ← hn]; rfl)
 dsimp only
 generalize heavy _ = r at HH ⊢
 generalize tx D = S at HH ⊢
 clear hn hr
 go_enter Tryz.func6, Tryz.ntmps6
 go_upto_region 1 with fail
 have hA := Box.new w #[.int .u32 a, .int .u16 p, .int .u32 b, .int .u16 q, .int .u32 y, .int .u32 z, .int .u8 f, .int .u16 i, .int .u16 m, .int .i64 s, .bool k, .slice A n c, .bool t, .int .u32 v, .int .u32 e, .string S] 30
 have hu : Up w (w.alloc (.cells #[.int .u32 a, .int .u16 p, .int .u32 b, .int .u16 q, .int .u32 y, .int .u32 z, .int .u8 f, .int .u16 i, .int .u16 m, .int .i64 s, .bool k, .slice A n c, .bool t, .int .u32 v, .int .u32 e, .string S] 30)) := up_al _ bR
 generalize World.alloc w _ = w0 at hA hu ⊢
 generalize w.heap.size = n0 at hA ⊢
 have k15 := hA.at 15 rfl
 have k11 := hA.at 11 rfl
 by_cases c0 : 4096 < S.size
 ·have c1 : (4096 : Int) < (S.size : Int) := by omega
  go_wp2
  go_ret
  exact ⟨ret_bool (by rw [HH.out, decide_eq_true c0]; rfl), hu⟩
 ·have c1 : ¬ (4096 : Int) < (S.size : Int) := by omega
  by_cases c2 : 100 < n
  ·have c3 : (100 : Int) < (n : Int) := by omega
   go_wp2
   go_ret
   exact ⟨ret_bool (by rw [HH.out, decide_eq_false c0, decide_eq_true c2]; simp), hu⟩
  ·have c3 : ¬ (100 : Int) < (n : Int) := by omega
   go_wp2
   go_ret
   exact ⟨ret_bool (by rw [HH.out, decide_eq_false c0, decide_eq_false c2]; simp), hu⟩

/-! ### a small segment -/
end Go.Proofs.YtafckmbgefbonaaGreat.pk
