/- What the laws of clocks hold on to: the program is alive. Condition: none. -/
import Derived.Test.YtebihfojebdfbaaClkC
namespace Go.Proofs.Ytebihfojebdfbaa.ck
open Go.RowKit Go.Shelf Go.Lib Go.Proofs.Ytebihfojebdfbaa.nb
set_option linter.unusedVariables false

set_option maxHeartbeats 4000000 in
set_option maxRecDepth 100000 in
theorem works (w : World) : Calls Try.prog 6 #[] w fun e w' => e = .returned (.bool true) ∧ Up w w' := by
  go_enter Try.func6, Try.ntmps6
  go_wp2_with (go_at_call 13; refine (goNew_t 5 _ (by decide)).mono ?_; rintro e w1 ⟨b, rfl, hb, hk, hu⟩)
  refine (goGo b 5 3 _ hk (by omega) (by unfold I64; omega)).mono ?_
  rintro e w2 ⟨rfl, hk2, hK2⟩
  rw [show (addV 5 3).2 = 0 from rfl]
  rw [show goV 5 3 = 8 from rfl] at hk2
  have hu2 := hK2.2 _ hu hb
  clear hk hu hK2
  go_wp2_with fail
  refine (goNow b 8 _ hk2).mono ?_
  rintro e w3 ⟨rfl, v3⟩
  have hk3 := hk2.up v3; have hu3 := hu2.on v3
  clear hk2 hu2 v3
  go_wp2_with fail
  refine (goLeft b 8 10 _ hk3 (by omega) (by unfold I64; omega)).mono ?_
  rintro e w4 ⟨rfl, v4⟩
  rw [show leftV 8 10 = 2 from rfl]
  have hk4 := hk3.up v4; have hu4 := hu3.on v4
  clear hk3 hu3 v4
  go_wp2_with fail
  refine (goGo b 8 (-1) _ hk4 (by omega) (by unfold I64; omega)).mono ?_
  rintro e w5 ⟨rfl, hk5, hK5⟩
  rw [show (addV 8 (-1)).2 = 2 from rfl]
  rw [show goV 8 (-1) = 8 from rfl] at hk5
  have hu5 := hK5.2 _ hu4 hb
  clear hk4 hu4 hK5
  go_wp2_with fail
  refine (goNow b 8 _ hk5).mono ?_
  rintro e w6 ⟨rfl, v6⟩
  have hk6 := hk5.up v6; have hu6 := hu5.on v6
  clear hk5 hu5 v6
  go_wp2_with fail
  have hR : RdI (w6.alloc (.cells #[.int .i64 9, .int .i64 (-1), .int .i64 4] 2)) (some ⟨w6.heap.size, 0, none⟩) [9, -1, 4] := fun _ => by
    have hB := Box.new w6 #[.int .i64 9, .int .i64 (-1), .int .i64 4] 2
    refine ⟨_, 0, rfl, hB.1, fun k hk => ?_⟩
    match k, hk with
    | 0, _ => exact hB.at 0 rfl
    | 1, _ => exact hB.at 1 rfl
    | 2, _ => exact hB.at 2 rfl
  refine (goLeast _ 3 3 [9, -1, 4] _ hR rfl (by unfold maxLen; omega)).mono ?_
  rintro e w7 ⟨rfl, v7⟩
  rw [show leastV [9, -1, 4] = 4 from by decide]
  have hu7 := (up_al (.cells #[.int .i64 9, .int .i64 (-1), .int .i64 4] 2) hu6).on v7
  clear hk6 hu6 v7 hR
  go_wp2
  go_ret
  exact ⟨rfl, hu7⟩
end Go.Proofs.Ytebihfojebdfbaa.ck
