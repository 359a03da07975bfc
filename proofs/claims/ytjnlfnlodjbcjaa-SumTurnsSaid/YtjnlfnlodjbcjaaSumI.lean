/- Package sum: what the document fixes is so. Condition: none. -/
import Derived.Test.YtjnlfnlodjbcjaaSumH
import Derived.Deep.RegionHeld3
namespace Go.Proofs.Ytjnlfnlodjbcjaa.su
open Go.RowKit Go.Shelf Go.Proofs.Ytjnlfnlodjbcjaa.sm
set_option linter.unusedVariables false

set_option maxRecDepth 100000 in
set_option maxHeartbeats 4000000 in
theorem aliveC (w : World) : Calls Try.prog 7 #[] w fun e w' => e = .returned (.bool true) ∧ Below w.heap.size w w' := by
  have u0 : Up w w := Below.refl _ _
  have x1 : ({ data := #[0, 1, 242, 3, 244, 245, 246, 247] } : ByteArray).extract 0 3 = { data := #[0, 1, 242] } := by decide
  have x2 : ({ data := #[0, 1, 242, 3, 244, 245, 246, 247] } : ByteArray).extract 3 8 = { data := #[3, 244, 245, 246, 247] } := by decide
  have x3 : ({ data := #[0, 1, 242, 3, 244, 245, 246, 247] } : ByteArray).extract 0 4 = { data := #[0, 1, 242, 3] } := by decide
  have x4 : ({ data := #[0, 1, 242, 3, 244, 245, 246, 247] } : ByteArray).extract 4 8 = { data := #[244, 245, 246, 247] } := by decide
  have v1 : ck (wsum [0, 1, 242, 3, 244, 245, 246, 247]) = 8717 := by decide
  have v2 : ck (wsum [1]) = 65279 := by decide
  have v3 : ck (wsum [0, 1, 242, 3, 244, 245, 246, 247, 34, 13]) = 0 := by decide
  have v4 : turn 56623 21845 12933 = 0 := by decide
  have v5 : ck (wsum [0, 1, 242, 3]) = 3579 := by decide
  have v6 : ck (wsum [244, 245, 246, 247]) = 5138 := by decide
  have v7 : ck 122353 = 8717 := by decide
  go_enter Try.func7, Try.ntmps7
  go_wp2
  go_region_held3 (fun _ => True) (trivial) (first
    | (go_at_call 8; (with_reducible refine (of1 ?_ _ w _ ?_ ?_ ?_).mono ?_); rotate_left 1; (· first | (simp [*]; done) | (simp [*]; rfl) | (rw [hc1 _ _ (by first | (simp; done) | (simp; omega))]; first | (simp [*]; done) | (simp [*]; rfl))); (· decide); (· (repeat (first | assumption | apply up_al | apply up_dr | apply up_drN))); rintro e w1 ⟨rfl, hu1, hc1, hz1⟩)
    | (go_at_call 8; (with_reducible refine (of2 ?_ ?_ _ w _ ?_ ?_ ?_ ?_ ?_).mono ?_); rotate_left 2; (· first | (simp [*]; done) | (simp [*]; rfl) | (rw [hc1 _ _ (by first | (simp; done) | (simp; omega))]; first | (simp [*]; done) | (simp [*]; rfl))); (· first | (simp [*]; done) | (simp [*]; rfl) | (rw [hc1 _ _ (by first | (simp; done) | (simp; omega))]; first | (simp [*]; done) | (simp [*]; rfl))); (· decide); (· decide); (· (repeat (first | assumption | apply up_al | apply up_dr | apply up_drN))); rintro e w1 ⟨rfl, hu1, hc1, hz1⟩)
    | (go_at_call 8; (with_reducible refine (of3 ?_ ?_ ?_ _ w _ ?_ ?_ ?_ ?_ ?_ ?_ ?_).mono ?_); rotate_left 3; (· first | (simp [*]; done) | (simp [*]; rfl) | (rw [hc1 _ _ (by first | (simp; done) | (simp; omega))]; first | (simp [*]; done) | (simp [*]; rfl))); (· first | (simp [*]; done) | (simp [*]; rfl) | (rw [hc1 _ _ (by first | (simp; done) | (simp; omega))]; first | (simp [*]; done) | (simp [*]; rfl))); (· first | (simp [*]; done) | (simp [*]; rfl) | (rw [hc1 _ _ (by first | (simp; done) | (simp; omega))]; first | (simp [*]; done) | (simp [*]; rfl))); (· decide); (· decide); (· decide); (· (repeat (first | assumption | apply up_al | apply up_dr | apply up_drN))); rintro e w1 ⟨rfl, hu1, hc1, hz1⟩)
    | (go_at_call 8; (with_reducible refine (of0  w _ _ _ ?_).mono ?_); (· (repeat (first | assumption | apply up_al | apply up_dr | apply up_drN))); rintro e w1 ⟨rfl, hu1, hc1, hz1⟩)
    | (go_at_call 10; (with_reducible refine (right1 ?_ _ w _ ?_ ?_ ?_).mono ?_); rotate_left 1; (· first | (simp [*]; done) | (simp [*]; rfl) | (rw [hc1 _ _ (by first | (simp; done) | (simp; omega))]; first | (simp [*]; done) | (simp [*]; rfl))); (· decide); (· (repeat (first | assumption | apply up_al | apply up_dr | apply up_drN))); rintro e w1 ⟨rfl, hu1, hc1, hz1⟩)
    | (go_at_call 10; (with_reducible refine (right2 ?_ ?_ _ w _ ?_ ?_ ?_ ?_ ?_).mono ?_); rotate_left 2; (· first | (simp [*]; done) | (simp [*]; rfl) | (rw [hc1 _ _ (by first | (simp; done) | (simp; omega))]; first | (simp [*]; done) | (simp [*]; rfl))); (· first | (simp [*]; done) | (simp [*]; rfl) | (rw [hc1 _ _ (by first | (simp; done) | (simp; omega))]; first | (simp [*]; done) | (simp [*]; rfl))); (· decide); (· decide); (· (repeat (first | assumption | apply up_al | apply up_dr | apply up_drN))); rintro e w1 ⟨rfl, hu1, hc1, hz1⟩)
    | (go_at_call 11; (with_reducible refine (join2  _ _ w _ ?_ ?_ ?_).mono ?_); (· omega); (· omega); (· (repeat (first | assumption | apply up_al | apply up_dr | apply up_drN))); rintro e w1 ⟨rfl, hu1, hc1, hz1⟩)
    | (go_at_call 13; (with_reducible refine (turn3  _ _ _ w _ ?_ ?_ ?_ ?_).mono ?_); (· omega); (· omega); (· omega); (· (repeat (first | assumption | apply up_al | apply up_dr | apply up_drN))); rintro e w1 ⟨rfl, hu1, hc1, hz1⟩)
    | (go_at_call 15; (with_reducible refine (turnsLit w _ ?_).mono ?_); (· (repeat (first | assumption | apply up_al | apply up_dr | apply up_drN))); rintro e w1 ⟨rfl, hu1, hc1, hz1⟩))
  all_goals
    go_wp2
    go_ret
    exact ⟨rfl, by assumption⟩
theorem aliveS (w0 w : World) (hu : Up w0 w) : Calls Try.prog 7 #[] w (Says w0 w (.bool true)) := says (aliveC w) hu
end Go.Proofs.Ytjnlfnlodjbcjaa.su
