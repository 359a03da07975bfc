/- Package tuple: the way back, the order of pairs. Condition: none. -/
import Derived.Test.YtolebodpcefcfaaDoorTupD
import Derived.Deep.RegionHeld3
import Derived.Deep.RegionWith
namespace Go.Proofs.YtolebodpcefcfaaDoor.tu
open Go.RowKit Go.Shelf Go.Proofs.YtolebodpcefcfaaDoor.tm
set_option linter.unusedVariables false

/-- two numbers' order -/
def lt3 (x y : Nat) : Int := if x < y then -1 else if y < x then 1 else 0
theorem lt3_lt {x y : Nat} (h : x < y) : lt3 x y = -1 := if_pos h
theorem lt3_gt {x y : Nat} (h : y < x) : lt3 x y = 1 := by unfold lt3; rw [if_neg (by omega), if_pos h]
theorem lt3_eq {x y : Nat} (h : x = y) : lt3 x y = 0 := by unfold lt3; rw [if_neg (by omega), if_neg (by omega)]
def or4 (x y z v : Int) : Int := if x ≠ 0 then x else if y ≠ 0 then y else if z ≠ 0 then z else v
/-- two pairs' order -/
def cmpP (a b c d a' b' c' d' : Nat) : Int := or4 (lt3 a a') (lt3 b b') (lt3 c c') (lt3 d d')

theorem cmp32 (x y : Nat) (w : World) : Calls Tryd.prog 30 #[.int .u32 x, .int .u32 y] w fun e w' => e = .returned (.int .i64 (lt3 x y)) ∧ w = w' := by
  rcases Nat.lt_trichotomy x y with h | h | h
  · have H := Lib.hid (lt3_lt h)
    go_enter Tryd.func30, Tryd.ntmps30
    go_wp2
    go_ret
    exact ⟨by rw [H.out]; rfl, rfl⟩
  · have H := Lib.hid (lt3_eq h)
    subst h
    go_enter Tryd.func30, Tryd.ntmps30
    go_wp2
    go_ret
    exact ⟨by rw [H.out]; rfl, rfl⟩
  · have H := Lib.hid (lt3_gt h)
    have h' : ¬ x < y := by omega
    go_enter Tryd.func30, Tryd.ntmps30
    go_wp2
    go_ret
    exact ⟨by rw [H.out]; rfl, rfl⟩
theorem cmp16 (x y : Nat) (w : World) : Calls Tryd.prog 31 #[.int .u16 x, .int .u16 y] w fun e w' => e = .returned (.int .i64 (lt3 x y)) ∧ w = w' := by
  rcases Nat.lt_trichotomy x y with h | h | h
  · have H := Lib.hid (lt3_lt h)
    go_enter Tryd.func31, Tryd.ntmps31
    go_wp2
    go_ret
    exact ⟨by rw [H.out]; rfl, rfl⟩
  · have H := Lib.hid (lt3_eq h)
    subst h
    go_enter Tryd.func31, Tryd.ntmps31
    go_wp2
    go_ret
    exact ⟨by rw [H.out]; rfl, rfl⟩
  · have H := Lib.hid (lt3_gt h)
    have h' : ¬ x < y := by omega
    go_enter Tryd.func31, Tryd.ntmps31
    go_wp2
    go_ret
    exact ⟨by rw [H.out]; rfl, rfl⟩

theorem results_cell1 {fn : Func} {p : Tmp} {ty : TypeId} (h : fn.results = #[.cell p ty]) (tmps : Array Value) (P : Program) (w : World) :
    (results fn tmps).run P w = ((asAddr (tmps.getD p undef)).run P w).andThen fun a w₁ => ((loadVar ty a).run P w₁).andThen fun v w₂ => .ok v w₂ := by
  simp only [results, h]
  simp [Sem.run_bind, Result.andThen]
  cases (Sem.run P (asAddr (tmps[p]?.getD undef)) w) with
  | ok a w1 => cases h2 : (Sem.run P (loadVar ty a) w1) <;> simp [h2]
  | halt h w1 => rfl
abbrev Pair (a b c d : Nat) : Value := .agg #[.int .u32 (a : Nat), .int .u16 (b : Nat), .int .u32 (c : Nat), .int .u16 (d : Nat)]
theorem turnedC (a b c d : Nat) (w : World) : Calls Tryd.prog 16 #[Pair a b c d] w fun e w' => e = .returned (Pair c d a b) ∧ Up w w' := by
  go_enter Tryd.func16, Tryd.ntmps16
  go_wp2
  (try simp only [Exit.inBlock, Exit.then])
  refine bodyPost_ret (v := Pair c d a b) ?_ rfl ⟨rfl, up_al _ (up_al _ (Below.refl _ _))⟩
  rw [results_cell1 rfl]; go_simp
theorem orC (b : Nat) (x y z v : Int) (w : World) (h0 : w.cell? ⟨b, 0, none⟩ = some (.int .i64 x)) (h1 : w.cell? ⟨b, 1, none⟩ = some (.int .i64 y)) (h2 : w.cell? ⟨b, 2, none⟩ = some (.int .i64 z)) (h3 : w.cell? ⟨b, 3, none⟩ = some (.int .i64 v)) :
    Calls Tryd.prog 29 #[.slice (some ⟨b, 0, none⟩) 4 4] w fun e w' => e = .returned (.int .i64 (or4 x y z v)) ∧ w = w' := by
  go_enter Tryd.func29, Tryd.ntmps29
  go_wp2
  go_loop [8] (fun i => ∃ k : Nat, k ≤ 4 ∧ i = .int .i64 (k : Nat) ∧ Hid ((0 < k → x = 0) ∧ (1 < k → y = 0) ∧ (2 < k → z = 0) ∧ (3 < k → v = 0))) (fun i => (4 - intOf i).toNat)
  case atStart => exact ⟨0, by omega, rfl, by unfold Hid; omega⟩
  case round =>
    obtain ⟨k, hk, rfl, hz⟩ := hrel
    rcases (by omega : k = 0 ∨ k = 1 ∨ k = 2 ∨ k = 3 ∨ k = 4) with rfl | rfl | rfl | rfl | rfl
    · by_cases hx : x = 0
      · have hx' : (x == 0) = true := by simpa using hx
        have HX := Lib.hid hx; clear hx
        go_wp2
        go_round
        case rel => exact ⟨1, by omega, by go_num, by have := hz.out; have := HX.out; unfold Hid; omega⟩
        case measure => simp [intOf]
      · have hx' : (x == 0) = false := by simpa using hx
        have HX := Lib.hid hx; clear hx
        have HE : Hid (or4 x y z v = x) := by have h1 := hz.out; have h2 := HX.out; unfold Hid or4; (repeat' split) <;> omega
        go_wp2
        go_ret
        exact ⟨by rw [HE.out]; rfl, rfl⟩
    · by_cases hx : y = 0
      · have hx' : (y == 0) = true := by simpa using hx
        have HX := Lib.hid hx; clear hx
        go_wp2
        go_round
        case rel => exact ⟨2, by omega, by go_num, by have := hz.out; have := HX.out; unfold Hid; omega⟩
        case measure => simp [intOf]
      · have hx' : (y == 0) = false := by simpa using hx
        have HX := Lib.hid hx; clear hx
        have HE : Hid (or4 x y z v = y) := by have h1 := hz.out; have h2 := HX.out; unfold Hid or4; (repeat' split) <;> omega
        go_wp2
        go_ret
        exact ⟨by rw [HE.out]; rfl, rfl⟩
    · by_cases hx : z = 0
      · have hx' : (z == 0) = true := by simpa using hx
        have HX := Lib.hid hx; clear hx
        go_wp2
        go_round
        case rel => exact ⟨3, by omega, by go_num, by have := hz.out; have := HX.out; unfold Hid; omega⟩
        case measure => simp [intOf]
      · have hx' : (z == 0) = false := by simpa using hx
        have HX := Lib.hid hx; clear hx
        have HE : Hid (or4 x y z v = z) := by have h1 := hz.out; have h2 := HX.out; unfold Hid or4; (repeat' split) <;> omega
        go_wp2
        go_ret
        exact ⟨by rw [HE.out]; rfl, rfl⟩
    · by_cases hx : v = 0
      · have hx' : (v == 0) = true := by simpa using hx
        have HX := Lib.hid hx; clear hx
        go_wp2
        go_round
        case rel => exact ⟨4, by omega, by go_num, by have := hz.out; have := HX.out; unfold Hid; omega⟩
        case measure => simp [intOf]
      · have hx' : (v == 0) = false := by simpa using hx
        have HX := Lib.hid hx; clear hx
        have HE : Hid (or4 x y z v = v) := by have h1 := hz.out; have h2 := HX.out; unfold Hid or4; (repeat' split) <;> omega
        go_wp2
        go_ret
        exact ⟨by rw [HE.out]; rfl, rfl⟩
    · have HE : Hid (or4 x y z v = 0) := by have h1 := hz.out; unfold Hid or4; (repeat' split) <;> omega
      go_wp2
      go_ret
      exact ⟨by rw [HE.out]; rfl, rfl⟩

/-- a pair that lies in a block of its own -/
def Box2 (W : World) (q : Nat) (a b c d : Int) : Prop :=
  W.cell? ⟨q, 0, none⟩ = some (.int .u32 a) ∧ W.cell? ⟨q, 1, none⟩ = some (.int .u16 b) ∧ W.cell? ⟨q, 2, none⟩ = some (.int .u32 c) ∧ W.cell? ⟨q, 3, none⟩ = some (.int .u16 d) ∧ q < W.heap.size
theorem Box2.below {W W' : World} {q B : Nat} {a b c d : Int} (h : Box2 W q a b c d) (hb : Below B W W') (hB : q < B) : Box2 W' q a b c d :=
  ⟨(hb.cell (p := ⟨q, 0, none⟩) hB).trans h.1, (hb.cell (p := ⟨q, 1, none⟩) hB).trans h.2.1, (hb.cell (p := ⟨q, 2, none⟩) hB).trans h.2.2.1, (hb.cell (p := ⟨q, 3, none⟩) hB).trans h.2.2.2.1, Nat.lt_of_lt_of_le h.2.2.2.2 hb.size⟩
theorem Box2.up {W W' : World} {q : Nat} {a b c d : Int} (h : Box2 W q a b c d) (hb : Up W W') : Box2 W' q a b c d := h.below hb h.2.2.2.2
theorem Box2.new (W : World) (a b c d : Int) : Box2 (W.alloc (.cells #[.int .u32 a, .int .u16 b, .int .u32 c, .int .u16 d] 27)) W.heap.size a b c d := by
  refine ⟨by simp, by simp, by simp, by simp, by simp⟩
theorem Box2.alloc {W : World} {q : Nat} {a b c d : Int} (h : Box2 W q a b c d) (o : Obj) : Box2 (W.alloc o) q a b c d := h.up (up_al o (Below.refl _ _))

set_option maxHeartbeats 4000000 in
set_option maxRecDepth 100000 in
theorem compareC (a b c d a' b' c' d' : Nat) (w : World) : Calls Tryd.prog 14 #[Pair a b c d, Pair a' b' c' d'] w fun e w' => e = .returned (.int .i64 (cmpP a b c d a' b' c' d')) ∧ Up w w' := by
  go_enter Tryd.func14, Tryd.ntmps14
  go_upto_region 1 with fail
  have X1 := (Box2.new w a b c d).alloc (.cells #[.int .u32 (a' : Int), .int .u16 (b' : Int), .int .u32 (c' : Int), .int .u16 (d' : Int)] 27)
  have X2 := Box2.new (w.alloc (.cells #[.int .u32 a, .int .u16 b, .int .u32 c, .int .u16 d] 27)) a' b' c' d'
  have hu : Up w ((w.alloc (.cells #[.int .u32 a, .int .u16 b, .int .u32 c, .int .u16 d] 27)).alloc (.cells #[.int .u32 (a' : Int), .int .u16 (b' : Int), .int .u32 (c' : Int), .int .u16 (d' : Int)] 27)) := up_al _ (up_al _ (Below.refl _ _))
  rw [show (w.alloc (.cells #[.int .u32 a, .int .u16 b, .int .u32 c, .int .u16 d] 27)).heap.size = w.heap.size + 1 by simp] at X2
  generalize ((w.alloc (.cells #[.int .u32 a, .int .u16 b, .int .u32 c, .int .u16 d] 27)).alloc (.cells #[.int .u32 (a' : Int), .int .u16 (b' : Int), .int .u32 (c' : Int), .int .u16 (d' : Int)] 27)) = w0 at X1 X2 hu ⊢
  obtain ⟨k0, k1, k2, k3, kz⟩ := X1
  obtain ⟨l0, l1, l2, l3, lz⟩ := X2
  have U0 : Up w0 w0 := Below.refl _ _
  go_region_held3 (fun w' => w'.cell? ⟨w.heap.size, 0, none⟩ = some (.int .u32 a) ∧ w'.cell? ⟨w.heap.size, 1, none⟩ = some (.int .u16 b) ∧ w'.cell? ⟨w.heap.size, 2, none⟩ = some (.int .u32 c) ∧ w'.cell? ⟨w.heap.size, 3, none⟩ = some (.int .u16 d) ∧ w'.cell? ⟨w.heap.size + 1, 0, none⟩ = some (.int .u32 a') ∧ w'.cell? ⟨w.heap.size + 1, 1, none⟩ = some (.int .u16 b') ∧ w'.cell? ⟨w.heap.size + 1, 2, none⟩ = some (.int .u32 c') ∧ w'.cell? ⟨w.heap.size + 1, 3, none⟩ = some (.int .u16 d'))
    (first | exact ⟨k0, k1, k2, k3, l0, l1, l2, l3⟩ | exact ⟨(Below.cell (B := w0.heap.size) (w := w0) (p := ⟨w.heap.size, 0, none⟩) (by repeat (first | assumption | apply up_al | apply up_dr | apply up_drN)) kz).trans k0, (Below.cell (B := w0.heap.size) (w := w0) (p := ⟨w.heap.size, 1, none⟩) (by repeat (first | assumption | apply up_al | apply up_dr | apply up_drN)) kz).trans k1, (Below.cell (B := w0.heap.size) (w := w0) (p := ⟨w.heap.size, 2, none⟩) (by repeat (first | assumption | apply up_al | apply up_dr | apply up_drN)) kz).trans k2, (Below.cell (B := w0.heap.size) (w := w0) (p := ⟨w.heap.size, 3, none⟩) (by repeat (first | assumption | apply up_al | apply up_dr | apply up_drN)) kz).trans k3, (Below.cell (B := w0.heap.size) (w := w0) (p := ⟨w.heap.size + 1, 0, none⟩) (by repeat (first | assumption | apply up_al | apply up_dr | apply up_drN)) lz).trans l0, (Below.cell (B := w0.heap.size) (w := w0) (p := ⟨w.heap.size + 1, 1, none⟩) (by repeat (first | assumption | apply up_al | apply up_dr | apply up_drN)) lz).trans l1, (Below.cell (B := w0.heap.size) (w := w0) (p := ⟨w.heap.size + 1, 2, none⟩) (by repeat (first | assumption | apply up_al | apply up_dr | apply up_drN)) lz).trans l2, (Below.cell (B := w0.heap.size) (w := w0) (p := ⟨w.heap.size + 1, 3, none⟩) (by repeat (first | assumption | apply up_al | apply up_dr | apply up_drN)) lz).trans l3⟩)
    (first
    | (go_at_call 30; refine (cmp32 _ _ _).mono ?_; rintro e w1 ⟨rfl, rfl⟩)
    | (go_at_call 31; refine (cmp16 _ _ _).mono ?_; rintro e w1 ⟨rfl, rfl⟩)
    | (go_at_call 29; refine (orC _ (lt3 a a') (lt3 b b') (lt3 c c') (lt3 d d') _ ?_ ?_ ?_ ?_).mono ?_; (· first | (simp; done) | simp [*]); (· first | (simp; done) | simp [*]); (· first | (simp; done) | simp [*]); (· first | (simp; done) | simp [*]); rintro e w1 ⟨rfl, rfl⟩))
  all_goals go_wp2
  all_goals go_ret
  all_goals exact ⟨rfl, by repeat (first | assumption | apply up_al | apply up_dr | apply up_drN)⟩
end Go.Proofs.YtolebodpcefcfaaDoor.tu
