/- The document's answer for tuple: the order of pairs. Condition: none. -/
import Derived.Test.YtolebodpcefcfaaDoorTupJ
import Derived.Deep.QuietTactic
namespace Go.Proofs.YtolebodpcefcfaaDoor.tu
open Go.RowKit Go.Shelf Go.Proofs.YtolebodpcefcfaaDoor.tm
set_option linter.unusedVariables false

def orX (x y : Nat → Nat) : Int := or4 (lt3 (x 0) (y 0)) (lt3 (x 1) (y 1)) (lt3 (x 2) (y 2)) (lt3 (x 3) (y 3))
theorem cmp_lt {x y : Nat → Nat} {k : Nat} (hk : k < 4) (h : ∀ j, j < k → x j = y j) (hl : x k < y k) : orX x y = -1 := by
  unfold orX
  rcases (by omega : k = 0 ∨ k = 1 ∨ k = 2 ∨ k = 3) with rfl | rfl | rfl | rfl
  · rw [lt3_lt hl]; rfl
  · rw [lt3_eq (h 0 (by omega)), lt3_lt hl]; rfl
  · rw [lt3_eq (h 0 (by omega)), lt3_eq (h 1 (by omega)), lt3_lt hl]; rfl
  · rw [lt3_eq (h 0 (by omega)), lt3_eq (h 1 (by omega)), lt3_eq (h 2 (by omega)), lt3_lt hl]; rfl
theorem cmp_gt {x y : Nat → Nat} {k : Nat} (hk : k < 4) (h : ∀ j, j < k → x j = y j) (hl : y k < x k) : orX x y = 1 := by
  unfold orX
  rcases (by omega : k = 0 ∨ k = 1 ∨ k = 2 ∨ k = 3) with rfl | rfl | rfl | rfl
  · rw [lt3_gt hl]; rfl
  · rw [lt3_eq (h 0 (by omega)), lt3_gt hl]; rfl
  · rw [lt3_eq (h 0 (by omega)), lt3_eq (h 1 (by omega)), lt3_gt hl]; rfl
  · rw [lt3_eq (h 0 (by omega)), lt3_eq (h 1 (by omega)), lt3_eq (h 2 (by omega)), lt3_gt hl]; rfl
theorem cmp_eq {x y : Nat → Nat} (h : ∀ j, j < 4 → x j = y j) : orX x y = 0 := by
  unfold orX
  rw [lt3_eq (h 0 (by omega)), lt3_eq (h 1 (by omega)), lt3_eq (h 2 (by omega)), lt3_eq (h 3 (by omega))]; rfl
theorem eq_next {x y : Nat → Nat} {k : Nat} (h : ∀ j, j < k → x j = y j) (hk : x k = y k) : ∀ j, j < k + 1 → x j = y j := fun j hj => by
  rcases Nat.lt_or_ge j k with h1 | h1
  · exact h j h1
  · obtain rfl : j = k := by omega
    exact hk
def four (a b c d : Nat) (j : Nat) : Nat := match j with | 0 => a | 1 => b | 2 => c | _ => d
theorem row4 (W : World) (a b c d k : Nat) (hk : k < 4) : (W.alloc (.cells #[.int .u64 (a : Nat), .int .u64 (b : Nat), .int .u64 (c : Nat), .int .u64 (d : Nat)] 50)).cell? ⟨W.heap.size, k, none⟩ = some (.int .u64 (four a b c d k : Nat)) := by
  rw [World.cell?_alloc_new]
  rcases (by omega : k = 0 ∨ k = 1 ∨ k = 2 ∨ k = 3) with rfl | rfl | rfl | rfl <;> rfl
set_option maxHeartbeats 4000000 in
set_option maxRecDepth 100000 in
theorem refCompare (a b c d a' b' c' d' : Nat) (w : World) (ha : a < 4294967296) (hb : b < 65536) (hc : c < 4294967296) (hd : d < 65536) (ha' : a' < 4294967296) (hb' : b' < 65536) (hc' : c' < 4294967296) (hd' : d' < 65536) :
    Calls Tryd.prog 15 #[Pair a b c d, Pair a' b' c' d'] w fun e w' => e = .returned (.int .i64 (cmpP a b c d a' b' c' d')) ∧ Up w w' := by
  go_enter Tryd.func15, Tryd.ntmps15
  go_upto_region 1 with fail
  have X1 := (Box2.new w a b c d).alloc (.cells #[.int .u32 (a' : Int), .int .u16 (b' : Int), .int .u32 (c' : Int), .int .u16 (d' : Int)] 27)
  have X2 := Box2.new (w.alloc (.cells #[.int .u32 a, .int .u16 b, .int .u32 c, .int .u16 d] 27)) a' b' c' d'
  have hu : Up w ((w.alloc (.cells #[.int .u32 a, .int .u16 b, .int .u32 c, .int .u16 d] 27)).alloc (.cells #[.int .u32 (a' : Int), .int .u16 (b' : Int), .int .u32 (c' : Int), .int .u16 (d' : Int)] 27)) := up_al _ (up_al _ (Below.refl _ _))
  rw [show (w.alloc (.cells #[.int .u32 a, .int .u16 b, .int .u32 c, .int .u16 d] 27)).heap.size = w.heap.size + 1 by simp] at X2
  generalize ((w.alloc (.cells #[.int .u32 a, .int .u16 b, .int .u32 c, .int .u16 d] 27)).alloc (.cells #[.int .u32 (a' : Int), .int .u16 (b' : Int), .int .u32 (c' : Int), .int .u16 (d' : Int)] 27)) = w0 at X1 X2 hu ⊢
  obtain ⟨k0, k1, k2, k3, kz⟩ := X1
  obtain ⟨l0, l1, l2, l3, lz⟩ := X2
  go_upto_region 3 with fail
  have hx : ∀ k, k < 4 → ((w0.alloc (.cells #[.int .u64 (a : Nat), .int .u64 (b : Nat), .int .u64 (c : Nat), .int .u64 (d : Nat)] 50)).alloc (.cells #[.int .u64 (a' : Nat), .int .u64 (b' : Nat), .int .u64 (c' : Nat), .int .u64 (d' : Nat)] 50)).cell? ⟨w0.heap.size, k, none⟩ = some (.int .u64 (four a b c d k : Nat)) := fun k hk =>
    (Below.cell (B := w0.heap.size + 1) (w := w0.alloc (.cells #[.int .u64 (a : Nat), .int .u64 (b : Nat), .int .u64 (c : Nat), .int .u64 (d : Nat)] 50)) (p := ⟨w0.heap.size, k, none⟩) ((Below.refl _ _).alloc (by simp) _) (Nat.lt_succ_self _)).trans (row4 w0 a b c d k hk)
  have hy : ∀ k, k < 4 → ((w0.alloc (.cells #[.int .u64 (a : Nat), .int .u64 (b : Nat), .int .u64 (c : Nat), .int .u64 (d : Nat)] 50)).alloc (.cells #[.int .u64 (a' : Nat), .int .u64 (b' : Nat), .int .u64 (c' : Nat), .int .u64 (d' : Nat)] 50)).cell? ⟨w0.heap.size + 1, k, none⟩ = some (.int .u64 (four a' b' c' d' k : Nat)) := fun k hk => by
    have := row4 (w0.alloc (.cells #[.int .u64 (a : Nat), .int .u64 (b : Nat), .int .u64 (c : Nat), .int .u64 (d : Nat)] 50)) a' b' c' d' k hk
    rw [show (w0.alloc (.cells #[.int .u64 (a : Nat), .int .u64 (b : Nat), .int .u64 (c : Nat), .int .u64 (d : Nat)] 50)).heap.size = w0.heap.size + 1 by simp] at this
    exact this
  have hu3 : Up w ((w0.alloc (.cells #[.int .u64 (a : Nat), .int .u64 (b : Nat), .int .u64 (c : Nat), .int .u64 (d : Nat)] 50)).alloc (.cells #[.int .u64 (a' : Nat), .int .u64 (b' : Nat), .int .u64 (c' : Nat), .int .u64 (d' : Nat)] 50)) := up_al _ (up_al _ hu)
  have hs3 : w0.heap.size + 1 < ((w0.alloc (.cells #[.int .u64 (a : Nat), .int .u64 (b : Nat), .int .u64 (c : Nat), .int .u64 (d : Nat)] 50)).alloc (.cells #[.int .u64 (a' : Nat), .int .u64 (b' : Nat), .int .u64 (c' : Nat), .int .u64 (d' : Nat)] 50)).heap.size := by simp
  generalize ((w0.alloc (.cells #[.int .u64 (a : Nat), .int .u64 (b : Nat), .int .u64 (c : Nat), .int .u64 (d : Nat)] 50)).alloc (.cells #[.int .u64 (a' : Nat), .int .u64 (b' : Nat), .int .u64 (c' : Nat), .int .u64 (d' : Nat)] 50)) = w3 at hx hy hu3 hs3 ⊢
  clear k0 k1 k2 k3 kz l0 l1 l2 l3 lz hu
  have hx4 : ∀ k, k < 4 → four a b c d k < 4294967296 := fun k hk => by
    rcases (by omega : k = 0 ∨ k = 1 ∨ k = 2 ∨ k = 3) with rfl | rfl | rfl | rfl <;> simp only [four] <;> omega
  have hy4 : ∀ k, k < 4 → four a' b' c' d' k < 4294967296 := fun k hk => by
    rcases (by omega : k = 0 ∨ k = 1 ∨ k = 2 ∨ k = 3) with rfl | rfl | rfl | rfl <;> simp only [four] <;> omega
  have HE := Lib.hid (show cmpP a b c d a' b' c' d' = orX (four a b c d) (four a' b' c' d') from rfl)
  generalize four a b c d = x at hx hx4 HE
  generalize four a' b' c' d' = y at hy hy4 HE
  have HX := Lib.hid hx; have HY := Lib.hid hy; have HX4 := Lib.hid hx4; have HY4 := Lib.hid hy4
  clear hx hy hx4 hy4 ha hb hc hd ha' hb' hc' hd'
  go_wp2
  go_loopw [7] (fun i wr => ∃ k : Nat, k ≤ 4 ∧ i = .int .i64 (k : Nat) ∧ Hid (∀ j, j < k → x j = y j) ∧ Up w3 wr) (fun i _ => (4 - intOf i).toNat)
  case atStart => exact ⟨0, by omega, rfl, fun j hj => absurd hj (by omega), Below.refl _ _⟩
  case round =>
    obtain ⟨k, hk, rfl, hz, hb⟩ := hrel
    by_cases h4 : k < 4
    · have c0 := (hb.cell (p := ⟨w0.heap.size, k, none⟩) (Nat.lt_of_succ_lt hs3)).trans (HX.out k h4)
      have c1 := (hb.cell (p := ⟨w0.heap.size + 1, k, none⟩) hs3).trans (HY.out k h4)
      have c0N : ∀ n, (wr.drewN n).cell? ⟨w0.heap.size, k, none⟩ = some (.int .u64 (x k : Nat)) := fun n => by rw [World.cell?_drewN]; exact c0
      have c1N : ∀ n, (wr.drewN n).cell? ⟨w0.heap.size + 1, k, none⟩ = some (.int .u64 (y k : Nat)) := fun n => by rw [World.cell?_drewN]; exact c1
      have q0 : (0 : Int) ≤ (k : Int) := by omega
      have q1 : (k : Int) < 4 := by omega
      rcases Nat.lt_trichotomy (x k) (y k) with h | h | h
      · have HC := Lib.hid (cmp_lt h4 hz.out h)
        have d1 : decide ((x k : Int) < (y k : Int)) = true := decide_eq_true (by omega)
        have e1 : decide (x k < y k) = true := decide_eq_true (by omega)
        generalize x k = X at c0 c0N d1 e1
        generalize y k = Y at c1 c1N d1 e1
        clear h
        go_upto_region 6 with fail
        go_quiet (fail)
        go_wp2
        go_ret
        exact ⟨by rw [HE.out, HC.out]; rfl, hu3.on (up_drN _ hb)⟩
      · have HC := Lib.hid h
        have HCk := Lib.hid h
        have d1 : decide ((x k : Int) < (y k : Int)) = false := decide_eq_false (by omega)
        have e1 : decide (x k < y k) = false := decide_eq_false (by omega)
        have d2 : decide ((y k : Int) < (x k : Int)) = false := decide_eq_false (by omega)
        have e2 : decide (y k < x k) = false := decide_eq_false (by omega)
        generalize x k = X at c0 c0N d1 d2 e1 e2 HC
        generalize y k = Y at c1 c1N d1 d2 e1 e2 HC
        clear h
        go_upto_region 6 with fail
        go_quiet (fail)
        go_upto_region 8 with fail
        go_quiet (fail)
        go_wp2
        go_roundw
        case rel => exact ⟨k + 1, by omega, by go_num, eq_next hz.out HCk.out, up_drN _ hb⟩
        case measure => simp [intOf]; omega
      · have HC := Lib.hid (cmp_gt h4 hz.out h)
        have d1 : decide ((x k : Int) < (y k : Int)) = false := decide_eq_false (by omega)
        have e1 : decide (x k < y k) = false := decide_eq_false (by omega)
        have d2 : decide ((y k : Int) < (x k : Int)) = true := decide_eq_true (by omega)
        have e2 : decide (y k < x k) = true := decide_eq_true (by omega)
        generalize x k = X at c0 c0N d1 d2 e1 e2
        generalize y k = Y at c1 c1N d1 d2 e1 e2
        clear h
        go_upto_region 6 with fail
        go_quiet (fail)
        go_upto_region 8 with fail
        go_quiet (fail)
        go_wp2
        go_ret
        exact ⟨by rw [HE.out, HC.out]; rfl, hu3.on (by repeat (first | assumption | apply up_al | apply up_dr | apply up_drN))⟩
    · obtain rfl : k = 4 := by omega
      have HC := Lib.hid (cmp_eq hz.out)
      go_wp2
      go_ret
      exact ⟨by rw [HE.out, HC.out]; rfl, hu3.on hb⟩
end Go.Proofs.YtolebodpcefcfaaDoor.tu
