/- Package opt: are options the same. Condition: the numbers fit their kinds. -/
import Derived.Test.YtdlcglkeinlimaaOptLI
namespace Go.Proofs.Ytdlcglkeinlimaa.op
open Go.RowKit Go.Shelf Go.Lib Go.Proofs.Ytdlcglkeinlimaa.sm Go.Proofs.Ytdlcglkeinlimaa.nb Go.Proofs.Ytdlcglkeinlimaa.om
set_option linter.unusedVariables false

theorem take_same {xs ys : List (Nat × Nat)} {j : Nat} {x1 x2 y1 y2 : Nat} (h : xs.take j = ys.take j) (hx : xs[j]? = some (x1, x2)) (hy : ys[j]? = some (y1, y2)) (h1 : x1 = y1) (h2 : x2 = y2) : xs.take (j + 1) = ys.take (j + 1) := by
  obtain ⟨hj, he⟩ := List.getElem?_eq_some_iff.1 hx
  obtain ⟨hj', he'⟩ := List.getElem?_eq_some_iff.1 hy
  rw [List.take_succ_eq_append_getElem hj, List.take_succ_eq_append_getElem hj', h, he, he', h1, h2]
theorem unlike_at {xs ys : List (Nat × Nat)} {j : Nat} {x1 x2 y1 y2 : Nat} (hx : xs[j]? = some (x1, x2)) (hy : ys[j]? = some (y1, y2)) (h : ¬ (x1 = y1 ∧ x2 = y2)) : (xs == ys) = false := by
  rw [beq_eq_false_iff_ne]
  intro e
  subst e
  rw [hx] at hy
  simp at hy
  exact h hy
set_option maxHeartbeats 4000000 in
set_option maxRecDepth 100000 in
theorem equalC (xs ys : List (Nat × Nat)) (A A' : Option Addr) (n n' c c' : Nat) (w : World) (hx : RdB w A xs) (hy : RdB w A' ys) (hn : xs.length = n) (hn' : ys.length = n') (hb : n ≤ maxLen) (hb' : n' ≤ maxLen) :
    Calls Try.prog 30 #[.slice A n c, .slice A' n' c'] w fun e w' => e = .returned (.bool (xs == ys)) ∧ Up w w' := by
  unfold maxLen at hb hb'
  by_cases hnn : n = n'
  case neg =>
    have HE := Lib.hid (show (xs == ys) = false by rw [beq_eq_false_iff_ne]; intro e; subst e; exact hnn (by omega))
    have i0 : ¬ (n : Int) = (n' : Int) := by omega
    go_enter Try.func30, Try.ntmps30
    go_wp2
    go_ret
    exact ⟨ret_bool HE.out.symm, Below.refl _ _⟩
  case pos =>
    subst hnn
    have HX := Lib.hid hn
    have HY := Lib.hid hn'
    have RX := Lib.hid hx
    have RY := Lib.hid hy
    clear hn hn' hx hy
    go_enter Try.func30, Try.ntmps30
    go_wp2_with fail
    go_loopw [13] (fun i wr => ∃ j : Nat, j ≤ n ∧ i = .int .i64 j ∧ Hid (xs.take j = ys.take j) ∧ Up w wr) (fun i _ => n - (RowKit.intOf i).toNat)
    case atStart => exact ⟨0, Nat.zero_le _, rfl, rfl, Below.refl _ _⟩
    case round =>
      obtain ⟨j, hj, rfl, hs, hu⟩ := hrel
      by_cases hlt : j < n
      · obtain ⟨g, off, hA, hg, x1, x2, c1, c2, hx⟩ := (RX.out.up hu).at_ (k := j) (by rw [HX.out]; exact hlt)
        obtain ⟨g', off', hA', hg', y1, y2, d1, d2, hy⟩ := (RY.out.up hu).at_ (k := j) (by rw [HY.out]; exact hlt)
        subst hA
        subst hA'
        have i0 : (j : Int) < (n : Int) := by omega
        by_cases h1 : x1 = y1
        · subst h1
          by_cases h2 : x2 = y2
          · subst h2
            have HT := Lib.hid (take_same hs.out hx.out hy.out rfl rfl)
            clear hs
            go_wp2_with fail
            go_region
            all_goals
              go_wp2
              go_roundw
              case rel => exact ⟨j + 1, by omega, by go_num, HT, by first | exact up_dr hu | exact hu⟩
              case measure => simp [RowKit.intOf]; omega
          · have HE := Lib.hid (unlike_at hx.out hy.out (fun h => h2 h.2))
            have i2 : ¬ (x2 : Int) = (y2 : Int) := by omega
            clear hs
            go_wp2_with fail
            go_region
            all_goals
              go_wp2
              go_ret
              exact ⟨ret_bool HE.out.symm, by first | exact up_dr hu | exact hu⟩
        · have HE := Lib.hid (unlike_at hx.out hy.out (fun h => h1 h.1))
          have i2 : ¬ (x1 : Int) = (y1 : Int) := by omega
          clear hs
          go_wp2_with fail
          go_region
          all_goals
            go_wp2
            go_ret
            exact ⟨ret_bool HE.out.symm, by first | exact up_dr hu | exact hu⟩
      · obtain rfl : j = n := by omega
        have HE := Lib.hid (show (xs == ys) = true by
          rw [beq_iff_eq]
          have := hs.out
          rwa [List.take_of_length_le (by rw [HX.out]; exact Nat.le_refl _), List.take_of_length_le (by rw [HY.out]; exact Nat.le_refl _)] at this)
        go_wp2
        go_ret
        exact ⟨ret_bool HE.out.symm, hu⟩
set_option maxHeartbeats 4000000 in
set_option maxRecDepth 100000 in
theorem lsame0 (m : Nat) (s : Int) (k t : Bool) (v e : Nat) (A A' : Option Addr) (n n' c c' : Nat) (m' : Nat) (s' : Int) (k' : Bool) (t' : Bool) (v' : Nat) (e' : Nat) (w : World) (h : ¬ (m : Int) = m') :
    Calls Try.prog 15 #[OA m s k A n c t v e, OA m' s' k' A' n' c' t' v' e'] w fun e_ w' => e_ = .returned (.bool false) ∧ Up w w' := by
  go_enter Try.func15, Try.ntmps15
  go_upto_region 1 with fail
  have U0 : Up w ((w.alloc (.cells #[.int .u16 (m : Nat), .int .i64 s, .bool k, .slice A n c, .bool t, .int .u32 (v : Nat), .int .u32 (e : Nat)] 26)).alloc (.cells #[.int .u16 (m' : Nat), .int .i64 s', .bool k', .slice A' n' c', .bool t', .int .u32 (v' : Nat), .int .u32 (e' : Nat)] 26)) := up_al _ (up_al _ (Below.refl _ _))
  have A0 := (Box.new w #[.int .u16 (m : Nat), .int .i64 s, .bool k, .slice A n c, .bool t, .int .u32 (v : Nat), .int .u32 (e : Nat)] 26).alloc (.cells #[.int .u16 (m' : Nat), .int .i64 s', .bool k', .slice A' n' c', .bool t', .int .u32 (v' : Nat), .int .u32 (e' : Nat)] 26)
  have B0 := Box.new (w.alloc (.cells #[.int .u16 (m : Nat), .int .i64 s, .bool k, .slice A n c, .bool t, .int .u32 (v : Nat), .int .u32 (e : Nat)] 26)) #[.int .u16 (m' : Nat), .int .i64 s', .bool k', .slice A' n' c', .bool t', .int .u32 (v' : Nat), .int .u32 (e' : Nat)] 26
  rw [show (w.alloc (.cells #[.int .u16 (m : Nat), .int .i64 s, .bool k, .slice A n c, .bool t, .int .u32 (v : Nat), .int .u32 (e : Nat)] 26)).heap.size = w.heap.size + 1 by simp] at B0
  generalize ((w.alloc (.cells #[.int .u16 (m : Nat), .int .i64 s, .bool k, .slice A n c, .bool t, .int .u32 (v : Nat), .int .u32 (e : Nat)] 26)).alloc (.cells #[.int .u16 (m' : Nat), .int .i64 s', .bool k', .slice A' n' c', .bool t', .int .u32 (v' : Nat), .int .u32 (e' : Nat)] 26)) = w0 at U0 A0 B0 ⊢
  generalize w.heap.size = n0 at A0 B0 ⊢
  obtain ⟨k0, k1, k2, k3, k4, k5, k6⟩ := Box.e7 A0
  obtain ⟨m0, m1, m2, m3, m4, m5, m6⟩ := Box.e7 B0
  go_wp2
  go_ret
  exact ⟨rfl, U0⟩
set_option maxHeartbeats 4000000 in
set_option maxRecDepth 100000 in
theorem lsame1 (m : Nat) (s : Int) (k t : Bool) (v e : Nat) (A A' : Option Addr) (n n' c c' : Nat) (s' : Int) (k' : Bool) (t' : Bool) (v' : Nat) (e' : Nat) (w : World) (h : ¬ s = s') :
    Calls Try.prog 15 #[OA m s k A n c t v e, OA m s' k' A' n' c' t' v' e'] w fun e_ w' => e_ = .returned (.bool false) ∧ Up w w' := by
  go_enter Try.func15, Try.ntmps15
  go_upto_region 1 with fail
  have U0 : Up w ((w.alloc (.cells #[.int .u16 (m : Nat), .int .i64 s, .bool k, .slice A n c, .bool t, .int .u32 (v : Nat), .int .u32 (e : Nat)] 26)).alloc (.cells #[.int .u16 (m : Nat), .int .i64 s', .bool k', .slice A' n' c', .bool t', .int .u32 (v' : Nat), .int .u32 (e' : Nat)] 26)) := up_al _ (up_al _ (Below.refl _ _))
  have A0 := (Box.new w #[.int .u16 (m : Nat), .int .i64 s, .bool k, .slice A n c, .bool t, .int .u32 (v : Nat), .int .u32 (e : Nat)] 26).alloc (.cells #[.int .u16 (m : Nat), .int .i64 s', .bool k', .slice A' n' c', .bool t', .int .u32 (v' : Nat), .int .u32 (e' : Nat)] 26)
  have B0 := Box.new (w.alloc (.cells #[.int .u16 (m : Nat), .int .i64 s, .bool k, .slice A n c, .bool t, .int .u32 (v : Nat), .int .u32 (e : Nat)] 26)) #[.int .u16 (m : Nat), .int .i64 s', .bool k', .slice A' n' c', .bool t', .int .u32 (v' : Nat), .int .u32 (e' : Nat)] 26
  rw [show (w.alloc (.cells #[.int .u16 (m : Nat), .int .i64 s, .bool k, .slice A n c, .bool t, .int .u32 (v : Nat), .int .u32 (e : Nat)] 26)).heap.size = w.heap.size + 1 by simp] at B0
  generalize ((w.alloc (.cells #[.int .u16 (m : Nat), .int .i64 s, .bool k, .slice A n c, .bool t, .int .u32 (v : Nat), .int .u32 (e : Nat)] 26)).alloc (.cells #[.int .u16 (m : Nat), .int .i64 s', .bool k', .slice A' n' c', .bool t', .int .u32 (v' : Nat), .int .u32 (e' : Nat)] 26)) = w0 at U0 A0 B0 ⊢
  generalize w.heap.size = n0 at A0 B0 ⊢
  obtain ⟨k0, k1, k2, k3, k4, k5, k6⟩ := Box.e7 A0
  obtain ⟨m0, m1, m2, m3, m4, m5, m6⟩ := Box.e7 B0
  go_wp2
  go_ret
  exact ⟨rfl, U0⟩
set_option maxHeartbeats 4000000 in
set_option maxRecDepth 100000 in
theorem lsame2 (m : Nat) (s : Int) (k t : Bool) (v e : Nat) (A A' : Option Addr) (n n' c c' : Nat) (k' : Bool) (t' : Bool) (v' : Nat) (e' : Nat) (w : World) (h : k ≠ k') :
    Calls Try.prog 15 #[OA m s k A n c t v e, OA m s k' A' n' c' t' v' e'] w fun e_ w' => e_ = .returned (.bool false) ∧ Up w w' := by
  have hk : (k == k') = false := by simpa using h
  go_enter Try.func15, Try.ntmps15
  go_upto_region 1 with fail
  have U0 : Up w ((w.alloc (.cells #[.int .u16 (m : Nat), .int .i64 s, .bool k, .slice A n c, .bool t, .int .u32 (v : Nat), .int .u32 (e : Nat)] 26)).alloc (.cells #[.int .u16 (m : Nat), .int .i64 s, .bool k', .slice A' n' c', .bool t', .int .u32 (v' : Nat), .int .u32 (e' : Nat)] 26)) := up_al _ (up_al _ (Below.refl _ _))
  have A0 := (Box.new w #[.int .u16 (m : Nat), .int .i64 s, .bool k, .slice A n c, .bool t, .int .u32 (v : Nat), .int .u32 (e : Nat)] 26).alloc (.cells #[.int .u16 (m : Nat), .int .i64 s, .bool k', .slice A' n' c', .bool t', .int .u32 (v' : Nat), .int .u32 (e' : Nat)] 26)
  have B0 := Box.new (w.alloc (.cells #[.int .u16 (m : Nat), .int .i64 s, .bool k, .slice A n c, .bool t, .int .u32 (v : Nat), .int .u32 (e : Nat)] 26)) #[.int .u16 (m : Nat), .int .i64 s, .bool k', .slice A' n' c', .bool t', .int .u32 (v' : Nat), .int .u32 (e' : Nat)] 26
  rw [show (w.alloc (.cells #[.int .u16 (m : Nat), .int .i64 s, .bool k, .slice A n c, .bool t, .int .u32 (v : Nat), .int .u32 (e : Nat)] 26)).heap.size = w.heap.size + 1 by simp] at B0
  generalize ((w.alloc (.cells #[.int .u16 (m : Nat), .int .i64 s, .bool k, .slice A n c, .bool t, .int .u32 (v : Nat), .int .u32 (e : Nat)] 26)).alloc (.cells #[.int .u16 (m : Nat), .int .i64 s, .bool k', .slice A' n' c', .bool t', .int .u32 (v' : Nat), .int .u32 (e' : Nat)] 26)) = w0 at U0 A0 B0 ⊢
  generalize w.heap.size = n0 at A0 B0 ⊢
  obtain ⟨k0, k1, k2, k3, k4, k5, k6⟩ := Box.e7 A0
  obtain ⟨m0, m1, m2, m3, m4, m5, m6⟩ := Box.e7 B0
  go_wp2
  go_ret
  exact ⟨rfl, U0⟩
set_option maxHeartbeats 4000000 in
set_option maxRecDepth 100000 in
theorem lsame3 (m : Nat) (s : Int) (k t : Bool) (v e : Nat) (A A' : Option Addr) (n n' c c' : Nat) (t' : Bool) (v' : Nat) (e' : Nat) (w : World) (hE : ∀ w', Up w w' → Calls Try.prog 30 #[.slice A n c, .slice A' n' c'] w' fun e_ w'' => e_ = .returned (.bool false) ∧ Up w' w'') :
    Calls Try.prog 15 #[OA m s k A n c t v e, OA m s k A' n' c' t' v' e'] w fun e_ w' => e_ = .returned (.bool false) ∧ Up w w' := by
  have HE := Lib.hid hE
  clear hE
  go_enter Try.func15, Try.ntmps15
  go_upto_region 1 with fail
  have U0 : Up w ((w.alloc (.cells #[.int .u16 (m : Nat), .int .i64 s, .bool k, .slice A n c, .bool t, .int .u32 (v : Nat), .int .u32 (e : Nat)] 26)).alloc (.cells #[.int .u16 (m : Nat), .int .i64 s, .bool k, .slice A' n' c', .bool t', .int .u32 (v' : Nat), .int .u32 (e' : Nat)] 26)) := up_al _ (up_al _ (Below.refl _ _))
  have A0 := (Box.new w #[.int .u16 (m : Nat), .int .i64 s, .bool k, .slice A n c, .bool t, .int .u32 (v : Nat), .int .u32 (e : Nat)] 26).alloc (.cells #[.int .u16 (m : Nat), .int .i64 s, .bool k, .slice A' n' c', .bool t', .int .u32 (v' : Nat), .int .u32 (e' : Nat)] 26)
  have B0 := Box.new (w.alloc (.cells #[.int .u16 (m : Nat), .int .i64 s, .bool k, .slice A n c, .bool t, .int .u32 (v : Nat), .int .u32 (e : Nat)] 26)) #[.int .u16 (m : Nat), .int .i64 s, .bool k, .slice A' n' c', .bool t', .int .u32 (v' : Nat), .int .u32 (e' : Nat)] 26
  rw [show (w.alloc (.cells #[.int .u16 (m : Nat), .int .i64 s, .bool k, .slice A n c, .bool t, .int .u32 (v : Nat), .int .u32 (e : Nat)] 26)).heap.size = w.heap.size + 1 by simp] at B0
  generalize ((w.alloc (.cells #[.int .u16 (m : Nat), .int .i64 s, .bool k, .slice A n c, .bool t, .int .u32 (v : Nat), .int .u32 (e : Nat)] 26)).alloc (.cells #[.int .u16 (m : Nat), .int .i64 s, .bool k, .slice A' n' c', .bool t', .int .u32 (v' : Nat), .int .u32 (e' : Nat)] 26)) = w0 at U0 A0 B0 ⊢
  generalize w.heap.size = n0 at A0 B0 ⊢
  obtain ⟨k0, k1, k2, k3, k4, k5, k6⟩ := Box.e7 A0
  obtain ⟨m0, m1, m2, m3, m4, m5, m6⟩ := Box.e7 B0
  go_wp2_with fail
  refine (HE.out w0 U0).mono ?_
  rintro e_ w1 ⟨rfl, hv⟩
  have A1 := A0.up hv
  have B1 := B0.up hv
  clear k0 k1 k2 k3 k4 k5 k6 m0 m1 m2 m3 m4 m5 m6
  obtain ⟨k0, k1, k2, k3, k4, k5, k6⟩ := Box.e7 A1
  obtain ⟨m0, m1, m2, m3, m4, m5, m6⟩ := Box.e7 B1
  go_wp2
  go_ret
  exact ⟨rfl, U0.on hv⟩
set_option maxHeartbeats 4000000 in
set_option maxRecDepth 100000 in
theorem lsame4 (m : Nat) (s : Int) (k t : Bool) (v e : Nat) (A A' : Option Addr) (n n' c c' : Nat) (t' : Bool) (v' : Nat) (e' : Nat) (w : World) (hE : ∀ w', Up w w' → Calls Try.prog 30 #[.slice A n c, .slice A' n' c'] w' fun e_ w'' => e_ = .returned (.bool true) ∧ Up w' w'') (h : t ≠ t') :
    Calls Try.prog 15 #[OA m s k A n c t v e, OA m s k A' n' c' t' v' e'] w fun e_ w' => e_ = .returned (.bool false) ∧ Up w w' := by
  have HE := Lib.hid hE
  clear hE
  have ht : (t == t') = false := by simpa using h
  go_enter Try.func15, Try.ntmps15
  go_upto_region 1 with fail
  have U0 : Up w ((w.alloc (.cells #[.int .u16 (m : Nat), .int .i64 s, .bool k, .slice A n c, .bool t, .int .u32 (v : Nat), .int .u32 (e : Nat)] 26)).alloc (.cells #[.int .u16 (m : Nat), .int .i64 s, .bool k, .slice A' n' c', .bool t', .int .u32 (v' : Nat), .int .u32 (e' : Nat)] 26)) := up_al _ (up_al _ (Below.refl _ _))
  have A0 := (Box.new w #[.int .u16 (m : Nat), .int .i64 s, .bool k, .slice A n c, .bool t, .int .u32 (v : Nat), .int .u32 (e : Nat)] 26).alloc (.cells #[.int .u16 (m : Nat), .int .i64 s, .bool k, .slice A' n' c', .bool t', .int .u32 (v' : Nat), .int .u32 (e' : Nat)] 26)
  have B0 := Box.new (w.alloc (.cells #[.int .u16 (m : Nat), .int .i64 s, .bool k, .slice A n c, .bool t, .int .u32 (v : Nat), .int .u32 (e : Nat)] 26)) #[.int .u16 (m : Nat), .int .i64 s, .bool k, .slice A' n' c', .bool t', .int .u32 (v' : Nat), .int .u32 (e' : Nat)] 26
  rw [show (w.alloc (.cells #[.int .u16 (m : Nat), .int .i64 s, .bool k, .slice A n c, .bool t, .int .u32 (v : Nat), .int .u32 (e : Nat)] 26)).heap.size = w.heap.size + 1 by simp] at B0
  generalize ((w.alloc (.cells #[.int .u16 (m : Nat), .int .i64 s, .bool k, .slice A n c, .bool t, .int .u32 (v : Nat), .int .u32 (e : Nat)] 26)).alloc (.cells #[.int .u16 (m : Nat), .int .i64 s, .bool k, .slice A' n' c', .bool t', .int .u32 (v' : Nat), .int .u32 (e' : Nat)] 26)) = w0 at U0 A0 B0 ⊢
  generalize w.heap.size = n0 at A0 B0 ⊢
  obtain ⟨k0, k1, k2, k3, k4, k5, k6⟩ := Box.e7 A0
  obtain ⟨m0, m1, m2, m3, m4, m5, m6⟩ := Box.e7 B0
  go_wp2_with fail
  refine (HE.out w0 U0).mono ?_
  rintro e_ w1 ⟨rfl, hv⟩
  have A1 := A0.up hv
  have B1 := B0.up hv
  clear k0 k1 k2 k3 k4 k5 k6 m0 m1 m2 m3 m4 m5 m6
  obtain ⟨k0, k1, k2, k3, k4, k5, k6⟩ := Box.e7 A1
  obtain ⟨m0, m1, m2, m3, m4, m5, m6⟩ := Box.e7 B1
  go_wp2
  go_ret
  exact ⟨rfl, U0.on hv⟩
set_option maxHeartbeats 4000000 in
set_option maxRecDepth 100000 in
theorem lsame5 (m : Nat) (s : Int) (k t : Bool) (v e : Nat) (A A' : Option Addr) (n n' c c' : Nat) (v' : Nat) (e' : Nat) (w : World) (hE : ∀ w', Up w w' → Calls Try.prog 30 #[.slice A n c, .slice A' n' c'] w' fun e_ w'' => e_ = .returned (.bool true) ∧ Up w' w'') (h : ¬ (v : Int) = v') :
    Calls Try.prog 15 #[OA m s k A n c t v e, OA m s k A' n' c' t v' e'] w fun e_ w' => e_ = .returned (.bool false) ∧ Up w w' := by
  have HE := Lib.hid hE
  clear hE
  go_enter Try.func15, Try.ntmps15
  go_upto_region 1 with fail
  have U0 : Up w ((w.alloc (.cells #[.int .u16 (m : Nat), .int .i64 s, .bool k, .slice A n c, .bool t, .int .u32 (v : Nat), .int .u32 (e : Nat)] 26)).alloc (.cells #[.int .u16 (m : Nat), .int .i64 s, .bool k, .slice A' n' c', .bool t, .int .u32 (v' : Nat), .int .u32 (e' : Nat)] 26)) := up_al _ (up_al _ (Below.refl _ _))
  have A0 := (Box.new w #[.int .u16 (m : Nat), .int .i64 s, .bool k, .slice A n c, .bool t, .int .u32 (v : Nat), .int .u32 (e : Nat)] 26).alloc (.cells #[.int .u16 (m : Nat), .int .i64 s, .bool k, .slice A' n' c', .bool t, .int .u32 (v' : Nat), .int .u32 (e' : Nat)] 26)
  have B0 := Box.new (w.alloc (.cells #[.int .u16 (m : Nat), .int .i64 s, .bool k, .slice A n c, .bool t, .int .u32 (v : Nat), .int .u32 (e : Nat)] 26)) #[.int .u16 (m : Nat), .int .i64 s, .bool k, .slice A' n' c', .bool t, .int .u32 (v' : Nat), .int .u32 (e' : Nat)] 26
  rw [show (w.alloc (.cells #[.int .u16 (m : Nat), .int .i64 s, .bool k, .slice A n c, .bool t, .int .u32 (v : Nat), .int .u32 (e : Nat)] 26)).heap.size = w.heap.size + 1 by simp] at B0
  generalize ((w.alloc (.cells #[.int .u16 (m : Nat), .int .i64 s, .bool k, .slice A n c, .bool t, .int .u32 (v : Nat), .int .u32 (e : Nat)] 26)).alloc (.cells #[.int .u16 (m : Nat), .int .i64 s, .bool k, .slice A' n' c', .bool t, .int .u32 (v' : Nat), .int .u32 (e' : Nat)] 26)) = w0 at U0 A0 B0 ⊢
  generalize w.heap.size = n0 at A0 B0 ⊢
  obtain ⟨k0, k1, k2, k3, k4, k5, k6⟩ := Box.e7 A0
  obtain ⟨m0, m1, m2, m3, m4, m5, m6⟩ := Box.e7 B0
  go_wp2_with fail
  refine (HE.out w0 U0).mono ?_
  rintro e_ w1 ⟨rfl, hv⟩
  have A1 := A0.up hv
  have B1 := B0.up hv
  clear k0 k1 k2 k3 k4 k5 k6 m0 m1 m2 m3 m4 m5 m6
  obtain ⟨k0, k1, k2, k3, k4, k5, k6⟩ := Box.e7 A1
  obtain ⟨m0, m1, m2, m3, m4, m5, m6⟩ := Box.e7 B1
  go_wp2
  go_ret
  exact ⟨rfl, U0.on hv⟩
set_option maxHeartbeats 4000000 in
set_option maxRecDepth 100000 in
theorem lsame6 (m : Nat) (s : Int) (k t : Bool) (v e : Nat) (A A' : Option Addr) (n n' c c' : Nat) (e' : Nat) (w : World) (hE : ∀ w', Up w w' → Calls Try.prog 30 #[.slice A n c, .slice A' n' c'] w' fun e_ w'' => e_ = .returned (.bool true) ∧ Up w' w'') (h : ¬ (e : Int) = e') :
    Calls Try.prog 15 #[OA m s k A n c t v e, OA m s k A' n' c' t v e'] w fun e_ w' => e_ = .returned (.bool false) ∧ Up w w' := by
  have HE := Lib.hid hE
  clear hE
  go_enter Try.func15, Try.ntmps15
  go_upto_region 1 with fail
  have U0 : Up w ((w.alloc (.cells #[.int .u16 (m : Nat), .int .i64 s, .bool k, .slice A n c, .bool t, .int .u32 (v : Nat), .int .u32 (e : Nat)] 26)).alloc (.cells #[.int .u16 (m : Nat), .int .i64 s, .bool k, .slice A' n' c', .bool t, .int .u32 (v : Nat), .int .u32 (e' : Nat)] 26)) := up_al _ (up_al _ (Below.refl _ _))
  have A0 := (Box.new w #[.int .u16 (m : Nat), .int .i64 s, .bool k, .slice A n c, .bool t, .int .u32 (v : Nat), .int .u32 (e : Nat)] 26).alloc (.cells #[.int .u16 (m : Nat), .int .i64 s, .bool k, .slice A' n' c', .bool t, .int .u32 (v : Nat), .int .u32 (e' : Nat)] 26)
  have B0 := Box.new (w.alloc (.cells #[.int .u16 (m : Nat), .int .i64 s, .bool k, .slice A n c, .bool t, .int .u32 (v : Nat), .int .u32 (e : Nat)] 26)) #[.int .u16 (m : Nat), .int .i64 s, .bool k, .slice A' n' c', .bool t, .int .u32 (v : Nat), .int .u32 (e' : Nat)] 26
  rw [show (w.alloc (.cells #[.int .u16 (m : Nat), .int .i64 s, .bool k, .slice A n c, .bool t, .int .u32 (v : Nat), .int .u32 (e : Nat)] 26)).heap.size = w.heap.size + 1 by simp] at B0
  generalize ((w.alloc (.cells #[.int .u16 (m : Nat), .int .i64 s, .bool k, .slice A n c, .bool t, .int .u32 (v : Nat), .int .u32 (e : Nat)] 26)).alloc (.cells #[.int .u16 (m : Nat), .int .i64 s, .bool k, .slice A' n' c', .bool t, .int .u32 (v : Nat), .int .u32 (e' : Nat)] 26)) = w0 at U0 A0 B0 ⊢
  generalize w.heap.size = n0 at A0 B0 ⊢
  obtain ⟨k0, k1, k2, k3, k4, k5, k6⟩ := Box.e7 A0
  obtain ⟨m0, m1, m2, m3, m4, m5, m6⟩ := Box.e7 B0
  go_wp2_with fail
  refine (HE.out w0 U0).mono ?_
  rintro e_ w1 ⟨rfl, hv⟩
  have A1 := A0.up hv
  have B1 := B0.up hv
  clear k0 k1 k2 k3 k4 k5 k6 m0 m1 m2 m3 m4 m5 m6
  obtain ⟨k0, k1, k2, k3, k4, k5, k6⟩ := Box.e7 A1
  obtain ⟨m0, m1, m2, m3, m4, m5, m6⟩ := Box.e7 B1
  go_wp2
  go_ret
  exact ⟨ret_bool (by rw [beq_eq_false_iff_ne]; exact h), U0.on hv⟩
set_option maxHeartbeats 4000000 in
set_option maxRecDepth 100000 in
theorem lsame7 (m : Nat) (s : Int) (k t : Bool) (v e : Nat) (A A' : Option Addr) (n n' c c' : Nat)  (w : World) (hE : ∀ w', Up w w' → Calls Try.prog 30 #[.slice A n c, .slice A' n' c'] w' fun e_ w'' => e_ = .returned (.bool true) ∧ Up w' w'') :
    Calls Try.prog 15 #[OA m s k A n c t v e, OA m s k A' n' c' t v e] w fun e_ w' => e_ = .returned (.bool true) ∧ Up w w' := by
  have HE := Lib.hid hE
  clear hE
  go_enter Try.func15, Try.ntmps15
  go_upto_region 1 with fail
  have U0 : Up w ((w.alloc (.cells #[.int .u16 (m : Nat), .int .i64 s, .bool k, .slice A n c, .bool t, .int .u32 (v : Nat), .int .u32 (e : Nat)] 26)).alloc (.cells #[.int .u16 (m : Nat), .int .i64 s, .bool k, .slice A' n' c', .bool t, .int .u32 (v : Nat), .int .u32 (e : Nat)] 26)) := up_al _ (up_al _ (Below.refl _ _))
  have A0 := (Box.new w #[.int .u16 (m : Nat), .int .i64 s, .bool k, .slice A n c, .bool t, .int .u32 (v : Nat), .int .u32 (e : Nat)] 26).alloc (.cells #[.int .u16 (m : Nat), .int .i64 s, .bool k, .slice A' n' c', .bool t, .int .u32 (v : Nat), .int .u32 (e : Nat)] 26)
  have B0 := Box.new (w.alloc (.cells #[.int .u16 (m : Nat), .int .i64 s, .bool k, .slice A n c, .bool t, .int .u32 (v : Nat), .int .u32 (e : Nat)] 26)) #[.int .u16 (m : Nat), .int .i64 s, .bool k, .slice A' n' c', .bool t, .int .u32 (v : Nat), .int .u32 (e : Nat)] 26
  rw [show (w.alloc (.cells #[.int .u16 (m : Nat), .int .i64 s, .bool k, .slice A n c, .bool t, .int .u32 (v : Nat), .int .u32 (e : Nat)] 26)).heap.size = w.heap.size + 1 by simp] at B0
  generalize ((w.alloc (.cells #[.int .u16 (m : Nat), .int .i64 s, .bool k, .slice A n c, .bool t, .int .u32 (v : Nat), .int .u32 (e : Nat)] 26)).alloc (.cells #[.int .u16 (m : Nat), .int .i64 s, .bool k, .slice A' n' c', .bool t, .int .u32 (v : Nat), .int .u32 (e : Nat)] 26)) = w0 at U0 A0 B0 ⊢
  generalize w.heap.size = n0 at A0 B0 ⊢
  obtain ⟨k0, k1, k2, k3, k4, k5, k6⟩ := Box.e7 A0
  obtain ⟨m0, m1, m2, m3, m4, m5, m6⟩ := Box.e7 B0
  go_wp2_with fail
  refine (HE.out w0 U0).mono ?_
  rintro e_ w1 ⟨rfl, hv⟩
  have A1 := A0.up hv
  have B1 := B0.up hv
  clear k0 k1 k2 k3 k4 k5 k6 m0 m1 m2 m3 m4 m5 m6
  obtain ⟨k0, k1, k2, k3, k4, k5, k6⟩ := Box.e7 A1
  obtain ⟨m0, m1, m2, m3, m4, m5, m6⟩ := Box.e7 B1
  go_wp2
  go_ret
  exact ⟨rfl, U0.on hv⟩
theorem sameC : SameC := fun m s k b t v e A n c m' s' k' b' t' v' e' A' n' c' w h h' => by
  have HQ : ∀ w', Up w w' → Calls Try.prog 30 #[.slice A n c, .slice A' n' c'] w' fun e_ w'' => e_ = .returned (.bool (b == b')) ∧ Up w' w'' :=
    fun w' hu => equalC b b' A A' n n' c c' w' (h.2.2.1.up hu) (h'.2.2.1.up hu) h.2.2.2.1 h'.2.2.2.1 h.2.2.2.2 h'.2.2.2.2
  by_cases e1 : m = m'
  case neg =>
    rw [show same ⟨m, s, k, b, t, v, e⟩ ⟨m', s', k', b', t', v', e'⟩ = false by simp [same, e1]]
    exact lsame0 _ _ _ _ _ _ _ _ _ _ _ _ _ _ _ _ _ _ w (by omega)
  subst e1
  by_cases e2 : s = s'
  case neg =>
    rw [show same ⟨m, s, k, b, t, v, e⟩ ⟨m, s', k', b', t', v', e'⟩ = false by simp [same, e2]]
    exact lsame1 _ _ _ _ _ _ _ _ _ _ _ _ _ _ _ _ _ w e2
  subst e2
  by_cases e3 : k = k'
  case neg =>
    rw [show same ⟨m, s, k, b, t, v, e⟩ ⟨m, s, k', b', t', v', e'⟩ = false by simp [same, e3]]
    exact lsame2 _ _ _ _ _ _ _ _ _ _ _ _ _ _ _ _ w e3
  subst e3
  by_cases e4 : (b == b') = true
  case neg =>
    have e4' : (b == b') = false := by simpa using e4
    rw [show same ⟨m, s, k, b, t, v, e⟩ ⟨m, s, k, b', t', v', e'⟩ = false by simp only [same, e4', Bool.and_false]]
    rw [e4'] at HQ
    exact lsame3 _ _ _ _ _ _ _ _ _ _ _ _ _ _ _ w HQ
  rw [e4] at HQ
  by_cases e5 : t = t'
  case neg =>
    rw [show same ⟨m, s, k, b, t, v, e⟩ ⟨m, s, k, b', t', v', e'⟩ = false by simp [same, e5]]
    exact lsame4 _ _ _ _ _ _ _ _ _ _ _ _ _ _ _ w HQ e5
  subst e5
  by_cases e6 : v = v'
  case neg =>
    rw [show same ⟨m, s, k, b, t, v, e⟩ ⟨m, s, k, b', t, v', e'⟩ = false by simp [same, e6]]
    exact lsame5 _ _ _ _ _ _ _ _ _ _ _ _ _ _ w HQ (by omega)
  subst e6
  by_cases e7 : e = e'
  case neg =>
    rw [show same ⟨m, s, k, b, t, v, e⟩ ⟨m, s, k, b', t, v, e'⟩ = false by simp [same, e7]]
    exact lsame6 _ _ _ _ _ _ _ _ _ _ _ _ _ w HQ (by omega)
  subst e7
  rw [show same ⟨m, s, k, b, t, v, e⟩ ⟨m, s, k, b', t, v, e⟩ = true by simp only [same, e4, beq_self_eq_true, Bool.and_true]]
  exact lsame7 _ _ _ _ _ _ _ _ _ _ _ _ w HQ
end Go.Proofs.Ytdlcglkeinlimaa.op
