/- Package clock: the least of some, and a clock that goes. Condition: the numbers fit. -/
import Derived.Test.YtebihfojebdfbaaClkB
namespace Go.Proofs.Ytebihfojebdfbaa.ck
open Go.RowKit Go.Shelf Go.Lib Go.Proofs.Ytebihfojebdfbaa.nb
set_option linter.unusedVariables false

/-- a clock in its block -/
def Clk (w : World) (b : Nat) (now : Int) : Prop := Box w b [.int .i64 now, .bool true]
theorem Clk.up {w w' : World} {b : Nat} {now : Int} (h : Clk w b now) (u : Up w w') : Clk w' b now := Box.up h u
/-- block b alone may have turned -/
def Keeps (b : Nat) (w w' : World) : Prop := (∀ c now, c ≠ b → Clk w c now → Clk w' c now) ∧ (∀ w0, Up w0 w → w0.heap.size ≤ b → Up w0 w')
theorem Keeps.of_up {b : Nat} {w w' : World} (h : Up w w') : Keeps b w w' := ⟨fun c now _ hc => hc.up h, fun w0 h0 _ => h0.on h⟩
/-- the time behind a step -/
def goV (now b : Int) : Int := if (addV now b).2 = 0 then (addV now b).1 else now
def leftV (now at' : Int) : Int := if now < at' then at' - now else 0
theorem addV_bd {t b : Int} (ht : 0 ≤ t ∧ t ≤ 17592186044416) : 0 ≤ (addV t b).1 ∧ (addV t b).1 ≤ 17592186044416 := by
  unfold addV
  split
  · split
    · show 0 ≤ t + b ∧ t + b ≤ _; omega
    · show 0 ≤ (0 : Int) ∧ (0 : Int) ≤ _; omega
  · show 0 ≤ (0 : Int) ∧ (0 : Int) ≤ _; omega
theorem goV_bd {t b : Int} (ht : 0 ≤ t ∧ t ≤ 17592186044416) : 0 ≤ goV t b ∧ goV t b ≤ 17592186044416 := by
  unfold goV
  split
  · exact addV_bd ht
  · exact ht
theorem addV_code (t b : Int) : (addV t b).2 = 0 ∨ (addV t b).2 = 2 ∨ (addV t b).2 = 9 := by
  unfold addV
  split
  · split
    · exact .inl rfl
    · exact .inr (.inr rfl)
  · exact .inr (.inl rfl)

theorem goNew_f (t : Int) (w : World) (h : mayB t = false) : Calls Try.prog 13 #[.int .i64 t] w fun e w' => e = .returned (.tuple #[.pointer none, .int .i64 2]) ∧ Up w w' := by
  have hq := goMay t
  rw [h] at hq
  clear h
  go_enter Try.func13, Try.ntmps13
  go_wp2_with (go_at_call 9; refine (hq _).mono ?_; rintro e w' ⟨rfl, rfl⟩)
  go_ret2
  exact ⟨rfl, Below.refl _ _⟩
theorem goNew_t (t : Int) (w : World) (h : mayB t = true) : Calls Try.prog 13 #[.int .i64 t] w fun e w' => ∃ b, e = .returned (.tuple #[.pointer (some ⟨b, 0, none⟩), .int .i64 0]) ∧ w.heap.size ≤ b ∧ Clk w' b t ∧ Up w w' := by
  have hq := goMay t
  rw [h] at hq
  clear h
  go_enter Try.func13, Try.ntmps13
  go_wp2_with (go_at_call 9; refine (hq _).mono ?_; rintro e w' ⟨rfl, rfl⟩)
  go_ret2
  exact ⟨_, rfl, Nat.le_refl _, Box.new _ _ _, up_al _ (Below.refl _ _)⟩
theorem isThere (b : Nat) (now : Int) (w : World) (h : Clk w b now) : Calls Try.prog 17 #[.pointer (some ⟨b, 0, none⟩)] w fun e w' => e = .returned (.bool true) ∧ w = w' := by
  have c1 := h.at 1 rfl
  go_enter Try.func17, Try.ntmps17
  go_wp2
  go_ret
  exact ⟨rfl, rfl⟩
theorem notThere (w : World) : Calls Try.prog 17 #[.pointer none] w fun e w' => e = .returned (.bool false) ∧ w = w' := by
  go_enter Try.func17, Try.ntmps17
  go_wp2
  go_ret
  exact ⟨rfl, rfl⟩
theorem goNow (b : Nat) (now : Int) (w : World) (h : Clk w b now) : Calls Try.prog 15 #[.pointer (some ⟨b, 0, none⟩)] w fun e w' => e = .returned (.int .i64 now) ∧ Up w w' := by
  have c0 := h.at 0 rfl
  go_enter Try.func15, Try.ntmps15
  go_wp2_with (go_at_call 17; refine (isThere _ _ _ h).mono ?_; rintro e w' ⟨rfl, rfl⟩)
  go_ret
  exact ⟨rfl, Below.refl _ _⟩
theorem nilNow (w : World) : Calls Try.prog 15 #[.pointer none] w fun e w' => e = .returned (.int .i64 0) ∧ Up w w' := by
  go_enter Try.func15, Try.ntmps15
  go_wp2_with (go_at_call 17; refine (notThere _).mono ?_; rintro e w' ⟨rfl, rfl⟩)
  go_ret
  exact ⟨rfl, Below.refl _ _⟩
theorem goLeft (b : Nat) (now at' : Int) (w : World) (h : Clk w b now) (hn : 0 ≤ now ∧ now ≤ 17592186044416) (ha : I64 at') : Calls Try.prog 16 #[.pointer (some ⟨b, 0, none⟩), .int .i64 at'] w fun e w' => e = .returned (.int .i64 (leftV now at')) ∧ Up w w' := by
  have c0 := h.at 0 rfl
  obtain ⟨a1, a2⟩ := ha
  by_cases c1 : now < at'
  · have E := Lib.hid (show leftV now at' = at' - now by unfold leftV; rw [if_pos c1])
    rw [E.out]
    go_enter Try.func16, Try.ntmps16
    go_wp2_with (go_at_call 17; refine (isThere _ _ _ h).mono ?_; rintro e w' ⟨rfl, rfl⟩)
    go_ret
    exact ⟨rfl, Below.refl _ _⟩
  · have E := Lib.hid (show leftV now at' = 0 by unfold leftV; rw [if_neg c1])
    rw [E.out]
    go_enter Try.func16, Try.ntmps16
    go_wp2_with (go_at_call 17; refine (isThere _ _ _ h).mono ?_; rintro e w' ⟨rfl, rfl⟩)
    go_ret
    exact ⟨rfl, Below.refl _ _⟩
theorem nilLeft (at' : Int) (w : World) : Calls Try.prog 16 #[.pointer none, .int .i64 at'] w fun e w' => e = .returned (.int .i64 0) ∧ Up w w' := by
  go_enter Try.func16, Try.ntmps16
  go_wp2_with (go_at_call 17; refine (notThere _).mono ?_; rintro e w' ⟨rfl, rfl⟩)
  go_ret
  exact ⟨rfl, Below.refl _ _⟩
theorem nilGo (x : Int) (w : World) : Calls Try.prog 14 #[.pointer none, .int .i64 x] w fun e w' => e = .returned (.int .i64 1) ∧ Up w w' := by
  go_enter Try.func14, Try.ntmps14
  go_wp2_with (go_at_call 17; refine (notThere _).mono ?_; rintro e w' ⟨rfl, rfl⟩)
  go_ret
  exact ⟨rfl, Below.refl _ _⟩
theorem goGo (b : Nat) (now x : Int) (w : World) (h : Clk w b now) (hn : 0 ≤ now ∧ now ≤ 17592186044416) (hx : I64 x) : Calls Try.prog 14 #[.pointer (some ⟨b, 0, none⟩), .int .i64 x] w fun e w' => e = .returned (.int .i64 (addV now x).2) ∧ Clk w' b (goV now x) ∧ Keeps b w w' := by
  have c0 := h.at 0 rfl; have f0 := h.fr 0 rfl
  have hq := goAdd now x
  have hbd := addV_bd (b := x) hn
  have hI : I64 now := ⟨by omega, by omega⟩
  by_cases c1 : (addV now x).2 = 0
  · have E := Lib.hid (show goV now x = (addV now x).1 by unfold goV; rw [if_pos c1])
    rw [E.out]
    rw [c1] at hq ⊢
    generalize (addV now x).1 = s at *
    clear E c1
    go_enter Try.func14, Try.ntmps14
    go_wp2_with (first | (go_at_call 17; refine (isThere _ _ _ h).mono ?_; rintro e w' ⟨rfl, rfl⟩) | (go_at_call 7; refine (hq _ hI hx).mono ?_; rintro e w' ⟨rfl, rfl⟩))
    go_ret
    exact ⟨rfl, h.set 0 _, fun c now hc hk => Box.far hk (fun h => hc h.symm) _, fun w0 h0 hb => up_set h0 hb⟩
  · have E := Lib.hid (show goV now x = now by unfold goV; rw [if_neg c1])
    rw [E.out]
    have c2 : (addV now x).2 = 2 ∨ (addV now x).2 = 9 := by have := addV_code now x; omega
    generalize (addV now x).2 = k at *
    generalize (addV now x).1 = s at *
    clear E c1
    rcases c2 with rfl | rfl
    · go_enter Try.func14, Try.ntmps14
      go_wp2_with (first | (go_at_call 17; refine (isThere _ _ _ h).mono ?_; rintro e w' ⟨rfl, rfl⟩) | (go_at_call 7; refine (hq _ hI hx).mono ?_; rintro e w' ⟨rfl, rfl⟩))
      go_ret
      exact ⟨rfl, h, Keeps.of_up (Below.refl _ _)⟩
    · go_enter Try.func14, Try.ntmps14
      go_wp2_with (first | (go_at_call 17; refine (isThere _ _ _ h).mono ?_; rintro e w' ⟨rfl, rfl⟩) | (go_at_call 7; refine (hq _ hI hx).mono ?_; rintro e w' ⟨rfl, rfl⟩))
      go_ret
      exact ⟨rfl, h, Keeps.of_up (Below.refl _ _)⟩

set_option maxHeartbeats 4000000 in
theorem goLeast (A : Option Addr) (n c : Nat) (xs : List Int) (w : World) (hr : RdI w A xs) (hn : xs.length = n) (hm : n ≤ maxLen) :
    Calls Try.prog 11 #[.slice A n c] w fun e w' => e = .returned (.int .i64 (leastV xs)) ∧ Up w w' := by
  have hn2 : n ≤ 9223372036854775807 := by unfold maxLen at hm; omega
  have HR := Lib.hid hr; have HN := Lib.hid hn
  clear hr hn hm
  go_enter Try.func11, Try.ntmps11
  go_wp2_with fail
  go_loopw [3, 8] (fun m i wr => ∃ j : Nat, j ≤ n ∧ i = .int .i64 j ∧ m = .int .i64 (leastV (xs.take j)) ∧ Up w wr) (fun _ i _ => n - (intOf i).toNat)
  case atStart => exact ⟨0, Nat.zero_le _, rfl, rfl, Below.refl _ _⟩
  case round =>
    obtain ⟨j, hj, rfl, rfl, hu⟩ := hrel
    by_cases hlt : j < n
    · obtain ⟨g, off, x, hA, c1, hx⟩ := (HR.out.up hu).at_ (k := j) (by rw [HN.out]; exact hlt)
      subst hA
      have E := Lib.hid (leastV_succ hx)
      have hbd := leastV_bd (xs.take j)
      have HX := Lib.hid hx; clear hx
      generalize leastV (xs.take j) = m at *
      cases c0 : mayB x
      · have E2 := Lib.hid (show lessOf m x = m by unfold lessOf; rw [if_neg]; rintro ⟨h, _⟩; rw [c0] at h; cases h)
        have hq := goMay x
        rw [c0] at hq
        clear c0
        go_wp2_with (go_at_call 9; refine (hq _).mono ?_; rintro e w' ⟨rfl, rfl⟩)
        go_roundw
        case rel => exact ⟨j + 1, by omega, by go_num, by rw [E.out, E2.out], hu⟩
        case measure => simp [RowKit.intOf]; omega
      · obtain ⟨x1, x2⟩ := mayB_iff.1 c0
        have hq := goMay x
        rw [c0] at hq
        have E2 := Lib.hid (show lessOf m x = if x < m then x else m by unfold lessOf; rw [c0]; simp)
        clear c0
        go_wp2_with (first | (go_at_call 9; refine (hq _).mono ?_; rintro e w' ⟨rfl, rfl⟩) | fail)
        go_roundw
        case rel => exact ⟨j + 1, by omega, by go_num, by rw [E.out, E2.out], hu⟩
        case measure => simp [RowKit.intOf]; omega
    · obtain rfl : j = n := by omega
      rw [List.take_of_length_le (by rw [HN.out]; exact Nat.le_refl _)]
      go_wp2
      go_ret
      exact ⟨rfl, hu⟩
end Go.Proofs.Ytebihfojebdfbaa.ck
