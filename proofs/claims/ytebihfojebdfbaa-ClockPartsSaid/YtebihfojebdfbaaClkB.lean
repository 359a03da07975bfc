/- Rows of numbers, and the least of those that are times: the document's answer. Condition: the row is no longer than the machine's. -/
import Derived.Test.YtebihfojebdfbaaClkA
namespace Go.Proofs.Ytebihfojebdfbaa.ck
open Go.RowKit Go.Shelf Go.Lib Go.Proofs.Ytebihfojebdfbaa.nb
set_option linter.unusedVariables false

/-- these numbers lie at A, one behind the other -/
def RdI (w : World) (A : Option Addr) (xs : List Int) : Prop := xs ≠ [] → ∃ g off, A = some ⟨g, off, none⟩ ∧ g < w.heap.size ∧ ∀ k, k < xs.length → w.cell? ⟨g, off + k, none⟩ = some (.int .i64 (xs.getD k 0))
theorem RdI.up {w w' : World} {A : Option Addr} {xs : List Int} (h : RdI w A xs) (u : Up w w') : RdI w' A xs := fun hne => by
  obtain ⟨g, off, e, hg, hc⟩ := h hne
  exact ⟨g, off, e, Nat.lt_of_lt_of_le hg u.size, fun k hk => (u.cell (p := ⟨g, off + k, none⟩) hg).trans (hc k hk)⟩
theorem RdI.at_ {w : World} {A : Option Addr} {xs : List Int} {k : Nat} (h : RdI w A xs) (hk : k < xs.length) : ∃ g off x, A = some ⟨g, off, none⟩ ∧ w.cell? ⟨g, off + k, none⟩ = some (.int .i64 x) ∧ xs[k]? = some x := by
  obtain ⟨g, off, e, hg, hc⟩ := h (fun h0 => by rw [h0] at hk; exact absurd hk (Nat.not_lt_zero _))
  refine ⟨g, off, xs[k], e, ?_, List.getElem?_eq_getElem hk⟩
  rw [hc k hk, List.getD_eq_getElem?_getD, List.getElem?_eq_getElem hk]; rfl

/-- the lesser one, if it is a time -/
def lessOf (n t : Int) : Int := if mayB t = true ∧ t < n then t else n
def leastV (xs : List Int) : Int := xs.foldl lessOf 17592186044416
theorem lessOf_bd {n t : Int} (h : 0 ≤ n ∧ n ≤ 17592186044416) : 0 ≤ lessOf n t ∧ lessOf n t ≤ 17592186044416 := by
  unfold lessOf
  split
  · rename_i c; have := mayB_iff.1 c.1; omega
  · exact h
theorem foldl_bd : ∀ (xs : List Int) (n : Int), 0 ≤ n ∧ n ≤ 17592186044416 → 0 ≤ xs.foldl lessOf n ∧ xs.foldl lessOf n ≤ 17592186044416
  | [], n, h => h
  | x :: r, n, h => foldl_bd r _ (lessOf_bd h)
theorem leastV_bd (xs : List Int) : 0 ≤ leastV xs ∧ leastV xs ≤ 17592186044416 := foldl_bd xs _ (by omega)
theorem leastV_succ {xs : List Int} {k : Nat} {x : Int} (h : xs[k]? = some x) : leastV (xs.take (k + 1)) = lessOf (leastV (xs.take k)) x := by
  obtain ⟨hk, e⟩ := List.getElem?_eq_some_iff.1 h
  unfold leastV
  rw [List.take_succ_eq_append_getElem hk, List.foldl_append, e]; rfl

set_option maxHeartbeats 4000000 in
theorem refLeast (A : Option Addr) (n c : Nat) (xs : List Int) (w : World) (hr : RdI w A xs) (hn : xs.length = n) (hm : n ≤ maxLen) :
    Calls Try.prog 12 #[.slice A n c] w fun e w' => e = .returned (.int .i64 (leastV xs)) ∧ Up w w' := by
  have hn2 : n ≤ 9223372036854775807 := by unfold maxLen at hm; omega
  have HR := Lib.hid hr; have HN := Lib.hid hn
  clear hr hn hm
  go_enter Try.func12, Try.ntmps12
  go_wp2_with fail
  go_loopw [3, 4] (fun m i wr => ∃ j : Nat, j ≤ n ∧ i = .int .i64 j ∧ m = .int .i64 (leastV (xs.take j)) ∧ Up w wr) (fun _ i _ => n - (intOf i).toNat)
  case atStart => exact ⟨0, Nat.zero_le _, rfl, rfl, Below.refl _ _⟩
  case round =>
    obtain ⟨j, hj, rfl, rfl, hu⟩ := hrel
    by_cases hlt : j < n
    · obtain ⟨g, off, x, hA, c1, hx⟩ := (HR.out.up hu).at_ (k := j) (by rw [HN.out]; exact hlt)
      subst hA
      have E := Lib.hid (leastV_succ hx)
      have hbd := leastV_bd (xs.take j)
      have HX := Lib.hid hx; clear hx
      generalize leastV (xs.take j) = m at *
      cases c0 : mayB x
      · have E2 := Lib.hid (show lessOf m x = m by unfold lessOf; rw [if_neg]; rintro ⟨h, _⟩; rw [c0] at h; cases h)
        have hq := refMay x
        rw [c0] at hq
        clear c0
        go_wp2_with (go_at_call 10; refine (hq _).mono ?_; rintro e w' ⟨rfl, rfl⟩)
        go_roundw
        case rel => exact ⟨j + 1, by omega, by go_num, by rw [E.out, E2.out], hu⟩
        case measure => simp [RowKit.intOf]; omega
      · obtain ⟨x1, x2⟩ := mayB_iff.1 c0
        have hq := refMay x
        rw [c0] at hq
        by_cases c2 : x < m
        · have E2 := Lib.hid (show lessOf m x = x by unfold lessOf; rw [if_pos ⟨c0, c2⟩])
          clear c0
          go_wp2_with (go_at_call 10; refine (hq _).mono ?_; rintro e w' ⟨rfl, rfl⟩)
          go_roundw
          case rel => exact ⟨j + 1, by omega, by go_num, by rw [E.out, E2.out], hu⟩
          case measure => simp [RowKit.intOf]; omega
        · have E2 := Lib.hid (show lessOf m x = m by unfold lessOf; rw [if_neg]; rintro ⟨_, h⟩; exact c2 h)
          clear c0
          go_wp2_with (go_at_call 10; refine (hq _).mono ?_; rintro e w' ⟨rfl, rfl⟩)
          go_roundw
          case rel => exact ⟨j + 1, by omega, by go_num, by rw [E.out, E2.out], hu⟩
          case measure => simp [RowKit.intOf]; omega
    · obtain rfl : j = n := by omega
      rw [List.take_of_length_le (by rw [HN.out]; exact Nat.le_refl _)]
      go_wp2
      go_ret
      exact ⟨rfl, hu⟩
end Go.Proofs.Ytebihfojebdfbaa.ck
