/- slices.IndexFunc and slices.DeleteFunc at spans, with 'empty'. Condition: the arguments fit their kinds; a list of less than a million spans. -/
import Derived.Test.YtejknbpadlidaaaSpanH
import Derived.Lib.SliceRun
namespace Go.Proofs.Ytejknbpadlidaaa.sp
open Go.RowKit Go.Shelf Go.Lib Go.Sort Go.Proofs.Ytejknbpadlidaaa.spm
set_option linter.unusedVariables false

/-- a row of spans at a block's head, that may be written -/
def Row (w : World) (g : Nat) (ds : List Sp) : Prop := ∀ k, k < ds.length →
  (w.cell? ⟨g, k * 2, none⟩ = some (.int .u64 (ds.getD k (0, 0)).1) ∧ w.cell? ⟨g, k * 2 + 1, none⟩ = some (.int .u64 (ds.getD k (0, 0)).2)) ∧ w.frozen? ⟨g, k * 2, none⟩ = false ∧ w.frozen? ⟨g, k * 2 + 1, none⟩ = false
theorem Row.up {w w' : World} {g B : Nat} {ds : List Sp} (h : Row w g ds) (hb : Below B w w') (hg : g < B) : Row w' g ds := fun k hk => by
  obtain ⟨⟨h1, h2⟩, h3, h4⟩ := h k hk
  exact ⟨⟨(hb.cell (p := ⟨g, _, none⟩) hg).trans h1, (hb.cell (p := ⟨g, _, none⟩) hg).trans h2⟩, (hb.frozen (p := ⟨g, _, none⟩) hg).trans h3, (hb.frozen (p := ⟨g, _, none⟩) hg).trans h4⟩
theorem frozen_setCell (w : World) (g x : Nat) (q : Addr) (u : Value) : (w.setCell ⟨g, x, none⟩ u).frozen? q = w.frozen? q := World.frozen?_setCells g [u] x w q
theorem off_ne {g a b : Nat} (h : a ≠ b) : (⟨g, a, none⟩ : Addr) ≠ ⟨g, b, none⟩ := fun e => h (congrArg Addr.off e)
theorem Row.set {w : World} {g : Nat} {ds : List Sp} (h : Row w g ds) {m : Nat} (hm : m < ds.length) (a b : Int) :
    Row ((w.setCell ⟨g, m * 2, none⟩ (.int .u64 a)).setCell ⟨g, m * 2 + 1, none⟩ (.int .u64 b)) g (ds.set m (a, b)) := fun k hk => by
  rw [List.length_set] at hk
  obtain ⟨⟨h1, h2⟩, h3, h4⟩ := h k hk
  obtain ⟨⟨m1, m2⟩, _, _⟩ := h m hm
  rw [frozen_setCell, frozen_setCell, frozen_setCell, frozen_setCell]
  refine ⟨?_, h3, h4⟩
  have c0 : (w.setCell ⟨g, m * 2, none⟩ (.int .u64 a)).cell? ⟨g, m * 2 + 1, none⟩ = some (.int .u64 (ds.getD m (0, 0)).2) := by
    rw [World.cell?_setCell_other _ _ _ _ (by first | exact off_ne (by omega))]; exact m2
  by_cases e : k = m
  · subst e
    rw [show (ds.set k (a, b)).getD k (0, 0) = (a, b) by simp [List.getD, hm]]
    refine ⟨?_, ?_⟩
    · rw [World.cell?_setCell_other _ _ _ _ (by first | exact off_ne (by omega))]
      go_simp
    · go_simp
  · rw [show (ds.set m (a, b)).getD k (0, 0) = ds.getD k (0, 0) by simp [List.getD, List.getElem?_set, Ne.symm e]]
    refine ⟨?_, ?_⟩
    · rw [World.cell?_setCell_other _ _ _ _ (by first | exact off_ne (by omega)), World.cell?_setCell_other _ _ _ _ (by first | exact off_ne (by omega))]; exact h1
    · rw [World.cell?_setCell_other _ _ _ _ (by first | exact off_ne (by omega)), World.cell?_setCell_other _ _ _ _ (by first | exact off_ne (by omega))]; exact h2
theorem Row.rd {w : World} {g : Nat} {ds : List Sp} (h : Row w g ds) (hg : g < w.heap.size) : Rd w (some ⟨g, 0, none⟩) ds := fun _ => ⟨g, 0, rfl, hg, fun k hk => by rw [Nat.zero_add]; exact (h k hk).1⟩
theorem Own2.row {w : World} {B g c : Nat} {xs : List (Int × Int)} (h : Own2 w B (.slice (some ⟨g, 0, none⟩) xs.length c) xs) : Row w g xs := fun k hk => by
  have := cells_at xs k hk
  rw [World.ownsRow.cellAt h (k * 2) (by omega), World.ownsRow.cellAt h (k * 2 + 1) (by omega)]
  exact ⟨this, World.ownsRow.frozenAt h _, World.ownsRow.frozenAt h _⟩

/-- what IndexFunc answers: the place of the first empty span, or -1 -/
def IdxPost (ps : List Sp) (r : Int) : Prop := (r = -1 ∧ ∀ s, s ∈ ps → s.1 < s.2) ∨ ∃ k : Nat, r = k ∧ k < ps.length ∧ (∀ j, j < k → (ps.getD j (0, 0)).1 < (ps.getD j (0, 0)).2) ∧ (ps.getD k (0, 0)).2 ≤ (ps.getD k (0, 0)).1

set_option maxHeartbeats 400000 in
theorem indexC (A : Option Addr) (n c : Nat) (ps : List Sp) (w : World) (hr : Rd w A ps) (hn : ps.length = n) (hm : n < 4611686018427387904) :
    Calls Try.prog 56 #[.slice A n c, .func (.func 42) #[] #[]] w fun e w' => ∃ r, e = .returned (.int .i64 r) ∧ Hid (IdxPost ps r) ∧ Below w.heap.size w w' := by
  have HN := Lib.hid hn; clear hn
  go_enter Try.func56, Try.ntmps56
  go_wp2
  go_loopw [8] (fun i wr => ∃ k : Nat, k ≤ n ∧ i = .int .i64 k ∧ Hid (∀ j, j < k → (ps.getD j (0, 0)).1 < (ps.getD j (0, 0)).2) ∧ Below w.heap.size w wr) (fun i _ => n - (intOf i).toNat)
  case atStart => exact ⟨0, Nat.zero_le _, rfl, fun j hj => absurd hj (Nat.not_lt_zero _), Below.refl _ _⟩
  case round =>
    obtain ⟨k, hk, rfl, hall, hb⟩ := hrel
    by_cases hlt : k < n
    · obtain ⟨b, off, rfl, hbl, x1, x2, c1, c2, hx⟩ := (hr.below hb (Nat.le_refl _)).at_ (k := k) (by rw [HN.out]; exact hlt)
      have hxk : ps.getD k (0, 0) = (x1, x2) := by simp [List.getD, hx.out]
      by_cases he : x2 ≤ x1
      · have hI := Lib.hid (show IdxPost ps (k : Int) from .inr ⟨k, rfl, by rw [HN.out]; exact hlt, hall.out, by rw [hxk]; exact he⟩)
        clear hxk
        go_wp2_with fail
        refine (emptyY _ _ _ he).mono ?_
        rintro e w1 ⟨rfl, hb1⟩
        go_wp2
        go_ret
        exact ⟨k, rfl, hI, hb.trans (hb1.mono hb.size)⟩
      · have he' : x1 < x2 := by omega
        have hyes := Lib.hid (show (ps.getD k (0, 0)).1 < (ps.getD k (0, 0)).2 by rw [hxk]; exact he')
        clear hxk he
        go_wp2_with fail
        refine (emptyN _ _ _ he').mono ?_
        rintro e w1 ⟨rfl, hb1⟩
        go_wp2
        go_roundw
        case rel => exact ⟨k + 1, by omega, by go_num, all_succ hall hyes.out, hb.trans (hb1.mono hb.size)⟩
        case measure => simp [intOf]; omega
    · have hI := Lib.hid (show IdxPost ps (-1) from .inl ⟨rfl, fun s hs => by
        obtain ⟨j, hj, hjs⟩ := List.mem_iff_getElem.1 hs
        have := hall.out j (by rw [HN.out] at hj; omega)
        rwa [show ps.getD j (0, 0) = s by simp [List.getD, hj, hjs]] at this⟩)
      go_wp2
      go_ret
      exact ⟨-1, rfl, hI, hb⟩

/-- the spans that are not empty -/
def neL (ps : List Sp) : List Sp := ps.filter fun s => decide (s.1 < s.2)
/-- how far DeleteFunc has come: place j, m of them kept -/
structure DelAt (ps : List Sp) (j m : Nat) (ds : List Sp) : Prop where
  len : ds.length = ps.length
  kept : ds.take m = neL (ps.take j)
  rest : ∀ t, j ≤ t → ds[t]? = ps[t]?
  lt : m < j
  le : j ≤ ps.length
theorem neL_all {ps : List Sp} (h : ∀ s, s ∈ ps → s.1 < s.2) : neL ps = ps := by
  unfold neL; rw [List.filter_eq_self]; intro s hs; simpa using h s hs
theorem neL_snoc (ps : List Sp) (s : Sp) : neL (ps ++ [s]) = neL ps ++ if s.1 < s.2 then [s] else [] := by
  unfold neL; rw [List.filter_append]; by_cases h : s.1 < s.2 <;> simp [List.filter_cons, h]
theorem DelAt.start {ps : List Sp} {k : Nat} (hk : k < ps.length) (h : ∀ j, j < k → (ps.getD j (0, 0)).1 < (ps.getD j (0, 0)).2) (he : (ps.getD k (0, 0)).2 ≤ (ps.getD k (0, 0)).1) : DelAt ps (k + 1) k ps := by
  refine ⟨rfl, ?_, fun t _ => rfl, by omega, by omega⟩
  have e : ps.take (k + 1) = ps.take k ++ [ps.getD k (0, 0)] := take_snoc' (by simp [List.getD, hk])
  rw [e, neL_snoc, if_neg (by omega), List.append_nil, neL_all]
  intro s hs
  obtain ⟨j, hj, hjs⟩ := List.mem_iff_getElem.1 hs
  rw [List.length_take] at hj
  have := h j (by omega)
  rw [List.getElem_take] at hjs
  rwa [show ps.getD j (0, 0) = s by simp [List.getD, show j < ps.length by omega, hjs]] at this
theorem DelAt.skip {ps ds : List Sp} {j m : Nat} {x : Sp} (h : DelAt ps j m ds) (hx : ps[j]? = some x) (he : x.2 ≤ x.1) : DelAt ps (j + 1) m ds := by
  have hj := (List.getElem?_eq_some_iff.1 hx).1
  exact ⟨h.len, by rw [take_snoc' hx, neL_snoc, if_neg (by omega), List.append_nil]; exact h.kept, fun t ht => h.rest t (by omega), by have := h.lt; omega, by omega⟩
theorem DelAt.keep {ps ds : List Sp} {j m : Nat} {x : Sp} (h : DelAt ps j m ds) (hx : ps[j]? = some x) (he : x.1 < x.2) : DelAt ps (j + 1) (m + 1) (ds.set m x) := by
  have hj := (List.getElem?_eq_some_iff.1 hx).1
  have hl := h.lt
  have hlen := h.len
  refine ⟨by rw [List.length_set]; exact hlen, ?_, fun t ht => ?_, by omega, by omega⟩
  · rw [take_snoc' hx, neL_snoc, if_pos he, ← h.kept]
    rw [take_snoc' (xs := ds.set m x) (x := x) (k := m) (by rw [List.getElem?_set_self (by omega)])]
    rw [List.take_set_of_le (Nat.le_refl m)]
  · rw [List.getElem?_set_ne (by omega)]; exact h.rest t (by omega)
end Go.Proofs.Ytejknbpadlidaaa.sp
