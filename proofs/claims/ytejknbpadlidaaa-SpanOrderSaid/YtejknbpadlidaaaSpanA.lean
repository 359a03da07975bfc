/- Package span and the document's answer: small functions, what each returns for every input. Condition: the arguments fit their kinds. -/
import Derived.Test.YtejknbpadlidaaaRows
import Derived.WalkKit
import Derived.ProofKit
import Derived.Lib.Hide
import Derived.BigQuiet
import Derived.Deep.QuietTactic
import Derived.Deep.LoopGhost
import Derived.Deep.RegionWith
import Derived.Outline
namespace Go.Proofs.Ytejknbpadlidaaa.sp
open Go.RowKit
set_option linter.unusedVariables false

theorem ret_int {k : IntKind} {a b : Int} (h : a = b) : Ending.returned (.int k a) = .returned (.int k b) := by rw [h]
theorem ret_bool {a b : Bool} (h : a = b) : Ending.returned (.bool a) = .returned (.bool b) := by rw [h]

/-- a slice's address and its spans, as they lie in a world -/
def Rd (w : World) (A : Option Addr) (xs : List (Int × Int)) : Prop :=
  xs ≠ [] → ∃ b off, A = some ⟨b, off, none⟩ ∧ b < w.heap.size ∧ ∀ k, k < xs.length →
    w.cell? ⟨b, off + k * 2, none⟩ = some (.int .u64 (xs.getD k (0, 0)).1) ∧ w.cell? ⟨b, off + k * 2 + 1, none⟩ = some (.int .u64 (xs.getD k (0, 0)).2)
theorem Rd.at_ {w : World} {A : Option Addr} {xs : List (Int × Int)} (h : Rd w A xs) {k : Nat} (hk : k < xs.length) : ∃ b off, A = some ⟨b, off, none⟩ ∧ b < w.heap.size ∧
    ∃ x1 x2, w.cell? ⟨b, off + k * 2, none⟩ = some (.int .u64 x1) ∧ w.cell? ⟨b, off + k * 2 + 1, none⟩ = some (.int .u64 x2) ∧ Hid (xs[k]? = some (x1, x2)) := by
  obtain ⟨b, off, e, hl, hc⟩ := h (by intro h; subst h; simp at hk)
  obtain ⟨c1, c2⟩ := hc k hk
  exact ⟨b, off, e, hl, _, _, c1, c2, (show xs[k]? = _ by simp [List.getD, List.getElem?_eq_getElem hk])⟩
theorem Rd.two {w : World} {A : Option Addr} {xs : List (Int × Int)} (h : Rd w A xs) {k j : Nat} (hk : k < xs.length) (hj : j < xs.length) : ∃ b off, A = some ⟨b, off, none⟩ ∧ b < w.heap.size ∧
    ∃ x1 x2 y1 y2, w.cell? ⟨b, off + k * 2, none⟩ = some (.int .u64 x1) ∧ w.cell? ⟨b, off + k * 2 + 1, none⟩ = some (.int .u64 x2) ∧ Hid (xs[k]? = some (x1, x2)) ∧
      w.cell? ⟨b, off + j * 2, none⟩ = some (.int .u64 y1) ∧ w.cell? ⟨b, off + j * 2 + 1, none⟩ = some (.int .u64 y2) ∧ Hid (xs[j]? = some (y1, y2)) := by
  obtain ⟨b, off, e, hl, x1, x2, c1, c2, hx⟩ := h.at_ hk
  obtain ⟨b', off', e', hl', y1, y2, d1, d2, hy⟩ := h.at_ hj
  rw [e] at e'; cases e'
  exact ⟨b, off, e, hl, x1, x2, y1, y2, c1, c2, hx, d1, d2, hy⟩
theorem Rd.below {w w' : World} {A : Option Addr} {xs : List (Int × Int)} (h : Rd w A xs) {B : Nat} (hb : Below B w w') (hB : w.heap.size ≤ B) : Rd w' A xs := fun hn => by
  obtain ⟨b, off, rfl, hlt, hc⟩ := h hn
  refine ⟨b, off, rfl, Nat.lt_of_lt_of_le hlt hb.size, fun k hk => ?_⟩
  obtain ⟨h1, h2⟩ := hc k hk
  exact ⟨(hb.cell (p := ⟨b, _, none⟩) (Nat.lt_of_lt_of_le hlt hB)).trans h1, (hb.cell (p := ⟨b, _, none⟩) (Nat.lt_of_lt_of_le hlt hB)).trans h2⟩

/-! ### A region that draws its order, whose calls make memory of their own: one walk, in the order of the text (the library's 'wp_region_quiet', at the class of worlds that lie above W) -/
/-- a world above W -/
structure Kin (W : World) where
  w : World
  below : Below W.heap.size W w
instance (W : World) : Nonempty (Kin W) := ⟨⟨W, Below.refl _ _⟩⟩
theorem wp_region_kin {P : Program} {id : Nat} {Q : Exit → Act → World → Prop} {a : Act} {w : World} {l : List Oper} (hm : P.follows .mixedOrders = true) (hB : Region.lexB .any l.toArray = true)
    (h : wpQuiet P l.toArray (fun w' => ∃ t : Kin w, w' = t.w) (fun a' => ∀ w', (∃ t : Kin w, w' = t.w) → Q .normal a' w') l a) : (Code.region id l.toArray true).wp P Q a w :=
  wp_region_quiet (C := fun w' => ∃ t : Kin w, w' = t.w) hm hB ⟨⟨_, (Below.refl _ w).drew⟩, rfl⟩ (by simpa using h)
theorem Kin.cell {W : World} {a : Addr} {v : Value} (h : W.cell? a = some v) (t : Kin W) : t.w.cell? a = some v := (t.below.cell (World.block_lt_of_cell? W a h)).trans h
theorem Kin.call {P : Program} {f : FuncId} {args : Array Value} {W : World} {v : Value} (t : Kin W) (h : Calls P f args t.w fun e w' => e = .returned v ∧ Below t.w.heap.size t.w w') :
    Calls P f args t.w fun e w'' => e = .returned v ∧ ∃ t' : Kin W, w'' = t'.w :=
  h.mono fun _ _ ⟨he, hb⟩ => ⟨he, ⟨_, t.below.trans (hb.mono t.below.size)⟩, rfl⟩
theorem cell_up {W w1 : World} {a : Addr} {v : Value} (hb : Below W.heap.size W w1) (h : W.cell? a = some v) : w1.cell? a = some v := (hb.cell (World.block_lt_of_cell? W a h)).trans h

theorem emptyC (a b : Int) (w : World) :
    Calls Try.prog 42 #[.agg #[.int .u64 a, .int .u64 b]] w fun e w' => e = .returned (.bool (decide (b ≤ a))) ∧ Below w.heap.size w w' := by
  go_enter Try.func42, Try.ntmps42
  go_wp2
  go_ret
  exact ⟨rfl, (Below.refl _ _).alloc (Nat.le_refl _) _⟩
theorem emptyY (a b : Int) (w : World) (h : b ≤ a) :
    Calls Try.prog 42 #[.agg #[.int .u64 a, .int .u64 b]] w fun e w' => e = .returned (.bool true) ∧ Below w.heap.size w w' := by
  have := emptyC a b w
  rw [show decide (b ≤ a) = true by simpa using h] at this
  exact this
theorem emptyN (a b : Int) (w : World) (h : a < b) :
    Calls Try.prog 42 #[.agg #[.int .u64 a, .int .u64 b]] w fun e w' => e = .returned (.bool false) ∧ Below w.heap.size w w' := by
  have := emptyC a b w
  rw [show decide (b ≤ a) = false by simpa using h] at this
  exact this
theorem startC (a b : Int) (w : World) :
    Calls Try.prog 47 #[.agg #[.int .u64 a, .int .u64 b]] w fun e w' => e = .returned (.int .u64 a) ∧ Below w.heap.size w w' := by
  go_enter Try.func47, Try.ntmps47
  go_wp2
  go_ret
  exact ⟨rfl, (Below.refl _ _).alloc (Nat.le_refl _) _⟩
theorem joinC (a b c d : Int) (w : World) :
    Calls Try.prog 48 #[.agg #[.int .u64 a, .int .u64 b], .agg #[.int .u64 c, .int .u64 d]] w fun e w' =>
      e = .returned (.tuple #[.agg #[.int .u64 (if c ≤ b then a else 0), .int .u64 (if c ≤ b then max b d else 0)], .bool (decide (c ≤ b))]) ∧ Below w.heap.size w w' := by
  by_cases h : c ≤ b
  · by_cases h2 : d ≤ b
    · have e1 := Lib.hid (show max b d = b by omega)
      have e2 := Lib.hid (show decide (c ≤ b) = true by simpa using h)
      rw [if_pos h, if_pos h, e1.out, e2.out]
      go_enter Try.func48, Try.ntmps48
      go_wp2
      exact bodyPost_ret (v := .tuple #[.agg #[.int .u64 a, .int .u64 b], .bool true]) (by simp [results, Try.results48, go_sem]) rfl ⟨rfl, (((Below.refl _ _).alloc (Nat.le_refl _) _).alloc (by simp) _).alloc (by simp; omega) _⟩
    · have e1 := Lib.hid (show max b d = d by omega)
      have e2 := Lib.hid (show decide (c ≤ b) = true by simpa using h)
      have h3 : b < d := by omega
      rw [if_pos h, if_pos h, e1.out, e2.out]
      go_enter Try.func48, Try.ntmps48
      go_wp2
      exact bodyPost_ret (v := .tuple #[.agg #[.int .u64 a, .int .u64 d], .bool true]) (by simp [results, Try.results48, go_sem]) rfl ⟨rfl, (((Below.refl _ _).alloc (Nat.le_refl _) _).alloc (by simp) _).alloc (by simp; omega) _⟩
  · have e2 := Lib.hid (show decide (c ≤ b) = false by simpa using h)
    have h3 : b < c := by omega
    rw [if_neg h, if_neg h, e2.out]
    go_enter Try.func48, Try.ntmps48
    go_wp2
    exact bodyPost_ret (v := .tuple #[.agg #[.int .u64 0, .int .u64 0], .bool false]) (by simp [results, Try.results48, go_sem]) rfl ⟨rfl, (((Below.refl _ _).alloc (Nat.le_refl _) _).alloc (by simp) _).alloc (by simp; omega) _⟩

/-- the span at place j is not empty, and begins above the end of the one ahead -/
def okAt (xs : List (Int × Int)) (j : Nat) : Bool := decide ((xs.getD j (0, 0)).1 < (xs.getD j (0, 0)).2) && (j == 0 || decide ((xs.getD (j - 1) (0, 0)).2 < (xs.getD j (0, 0)).1))
def mayB (xs : List (Int × Int)) : Bool := decide (xs.length ≤ 256) && (List.range xs.length).all (okAt xs)

theorem all_succ {p : Nat → Prop} {k : Nat} (h : Hid (∀ j, j < k → p j)) (hk : p k) : Hid (∀ j, j < k + 1 → p j) := fun j hj => by
  rcases (show j < k ∨ j = k by omega) with h1 | h1
  · exact h.out j h1
  · rw [h1]; exact hk
theorem okAt_is {xs : List (Int × Int)} {k : Nat} {x1 x2 : Int} (h : xs[k]? = some (x1, x2)) : okAt xs k = (decide (x1 < x2) && (k == 0 || decide ((xs.getD (k - 1) (0, 0)).2 < x1))) := by
  unfold okAt; rw [show xs.getD k (0, 0) = (x1, x2) by simp [List.getD, h]]
theorem okAt_is2 {xs : List (Int × Int)} {k : Nat} {x1 x2 y1 y2 : Int} (h : xs[k]? = some (x1, x2)) (hy : xs[k - 1]? = some (y1, y2)) : okAt xs k = (decide (x1 < x2) && (k == 0 || decide (y2 < x1))) := by
  rw [okAt_is h, show xs.getD (k - 1) (0, 0) = (y1, y2) by simp [List.getD, hy]]
theorem mayB_no {xs : List (Int × Int)} {k : Nat} (hk : k < xs.length) (h : okAt xs k = false) : mayB xs = false := by
  unfold mayB
  rw [Bool.and_eq_false_iff]
  right
  rw [List.all_eq_false]
  exact ⟨k, by simpa using hk, by simp [h]⟩
theorem mayB_yes {xs : List (Int × Int)} (hl : xs.length ≤ 256) (h : ∀ j, j < xs.length → okAt xs j = true) : mayB xs = true := by
  unfold mayB
  simp only [hl, decide_true, Bool.true_and, List.all_eq_true, List.mem_range]
  exact h
theorem bcell {W w1 : World} (hb : Below W.heap.size W w1) : (∀ b o, b < W.heap.size → w1.cell? ⟨b, o, none⟩ = W.cell? ⟨b, o, none⟩) ∧ (∀ b o, b < W.heap.size → w1.frozen? ⟨b, o, none⟩ = W.frozen? ⟨b, o, none⟩) :=
  ⟨fun b o h => hb.cell (p := ⟨b, o, none⟩) h, fun b o h => hb.frozen (p := ⟨b, o, none⟩) h⟩

set_option maxHeartbeats 400000 in
theorem mayC (A : Option Addr) (n c : Nat) (xs : List (Int × Int)) (w : World) (hr : Rd w A xs) (hn : xs.length = n) (hm : n ≤ maxLen) :
    Calls Try.prog 23 #[.slice A n c] w fun e w' => e = .returned (.bool (mayB xs)) ∧ Below w.heap.size w w' := by
  unfold maxLen at hm
  have HN := Lib.hid hn; clear hn
  by_cases hl : n ≤ 256
  · go_enter Try.func23, Try.ntmps23
    go_wp2
    go_loopw [10] (fun i wr => ∃ k : Nat, k ≤ n ∧ i = .int .i64 k ∧ Hid (∀ j, j < k → okAt xs j = true) ∧ Below w.heap.size w wr) (fun i _ => n - (intOf i).toNat)
    case atStart => exact ⟨0, Nat.zero_le _, rfl, fun j hj => absurd hj (Nat.not_lt_zero _), Below.refl _ _⟩
    case round =>
      obtain ⟨k, hk, rfl, hall, hb⟩ := hrel
      by_cases hlt : k < n
      · have hlt' : k < xs.length := by rw [HN.out]; exact hlt
        have hlp : k - 1 < xs.length := by omega
        obtain ⟨b, off, rfl, hbl, x1, x2, y1, y2, c1, c2, hx, d1, d2, hy⟩ := (hr.below hb (Nat.le_refl _)).two hlt' hlp
        clear hr
        go_wp2
        obtain ⟨W, hW⟩ : ∃ W, Hid (W = wr.alloc (.cells #[.int .u64 x1, .int .u64 x2] 31)) := ⟨_, rfl⟩
        have g1 : W.cell? ⟨wr.heap.size, 0, none⟩ = some (.int .u64 x1) := by rw [hW.out]; go_simp
        have g2 : W.cell? ⟨wr.heap.size, 1, none⟩ = some (.int .u64 x2) := by rw [hW.out]; go_simp
        have g3 : W.cell? ⟨b, off + (k - 1) * 2 + 1, none⟩ = some (.int .u64 y2) := by rw [hW.out]; go_simp
        have hbW : Below w.heap.size w W := by rw [hW.out]; exact hb.alloc hb.size _
        rw [← hW.out]
        replace g1 := Kin.cell g1; replace g2 := Kin.cell g2; replace g3 := Kin.cell g3
        by_cases he : x2 ≤ x1
        · have hno := Lib.hid (mayB_no hlt' (show okAt xs k = false by rw [okAt_is hx.out]; simp; omega))
          clear hlt' hlp d1 d2 hy
          refine wp_region_kin (by kernel_rfl) (by kernel_rfl) ?_
          repeat (go_big_quiet_step ((go_at_call 42; exact Kin.call _ (emptyY _ _ _ he))))
          refine wpQuiet_nil ?_
          rintro _ ⟨⟨w1, hb1⟩, rfl⟩
          go_wp2
          go_ret
          exact ⟨ret_bool hno.out.symm, hbW.trans (hb1.mono hbW.size)⟩
        · have he' : x1 < x2 := by omega
          clear he
          by_cases hk0 : k = 0
          · have hyes := Lib.hid (show okAt xs k = true by rw [okAt_is hx.out]; simp [hk0, he'])
            have hk0' : decide (0 < k) = false := by simp [hk0]
            clear hk0 hlt' hlp d1 d2 hy
            refine wp_region_kin (by kernel_rfl) (by kernel_rfl) ?_
            repeat (go_big_quiet_step ((go_at_call 42; exact Kin.call _ (emptyN _ _ _ he'))))
            refine wpQuiet_nil ?_
            rintro _ ⟨⟨w1, hb1⟩, rfl⟩
            go_wp2
            go_roundw
            case rel => exact ⟨k + 1, by omega, by go_num, all_succ hall hyes.out, hbW.trans (hb1.mono hbW.size)⟩
            case measure => simp [intOf]; omega
          · have hk0' : 0 < k := by omega
            by_cases ht : x1 ≤ y2
            · have hno := Lib.hid (mayB_no hlt' (show okAt xs k = false by rw [okAt_is2 hx.out hy.out]; simp [hk0]; omega))
              clear hk0 hlt' hlp d1 d2 hy
              refine wp_region_kin (by kernel_rfl) (by kernel_rfl) ?_
              repeat (go_big_quiet_step ((go_at_call 42; exact Kin.call _ (emptyN _ _ _ he'))))
              refine wpQuiet_nil ?_
              rintro _ ⟨⟨w1, hb1⟩, rfl⟩
              go_wp2
              go_ret
              exact ⟨ret_bool hno.out.symm, hbW.trans (hb1.mono hbW.size)⟩
            · have ht' : y2 < x1 := by omega
              have hyes := Lib.hid (show okAt xs k = true by rw [okAt_is2 hx.out hy.out]; simp [he', ht'])
              clear ht hk0 hlt' hlp d1 d2 hy
              refine wp_region_kin (by kernel_rfl) (by kernel_rfl) ?_
              repeat (go_big_quiet_step ((go_at_call 42; exact Kin.call _ (emptyN _ _ _ he'))))
              refine wpQuiet_nil ?_
              rintro _ ⟨⟨w1, hb1⟩, rfl⟩
              go_wp2
              go_roundw
              case rel => exact ⟨k + 1, by omega, by go_num, all_succ hall hyes.out, hbW.trans (hb1.mono hbW.size)⟩
              case measure => simp [intOf]; omega
      · have hyes := Lib.hid (mayB_yes (xs := xs) (by rw [HN.out]; exact hl) (fun j hj => hall.out j (by rw [HN.out] at hj; omega)))
        go_wp2
        go_ret
        exact ⟨ret_bool hyes.out.symm, hb⟩
  · go_enter Try.func23, Try.ntmps23
    go_wp2
    go_ret
    exact ⟨ret_bool (by unfold mayB; rw [HN.out]; simp [hl]), Below.refl _ _⟩
end Go.Proofs.Ytejknbpadlidaaa.sp
