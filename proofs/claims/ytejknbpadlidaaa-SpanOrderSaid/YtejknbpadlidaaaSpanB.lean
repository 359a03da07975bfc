/- Package span: at, Has, Covers, Gap, Len: what each returns for every input. Condition: the arguments fit their kinds. -/
import Derived.Test.YtejknbpadlidaaaSpanA
import Derived.Test.YtejknbpadlidaaaSpanM
import Derived.Test.YtejknbpadlidaaaSpanLaid
namespace Go.Proofs.Ytejknbpadlidaaa.sp
open Go.RowKit Go.Shelf Go.Lib Go.Sort Go.Proofs.Ytejknbpadlidaaa.spm
set_option linter.unusedVariables false

theorem mayB_can_tail : ∀ (r : List Sp) (x : Sp), (∀ j, j < (x :: r).length → okAt (x :: r) j = true) ↔ x.1 < x.2 ∧ Canon x.2 r
  | [], x => by
    constructor
    · intro h
      have := h 0 (by simp)
      simp [okAt] at this
      exact ⟨this, trivial⟩
    · rintro ⟨h, _⟩ j hj
      obtain rfl : j = 0 := by simpa using hj
      simp [okAt, h]
  | y :: t, x => by
    have ih := mayB_can_tail t y
    constructor
    · intro h
      have h0 := h 0 (by simp)
      have h1 := h 1 (by simp)
      simp [okAt] at h0 h1
      refine ⟨h0, h1.2, ih.1 fun j hj => ?_⟩
      cases j with
      | zero => simp [okAt, h1.1]
      | succ j =>
        have := h (j + 2) (by simpa using hj)
        simpa [okAt] using this
    · rintro ⟨h0, h1, h2⟩ j hj
      have hy := ih.2 h2
      match j with
      | 0 => simp [okAt, h0]
      | 1 => have := hy 0 (by simp); simp [okAt] at this ⊢; exact ⟨this, h1⟩
      | j + 2 => have := hy (j + 1) (by simpa using hj); simpa [okAt] using this
theorem mayB_can (xs : List Sp) (h0 : ∀ s, s ∈ xs → 0 ≤ s.1) : mayB xs = true ↔ xs.length ≤ 256 ∧ Canon (-1) xs := by
  unfold mayB
  rw [Bool.and_eq_true, decide_eq_true_eq, List.all_eq_true]
  refine and_congr Iff.rfl ?_
  cases xs with
  | nil => simp [Canon]
  | cons x r =>
    have := mayB_can_tail r x
    have hx := h0 x List.mem_cons_self
    simp only [List.mem_range]
    rw [this]
    show _ ↔ (-1 : Int) < x.1 ∧ x.1 < x.2 ∧ Canon x.2 r
    constructor
    · rintro ⟨a, b⟩; exact ⟨by omega, a, b⟩
    · rintro ⟨_, a, b⟩; exact ⟨a, b⟩

theorem wrongC (A : Option Addr) (n c : Nat) (xs : List (Int × Int)) (a b : Int) (w : World) (hr : Rd w A xs) (hn : xs.length = n) (hm : n ≤ maxLen) :
    Calls Try.prog 38 #[.slice A n c, .agg #[.int .u64 a, .int .u64 b]] w fun e w' => e = .returned (.int .i64 (if mayB xs then (if b < a then 2 else 0) else 8)) ∧ Below w.heap.size w w' := by
  have hc := mayC A n c xs (w.alloc (.cells #[.int .u64 a, .int .u64 b] 31)) (hr.below ((Below.refl _ _).alloc (Nat.le_refl _) _) (Nat.le_refl _)) hn hm
  have HN := Lib.hid hn; clear hn hr
  have g1 : (w.alloc (.cells #[.int .u64 a, .int .u64 b] 31)).cell? ⟨w.heap.size, 0, none⟩ = some (.int .u64 a) := by go_simp
  have g2 : (w.alloc (.cells #[.int .u64 a, .int .u64 b] 31)).cell? ⟨w.heap.size, 1, none⟩ = some (.int .u64 b) := by go_simp
  have hB : Below w.heap.size w (w.alloc (.cells #[.int .u64 a, .int .u64 b] 31)) := (Below.refl _ _).alloc (Nat.le_refl _) _
  cases hmay : mayB xs
  · rw [hmay] at hc
    have HC := Lib.hid hc; clear hc hmay g1 g2
    go_enter Try.func38, Try.ntmps38
    go_wp2_with (go_at_call 23; refine HC.out.mono ?_; rintro e w' ⟨rfl, hb'⟩)
    go_ret
    exact ⟨rfl, hB.trans (hb'.mono (by simp))⟩
  · rw [hmay] at hc
    have HC := Lib.hid hc; clear hc hmay
    by_cases h : b < a
    · have HE := Lib.hid (show (if true = true then (if b < a then 2 else 0) else 8 : Int) = 2 by simp [h])
      go_enter Try.func38, Try.ntmps38
      go_wp2_with (go_at_call 23; refine HC.out.mono ?_; rintro e w' ⟨rfl, hb'⟩; have f1 := cell_up hb' g1; have f2 := cell_up hb' g2)
      go_ret
      exact ⟨rfl, hB.trans (by apply Below.mono (by assumption) (by simp))⟩
    · have h' : a ≤ b := by omega
      go_enter Try.func38, Try.ntmps38
      go_wp2_with (go_at_call 23; refine HC.out.mono ?_; rintro e w' ⟨rfl, hb'⟩; have f1 := cell_up hb' g1; have f2 := cell_up hb' g2)
      go_ret
      exact ⟨rfl, hB.trans (by apply Below.mono (by assumption) (by simp))⟩

theorem at51C (A : Option Addr) (n c i : Nat) (p1 p2 : Addr) (xs : List (Int × Int)) (v : Int) (W : World) (hr : Rd W A xs) (hn : xs.length = n) (hm : n ≤ maxLen) (hi : i < n)
    (h1 : W.cell? p1 = some (.int .u64 v)) (h2 : W.cell? p2 = some (.slice A n c)) :
    Calls Try.prog 51 #[.int .i64 i, .pointer (some p1), .pointer (some p2)] W fun e w' => e = .returned (.bool (decide (v < (xs.getD i (0, 0)).2))) ∧ ∃ q, w' = W.drewN q := by
  unfold maxLen at hm
  obtain ⟨b, off, rfl, hbl, x1, x2, c1, c2, hx⟩ := hr.at_ (k := i) (by omega)
  rw [show (xs.getD i (0, 0)) = (x1, x2) by simp [List.getD, hx.out]]
  have HN := Lib.hid hn; clear hn hr
  go_enter Try.func51, Try.ntmps51
  go_wp2
  go_quiet (fail)
  go_wp2
  go_ret
  exact ⟨rfl, _, rfl⟩

theorem grow_below (w : World) (q : Nat) (os : Array Obj) : Below w.heap.size w (grow (w.drewN q) os) := below_grown_sl _ w q os (Nat.le_refl _)
theorem drewN_grow (w : World) (q : Nat) : w.drewN q = grow (w.drewN q) #[] := by rw [grow_empty]
/-- the span of xs that has v, if there is one -/
def atL (xs : List (Int × Int)) (v : Int) : Option (Int × Int) := xs.find? (inB · v)
theorem list_range_countP (xs : List Sp) (v : Int) : (List.range xs.length).countP (fun i => !(decide (v < (xs.getD i (0, 0)).2))) = xs.countP (fun s => !decide (v < s.2)) := by
  have h : xs = (List.range xs.length).map (fun i => xs.getD i (0, 0)) := by
    apply List.ext_getElem
    · simp
    · intro i h1 h2; simp [List.getD, h1]
  conv => rhs; rw [h, List.countP_map]
  rfl

set_option maxHeartbeats 1000000 in
theorem searchC (A : Option Addr) (n c : Nat) (p1 p2 : Addr) (xs : List (Int × Int)) (v : Int) (W : World) (hr : Rd W A xs) (hn : xs.length = n) (hm : n < 4611686018427387904) (hcan : Canon (-1) xs)
    (h1 : W.cell? p1 = some (.int .u64 v)) (h2 : W.cell? p2 = some (.slice A n c)) :
    Calls Try.prog 50 #[.int .i64 n, .func (.func 51) #[] #[.pointer (some p1), .pointer (some p2)]] W fun e w' =>
      e = .returned (.int .i64 ((xs.countP (fun s => !decide (v < s.2)) : Nat) : Int)) ∧ Below W.heap.size W w' := by
  have eg : ∀ args w, (callFunc 51 args).run Try.prog w = .ok (.enter 51 args) w := enters_of Try.func51 (by kernel_rfl) rfl
  have hcon := Any.sort_Search Try.search 51 #[.pointer (some p1), .pointer (some p2)] n (fun i => decide (v < (xs.getD i (0, 0)).2)) W eg hm
    (fun m os i hi => (at51C A n c i p1 p2 xs v (grow (W.drewN m) os) (hr.below (grow_below W m os) (Nat.le_refl _)) hn (by unfold maxLen; omega) hi (cell_up (grow_below W m os) h1) (cell_up (grow_below W m os) h2)).mono
      fun e w' ⟨he, q, hw⟩ => ⟨he, q, #[], by rw [hw, grow_empty]⟩)
    (fun a b hab hb h => by
      have ha : a < n := by omega
      rw [← hn] at ha hb
      have := hcan.ends_up a b _ _ hab (List.getElem?_eq_getElem ha) (List.getElem?_eq_getElem hb)
      simp [List.getD, List.getElem?_eq_getElem ha, List.getElem?_eq_getElem hb] at h ⊢
      omega)
  change Calls Try.prog 50 _ _ _ at hcon
  refine hcon.mono fun e w' ⟨he, q, os, hw⟩ => ⟨?_, by rw [hw]; exact grow_below W q os⟩
  rw [he, ← hn, list_range_countP]

set_option maxHeartbeats 1000000 in
theorem atC (A : Option Addr) (n c : Nat) (xs : List (Int × Int)) (v : Int) (w : World) (hr : Rd w A xs) (hn : xs.length = n) (hm : n < 4611686018427387904) (hcan : Canon (-1) xs) :
    Calls Try.prog 43 #[.slice A n c, .int .u64 v] w fun e w' => e = .returned (.tuple #[.agg #[.int .u64 ((atL xs v).getD (0, 0)).1, .int .u64 ((atL xs v).getD (0, 0)).2], .bool (atL xs v).isSome]) ∧ Below w.heap.size w w' := by
  obtain ⟨W, hW⟩ : ∃ W, Hid (W = ((w.alloc (.cells #[.slice A n c] 28)).alloc (.cells #[.int .u64 v] 29)).alloc (.cells #[.int .u64 0, .int .u64 0] 31)) := ⟨_, rfl⟩
  have hB : Below w.heap.size w W := by rw [hW.out]; exact (((Below.refl _ _).alloc (Nat.le_refl _) _).alloc (by simp) _).alloc (by simp; omega) _
  have g1 : W.cell? ⟨w.heap.size + 1, 0, none⟩ = some (.int .u64 v) := by rw [hW.out]; go_simp
  have g2 : W.cell? ⟨w.heap.size, 0, none⟩ = some (.slice A n c) := by rw [hW.out]; go_simp
  have g3 : W.cell? ⟨w.heap.size + 1 + 1, 0, none⟩ = some (.int .u64 0) := by rw [hW.out]; go_simp
  have g4 : W.cell? ⟨w.heap.size + 1 + 1, 1, none⟩ = some (.int .u64 0) := by rw [hW.out]; go_simp
  have g5 : W.frozen? ⟨w.heap.size + 1 + 1, 0, none⟩ = false := by rw [hW.out]; go_simp
  have g6 : W.frozen? ⟨w.heap.size + 1 + 1, 1, none⟩ = false := by rw [hW.out]; go_simp
  have hs : w.heap.size + 1 + 1 < W.heap.size := by rw [hW.out]; simp
  have hS := searchC A n c ⟨w.heap.size + 1, 0, none⟩ ⟨w.heap.size, 0, none⟩ xs v W (hr.below hB (Nat.le_refl _)) hn hm hcan g1 g2
  have hsp := hcan.search v
  have hle : xs.countP (fun s => !decide (v < s.2)) ≤ n := by rw [← hn]; exact List.countP_le_length
  generalize hi : xs.countP (fun s => !decide (v < s.2)) = i at hS hsp hle
  have HI := Lib.hid hi; have HS := Lib.hid hS; clear hi hS
  have key : (i = n ∧ atL xs v = none) ∨ (i < n ∧ ∃ s, xs[i]? = some s ∧ v < s.2 ∧ atL xs v = if s.1 ≤ v then some s else none) := by
    rcases hsp with ⟨h1, h2⟩ | ⟨s, h1, h2⟩
    · exact .inl ⟨by omega, h2⟩
    · exact .inr ⟨by have := (List.getElem?_eq_some_iff.1 h1).1; omega, s, h1, h2⟩
  have HN := Lib.hid hn; clear hn hsp hcan
  go_enter Try.func43, Try.ntmps43
  go_wp2_with fail
  rw [← hW.out]
  refine HS.out.mono ?_
  rintro e w1 ⟨rfl, hb1⟩
  have hB1 : Below w.heap.size w w1 := hB.trans (hb1.mono hB.size)
  have hr1 := hr.below hB1 (Nat.le_refl _)
  replace g1 := cell_up hb1 g1; replace g2 := cell_up hb1 g2; replace g3 := cell_up hb1 g3; replace g4 := cell_up hb1 g4
  replace g5 := (hb1.frozen (p := ⟨w.heap.size + 1 + 1, 0, none⟩) hs).trans g5; replace g6 := (hb1.frozen (p := ⟨w.heap.size + 1 + 1, 1, none⟩) hs).trans g6
  have hs1 : w.heap.size + 1 + 1 < w1.heap.size := Nat.lt_of_lt_of_le hs hb1.size
  clear hr hB hb1 hs HS hW
  rcases key with ⟨rfl, hnone⟩ | ⟨hlt, ⟨x1, x2⟩, hxi, hv, hat⟩
  · have HA := Lib.hid hnone; clear hnone
    have q1 := Kin.cell g1; have q2 := Kin.cell g2
    go_wp2_with fail
    refine wp_region_kin (by kernel_rfl) (by kernel_rfl) ?_
    repeat (go_big_quiet_step (fail))
    refine wpQuiet_nil ?_
    rintro _ ⟨⟨w2, hb2⟩, rfl⟩
    clear q1 q2
    replace g3 := cell_up hb2 g3; replace g4 := cell_up hb2 g4
    replace g5 := (hb2.frozen (p := ⟨w.heap.size + 1 + 1, 0, none⟩) hs1).trans g5; replace g6 := (hb2.frozen (p := ⟨w.heap.size + 1 + 1, 1, none⟩) hs1).trans g6
    go_wp2
    exact bodyPost_ret (v := .tuple #[.agg #[.int .u64 0, .int .u64 0], .bool false]) (by simp [results, Try.results43, go_sem, g3, g4, g5, g6]) rfl
      ⟨by rw [HA.out]; rfl, ((hB1.trans (hb2.mono hB1.size)).setCell (by simp; omega) _).setCell (by simp; omega) _⟩
  · obtain ⟨b, off, rfl, hbl, y1, y2, c1, c2, hy⟩ := hr1.at_ (k := i) (by rw [HN.out]; exact hlt)
    obtain ⟨rfl, rfl⟩ : y1 = x1 ∧ y2 = x2 := by have := hy.out; rw [hxi] at this; cases this; exact ⟨rfl, rfl⟩
    have HAt := Lib.hid hat; have HX := Lib.hid hxi; clear hat hxi hr1
    have hne : ((i : Int) == (n : Int)) = false := by rw [beq_eq_false_iff_ne]; omega
    have q1 := Kin.cell g1; have q2 := Kin.cell g2; have q3 := Kin.cell c1; have q4 := Kin.cell c2
    go_wp2_with fail
    refine wp_region_kin (by kernel_rfl) (by kernel_rfl) ?_
    repeat (go_big_quiet_step (fail))
    refine wpQuiet_nil ?_
    rintro _ ⟨⟨w2, hb2⟩, rfl⟩
    clear q1 q2 q3 q4
    replace g2 := cell_up hb2 g2
    replace g3 := cell_up hb2 g3; replace g4 := cell_up hb2 g4; replace c1 := cell_up hb2 c1; replace c2 := cell_up hb2 c2
    replace g5 := (hb2.frozen (p := ⟨w.heap.size + 1 + 1, 0, none⟩) hs1).trans g5; replace g6 := (hb2.frozen (p := ⟨w.heap.size + 1 + 1, 1, none⟩) hs1).trans g6
    by_cases hlo : v < y1
    · go_wp2
      exact bodyPost_ret (v := .tuple #[.agg #[.int .u64 0, .int .u64 0], .bool false]) (by simp [results, Try.results43, go_sem, g3, g4, g5, g6]) rfl
        ⟨by rw [HAt.out, if_neg (by show ¬ y1 ≤ v; omega)]; rfl, ((hB1.trans (hb2.mono hB1.size)).setCell (by simp; omega) _).setCell (by simp; omega) _⟩
    · have hlo' : y1 ≤ v := by omega
      go_wp2
      exact bodyPost_ret (v := .tuple #[.agg #[.int .u64 y1, .int .u64 y2], .bool true]) (by simp [results, Try.results43, go_sem, g3, g4, g5, g6]) rfl
        ⟨by rw [HAt.out, if_pos (by show y1 ≤ v; omega)]; rfl, ((hB1.trans (hb2.mono hB1.size)).setCell (by simp; omega) _).setCell (by simp; omega) _⟩

theorem hasC (A : Option Addr) (n c : Nat) (xs : List (Int × Int)) (v : Int) (w : World) (hr : Rd w A xs) (hn : xs.length = n) (hm : n < 4611686018427387904) (h0 : ∀ s, s ∈ xs → 0 ≤ s.1) :
    Calls Try.prog 26 #[.slice A n c, .int .u64 v] w fun e w' => e = .returned (.bool (mayB xs && hasB xs v)) ∧ Below w.heap.size w w' := by
  have hM := mayC A n c xs w hr hn (by unfold maxLen; omega)
  have hcan := (mayB_can xs h0)
  cases hmay : mayB xs
  · rw [hmay] at hM
    have HC := Lib.hid hM; clear hM hmay hcan hr hn h0
    go_enter Try.func26, Try.ntmps26
    go_wp2_with (go_at_call 23; refine HC.out.mono ?_; rintro e w' ⟨rfl, hb'⟩)
    go_ret
    exact ⟨rfl, hb'⟩
  · rw [hmay] at hM
    have hca := (hcan.1 hmay).2
    have hA := fun (w1 : World) (hb1 : Below w.heap.size w w1) => atC A n c xs v w1 (hr.below hb1 (Nat.le_refl _)) hn hm hca
    have HF := Lib.hid (show hasB xs v = (atL xs v).isSome from hasB_find xs v)
    have HC := Lib.hid hM; have HA := Lib.hid hA; clear hM hmay hcan hr hn h0 hca hA
    generalize ((atL xs v).getD (0, 0)).1 = s1 at HA
    generalize ((atL xs v).getD (0, 0)).2 = s2 at HA
    go_enter Try.func26, Try.ntmps26
    go_wp2_with fail
    refine HC.out.mono ?_
    rintro e w1 ⟨rfl, hb1⟩
    go_wp2_with fail
    refine (HA.out _ hb1).mono ?_
    rintro e w2 ⟨rfl, hb2⟩
    go_wp2
    go_ret
    exact ⟨by rw [HF.out]; rfl, (hb1.trans (hb2.mono hb1.size)).alloc (Nat.le_trans hb1.size hb2.size) _⟩

def gapL (xs : List (Int × Int)) (v : Int) : Int := match atL xs v with | some s => s.2 | none => v
theorem gapC (A : Option Addr) (n c : Nat) (xs : List (Int × Int)) (v : Int) (w : World) (hr : Rd w A xs) (hn : xs.length = n) (hm : n < 4611686018427387904) (h0 : ∀ s, s ∈ xs → 0 ≤ s.1) :
    Calls Try.prog 30 #[.slice A n c, .int .u64 v] w fun e w' => e = .returned (.int .u64 (if mayB xs then gapL xs v else 0)) ∧ Below w.heap.size w w' := by
  have hM := mayC A n c xs w hr hn (by unfold maxLen; omega)
  have hcan := (mayB_can xs h0)
  cases hmay : mayB xs
  · rw [hmay] at hM
    have HC := Lib.hid hM; clear hM hmay hcan hr hn h0
    go_enter Try.func30, Try.ntmps30
    go_wp2_with (go_at_call 23; refine HC.out.mono ?_; rintro e w' ⟨rfl, hb'⟩)
    go_ret
    exact ⟨rfl, hb'⟩
  · rw [hmay] at hM
    have hca := (hcan.1 hmay).2
    have hA := fun (w1 : World) (hb1 : Below w.heap.size w w1) => atC A n c xs v w1 (hr.below hb1 (Nat.le_refl _)) hn hm hca
    cases hat : atL xs v with
    | none =>
      rw [hat] at hA
      have HF := Lib.hid (show gapL xs v = v by unfold gapL; rw [hat])
      have HC := Lib.hid hM; have HA := Lib.hid hA; clear hM hmay hcan hr hn h0 hca hA hat
      go_enter Try.func30, Try.ntmps30
      go_wp2_with fail
      refine HC.out.mono ?_
      rintro e w1 ⟨rfl, hb1⟩
      go_wp2_with fail
      refine (HA.out _ hb1).mono ?_
      rintro e w2 ⟨rfl, hb2⟩
      go_wp2
      go_ret
      exact ⟨ret_int (by rw [HF.out]), (hb1.trans (hb2.mono hb1.size)).alloc (Nat.le_trans hb1.size hb2.size) _⟩
    | some s =>
      obtain ⟨s1, s2⟩ := s
      rw [hat] at hA
      have HF := Lib.hid (show gapL xs v = s2 by unfold gapL; rw [hat])
      have HC := Lib.hid hM; have HA := Lib.hid hA; clear hM hmay hcan hr hn h0 hca hA hat
      go_enter Try.func30, Try.ntmps30
      go_wp2_with fail
      refine HC.out.mono ?_
      rintro e w1 ⟨rfl, hb1⟩
      go_wp2_with fail
      refine (HA.out _ hb1).mono ?_
      rintro e w2 ⟨rfl, hb2⟩
      simp only [Option.getD_some, Option.isSome_some]
      go_wp2
      go_ret
      exact ⟨ret_int (by rw [HF.out]), (hb1.trans (hb2.mono hb1.size)).alloc (Nat.le_trans hb1.size hb2.size) _⟩

def coversL (xs : List (Int × Int)) (a b : Int) : Bool := mayB xs && decide (a ≤ b) && (decide (b ≤ a) || covB xs a b)
set_option maxHeartbeats 1000000 in
theorem coversC (A : Option Addr) (n c : Nat) (xs : List (Int × Int)) (a b : Int) (w : World) (hr : Rd w A xs) (hn : xs.length = n) (hm : n < 4611686018427387904) (h0 : ∀ s, s ∈ xs → 0 ≤ s.1) :
    Calls Try.prog 28 #[.slice A n c, .agg #[.int .u64 a, .int .u64 b]] w fun e w' => e = .returned (.bool (coversL xs a b)) ∧ Below w.heap.size w w' := by
  obtain ⟨W, hW⟩ : ∃ W, Hid (W = w.alloc (.cells #[.int .u64 a, .int .u64 b] 31)) := ⟨_, rfl⟩
  have hB : Below w.heap.size w W := by rw [hW.out]; exact (Below.refl _ _).alloc (Nat.le_refl _) _
  have g1 : W.cell? ⟨w.heap.size, 0, none⟩ = some (.int .u64 a) := by rw [hW.out]; go_simp
  have g2 : W.cell? ⟨w.heap.size, 1, none⟩ = some (.int .u64 b) := by rw [hW.out]; go_simp
  have hM := wrongC A n c xs a b W (hr.below hB (Nat.le_refl _)) hn (by unfold maxLen; omega)
  by_cases hok : mayB xs = true ∧ a ≤ b
  · have hca := ((mayB_can xs h0).1 hok.1).2
    rw [hok.1, if_pos rfl, if_neg (by omega)] at hM
    have hA := fun (w1 : World) (hb1 : Below w.heap.size w w1) => atC A n c xs a w1 (hr.below hb1 (Nat.le_refl _)) hn hm hca
    by_cases he : b ≤ a
    · have HF := Lib.hid (show coversL xs a b = true by unfold coversL; simp [hok.1, hok.2, he])
      have HC := Lib.hid hM; clear hM hr hn h0 hca hA hok
      go_enter Try.func28, Try.ntmps28
      go_wp2_with fail
      rw [← hW.out]
      refine HC.out.mono ?_
      rintro e w1 ⟨rfl, hb1⟩
      replace g1 := cell_up hb1 g1; replace g2 := cell_up hb1 g2
      go_wp2_with fail
      refine (emptyY _ _ _ he).mono ?_
      rintro e w2 ⟨rfl, hb2⟩
      go_wp2
      go_ret
      exact ⟨ret_bool HF.out.symm, (hB.trans (hb1.mono hB.size)).trans (hb2.mono (Nat.le_trans hB.size hb1.size))⟩
    · have he' : a < b := by omega
      have hcv := hca.cov a b he'
      cases hat : atL xs a with
      | none =>
        rw [show xs.find? (inB · a) = none from hat] at hcv
        rw [hat] at hA
        have HF := Lib.hid (show coversL xs a b = false by unfold coversL; simp [hcv, he])
        have HC := Lib.hid hM; have HA := Lib.hid hA; clear hM hr hn h0 hca hA hok hcv hat he
        go_enter Try.func28, Try.ntmps28
        go_wp2_with fail
        rw [← hW.out]
        refine HC.out.mono ?_
        rintro e w1 ⟨rfl, hb1⟩
        replace g1 := cell_up hb1 g1; replace g2 := cell_up hb1 g2
        go_wp2_with fail
        refine (emptyN _ _ _ he').mono ?_
        rintro e w2 ⟨rfl, hb2⟩
        replace g1 := cell_up hb2 g1; replace g2 := cell_up hb2 g2
        have hB2 : Below w.heap.size w w2 := (hB.trans (hb1.mono hB.size)).trans (hb2.mono (Nat.le_trans hB.size hb1.size))
        go_wp2_with fail
        refine (HA.out _ hB2).mono ?_
        rintro e w3 ⟨rfl, hb3⟩
        replace g1 := cell_up hb3 g1; replace g2 := cell_up hb3 g2
        simp only [Option.getD_none, Option.isSome_none]
        go_wp2
        go_ret
        exact ⟨ret_bool HF.out.symm, (hB2.trans (hb3.mono hB2.size)).alloc (Nat.le_trans hB2.size hb3.size) _⟩
      | some s =>
        obtain ⟨s1, s2⟩ := s
        rw [show xs.find? (inB · a) = some (s1, s2) from hat] at hcv
        rw [hat] at hA
        have HF := Lib.hid (show coversL xs a b = decide (b ≤ s2) by unfold coversL; simp [hcv, he, hok.1, hok.2])
        have HC := Lib.hid hM; have HA := Lib.hid hA; clear hM hr hn h0 hca hA hok hcv hat he
        go_enter Try.func28, Try.ntmps28
        go_wp2_with fail
        rw [← hW.out]
        refine HC.out.mono ?_
        rintro e w1 ⟨rfl, hb1⟩
        replace g1 := cell_up hb1 g1; replace g2 := cell_up hb1 g2
        go_wp2_with fail
        refine (emptyN _ _ _ he').mono ?_
        rintro e w2 ⟨rfl, hb2⟩
        replace g1 := cell_up hb2 g1; replace g2 := cell_up hb2 g2
        have hB2 : Below w.heap.size w w2 := (hB.trans (hb1.mono hB.size)).trans (hb2.mono (Nat.le_trans hB.size hb1.size))
        go_wp2_with fail
        refine (HA.out _ hB2).mono ?_
        rintro e w3 ⟨rfl, hb3⟩
        replace g1 := cell_up hb3 g1; replace g2 := cell_up hb3 g2
        have hs3 : w.heap.size < w3.heap.size := World.block_lt_of_cell? _ _ g1
        simp only [Option.getD_some, Option.isSome_some]
        go_wp2
        go_ret
        exact ⟨ret_bool HF.out.symm, (hB2.trans (hb3.mono hB2.size)).alloc (Nat.le_trans hB2.size hb3.size) _⟩
  · have HF := Lib.hid (show coversL xs a b = false by unfold coversL; cases hm1 : mayB xs; · rfl
                                                       · simp; intro h; exact absurd ⟨hm1, h⟩ hok)
    have hz : (if mayB xs then (if b < a then 2 else 0) else 8 : Int) = 8 ∨ (if mayB xs then (if b < a then 2 else 0) else 8 : Int) = 2 := by
      cases hm1 : mayB xs
      · exact .inl rfl
      · right; rw [if_pos rfl, if_pos]; rw [hm1] at hok; simp at hok; omega
    clear hok hr hn h0
    rcases hz with hz | hz
    all_goals
      rw [hz] at hM
      have HC := Lib.hid hM; clear hM hz
      go_enter Try.func28, Try.ntmps28
      go_wp2_with fail
      rw [← hW.out]
      refine HC.out.mono ?_
      rintro e w1 ⟨rfl, hb1⟩
      go_wp2
      go_ret
      exact ⟨ret_bool HF.out.symm, hB.trans (hb1.mono hB.size)⟩

/-- what a list's numbers keep to -/
def U (xs : List (Int × Int)) : Prop := ∀ s, s ∈ xs → 0 ≤ s.1 ∧ s.1 ≤ 18446744073709551615 ∧ 0 ≤ s.2 ∧ s.2 ≤ 18446744073709551615
theorem U.lo {xs : List (Int × Int)} (h : U xs) : ∀ s, s ∈ xs → 0 ≤ s.1 := fun s hs => (h s hs).1
theorem take_snoc' {α : Type} {xs : List α} {k : Nat} {x : α} (h : xs[k]? = some x) : xs.take (k + 1) = xs.take k ++ [x] := by
  obtain ⟨hk, he⟩ := List.getElem?_eq_some_iff.1 h
  rw [List.take_succ_eq_append_getElem hk, he]
theorem Canon.sum_at {xs : List (Int × Int)} (h : Canon (-1) xs) (hU : U xs) (k : Nat) : 0 ≤ sumI (xs.take k) ∧ sumI (xs.take k) ≤ 18446744073709551615 := by
  have := (h.take k).sum_le (E := 18446744073709551615) (fun s hs => (hU s (List.mem_of_mem_take hs)).2.2.2)
  omega

set_option maxHeartbeats 400000 in
theorem lenC (A : Option Addr) (n c : Nat) (xs : List (Int × Int)) (w : World) (hr : Rd w A xs) (hn : xs.length = n) (hm : n < 4611686018427387904) (hU : U xs) :
    Calls Try.prog 32 #[.slice A n c] w fun e w' => e = .returned (.int .u64 (if mayB xs then sumI xs else 0)) ∧ Below w.heap.size w w' := by
  have hM := mayC A n c xs w hr hn (by unfold maxLen; omega)
  have hcan := (mayB_can xs hU.lo)
  cases hmay : mayB xs
  · rw [hmay] at hM
    have HC := Lib.hid hM; clear hM hmay hcan hr hn
    go_enter Try.func32, Try.ntmps32
    go_wp2_with (go_at_call 23; refine HC.out.mono ?_; rintro e w' ⟨rfl, hb'⟩)
    go_ret
    exact ⟨rfl, hb'⟩
  · rw [hmay] at hM
    have hca := (hcan.1 hmay).2
    have HS := Lib.hid (Canon.sum_at hca hU)
    have HLo := Lib.hid (fun (s : Sp) (hs : s ∈ xs) => (hca.lo hs).2)
    have HC := Lib.hid hM; have HU := Lib.hid hU; have HN := Lib.hid hn; clear hM hmay hcan hU hn hca
    have HT := Lib.hid (show xs.take n = xs by rw [← HN.out]; exact List.take_length)
    go_enter Try.func32, Try.ntmps32
    go_wp2_with fail
    refine HC.out.mono ?_
    rintro e w1 ⟨rfl, hb1⟩
    go_wp2
    go_loopw [3, 11] (fun s i wr => ∃ k : Nat, k ≤ n ∧ i = .int .i64 k ∧ s = .int .u64 (sumI (xs.take k)) ∧ Below w.heap.size w wr) (fun _ i _ => n - (intOf i).toNat)
    case atStart => exact ⟨0, Nat.zero_le _, rfl, rfl, hb1⟩
    case round =>
      obtain ⟨k, hk, rfl, rfl, hb⟩ := hrel
      by_cases hlt : k < n
      · obtain ⟨b, off, rfl, hbl, x1, x2, c1, c2, hx⟩ := (hr.below hb (Nat.le_refl _)).at_ (k := k) (by rw [HN.out]; exact hlt)
        have s1 := HS.out k
        have s2 := HS.out (k + 1)
        have e2 := Lib.hid (show sumI (xs.take (k + 1)) = sumI (xs.take k) + (x2 - x1) by rw [take_snoc' hx.out, sumI_snoc])
        rw [e2.out] at s2
        have u := HU.out (x1, x2) (List.mem_of_getElem? hx.out)
        have hlt12 : x1 < x2 := HLo.out (x1, x2) (List.mem_of_getElem? hx.out)
        obtain ⟨u1, u2, u3, u4⟩ := u
        clear hr
        go_wp2
        go_roundw
        case rel => exact ⟨k + 1, by omega, by go_num, by rw [e2.out], hb.alloc hb.size _⟩
        case measure => simp [intOf]; omega
      · obtain rfl : k = n := by omega
        go_wp2
        go_ret
        exact ⟨ret_int (by rw [HT.out]), hb⟩
end Go.Proofs.Ytejknbpadlidaaa.sp
