/- P O A N: contracts, part 1. Condition: as each says. -/
import Derived.Test.YtkgcnmloojnblaaRows
import Derived.Shelf.Abstract
import Derived.WalkKit
import Derived.ProofKit
import Derived.WalkSmall
import Derived.Lib.Hide
import Derived.Lib.AppendIntMem
import Derived.OwnWalk
import Derived.BigQuiet
import Derived.IntWalk
import Derived.Deep.QuietTactic
import Derived.Deep.RegionHeld3
import Derived.Deep.RegionWith
import Derived.Deep.DeepCutAuto
import Derived.Laws.BitsAllLaws
import Derived.Laws.Bits64b
import Derived.Laws.Shifts
import Derived.Laws.ResultCell
import Derived.Laws.IdiomStrings
import Derived.Laws.BytesArg
import Derived.Outline
set_option linter.unusedVariables false
set_option linter.unusedSimpArgs false
namespace Go.Proofs.Ytkgcnmloojnblaa.sm
end Go.Proofs.Ytkgcnmloojnblaa.sm
namespace Go.Proofs.Ytkgcnmloojnblaa.nb
open Go.RowKit Go.Shelf Go.Proofs.Ytkgcnmloojnblaa.sm
set_option linter.unusedVariables false

theorem ret_int {k : IntKind} {a b : Int} (h : a = b) : Ending.returned (.int k a) = .returned (.int k b) := by rw [h]
theorem ret_bool {a b : Bool} (h : a = b) : Ending.returned (.bool a) = .returned (.bool b) := by rw [h]
abbrev L (s : ByteArray) : List UInt8 := s.data.toList
theorem ba_of {a : ByteArray} {l : List UInt8} (h : L a = l) : a = ⟨l.toArray⟩ := by
  subst h
  cases a
  simp
theorem ba_eq {a b : ByteArray} (h : L a = L b) : a = b := by rw [ba_of h]
abbrev Up (w0 w : World) : Prop := Below w0.heap.size w0 w
theorem up_al {w0 w : World} (o : Obj) (h : Up w0 w) : Up w0 (w.alloc o) := h.alloc h.size _
theorem up_dr {w0 w : World} (h : Up w0 w) : Up w0 w.drew := h.drew
theorem up_drN {w0 w : World} (n : Nat) (h : Up w0 w) : Up w0 (w.drewN n) := below_drewN h n
theorem Up.on {w0 w w' : World} (h : Up w0 w) (h' : Up w w') : Up w0 w' := h.trans (h'.mono h.size)
/-! ### bytes that a call has gathered -/
abbrev BC (xs : List UInt8) : List Value := Lib.byteCells xs
def OwnB (w : World) (B : Nat) (v : Value) (xs : List UInt8) : Prop := w.ownsRow B 5 1 v xs.length (BC xs)
theorem OwnB.nil_ (w : World) (B : Nat) : OwnB w B (.slice none 0 0) [] := World.ownsRow_nil _ _ _ _
theorem kept_below {w w' : World} {B e size n : Nat} {v : Value} {xs : List Value} (h : w.ownsRow B e size v n xs) (hb : Below w.heap.size w w') : w'.ownsRow B e size v n xs := by
  refine ⟨h.1, ?_⟩
  rcases h.2 with hn | ⟨g, cap, cur, rfl, hB, hgg, rest⟩
  · exact .inl hn
  · exact .inr ⟨g, cap, cur, rfl, hB, (hb.block g (Array.getElem?_eq_some_iff.1 hgg).1).trans hgg, rest⟩
theorem OwnB.up {w w' : World} {B : Nat} {v : Value} {xs : List UInt8} (h : OwnB w B v xs) (hb : Up w w') : OwnB w' B v xs := kept_below h hb
theorem own_form {w : World} {B e size n : Nat} {v : Value} {xs : List Value} (h : w.ownsRow B e size v n xs) : (v = .slice none 0 0 ∧ n = 0) ∨ ∃ g cap, v = .slice (some ⟨g, 0, none⟩) n cap ∧ B ≤ g ∧ g < w.heap.size ∧ n ≤ cap ∧ cap ≤ maxLen := by
  rcases h.2 with hn | ⟨g, cap, cur, rfl, hB, hgg, h1, h2, _⟩
  · exact .inl hn
  · exact .inr ⟨g, cap, rfl, hB, (Array.getElem?_eq_some_iff.1 hgg).1, h1, h2⟩
section
variable {ops : Array Oper} {rest : List Oper} {o : Oper} {a : Act} {Q : Exit → Act → World → Prop} {w : World} {B : Nat} {v : Value}
end

def q3 (i : Nat) : Nat := i / 16777216
def q2 (i : Nat) : Nat := i / 65536 % 256
def q1 (i : Nat) : Nat := i / 256 % 256
def q0 (i : Nat) : Nat := i % 256
/-! ### bits -/
/-! ### texts out of bytes -/
/-! ### values that lie in a block of their own -/
def Box (W : World) (b : Nat) (vs : List Value) : Prop := b < W.heap.size ∧ ∀ j v, vs[j]? = some v → W.cell? ⟨b, j, none⟩ = some v ∧ W.frozen? ⟨b, j, none⟩ = false
theorem Box.below {W W' : World} {b B : Nat} {vs : List Value} (h : Box W b vs) (hb : Below B W W') (hB : b < B) : Box W' b vs :=
  ⟨Nat.lt_of_lt_of_le h.1 hb.size, fun j v hv => ⟨(hb.cell (p := ⟨b, j, none⟩) hB).trans (h.2 j v hv).1, (hb.frozen (p := ⟨b, j, none⟩) hB).trans (h.2 j v hv).2⟩⟩
theorem Box.up {W W' : World} {b : Nat} {vs : List Value} (h : Box W b vs) (hb : Up W W') : Box W' b vs := h.below hb h.1
theorem Box.new (W : World) (vs : Array Value) (T : TypeId) : Box (W.alloc (.cells vs T)) W.heap.size vs.toList :=
  ⟨by simp, fun j v hv => ⟨by rw [World.cell?_alloc_new]; simpa using hv, by simp⟩⟩
theorem Box.drew {W : World} {b : Nat} {vs : List Value} (h : Box W b vs) : Box W.drew b vs := h.up (Below.refl _ _).drew
theorem Box.alloc {W : World} {b : Nat} {vs : List Value} (h : Box W b vs) (o : Obj) : Box (W.alloc o) b vs := h.up (up_al o (Below.refl _ _))
theorem Box.at {W : World} {b : Nat} {vs : List Value} (h : Box W b vs) (j : Nat) {v : Value} (hv : vs[j]? = some v) : W.cell? ⟨b, j, none⟩ = some v := (h.2 j v hv).1
theorem Box.fr {W : World} {b : Nat} {vs : List Value} (h : Box W b vs) (j : Nat) {v : Value} (hv : vs[j]? = some v) : W.frozen? ⟨b, j, none⟩ = false := (h.2 j v hv).2
theorem Box.far {W : World} {b c o : Nat} {vs : List Value} (h : Box W b vs) (hc : c ≠ b) (v : Value) : Box (W.setCell ⟨c, o, none⟩ v) b vs :=
  ⟨by simpa using h.1, fun j x hx => ⟨by rw [World.cell?_setCell_other _ _ _ _ (fun e => hc (by cases e; rfl))]; exact (h.2 j x hx).1, by rw [World.frozen?_setCell]; exact (h.2 j x hx).2⟩⟩
theorem Box.set {W : World} {b : Nat} {vs : List Value} (h : Box W b vs) (k : Nat) (v : Value) : Box (W.setCell ⟨b, k, none⟩ v) b (vs.set k v) :=
  ⟨by simpa using h.1, fun j x hx => by
    refine ⟨?_, ?_⟩
    · by_cases hjk : j = k
      · subst hjk
        have hl : j < vs.length := by
          have := (List.getElem?_eq_some_iff.1 hx).1
          simpa using this
        have e : vs[j]? = some vs[j] := List.getElem?_eq_getElem hl
        rw [World.cell?_setCell_same' _ _ _ (by rw [(h.2 j _ e).1]; rfl)]
        simpa [List.getElem?_set, hl] using hx
      · rw [World.cell?_setCell_other _ _ _ _ (by intro e; cases e; exact hjk rfl)]
        rw [List.getElem?_set_ne (Ne.symm hjk)] at hx
        exact (h.2 j x hx).1
    · rw [World.frozen?_setCell]
      by_cases hl : j < vs.length
      · exact (h.2 j _ (List.getElem?_eq_getElem hl)).2
      · have := (List.getElem?_eq_some_iff.1 hx).1
        simp at this; omega⟩
end Go.Proofs.Ytkgcnmloojnblaa.nb

namespace Go.Proofs.Ytkgcnmloojnblaa.nb
open Go.RowKit Go.Shelf Go.Lib
set_option linter.unusedVariables false

structure Only (F : Nat → Prop) (w w' : World) : Prop where
  os : w'.os = w.os
  tape : w'.tape = w.tape
  output : w'.output = w.output
  size : w.heap.size ≤ w'.heap.size
  block : ∀ k, k < w.heap.size → ¬ F k → w'.heap[k]? = w.heap[k]?
section
variable {F G : Nat → Prop} {w w0 w1 w2 : World}
theorem Only.refl (F : Nat → Prop) (w : World) : Only F w w := ⟨rfl, rfl, rfl, Nat.le_refl _, fun _ _ _ => rfl⟩
theorem Only.up (h : Up w w1) : Only F w w1 := ⟨h.os, h.tape, h.output, h.size, fun k hk _ => h.block k hk⟩
theorem Only.trans (h : Only F w w1) (h' : Only G w1 w2) (hG : ∀ k, G k → F k ∨ w.heap.size ≤ k) : Only F w w2 :=
  ⟨h'.os.trans h.os, h'.tape.trans h.tape, h'.output.trans h.output, Nat.le_trans h.size h'.size, fun k hk hF =>
    (h'.block k (Nat.lt_of_lt_of_le hk h.size) (fun g => (hG k g).elim hF (fun e => absurd hk (Nat.not_lt.2 e)))).trans (h.block k hk hF)⟩
theorem Only.on (h : Only F w w1) (h' : Up w1 w2) : Only F w w2 := h.trans (Only.up (F := F) h') (fun k => Or.inl)
theorem Only.mono (h : Only F w w1) (hG : ∀ k, F k → G k) : Only G w w1 := ⟨h.os, h.tape, h.output, h.size, fun k hk hn => h.block k hk (fun f => hn (hG k f))⟩
theorem Only.set (h : Only F w w1) {p : Addr} (hp : F p.block ∨ w.heap.size ≤ p.block) (v : Value) : Only F w (w1.setCell p v) :=
  ⟨h.os, h.tape, h.output, by have := h.size; simpa [World.setCell] using this, fun k hk hF => (Below.heap_setCell _ _ _ _ (fun e => by subst e; rcases hp with hp | hp; exact hF hp; omega)).trans (h.block k hk hF)⟩
theorem Only.alloc (h : Only F w w1) (o : Obj) : Only F w (w1.alloc o) := h.on (up_al o (Below.refl _ _))
theorem Only.drew (h : Only F w w1) : Only F w w1.drew := h.on (up_dr (Below.refl _ _))
theorem Only.grown (h : Only F w w1) {row : Option Nat} (hg : w1.grownBy w2 row) (hr : ∀ k, row = some k → F k ∨ w.heap.size ≤ k) : Only F w w2 :=
  ⟨hg.os.trans h.os, hg.tape.trans h.tape, hg.output.trans h.output, Nat.le_trans h.size hg.size, fun k hk hF =>
    (hg.block k (Nat.lt_of_lt_of_le hk h.size) (fun e => (hr k e.symm).elim hF (fun e' => absurd hk (Nat.not_lt.2 e')))).trans (h.block k hk hF)⟩
theorem Only.to_up (h : Only F w w1) (h0 : Up w0 w) (hF : ∀ k, F k → w0.heap.size ≤ k) : Up w0 w1 :=
  ⟨h.os.trans h0.os, h.tape.trans h0.tape, h.output.trans h0.output, Nat.le_trans h0.size h.size, fun k hk =>
    (h.block k (Nat.lt_of_lt_of_le hk h0.size) (fun f => absurd hk (Nat.not_lt.2 (hF k f)))).trans (h0.block k hk)⟩
theorem Only.none_up (h : Only F w w1) (hF : ∀ k, ¬ F k) : Up w w1 := h.to_up (Below.refl _ _) (fun k f => absurd f (hF k))
theorem Only.behind (h : Only F w1 w2) (h0 : Up w w1) : Only F w w2 := (Only.up (F := F) h0).trans h (fun k => Or.inl)
theorem Only.cell (h : Only F w w1) {p : Addr} (hp : p.block < w.heap.size) (hF : ¬ F p.block) : w1.cell? p = w.cell? p := World.cell?_of_block (w := w) (h.block p.block hp hF)
theorem Only.frozen (h : Only F w w1) {p : Addr} (hp : p.block < w.heap.size) (hF : ¬ F p.block) : w1.frozen? p = w.frozen? p := World.frozen?_of_block (w := w) (h.block p.block hp hF)
theorem Box.only {b : Nat} {vs : List Value} (h : Box w b vs) (o : Only F w w1) (hF : ¬ F b) : Box w1 b vs :=
  ⟨Nat.lt_of_lt_of_le h.1 o.size, fun j v hv => ⟨(o.cell (p := ⟨b, j, none⟩) h.1 hF).trans (h.2 j v hv).1, (o.frozen (p := ⟨b, j, none⟩) h.1 hF).trans (h.2 j v hv).2⟩⟩
end
def Foot (w0 w : World) (F : Nat → Prop) : Prop := ∀ k, F k → w0.heap.size ≤ k ∧ k < w.heap.size
def StepF (F F' : Nat → Prop) (w : World) : Prop := ∀ k, F' k → F k ∨ w.heap.size ≤ k
theorem Foot.step {w0 w w' : World} {F F' : Nat → Prop} (h : Foot w0 w F) (hu : Up w0 w) (hs : StepF F F' w) (hl : ∀ k, F' k → k < w'.heap.size) : Foot w0 w' F' := fun k hk =>
  ⟨(hs k hk).elim (fun f => (h k f).1) (fun e => Nat.le_trans hu.size e), hl k hk⟩
theorem Foot.on {w0 w w' : World} {F : Nat → Prop} (h : Foot w0 w F) (hs : w.heap.size ≤ w'.heap.size) : Foot w0 w' F := fun k hk => ⟨(h k hk).1, Nat.lt_of_lt_of_le (h k hk).2 hs⟩
def RowF (v : Value) : Nat → Prop := fun k => v.ownBlock = some k
theorem own_only {F : Nat → Prop} {w w' : World} {B e size n : Nat} {v : Value} {xs : List Value} (h : w.ownsRow B e size v n xs) (o : Only F w w') (hF : ∀ k, RowF v k → ¬ F k) : w'.ownsRow B e size v n xs := by
  refine ⟨h.1, ?_⟩
  rcases h.2 with hn | ⟨g, cap, cur, rfl, hB, hgg, rest⟩
  · exact .inl hn
  · exact .inr ⟨g, cap, cur, rfl, hB, (o.block g (Array.getElem?_eq_some_iff.1 hgg).1 (hF g rfl)).trans hgg, rest⟩
theorem own_lt {w : World} {B e size n : Nat} {v : Value} {xs : List Value} (h : w.ownsRow B e size v n xs) : ∀ k, RowF v k → B ≤ k ∧ k < w.heap.size := fun k hk => h.lt k hk
end Go.Proofs.Ytkgcnmloojnblaa.nb

namespace Go.Proofs.Ytkgcnmloojnblaa.ck
open Go.RowKit Go.Shelf Go.Lib Go.Proofs.Ytkgcnmloojnblaa.nb
set_option linter.unusedVariables false

def I64 (x : Int) : Prop := -9223372036854775808 ≤ x ∧ x ≤ 9223372036854775807
def mayB (t : Int) : Bool := decide (0 ≤ t ∧ t ≤ 17592186044416)
theorem mayB_t {t : Int} (h : 0 ≤ t ∧ t ≤ 17592186044416) : mayB t = true := by unfold mayB; exact decide_eq_true h
theorem mayB_f {t : Int} (h : ¬ (0 ≤ t ∧ t ≤ 17592186044416)) : mayB t = false := by unfold mayB; exact decide_eq_false h
theorem mayB_iff {t : Int} : mayB t = true ↔ 0 ≤ t ∧ t ≤ 17592186044416 := by unfold mayB; exact decide_eq_true_iff
theorem goMay (t : Int) (w : World) : Calls Try.prog 25 #[.int .i64 t] w fun e w' => e = .returned (.bool (mayB t)) ∧ w = w' := by
  by_cases c0 : 0 ≤ t
  · by_cases c1 : t ≤ 17592186044416
    · have E := Lib.hid (mayB_t ⟨c0, c1⟩)
      go_enter Try.func25, Try.ntmps25
      go_wp2
      go_ret
      exact ⟨ret_bool E.out.symm, rfl⟩
    · have E := Lib.hid (mayB_f (t := t) (by omega))
      go_enter Try.func25, Try.ntmps25
      go_wp2
      go_ret
      exact ⟨ret_bool E.out.symm, rfl⟩
  · have E := Lib.hid (mayB_f (t := t) (by omega))
    go_enter Try.func25, Try.ntmps25
    go_wp2
    go_ret
    exact ⟨ret_bool E.out.symm, rfl⟩
end Go.Proofs.Ytkgcnmloojnblaa.ck

namespace Go.Proofs.Ytkgcnmloojnblaa.ck
open Go.RowKit Go.Shelf Go.Lib Go.Proofs.Ytkgcnmloojnblaa.nb
set_option linter.unusedVariables false

def RdI (w : World) (A : Option Addr) (xs : List Int) : Prop := xs ≠ [] → ∃ g off, A = some ⟨g, off, none⟩ ∧ g < w.heap.size ∧ ∀ k, k < xs.length → w.cell? ⟨g, off + k, none⟩ = some (.int .i64 (xs.getD k 0))
theorem RdI.up {w w' : World} {A : Option Addr} {xs : List Int} (h : RdI w A xs) (u : Up w w') : RdI w' A xs := fun hne => by
  obtain ⟨g, off, e, hg, hc⟩ := h hne
  exact ⟨g, off, e, Nat.lt_of_lt_of_le hg u.size, fun k hk => (u.cell (p := ⟨g, off + k, none⟩) hg).trans (hc k hk)⟩
theorem RdI.at_ {w : World} {A : Option Addr} {xs : List Int} {k : Nat} (h : RdI w A xs) (hk : k < xs.length) : ∃ g off x, A = some ⟨g, off, none⟩ ∧ w.cell? ⟨g, off + k, none⟩ = some (.int .i64 x) ∧ xs[k]? = some x := by
  obtain ⟨g, off, e, hg, hc⟩ := h (fun h0 => by rw [h0] at hk; exact absurd hk (Nat.not_lt_zero _))
  refine ⟨g, off, xs[k], e, ?_, List.getElem?_eq_getElem hk⟩
  rw [hc k hk, List.getD_eq_getElem?_getD, List.getElem?_eq_getElem hk]; rfl

def lessOf (n t : Int) : Int := if mayB t = true ∧ t < n then t else n
def leastV (xs : List Int) : Int := xs.foldl lessOf 17592186044416
theorem lessOf_bd {n t : Int} (h : 0 ≤ n ∧ n ≤ 17592186044416) : 0 ≤ lessOf n t ∧ lessOf n t ≤ 17592186044416 := by
  unfold lessOf
  split
  · rename_i c; have := mayB_iff.1 c.1; omega
  · exact h
theorem foldl_bd : ∀ (xs : List Int) (n : Int), 0 ≤ n ∧ n ≤ 17592186044416 → 0 ≤ xs.foldl lessOf n ∧ xs.foldl lessOf n ≤ 17592186044416
  | [], n, h => h
  | x :: r, n, h => foldl_bd r _ (lessOf_bd h)
theorem leastV_bd (xs : List Int) : 0 ≤ leastV xs ∧ leastV xs ≤ 17592186044416 := foldl_bd xs _ (by omega)
theorem leastV_succ {xs : List Int} {k : Nat} {x : Int} (h : xs[k]? = some x) : leastV (xs.take (k + 1)) = lessOf (leastV (xs.take k)) x := by
  obtain ⟨hk, e⟩ := List.getElem?_eq_some_iff.1 h
  unfold leastV
  rw [List.take_succ_eq_append_getElem hk, List.foldl_append, e]; rfl

end Go.Proofs.Ytkgcnmloojnblaa.ck

namespace Go.Proofs.Ytkgcnmloojnblaa.ck
open Go.RowKit Go.Shelf Go.Lib Go.Proofs.Ytkgcnmloojnblaa.nb
set_option linter.unusedVariables false

def Clk (w : World) (b : Nat) (now : Int) : Prop := Box w b [.int .i64 now, .bool true]
theorem Clk.up {w w' : World} {b : Nat} {now : Int} (h : Clk w b now) (u : Up w w') : Clk w' b now := Box.up h u
set_option maxHeartbeats 4000000 in
theorem goLeast (A : Option Addr) (n c : Nat) (xs : List Int) (w : World) (hr : RdI w A xs) (hn : xs.length = n) (hm : n ≤ maxLen) :
    Calls Try.prog 41 #[.slice A n c] w fun e w' => e = .returned (.int .i64 (leastV xs)) ∧ Up w w' := by
  have hn2 : n ≤ 9223372036854775807 := by unfold maxLen at hm; omega
  have HR := Lib.hid hr; have HN := Lib.hid hn
  clear hr hn hm
  go_enter Try.func41, Try.ntmps41
  go_wp2_with fail
  go_loopw [3, 8] (fun m i wr => ∃ j : Nat, j ≤ n ∧ i = .int .i64 j ∧ m = .int .i64 (leastV (xs.take j)) ∧ Up w wr) (fun _ i _ => n - (intOf i).toNat)
  case atStart => exact ⟨0, Nat.zero_le _, rfl, rfl, Below.refl _ _⟩
  case round =>
    obtain ⟨j, hj, rfl, rfl, hu⟩ := hrel
    by_cases hlt : j < n
    · obtain ⟨g, off, x, hA, c1, hx⟩ := (HR.out.up hu).at_ (k := j) (by rw [HN.out]; exact hlt)
      subst hA
      have E := Lib.hid (leastV_succ hx)
      have hbd := leastV_bd (xs.take j)
      have HX := Lib.hid hx; clear hx
      generalize leastV (xs.take j) = m at *
      cases c0 : mayB x
      · have E2 := Lib.hid (show lessOf m x = m by unfold lessOf; rw [if_neg]; rintro ⟨h, _⟩; rw [c0] at h; cases h)
        have hq := goMay x
        rw [c0] at hq
        clear c0
        go_wp2_with (go_at_call 25; refine (hq _).mono ?_; rintro e w' ⟨rfl, rfl⟩)
        go_roundw
        case rel => exact ⟨j + 1, by omega, by go_num, by rw [E.out, E2.out], hu⟩
        case measure => simp [RowKit.intOf]; omega
      · obtain ⟨x1, x2⟩ := mayB_iff.1 c0
        have hq := goMay x
        rw [c0] at hq
        have E2 := Lib.hid (show lessOf m x = if x < m then x else m by unfold lessOf; rw [c0]; simp)
        clear c0
        go_wp2_with (first | (go_at_call 25; refine (hq _).mono ?_; rintro e w' ⟨rfl, rfl⟩) | fail)
        go_roundw
        case rel => exact ⟨j + 1, by omega, by go_num, by rw [E.out, E2.out], hu⟩
        case measure => simp [RowKit.intOf]; omega
    · obtain rfl : j = n := by omega
      rw [List.take_of_length_le (by rw [HN.out]; exact Nat.le_refl _)]
      go_wp2
      go_ret
      exact ⟨rfl, hu⟩
end Go.Proofs.Ytkgcnmloojnblaa.ck
