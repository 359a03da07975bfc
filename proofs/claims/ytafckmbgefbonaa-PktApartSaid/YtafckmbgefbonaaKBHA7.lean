/- B H A: contracts, part 7. Condition: as each says. -/
import Derived.Test.YtafckmbgefbonaaKBHA6
import Derived.Deep.OwnRows
import Derived.Deep.Onto
import Derived.Below
set_option linter.unusedVariables false
set_option linter.unusedSimpArgs false
namespace Go.Proofs.Ytafckmbgefbonaa.op
open Go.RowKit Go.Shelf Go.Lib Go.Proofs.Ytafckmbgefbonaa.sm Go.Proofs.Ytafckmbgefbonaa.nb Go.Proofs.Ytafckmbgefbonaa.om
set_option linter.unusedVariables false

/-! ### a row of numbers that a call has gathered -/
abbrev icells (ps : List Nat) : List Value := ps.map fun p => Value.int .i64 (p : Nat)
def OwnI (w : World) (B : Nat) (v : Value) (ps : List Nat) : Prop := w.ownsRow B 3 1 v ps.length (icells ps)
def RdI (w : World) (A : Option Addr) (ps : List Nat) : Prop := ps ≠ [] → ∃ b off, A = some ⟨b, off, none⟩ ∧ b < w.heap.size ∧ ∀ k, k < ps.length → w.cell? ⟨b, off + k, none⟩ = some (.int .i64 ((ps.getD k 0 : Nat) : Int))
theorem OwnI.nil_ (w : World) (B : Nat) : OwnI w B (.slice none 0 0) [] := World.ownsRow_nil _ _ _ _
theorem OwnI.up {w w' : World} {B : Nat} {v : Value} {ps : List Nat} (h : OwnI w B v ps) (hb : Below w.heap.size w w') : OwnI w' B v ps := kept_below h hb
theorem OwnI.rd {w : World} {B : Nat} {v : Value} {ps : List Nat} (h : OwnI w B v ps) : ∃ A c, v = .slice A ps.length c ∧ RdI w A ps := by
  rcases own_form h with ⟨rfl, hn⟩ | ⟨g, cap, rfl, hB, hg, _⟩
  · exact ⟨none, 0, by rw [hn], fun hne => absurd (List.eq_nil_of_length_eq_zero hn) hne⟩
  · refine ⟨_, cap, rfl, fun _ => ⟨g, 0, rfl, hg, fun k hk => ?_⟩⟩
    rw [Nat.zero_add, World.ownsRow.cellAt h k (by omega)]
    simp [icells, List.getD, hk]
theorem RdI.below {w w' : World} {A : Option Addr} {ps : List Nat} (h : RdI w A ps) {B : Nat} (hb : Below B w w') (hB : w.heap.size ≤ B) : RdI w' A ps := fun hn => by
  obtain ⟨b, off, rfl, hlt, hc⟩ := h hn
  exact ⟨b, off, rfl, Nat.lt_of_lt_of_le hlt hb.size, fun k hk => (hb.cell (p := ⟨b, _, none⟩) (Nat.lt_of_lt_of_le hlt hB)).trans (hc k hk)⟩
theorem RdI.up {w w' : World} {A : Option Addr} {ps : List Nat} (h : RdI w A ps) (hb : Up w w') : RdI w' A ps := h.below hb (Nat.le_refl _)
theorem RdI.at_ {w : World} {A : Option Addr} {ps : List Nat} (h : RdI w A ps) {k : Nat} (hk : k < ps.length) : ∃ b off, A = some ⟨b, off, none⟩ ∧ b < w.heap.size ∧ ∃ x : Nat, w.cell? ⟨b, off + k, none⟩ = some (.int .i64 (x : Nat)) ∧ Hid (ps[k]? = some x) := by
  obtain ⟨b, off, e, hl, hc⟩ := h (by intro h; subst h; simp at hk)
  exact ⟨b, off, e, hl, _, hc k hk, (show ps[k]? = _ by simp [List.getD, List.getElem?_eq_getElem hk])⟩
section
variable {ops : Array Oper} {rest : List Oper} {o : Oper} {a : Act} {Q : Exit → Act → World → Prop} {w : World} {B : Nat} {v : Value}
end
/-! ### which kinds were met -/
def Met (w : World) (g : Nat) (f : Nat → Bool) : Prop := g < w.heap.size ∧ ∀ k, k < 256 → w.cell? ⟨g, k, none⟩ = some (.bool (f k)) ∧ w.frozen? ⟨g, k, none⟩ = false
theorem Met.below {w w' : World} {g B : Nat} {f : Nat → Bool} (h : Met w g f) (hb : Below B w w') (hB : g < B) : Met w' g f :=
  ⟨Nat.lt_of_lt_of_le h.1 hb.size, fun k hk => ⟨(hb.cell (p := ⟨g, k, none⟩) hB).trans (h.2 k hk).1, (hb.frozen (p := ⟨g, k, none⟩) hB).trans (h.2 k hk).2⟩⟩
theorem Met.set {w : World} {g : Nat} {f : Nat → Bool} (h : Met w g f) (k : Nat) (hk : k < 256) : Met (w.setCell ⟨g, k, none⟩ (.bool true)) g (fun j => if j = k then true else f j) :=
  ⟨by simpa using h.1, fun j hj => by
    refine ⟨?_, by rw [World.frozen?_setCell]; exact (h.2 j hj).2⟩
    by_cases e : j = k
    · subst e
      rw [World.cell?_setCell_same' _ _ _ (by rw [(h.2 j hj).1]; rfl)]
      simp
    · rw [World.cell?_setCell_other _ _ _ _ (by intro h; cases h; exact e rfl), (h.2 j hj).1]
      simp [e]⟩
theorem made_at (k : Nat) (hk : k < 256) : (madeCells #[Value.bool false] 256)[k]? = some (.bool false) := by
  simp [madeCells, hk, Nat.mod_one]
theorem Met.new (w : World) : Met (w.alloc (.cells (madeCells #[Value.bool false] 256) 4)) w.heap.size (fun _ => false) :=
  ⟨by simp, fun k hk => ⟨by rw [World.cell?_alloc_new]; exact made_at k hk, by simp⟩⟩
def Knd (s : List UInt8) (pl : List Nat) (f : Nat → Bool) : Prop := ∀ k, f k = true ↔ ∃ q ∈ pl, nb s q = k
theorem Knd.next {s : List UInt8} {pl : List Nat} {f : Nat → Bool} (h : Knd s pl f) (p : Nat) : Knd s (pl ++ [p]) (fun j => if j = nb s p then true else f j) := by
  intro k
  by_cases e : k = nb s p
  · subst e; simp
  · simp only [if_neg e, h k, List.mem_append, List.mem_singleton]
    constructor
    · rintro ⟨q, hq, hk⟩; exact ⟨q, .inl hq, hk⟩
    · rintro ⟨q, hq | rfl, hk⟩
      · exact ⟨q, hq, hk⟩
      · exact absurd hk.symm e
end Go.Proofs.Ytafckmbgefbonaa.op
