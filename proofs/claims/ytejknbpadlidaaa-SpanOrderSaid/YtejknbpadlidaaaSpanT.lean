/- How a law's arguments lie in memory: spans, a span, bools. Condition: none. -/
import Derived.Test.YtejknbpadlidaaaSpanS
import Derived.ProofKit
import Derived.Carry
import Derived.Deep.Slices
import Derived.Deep.Fields
import Derived.ChangeSame
import Derived.Lib.SmallJoins
namespace Go.Proofs.Ytejknbpadlidaaa.sp
open Go.ChangeShapes Go.WideShapes Go.Deep Go.Joins Go.RowKit Go.Proofs.Ytejknbpadlidaaa.spm
set_option linter.unusedVariables false

section
variable {H : Type} {enc : TypeId × Value → H} {P : Program} {w : World} {base : Nat} {spare : Nat → Bool} {held : Bool}
/-- a slice of structs whose fields have one cell each -/
theorem open_slice_fields {t e : TypeId} {fs : Array Field} {fuel : Nat} {cs : List Value} {x : DataW H × List MemPlace} (ht : P.underlying t = some (.slice e)) (he : P.underlying e = some (.struct fs))
    (hone : oneCellFields P fs = true) (hC : P.cellsOf e = fs.size) (h : DataW.trod enc P w base spare held fuel t cs = some x) :
    (cs = [.slice none 0 0]) ∨
    ∃ (a : Addr) (len cap m : Nat), cs = [.slice (some a) len cap] ∧ len ≤ cap ∧ cap ≤ maxLen ∧ m = (if spare a.block then cap else len) ∧
      ∀ i, i < m → ∀ (j : Nat) (f : Field), fs[j]? = some f → ∃ (n : Nat) (v : Value) (y : DataW H × List MemPlace), w.cell? (a.add (i * fs.size + j)) = some v ∧ DataW.trod enc P w base spare held n f.type [v] = some y := by
  rcases open_slice ht h with h0 | ⟨a, len, cap, m, n, D, Pl, hcs, hb, hl, hm, hmm, hx, hi⟩
  · exact .inl h0.1
  · refine .inr ⟨a, len, cap, m, hcs, hl, hm, hmm, fun i him j f hj => ?_⟩
    obtain ⟨cs', hc, ht'⟩ := hi i him
    rw [hC] at hc
    obtain ⟨ys, n', hn', hy, hlen, hyl, hf⟩ := DataW.trod_struct he ht'
    obtain ⟨_, hcl, hat⟩ := World.cells?_some hc
    obtain ⟨ho, hk⟩ := hone_of hone j f hj
    have hjl : j < fs.size := (Array.getElem?_eq_some_iff.1 hj).1
    have hcell := hat j hjl
    have hv : cs'[j]? = some (cs'[j]'(by omega)) := List.getElem?_eq_getElem (by omega)
    have h1 := hf j f hj
    rw [ho, hk] at h1
    have hone' : (cs'.drop j).take 1 = [cs'[j]'(by omega)] := by
      rw [List.drop_eq_getElem_cons (by omega)]
      rfl
    rw [hone'] at h1
    have hys : ys[j]? = some (ys[j]'(by omega)) := List.getElem?_eq_getElem (by omega)
    refine ⟨n', _, _, ?_, h1.trans hys⟩
    rw [← Go.Deep.add_add, hcell, hv]
end

theorem under31 : ∃ f0 f1 : Field, Try.prog.underlying 31 = some (.struct #[f0, f1]) ∧ oneCellFields Try.prog #[f0, f1] = true ∧ Try.prog.cellsOf 31 = 2 ∧ f0.type = 29 ∧ f1.type = 29 := by
  refine ⟨_, _, Try.underlying31, ?_, ?_, ?_, ?_⟩ <;> kernel_rfl
theorem spot_none {w : World} {a : Addr} {v : Value} (h : w.cell? a = some v) : a = ⟨a.block, a.off, none⟩ := by
  cases a with
  | mk b o s =>
    cases s with
    | none => rfl
    | some s =>
      exfalso
      simp only [World.cell?] at h
      cases hh : w.heap[b]? with
      | none => rw [hh] at h; cases h
      | some o' => rw [hh] at h; cases o' <;> simp at h
theorem add_eq (b o n : Nat) : (⟨b, o, none⟩ : Addr).add n = ⟨b, o + n, none⟩ := by unfold Addr.add; split <;> simp_all
theorem wf_u64 {x : Int} (h : (Lit.int .u64 x).wf = true) : 0 ≤ x ∧ x ≤ 18446744073709551615 := by
  simp [Lit.wf, IntKind.min, IntKind.max, IntKind.signed, IntKind.bits] at h; omega

theorem open_spans {H : Type} {enc : TypeId × Value → H} {W : World} {base : Nat} {v : Value} {d : DataW H} {p : List MemPlace} (hv : Value.okWide Try.prog W .any base 28 v)
    (h : DataW.Trod enc Try.prog W 0 (fun _ => true) true 28 v d p) : ∃ A n c xs, v = .slice A n c ∧ xs.length = n ∧ n ≤ maxLen ∧ Rd W A xs ∧ U xs := by
  obtain ⟨A, n, c, rfl⟩ := okWide_slice Try.underlying28 hv
  obtain ⟨fuel, hf⟩ := h
  obtain ⟨f0, f1, hu, hone, hC, ht0, ht1⟩ := under31
  rcases open_slice_fields Try.underlying28 hu hone (by rw [hC]; rfl) hf with h0 | ⟨a, len, cap, m, hcs, hl, hm, hmm, hi⟩
  · have h1 : (Value.slice A n c) = .slice none 0 0 := by simpa [Value.cells] using h0
    cases h1
    exact ⟨none, 0, 0, [], rfl, rfl, Nat.zero_le _, fun h => absurd rfl h, fun s hs => by cases hs⟩
  · have h1 : (Value.slice A n c) = .slice (some a) len cap := by simpa [Value.cells] using hcs
    cases h1
    simp only [if_true] at hmm
    subst hmm
    have hex : ∀ i, ∃ x : Int × Int, i < n → W.cell? (a.add (i * 2)) = some (.int .u64 x.1) ∧ W.cell? (a.add (i * 2 + 1)) = some (.int .u64 x.2) ∧ (0 ≤ x.1 ∧ x.1 ≤ 18446744073709551615) ∧ 0 ≤ x.2 ∧ x.2 ≤ 18446744073709551615 := fun i => by
      by_cases hin : i < n
      · obtain ⟨n0, v0, y0, c0, t0⟩ := hi i (by omega) 0 f0 rfl
        obtain ⟨n1, v1, y1, c1, t1⟩ := hi i (by omega) 1 f1 rfl
        rw [ht0] at t0
        rw [ht1] at t1
        obtain ⟨x0, hx0, _, w0⟩ := DataW.trod_int Try.underlying29 t0
        obtain ⟨x1, hx1, _, w1⟩ := DataW.trod_int Try.underlying29 t1
        simp at hx0 hx1
        subst hx0 hx1
        exact ⟨(x0, x1), fun _ => ⟨by simpa using c0, by simpa using c1, wf_u64 w0, wf_u64 w1⟩⟩
      · exact ⟨(0, 0), fun h => absurd h hin⟩
    obtain ⟨f, hf'⟩ := Classical.axiomOfChoice hex
    have hlen : ((List.range n).map f).length = n := by simp
    refine ⟨some a, n, _, (List.range n).map f, rfl, hlen, by omega, fun hne => ?_, fun s hs => ?_⟩
    · have hn0 : 0 < n := by
        rcases Nat.eq_zero_or_pos n with h | h
        · subst h; simp at hne
        · exact h
      have h00 := (hf' 0 hn0).1
      rw [Nat.zero_mul] at h00
      have ha : W.cell? a = some (.int .u64 (f 0).1) := by simpa [Addr.add] using h00
      have hsp := spot_none ha
      refine ⟨a.block, a.off, by rw [← hsp], World.block_lt_of_cell? _ _ ha, fun k hk => ?_⟩
      rw [hlen] at hk
      obtain ⟨h1, h2, _⟩ := hf' k hk
      rw [hsp, add_eq] at h1 h2
      rw [show ((List.range n).map f).getD k (0, 0) = f k by simp [List.getD, hk]]
      exact ⟨h1, by rw [Nat.add_assoc]; exact h2⟩
    · obtain ⟨i, hi', rfl⟩ := List.mem_map.1 hs
      obtain ⟨_, _, h3, h4⟩ := hf' i (List.mem_range.1 hi')
      exact ⟨h3.1, h3.2, h4.1, h4.2⟩
theorem open_span {H : Type} {enc : TypeId × Value → H} {W : World} {base : Nat} {v : Value} {d : DataW H} {p : List MemPlace} (hv : Value.okWide Try.prog W .any base 31 v)
    (h : DataW.Trod enc Try.prog W 0 (fun _ => true) true 31 v d p) : ∃ a b : Int, v = .agg #[.int .u64 a, .int .u64 b] ∧ (0 ≤ a ∧ a ≤ 18446744073709551615) ∧ 0 ≤ b ∧ b ≤ 18446744073709551615 := by
  obtain ⟨f0, f1, hu, hone, hC, ht0, ht1⟩ := under31
  obtain ⟨v0, v1, y0, y1, n, rfl, _, _, t0, t1⟩ := open_agg2 hu hone hC hv h
  rw [ht0] at t0
  rw [ht1] at t1
  obtain ⟨x0, hx0, _, w0⟩ := DataW.trod_int Try.underlying29 t0
  obtain ⟨x1, hx1, _, w1⟩ := DataW.trod_int Try.underlying29 t1
  simp at hx0 hx1
  subst hx0 hx1
  exact ⟨x0, x1, rfl, wf_u64 w0, wf_u64 w1⟩
end Go.Proofs.Ytejknbpadlidaaa.sp
