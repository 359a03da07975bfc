/- P O: contracts, part 2. Condition: as each says. -/
import Derived.Test.YtkgcnmloojnblaaKPO1
import Derived.Test.YtkgcnmloojnblaaKPON1
import Derived.Test.YtkgcnmloojnblaaKPOA1
set_option linter.unusedVariables false
set_option linter.unusedSimpArgs false
namespace Go.Proofs.Ytkgcnmloojnblaa.wh
open Go.ChangeShapes Go.WideShapes Go.Deep Go.Joins Go.RowKit Go.Proofs.Ytkgcnmloojnblaa.nb Go.Proofs.Ytkgcnmloojnblaa.ck
set_option linter.unusedVariables false

section
variable {H : Type} {enc : TypeId × Value → H} {P : Program} {w : World} {base : Nat} {spare : Nat → Bool} {held : Bool}
theorem open_slice_fields {t e : TypeId} {fs : Array Field} {fuel : Nat} {cs : List Value} {x : DataW H × List MemPlace} (ht : P.underlying t = some (.slice e)) (he : P.underlying e = some (.struct fs))
    (hone : oneCellFields P fs = true) (hC : P.cellsOf e = fs.size) (h : DataW.trod enc P w base spare held fuel t cs = some x) :
    (cs = [.slice none 0 0]) ∨
    ∃ (a : Addr) (len cap m : Nat), cs = [.slice (some a) len cap] ∧ len ≤ cap ∧ cap ≤ maxLen ∧ m = (if spare a.block then cap else len) ∧
      ∀ i, i < m → ∀ (j : Nat) (f : Field), fs[j]? = some f → ∃ (n : Nat) (v : Value) (y : DataW H × List MemPlace), w.cell? (a.add (i * fs.size + j)) = some v ∧ DataW.trod enc P w base spare held n f.type [v] = some y := by
  rcases open_slice ht h with h0 | ⟨a, len, cap, m, n, D, Pl, hcs, hb, hl, hm, hmm, hx, hi⟩
  · exact .inl h0.1
  · refine .inr ⟨a, len, cap, m, hcs, hl, hm, hmm, fun i him j f hj => ?_⟩
    obtain ⟨cs', hc, ht'⟩ := hi i him
    rw [hC] at hc
    obtain ⟨ys, n', hn', hy, hlen, hyl, hf⟩ := DataW.trod_struct he ht'
    obtain ⟨_, hcl, hat⟩ := World.cells?_some hc
    obtain ⟨ho, hk⟩ := hone_of hone j f hj
    have hjl : j < fs.size := (Array.getElem?_eq_some_iff.1 hj).1
    have hcell := hat j hjl
    have hv : cs'[j]? = some (cs'[j]'(by omega)) := List.getElem?_eq_getElem (by omega)
    have h1 := hf j f hj
    rw [ho, hk] at h1
    have hone' : (cs'.drop j).take 1 = [cs'[j]'(by omega)] := by
      rw [List.drop_eq_getElem_cons (by omega)]
      rfl
    rw [hone'] at h1
    have hys : ys[j]? = some (ys[j]'(by omega)) := List.getElem?_eq_getElem (by omega)
    refine ⟨n', _, _, ?_, h1.trans hys⟩
    rw [← Go.Deep.add_add, hcell, hv]
end
set_option maxRecDepth 100000
theorem underS : ∃ f0 f1 f2 f3 : Field, Try.prog.underlying 34 = some (.struct #[f0, f1, f2, f3]) ∧ oneCellFields Try.prog #[f0, f1, f2, f3] = true ∧ Try.prog.cellsOf 34 = 4 ∧ f0.type = 3 ∧ f1.type = 9 ∧ f2.type = 9 ∧ f3.type = 2 := by
  refine ⟨_, _, _, _, Try.underlying34, ?_, ?_, ?_, ?_, ?_, ?_⟩ <;> kernel_rfl
theorem open_script {H : Type} {enc : TypeId × Value → H} {W : World} {base : Nat} {v : Value} {d : DataW H} {p : List MemPlace} (hv : Value.okWide Try.prog W .any base 22 v)
    (h : DataW.Trod enc Try.prog W 0 (fun _ => true) true 22 v d p) : ∃ A n c xs, v = .slice A n c ∧ RdP W A xs ∧ xs.length = n ∧ n ≤ maxLen ∧ ∀ x ∈ xs, OkSt x := by
  obtain ⟨A, n, c, rfl⟩ := okWide_slice Try.underlying22 hv
  obtain ⟨fuel, hf⟩ := h
  obtain ⟨f0, f1, f2, f3, hu, hone, hC, ht0, ht1, ht2, ht3⟩ := underS
  rcases open_slice_fields Try.underlying22 hu hone (by rw [hC]; rfl) hf with h0 | ⟨a, len, cap, m, hcs, hl, hm, hmm, hi⟩
  · have h1 : (Value.slice A n c) = .slice none 0 0 := by simpa [Value.cells] using h0
    cases h1
    exact ⟨none, 0, 0, [], rfl, fun h => absurd rfl h, rfl, Nat.zero_le _, fun s hs => by cases hs⟩
  · have h1 : (Value.slice A n c) = .slice (some a) len cap := by simpa [Value.cells] using hcs
    cases h1
    simp only [if_true] at hmm
    subst hmm
    have hex : ∀ i, ∃ x : St, i < n → W.cell? (a.add (i * 4)) = some (.int .i64 x.d) ∧ W.cell? (a.add (i * 4 + 1)) = some (.string x.k) ∧ W.cell? (a.add (i * 4 + 2)) = some (.string x.o) ∧ W.cell? (a.add (i * 4 + 3)) = some (.int .i64 x.t) ∧ OkSt x := fun i => by
      by_cases hin : i < n
      · obtain ⟨n0, v0, y0, c0, t0⟩ := hi i (by omega) 0 f0 rfl
        obtain ⟨n1, v1, y1, c1, t1⟩ := hi i (by omega) 1 f1 rfl
        obtain ⟨n2, v2, y2, c2, t2⟩ := hi i (by omega) 2 f2 rfl
        obtain ⟨n3, v3, y3, c3, t3⟩ := hi i (by omega) 3 f3 rfl
        rw [ht0] at t0
        rw [ht1] at t1
        rw [ht2] at t2
        rw [ht3] at t3
        obtain ⟨x0, hx0, _, w0⟩ := DataW.trod_int Try.underlying3 t0
        obtain ⟨x1, hx1, _, wk⟩ := DataW.trod_string Try.underlying9 t1
        obtain ⟨x2, hx2, _⟩ := DataW.trod_string Try.underlying9 t2
        obtain ⟨x3, hx3, _, w3⟩ := DataW.trod_int Try.underlying2 t3
        simp at hx0 hx1 hx2 hx3
        subst hx0 hx1 hx2 hx3
        exact ⟨⟨x0, x1, x2, x3⟩, fun _ => ⟨by simpa using c0, by simpa using c1, by simpa using c2, by simpa using c3, ⟨wf_i64 w3, wk⟩⟩⟩
      · exact ⟨s0, fun h => absurd h hin⟩
    obtain ⟨f, hf'⟩ := Classical.axiomOfChoice hex
    have hlen : ((List.range n).map f).length = n := by simp
    refine ⟨some a, n, _, (List.range n).map f, rfl, fun hne => ?_, hlen, by omega, fun s hs => ?_⟩
    · have hn0 : 0 < n := by
        rcases Nat.eq_zero_or_pos n with h | h
        · subst h; simp at hne
        · exact h
      have h00 := (hf' 0 hn0).1
      rw [Nat.zero_mul] at h00
      have ha : W.cell? a = some (.int .i64 (f 0).d) := by simpa [Addr.add] using h00
      have hsp := spot_none ha
      refine ⟨a.block, a.off, by rw [← hsp], World.block_lt_of_cell? _ _ ha, fun k hk => ?_⟩
      rw [hlen] at hk
      obtain ⟨h1, h2, h3, h4, _⟩ := hf' k hk
      rw [hsp, add_eq] at h1 h2 h3 h4
      rw [show ((List.range n).map f).getD k s0 = f k by simp [List.getD, hk]]
      exact ⟨h1, by rw [Nat.add_assoc]; exact h2, by rw [Nat.add_assoc]; exact h3, by rw [Nat.add_assoc]; exact h4⟩
    · obtain ⟨i, hi', rfl⟩ := List.mem_map.1 hs
      exact (hf' i (List.mem_range.1 hi')).2.2.2.2
end Go.Proofs.Ytkgcnmloojnblaa.wh
