/- A: contracts, part 3. Condition: as each says. -/
import Derived.Test.YtkgcnmloojnblaaKA1
import Derived.Test.YtkgcnmloojnblaaKOA1
set_option linter.unusedVariables false
set_option linter.unusedSimpArgs false
namespace Go.Proofs.Ytkgcnmloojnblaa.wh
open Go.ChangeShapes Go.WideShapes Go.Deep Go.Joins Go.RowKit Go.Proofs.Ytkgcnmloojnblaa.nb Go.Proofs.Ytkgcnmloojnblaa.ck
set_option linter.unusedVariables false

section
variable {H : Type} {enc : TypeId × Value → H} {P : Program} {w : World} {base : Nat} {spare : Nat → Bool} {held : Bool}
end
theorem wf_u32 {x : Int} (h : (Lit.int .u32 x).wf = true) : 0 ≤ x ∧ x ≤ 4294967295 := by
  simp [Lit.wf, IntKind.min, IntKind.max, IntKind.signed, IntKind.bits] at h; omega
theorem wf_u16 {x : Int} (h : (Lit.int .u16 x).wf = true) : 0 ≤ x ∧ x ≤ 65535 := by
  simp [Lit.wf, IntKind.min, IntKind.max, IntKind.signed, IntKind.bits] at h; omega

set_option maxRecDepth 100000
theorem open_rowG {H : Type} {enc : TypeId × Value → H} {W : World} {base : Nat} {v : Value} {d : DataW H} {p : List MemPlace} {t e : TypeId} {k : IntKind} (ht : Try.prog.underlying t = some (.slice e)) (he : Try.prog.underlying e = some (.int k)) (hc1 : Try.prog.cellsOf e = 1) (hv : Value.okWide Try.prog W .any base t v)
    (h : DataW.Trod enc Try.prog W 0 (fun _ => true) true t v d p) : ∃ A n c xs, v = .slice A n c ∧ RdG k W A xs ∧ xs.length = n ∧ n ≤ maxLen ∧ ∀ x ∈ xs, (Lit.int k x).wf = true := by
  obtain ⟨A, n, c, rfl⟩ := okWide_slice ht hv
  obtain ⟨fuel, hf⟩ := h
  rcases open_ints ht he hc1 hf with ⟨h0, _⟩ | ⟨a, len, cap, ss, hcs, _, hl, hm, hz, _, hcell, hws⟩
  · have h1 : (Value.slice A n c) = .slice none 0 0 := by simpa [Value.cells] using h0
    cases h1
    exact ⟨none, 0, 0, [], rfl, fun h => absurd rfl h, rfl, Nat.zero_le _, fun s hs => by cases hs⟩
  · have h1 : (Value.slice A n c) = .slice (some a) len cap := by simpa [Value.cells] using hcs
    cases h1
    simp only [if_true] at hz
    have hlen : (ss.take n).length = n := by rw [List.length_take]; omega
    refine ⟨some a, n, _, ss.take n, rfl, fun hne => ?_, hlen, by omega, fun s hs => hws s (List.mem_of_mem_take hs)⟩
    have hn0 : 0 < n := by
      rcases Nat.eq_zero_or_pos n with h | h
      · subst h; simp at hne
      · exact h
    have h00 := hcell 0 (by omega)
    have ha : W.cell? a = some (.int k (ss.getD 0 0)) := by simpa [Addr.add] using h00
    have hsp := spot_none ha
    refine ⟨a.block, a.off, by rw [← hsp], World.block_lt_of_cell? _ _ ha, fun j hj => ?_⟩
    rw [hlen] at hj
    have h2 := hcell j (by omega)
    rw [hsp, add_eq] at h2
    rw [h2]
    simp [List.getD, List.getElem?_take, hj]
theorem open_u32s {H : Type} {enc : TypeId × Value → H} {W : World} {base : Nat} {v : Value} {d : DataW H} {p : List MemPlace} (hv : Value.okWide Try.prog W .any base 53 v)
    (h : DataW.Trod enc Try.prog W 0 (fun _ => true) true 53 v d p) : ∃ A n c xs, v = .slice A n c ∧ RdG .u32 W A xs ∧ xs.length = n ∧ n ≤ maxLen ∧ ∀ x ∈ xs, 0 ≤ x ∧ x ≤ 4294967295 := by
  obtain ⟨A, n, c, xs, e, h1, h2, h3, h4⟩ := open_rowG (k := .u32) Try.underlying53 Try.underlying59 (by kernel_rfl) hv h
  exact ⟨A, n, c, xs, e, h1, h2, h3, fun x hx => wf_u32 (h4 x hx)⟩
theorem open_u16s {H : Type} {enc : TypeId × Value → H} {W : World} {base : Nat} {v : Value} {d : DataW H} {p : List MemPlace} (hv : Value.okWide Try.prog W .any base 54 v)
    (h : DataW.Trod enc Try.prog W 0 (fun _ => true) true 54 v d p) : ∃ A n c xs, v = .slice A n c ∧ RdG .u16 W A xs ∧ xs.length = n ∧ n ≤ maxLen ∧ ∀ x ∈ xs, 0 ≤ x ∧ x ≤ 65535 := by
  obtain ⟨A, n, c, xs, e, h1, h2, h3, h4⟩ := open_rowG (k := .u16) Try.underlying54 Try.underlying65 (by kernel_rfl) hv h
  exact ⟨A, n, c, xs, e, h1, h2, h3, fun x hx => wf_u16 (h4 x hx)⟩
end Go.Proofs.Ytkgcnmloojnblaa.wh
