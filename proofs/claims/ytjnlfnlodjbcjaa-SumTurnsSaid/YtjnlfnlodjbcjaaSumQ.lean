/- How a law's arguments lie in memory: texts, a row of texts. Condition: none. -/
import Derived.Test.YtjnlfnlodjbcjaaSumE
import Derived.ProofKit
import Derived.Carry
import Derived.SliceStrings
import Derived.OpenShut
import Derived.Lib.SmallJoins
import Derived.ChangeSame
namespace Go.Proofs.Ytjnlfnlodjbcjaa.su
open Go.ChangeShapes Go.WideShapes Go.RowKit
set_option linter.unusedVariables false

theorem spot_none {w : World} {a : Addr} {v : Value} (h : w.cell? a = some v) : a = ⟨a.block, a.off, none⟩ := by
  cases a with
  | mk b o s =>
    cases s with
    | none => rfl
    | some s =>
      exfalso
      simp only [World.cell?] at h
      cases hh : w.heap[b]? with
      | none => rw [hh] at h; cases h
      | some o' => rw [hh] at h; cases o' <;> simp at h
theorem add_eq (b o n : Nat) : (⟨b, o, none⟩ : Addr).add n = ⟨b, o + n, none⟩ := by unfold Addr.add; split <;> simp_all
theorem wf_u16 {x : Int} (h : (Lit.int .u16 x).wf = true) : 0 ≤ x ∧ x ≤ 65535 := by
  simp [Lit.wf, IntKind.min, IntKind.max, IntKind.signed, IntKind.bits] at h; omega
theorem wf_u8 {x : Int} (h : (Lit.int .u8 x).wf = true) : 0 ≤ x ∧ x ≤ 255 := by
  simp [Lit.wf, IntKind.min, IntKind.max, IntKind.signed, IntKind.bits] at h; omega
theorem cells22 : Try.prog.cellsOf 9 = 1 := by kernel_rfl
theorem open_txt {H : Type} {enc : TypeId × Value → H} {W : World} {base : Nat} {v : Value} {d : DataW H} {p : List MemPlace} (hv : Value.okWide Try.prog W .any base 22 v)
    (h : DataW.Trod enc Try.prog W 0 (fun _ => true) true 22 v d p) : ∃ A n c ps, v = .slice A n c ∧ ps.length = n ∧ n ≤ maxLen ∧ Txt W A ps ∧ ∀ p ∈ ps, p.size ≤ maxLen := by
  obtain ⟨A, n, c, rfl⟩ := okWide_slice Try.underlying22 hv
  obtain ⟨fuel, hf⟩ := h
  rcases open_strings Try.underlying22 Try.underlying9 cells22 hf with ⟨h0, _⟩ | ⟨a, len, cap, ss, hcs, _, hl, hm, hz, _, hcell, hws⟩
  · have h1 : (Value.slice A n c) = .slice none 0 0 := by simpa [Value.cells] using h0
    cases h1
    exact ⟨none, 0, 0, [], rfl, rfl, Nat.zero_le _, fun h => absurd rfl h, fun s hs => by cases hs⟩
  · have h1 : (Value.slice A n c) = .slice (some a) len cap := by simpa [Value.cells] using hcs
    cases h1
    simp only [if_true] at hz
    have hlen : (ss.take n).length = n := by rw [List.length_take]; omega
    refine ⟨some a, n, _, ss.take n, rfl, hlen, by omega, fun hne => ?_, fun s hs => hws s (List.mem_of_mem_take hs)⟩
    have hn0 : 0 < n := by
      rcases Nat.eq_zero_or_pos n with h | h
      · subst h; simp at hne
      · exact h
    have h00 := hcell 0 (by omega)
    have ha : W.cell? a = some (.string (ss.getD 0 ByteArray.empty)) := by simpa [Addr.add] using h00
    have hsp := spot_none ha
    refine ⟨a.block, a.off, by rw [← hsp], World.block_lt_of_cell? _ _ ha, fun k hk => ?_⟩
    rw [hlen] at hk
    have h2 := hcell k (by omega)
    rw [hsp, add_eq] at h2
    rw [h2, List.getElem_take]
    simp [List.getD, show k < ss.length by omega]
end Go.Proofs.Ytjnlfnlodjbcjaa.su
