/- How a law's arguments lie in memory: numbers, a row of numbers. Condition: none. -/
import Derived.Test.YtebihfojebdfbaaClkF
import Derived.Test.YtebihfojebdfbaaClkG
import Derived.ProofKit
import Derived.Carry
import Derived.ChangeSlices
import Derived.OpenShut
import Derived.Lib.SmallJoins
import Derived.ChangeSame
namespace Go.Proofs.Ytebihfojebdfbaa.ck
open Go.ChangeShapes Go.WideShapes Go.RowKit Go.Proofs.Ytebihfojebdfbaa.nb
set_option linter.unusedVariables false

theorem spot_none {w : World} {a : Addr} {v : Value} (h : w.cell? a = some v) : a = ⟨a.block, a.off, none⟩ := by
  cases a with
  | mk b o s =>
    cases s with
    | none => rfl
    | some s =>
      exfalso
      simp only [World.cell?] at h
      cases hh : w.heap[b]? with
      | none => rw [hh] at h; cases h
      | some o' => rw [hh] at h; cases o' <;> simp at h
theorem add_eq (b o n : Nat) : (⟨b, o, none⟩ : Addr).add n = ⟨b, o + n, none⟩ := by unfold Addr.add; split <;> simp_all
theorem wf_i64 {x : Int} (h : (Lit.int .i64 x).wf = true) : I64 x := by
  simp [Lit.wf, IntKind.min, IntKind.max, IntKind.signed, IntKind.bits] at h; unfold I64; omega
theorem wf_u32 {x : Int} (h : (Lit.int .u32 x).wf = true) : 0 ≤ x ∧ x ≤ 4294967295 := by
  simp [Lit.wf, IntKind.min, IntKind.max, IntKind.signed, IntKind.bits] at h; omega
theorem cells2 : Try.prog.cellsOf 2 = 1 := by kernel_rfl
theorem open_row {H : Type} {enc : TypeId × Value → H} {W : World} {base : Nat} {v : Value} {d : DataW H} {p : List MemPlace} (hv : Value.okWide Try.prog W .any base 22 v)
    (h : DataW.Trod enc Try.prog W 0 (fun _ => true) true 22 v d p) : ∃ A n c xs, v = .slice A n c ∧ (A = none → n = 0 ∧ c = 0) ∧ RdI W A xs ∧ xs.length = n ∧ n ≤ maxLen ∧ ∀ x ∈ xs, I64 x := by
  obtain ⟨A, n, c, rfl⟩ := okWide_slice Try.underlying22 hv
  obtain ⟨fuel, hf⟩ := h
  rcases open_ints Try.underlying22 Try.underlying2 cells2 hf with ⟨h0, _⟩ | ⟨a, len, cap, ss, hcs, _, hl, hm, hz, _, hcell, hws⟩
  · have h1 : (Value.slice A n c) = .slice none 0 0 := by simpa [Value.cells] using h0
    cases h1
    exact ⟨none, 0, 0, [], rfl, fun _ => ⟨rfl, rfl⟩, fun h => absurd rfl h, rfl, Nat.zero_le _, fun s hs => by cases hs⟩
  · have h1 : (Value.slice A n c) = .slice (some a) len cap := by simpa [Value.cells] using hcs
    cases h1
    simp only [if_true] at hz
    have hlen : (ss.take n).length = n := by rw [List.length_take]; omega
    refine ⟨some a, n, _, ss.take n, rfl, (fun h => by cases h), fun hne => ?_, hlen, by omega, fun s hs => wf_i64 (hws s (List.mem_of_mem_take hs))⟩
    have hn0 : 0 < n := by
      rcases Nat.eq_zero_or_pos n with h | h
      · subst h; simp at hne
      · exact h
    have h00 := hcell 0 (by omega)
    have ha : W.cell? a = some (.int .i64 (ss.getD 0 0)) := by simpa [Addr.add] using h00
    have hsp := spot_none ha
    refine ⟨a.block, a.off, by rw [← hsp], World.block_lt_of_cell? _ _ ha, fun k hk => ?_⟩
    rw [hlen] at hk
    have h2 := hcell k (by omega)
    rw [hsp, add_eq] at h2
    rw [h2]
    simp [List.getD, List.getElem?_take, hk]
theorem tellsI (t b : Int) (A : Option Addr) (n c : Nat) (xs : List Int) (w : World) (ht : I64 t) (hb : I64 b) (hA : A = none → n = 0 ∧ c = 0) (hr : RdI w A xs) (hn : xs.length = n) (hm : n ≤ maxLen) (hx : ∀ x ∈ xs, I64 x) :
    Calls Try.prog 3 #[.int .i64 t, .int .i64 b, .slice A n c] w fun e w' => e = .returned (.bool true) ∧ Up w w' := lawTells t b A n c xs w ht hb hA hr hn hm
theorem goesI (t : Int) (A : Option Addr) (n c : Nat) (xs : List Int) (ask : Int) (w : World) (ht : I64 t) (hA : A = none → n = 0 ∧ c = 0) (hr : RdI w A xs) (hn : xs.length = n) (hm : n ≤ maxLen) (hx : ∀ x ∈ xs, I64 x) (ha : I64 ask) :
    Calls Try.prog 4 #[.int .i64 t, .slice A n c, .int .i64 ask] w fun e w' => e = .returned (.bool true) ∧ Up w w' := lawGoes t A n c xs ask w ht hr hn hm hx ha
end Go.Proofs.Ytebihfojebdfbaa.ck
