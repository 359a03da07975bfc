/- B H A: contracts, part 39. Condition: as each says. -/
import Derived.Test.YtafckmbgefbonaaKBHA8
import Derived.Carry
import Derived.OpenShut
import Derived.Deep.Slices
import Derived.Deep.Fields
import Derived.ChangeSame
import Derived.Lib.SmallJoins
set_option linter.unusedVariables false
set_option linter.unusedSimpArgs false
namespace Go.Proofs.Ytafckmbgefbonaa.op
open Go.ChangeShapes Go.WideShapes Go.ChangeAt Go.Deep Go.Joins Go.RowKit Go.Proofs.Ytafckmbgefbonaa.om
set_option linter.unusedVariables false

section
variable {H : Type} {enc : TypeId × Value → H} {P : Program} {w : World} {base : Nat} {spare : Nat → Bool} {held : Bool}
theorem open_slice_fields {t e : TypeId} {fs : Array Field} {fuel : Nat} {cs : List Value} {x : DataW H × List MemPlace} (ht : P.underlying t = some (.slice e)) (he : P.underlying e = some (.struct fs))
    (hone : oneCellFields P fs = true) (hC : P.cellsOf e = fs.size) (h : DataW.trod enc P w base spare held fuel t cs = some x) :
    (cs = [.slice none 0 0]) ∨
    ∃ (a : Addr) (len cap m : Nat), cs = [.slice (some a) len cap] ∧ len ≤ cap ∧ cap ≤ maxLen ∧ m = (if spare a.block then cap else len) ∧
      ∀ i, i < m → ∀ (j : Nat) (f : Field), fs[j]? = some f → ∃ (n : Nat) (v : Value) (y : DataW H × List MemPlace), w.cell? (a.add (i * fs.size + j)) = some v ∧ DataW.trod enc P w base spare held n f.type [v] = some y := by
  rcases open_slice ht h with h0 | ⟨a, len, cap, m, n, D, Pl, hcs, hb, hl, hm, hmm, hx, hi⟩
  · exact .inl h0.1
  · refine .inr ⟨a, len, cap, m, hcs, hl, hm, hmm, fun i him j f hj => ?_⟩
    obtain ⟨cs', hc, ht'⟩ := hi i him
    rw [hC] at hc
    obtain ⟨ys, n', hn', hy, hlen, hyl, hf⟩ := DataW.trod_struct he ht'
    obtain ⟨_, hcl, hat⟩ := World.cells?_some hc
    obtain ⟨ho, hk⟩ := hone_of hone j f hj
    have hjl : j < fs.size := (Array.getElem?_eq_some_iff.1 hj).1
    have hcell := hat j hjl
    have hv : cs'[j]? = some (cs'[j]'(by omega)) := List.getElem?_eq_getElem (by omega)
    have h1 := hf j f hj
    rw [ho, hk] at h1
    have hone' : (cs'.drop j).take 1 = [cs'[j]'(by omega)] := by
      rw [List.drop_eq_getElem_cons (by omega)]
      rfl
    rw [hone'] at h1
    have hys : ys[j]? = some (ys[j]'(by omega)) := List.getElem?_eq_getElem (by omega)
    refine ⟨n', _, _, ?_, h1.trans hys⟩
    rw [← Go.Deep.add_add, hcell, hv]
end

theorem underK : ∃ f0 f1 : Field, Try.prog.underlying 109 = some (.struct #[f0, f1]) ∧ oneCellFields Try.prog #[f0, f1] = true ∧ Try.prog.cellsOf 109 = 2 ∧ f0.type = 22 ∧ f1.type = 22 := by
  refine ⟨_, _, Try.underlying109, ?_, ?_, ?_, ?_⟩ <;> kernel_rfl
theorem spot_none {w : World} {a : Addr} {v : Value} (h : w.cell? a = some v) : a = ⟨a.block, a.off, none⟩ := by
  cases a with
  | mk b o s =>
    cases s with
    | none => rfl
    | some s =>
      exfalso
      simp only [World.cell?] at h
      cases hh : w.heap[b]? with
      | none => rw [hh] at h; cases h
      | some o' => rw [hh] at h; cases o' <;> simp at h
theorem add_eq (b o n : Nat) : (⟨b, o, none⟩ : Addr).add n = ⟨b, o + n, none⟩ := by unfold Addr.add; split <;> simp_all
theorem wf_u16 {x : Int} (h : (Lit.int .u16 x).wf = true) : 0 ≤ x ∧ x ≤ 65535 := by
  simp [Lit.wf, IntKind.min, IntKind.max, IntKind.signed, IntKind.bits] at h; omega
theorem wf_u32 {x : Int} (h : (Lit.int .u32 x).wf = true) : 0 ≤ x ∧ x ≤ 4294967295 := by
  simp [Lit.wf, IntKind.min, IntKind.max, IntKind.signed, IntKind.bits] at h; omega
theorem wf_i64 {x : Int} (h : (Lit.int .i64 x).wf = true) : -9223372036854775808 ≤ x ∧ x ≤ 9223372036854775807 := by
  simp [Lit.wf, IntKind.min, IntKind.max, IntKind.signed, IntKind.bits] at h; omega
theorem nat_of {x : Int} {n : Int} (h : 0 ≤ x ∧ x ≤ n) : ∃ m : Nat, x = (m : Int) ∧ (m : Int) ≤ n := ⟨x.toNat, by omega, by omega⟩
theorem open_blocks {H : Type} {enc : TypeId × Value → H} {W : World} {base : Nat} {spare : Nat → Bool} {held : Bool} {fuel : Nat} {cs : List Value} {x : DataW H × List MemPlace} (hf : DataW.trod enc Try.prog W base spare held fuel 26 cs = some x) :
    ∃ A n c xs, cs = [.slice A n c] ∧ xs.length = n ∧ n ≤ maxLen ∧ RdB W A xs ∧ ∀ b ∈ xs, b.1 < M32 ∧ b.2 < M32 := by
  obtain ⟨f0, f1, hu, hone, hC, ht0, ht1⟩ := underK
  rcases open_slice_fields Try.underlying26 hu hone (by rw [hC]; rfl) hf with h0 | ⟨a, n, c, m, hcs, hl, hm, hmm, hi⟩
  · exact ⟨none, 0, 0, [], h0, rfl, Nat.zero_le _, fun h => absurd rfl h, fun b hb => by cases hb⟩
  · have hnm : n ≤ m := by rw [hmm]; split <;> omega
    have hex : ∀ i, ∃ x : Nat × Nat, i < n → W.cell? (a.add (i * 2)) = some (.int .u32 (x.1 : Nat)) ∧ W.cell? (a.add (i * 2 + 1)) = some (.int .u32 (x.2 : Nat)) ∧ x.1 < M32 ∧ x.2 < M32 := fun i => by
      by_cases hin : i < n
      · obtain ⟨n0, v0, y0, c0, t0⟩ := hi i (by omega) 0 f0 rfl
        obtain ⟨n1, v1, y1, c1, t1⟩ := hi i (by omega) 1 f1 rfl
        rw [ht0] at t0
        rw [ht1] at t1
        obtain ⟨x0, hx0, _, w0⟩ := DataW.trod_int Try.underlying22 t0
        obtain ⟨x1, hx1, _, w1⟩ := DataW.trod_int Try.underlying22 t1
        simp at hx0 hx1
        subst hx0 hx1
        obtain ⟨k0, rfl, hk0⟩ := nat_of (wf_u32 w0)
        obtain ⟨k1, rfl, hk1⟩ := nat_of (wf_u32 w1)
        exact ⟨(k0, k1), fun _ => ⟨by simpa using c0, by simpa using c1, by unfold M32; dsimp only; omega, by unfold M32; dsimp only; omega⟩⟩
      · exact ⟨(0, 0), fun h => absurd h hin⟩
    obtain ⟨f, hf'⟩ := Classical.axiomOfChoice hex
    have hlen : ((List.range n).map f).length = n := by simp
    refine ⟨some a, n, c, (List.range n).map f, hcs, hlen, by omega, fun hne => ?_, fun s hs => ?_⟩
    · have hn0 : 0 < n := by
        rcases Nat.eq_zero_or_pos n with h | h
        · subst h; simp at hne
        · exact h
      have h00 := (hf' 0 hn0).1
      rw [Nat.zero_mul] at h00
      have ha : W.cell? a = some (.int .u32 ((f 0).1 : Nat)) := by simpa [Addr.add] using h00
      have hsp := spot_none ha
      refine ⟨a.block, a.off, by rw [← hsp], World.block_lt_of_cell? _ _ ha, fun k hk => ?_⟩
      rw [hlen] at hk
      obtain ⟨h1, h2, _⟩ := hf' k hk
      rw [hsp, add_eq] at h1 h2
      rw [show ((List.range n).map f).getD k (0, 0) = f k by simp [List.getD, hk]]
      exact ⟨h1, by rw [Nat.add_assoc]; exact h2⟩
    · obtain ⟨i, hi', rfl⟩ := List.mem_map.1 hs
      obtain ⟨_, _, h3, h4⟩ := hf' i (List.mem_range.1 hi')
      exact ⟨h3, h4⟩
theorem list7 {α : Type} {l : List α} (h : l.length = 7) : ∃ a b c d e f g, l = [a, b, c, d, e, f, g] := by
  match l, h with
  | [a, b, c, d, e, f, g], _ => exact ⟨a, b, c, d, e, f, g, rfl⟩
theorem underO : ∃ f0 f1 f2 f3 f4 f5 f6 : Field, Try.prog.underlying 28 = some (.struct #[f0, f1, f2, f3, f4, f5, f6]) ∧ f0.type = 23 ∧ f1.type = 3 ∧ f2.type = 4 ∧ f3.type = 26 ∧ f4.type = 4 ∧ f5.type = 22 ∧ f6.type = 22
    ∧ f0.offset = 0 ∧ f1.offset = 1 ∧ f2.offset = 2 ∧ f3.offset = 3 ∧ f4.offset = 4 ∧ f5.offset = 5 ∧ f6.offset = 6 := by
  refine ⟨_, _, _, _, _, _, _, Try.underlying28, ?_, ?_, ?_, ?_, ?_, ?_, ?_, ?_, ?_, ?_, ?_, ?_, ?_, ?_⟩ <;> kernel_rfl
theorem cellsO : Try.prog.cellsOf 28 = 7 := by kernel_rfl
theorem cells32 : Try.prog.cellsOf 22 = 1 := by kernel_rfl
theorem cells16 : Try.prog.cellsOf 23 = 1 := by kernel_rfl
theorem cellsI : Try.prog.cellsOf 3 = 1 := by kernel_rfl
theorem cellsB : Try.prog.cellsOf 4 = 1 := by kernel_rfl
theorem cellsL : Try.prog.cellsOf 26 = 1 := by kernel_rfl
end Go.Proofs.Ytafckmbgefbonaa.op
