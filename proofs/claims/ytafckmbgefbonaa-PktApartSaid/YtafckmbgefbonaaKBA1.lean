/- B A: contracts, part 1. Condition: as each says. -/
import Derived.Test.YtafckmbgefbonaaKBHA40
set_option linter.unusedVariables false
set_option linter.unusedSimpArgs false
namespace Go.Proofs.Ytafckmbgefbonaa.pk
open Go.ChangeShapes Go.WideShapes Go.ChangeAt Go.Deep Go.Joins Go.RowKit Go.Proofs.Ytafckmbgefbonaa.om Go.Proofs.Ytafckmbgefbonaa.nb Go.Proofs.Ytafckmbgefbonaa.pm
set_option linter.unusedVariables false

theorem list10q {α : Type} {l : List α} (h : l.length = 10) : ∃ a0 a1 a2 a3 a4 a5 a6 a7 a8 a9, l = [a0, a1, a2, a3, a4, a5, a6, a7, a8, a9] := by
  match l, h with
  | [a0, a1, a2, a3, a4, a5, a6, a7, a8, a9], _ => exact ⟨a0, a1, a2, a3, a4, a5, a6, a7, a8, a9, rfl⟩
theorem underX : ∃ f0 f1 f2 f3 f4 f5 f6 f7 : Field, Try.prog.underlying 32 = some (.struct #[f0, f1, f2, f3, f4, f5, f6, f7]) ∧ f0.type = 25 ∧ f1.type = 25 ∧ f2.type = 22 ∧ f3.type = 22 ∧ f4.type = 22 ∧ f5.type = 22 ∧ f6.type = 3 ∧ f7.type = 3 ∧ f0.offset = 0 ∧ f1.offset = 2 ∧ f2.offset = 4 ∧ f3.offset = 5 ∧ f4.offset = 6 ∧ f5.offset = 7 ∧ f6.offset = 8 ∧ f7.offset = 9 := by
  refine ⟨_, _, _, _, _, _, _, _, Try.underlying32, ?_, ?_, ?_, ?_, ?_, ?_, ?_, ?_, ?_, ?_, ?_, ?_, ?_, ?_, ?_, ?_⟩ <;> kernel_rfl
theorem cellsX : Try.prog.cellsOf 32 = 10 := by kernel_rfl
section
variable {H : Type} {enc : TypeId × Value → H} {W : World} {sp : Nat → Bool} {held : Bool} {fuel : Nat}
end
set_option maxRecDepth 100000 in
theorem open_shift {H : Type} {enc : TypeId × Value → H} {W : World} {base : Nat} {sp : Nat → Bool} {held : Bool} {x : Value} {d : DataW H} {ps : List MemPlace} (hv : Value.okWide Try.prog W .any base 32 x) (h : DataW.Trod enc Try.prog W 0 sp held 32 x d ps) :
    ∃ (a p b q y z v e : Nat) (up dn : Int), x = SHV a p b q y z v e up dn ∧ WfX ⟨a, b, p, q, y, z, v, e, up, dn⟩ ∧ (-9223372036854775808 ≤ up ∧ up ≤ 9223372036854775807) ∧ (-9223372036854775808 ≤ dn ∧ dn ≤ 9223372036854775807) := by
  obtain ⟨f0, f1, f2, f3, f4, f5, f6, f7, hu, e0, e1, e2, e3, e4, e5, e6, e7, o0, o1, o2, o3, o4, o5, o6, o7⟩ := underX
  obtain ⟨cs, rfl, hsz⟩ := okWide_struct hu hv
  obtain ⟨fuel, hf⟩ := h
  obtain ⟨l⟩ := cs
  have hl : l.length = 10 := hsz.trans cellsX
  obtain ⟨xs, n, -, -, -, hx, hf⟩ := DataW.trod_struct hu (show DataW.trod enc Try.prog W 0 sp held fuel 32 l = some (d, ps) from hf)
  have h0 := hf 0 f0 rfl
  rw [e0, o0, cellsA] at h0
  have h1 := hf 1 f1 rfl
  rw [e1, o1, cellsA] at h1
  have h2 := hf 2 f2 rfl
  rw [e2, o2, op.cells32] at h2
  have h3 := hf 3 f3 rfl
  rw [e3, o3, op.cells32] at h3
  have h4 := hf 4 f4 rfl
  rw [e4, o4, op.cells32] at h4
  have h5 := hf 5 f5 rfl
  rw [e5, o5, op.cells32] at h5
  have h6 := hf 6 f6 rfl
  rw [e6, o6, op.cellsI] at h6
  have h7 := hf 7 f7 rfl
  rw [e7, o7, op.cellsI] at h7
  obtain ⟨x0, x1, x2, x3, x4, x5, x6, x7, rfl⟩ := list8q hx
  obtain ⟨c0, c1, c2, c3, c4, c5, c6, c7, c8, c9, rfl⟩ := list10q hl
  obtain ⟨a, p, g0, g1, b0, b1⟩ := open_addr (show DataW.trod enc Try.prog W 0 sp held n 25 [c0, c1] = some x0 from h0)
  obtain ⟨b, q, g2, g3, b2, b3⟩ := open_addr (show DataW.trod enc Try.prog W 0 sp held n 25 [c2, c3] = some x1 from h1)
  obtain ⟨k4, g4, -, w4⟩ := DataW.trod_int Try.underlying22 (show DataW.trod enc Try.prog W 0 sp held n 22 [c4] = some x2 from h2)
  obtain ⟨k5, g5, -, w5⟩ := DataW.trod_int Try.underlying22 (show DataW.trod enc Try.prog W 0 sp held n 22 [c5] = some x3 from h3)
  obtain ⟨k6, g6, -, w6⟩ := DataW.trod_int Try.underlying22 (show DataW.trod enc Try.prog W 0 sp held n 22 [c6] = some x4 from h4)
  obtain ⟨k7, g7, -, w7⟩ := DataW.trod_int Try.underlying22 (show DataW.trod enc Try.prog W 0 sp held n 22 [c7] = some x5 from h5)
  obtain ⟨k8, g8, -, w8⟩ := DataW.trod_int Try.underlying3 (show DataW.trod enc Try.prog W 0 sp held n 3 [c8] = some x6 from h6)
  obtain ⟨k9, g9, -, w9⟩ := DataW.trod_int Try.underlying3 (show DataW.trod enc Try.prog W 0 sp held n 3 [c9] = some x7 from h7)
  obtain ⟨y, rfl, hy⟩ := op.nat_of (op.wf_u32 w4)
  obtain ⟨z, rfl, hz⟩ := op.nat_of (op.wf_u32 w5)
  obtain ⟨v, rfl, hv_⟩ := op.nat_of (op.wf_u32 w6)
  obtain ⟨e, rfl, he_⟩ := op.nat_of (op.wf_u32 w7)
  simp only [List.cons.injEq, and_true] at g4 g5 g6 g7 g8 g9
  exact ⟨a, p, b, q, y, z, v, e, k8, k9, by rw [g0, g1, g2, g3, g4, g5, g6, g7, g8, g9], ⟨b0, b2, b1, b3, by show y ≤ _; omega, by show z ≤ _; omega, by show v ≤ _; omega, by show e ≤ _; omega⟩, op.wf_i64 w8, op.wf_i64 w9⟩
end Go.Proofs.Ytafckmbgefbonaa.pk
