/- How a law's segment heads lie in memory. Condition: none. -/
import Derived.Test.YtecogakledajkaaTcpA
import Derived.ProofKit
import Derived.Carry
import Derived.OpenShut
namespace Go.Proofs.Ytecogakledajkaa.tc
open Go.ChangeShapes Go.WideShapes Go.ChangeAt Go.RowKit Go.Proofs.Ytecogakledajkaa.cm
set_option linter.unusedVariables false

theorem list8 {α : Type} {l : List α} (h : l.length = 8) : ∃ a b c d e f g k, l = [a, b, c, d, e, f, g, k] := by
  match l, h with
  | [a, b, c, d, e, f, g, k], _ => exact ⟨a, b, c, d, e, f, g, k, rfl⟩
theorem wf_u8 {x : Int} (h : (Lit.int .u8 x).wf = true) : 0 ≤ x ∧ x ≤ 255 := by
  simp [Lit.wf, IntKind.min, IntKind.max, IntKind.signed, IntKind.bits] at h; omega
theorem wf_u16 {x : Int} (h : (Lit.int .u16 x).wf = true) : 0 ≤ x ∧ x ≤ 65535 := by
  simp [Lit.wf, IntKind.min, IntKind.max, IntKind.signed, IntKind.bits] at h; omega
theorem wf_u32 {x : Int} (h : (Lit.int .u32 x).wf = true) : 0 ≤ x ∧ x ≤ 4294967295 := by
  simp [Lit.wf, IntKind.min, IntKind.max, IntKind.signed, IntKind.bits] at h; omega
theorem underH : ∃ f0 f1 f2 f3 f4 f5 f6 f7 : Field, Try.prog.underlying 25 = some (.struct #[f0, f1, f2, f3, f4, f5, f6, f7]) ∧ f0.type = 23 ∧ f1.type = 23 ∧ f2.type = 22 ∧ f3.type = 22 ∧ f4.type = 5 ∧ f5.type = 23 ∧ f6.type = 23 ∧ f7.type = 9
    ∧ f0.offset = 0 ∧ f1.offset = 1 ∧ f2.offset = 2 ∧ f3.offset = 3 ∧ f4.offset = 4 ∧ f5.offset = 5 ∧ f6.offset = 6 ∧ f7.offset = 7 := by
  refine ⟨_, _, _, _, _, _, _, _, Try.underlying25, ?_, ?_, ?_, ?_, ?_, ?_, ?_, ?_, ?_, ?_, ?_, ?_, ?_, ?_, ?_, ?_⟩ <;> kernel_rfl
theorem cellsH : Try.prog.cellsOf 25 = 8 := by kernel_rfl
theorem cells32 : Try.prog.cellsOf 22 = 1 := by kernel_rfl
theorem cells16 : Try.prog.cellsOf 23 = 1 := by kernel_rfl
theorem cells8 : Try.prog.cellsOf 5 = 1 := by kernel_rfl
theorem cellsS : Try.prog.cellsOf 9 = 1 := by kernel_rfl
theorem nat_of {x : Int} {n : Int} (h : 0 ≤ x ∧ x ≤ n) : ∃ m : Nat, x = (m : Int) ∧ (m : Int) ≤ n := ⟨x.toNat, by omega, by omega⟩
set_option maxRecDepth 100000 in
theorem open_tcp {H : Type} {enc : TypeId × Value → H} {W : World} {base : Nat} {sp : Nat → Bool} {held : Bool} {v : Value} {d : DataW H} {ps : List MemPlace} (hv : Value.okWide Try.prog W .any base 25 v) (h : DataW.Trod enc Try.prog W 0 sp held 25 v d ps) :
    ∃ (p q sq ak fl wi ur : Nat) (o : ByteArray), v = HV p q sq ak fl wi ur o ∧ Ok p q sq ak fl wi ur ∧ o.size ≤ maxLen := by
  obtain ⟨f0, f1, f2, f3, f4, f5, f6, f7, hu, e0, e1, e2, e3, e4, e5, e6, e7, o0, o1, o2, o3, o4, o5, o6, o7⟩ := underH
  obtain ⟨cs, rfl, hsz⟩ := okWide_struct hu hv
  obtain ⟨fuel, hf⟩ := h
  obtain ⟨l⟩ := cs
  have hl : l.length = 8 := hsz.trans cellsH
  obtain ⟨xs, n, -, -, -, hx, hf⟩ := DataW.trod_struct hu (show DataW.trod enc Try.prog W 0 sp held fuel 25 l = some (d, ps) from hf)
  have h0 := hf 0 f0 rfl; have h1 := hf 1 f1 rfl; have h2 := hf 2 f2 rfl; have h3 := hf 3 f3 rfl; have h4 := hf 4 f4 rfl; have h5 := hf 5 f5 rfl; have h6 := hf 6 f6 rfl; have h7 := hf 7 f7 rfl
  rw [e0, o0, cells16] at h0
  rw [e1, o1, cells16] at h1
  rw [e2, o2, cells32] at h2
  rw [e3, o3, cells32] at h3
  rw [e4, o4, cells8] at h4
  rw [e5, o5, cells16] at h5
  rw [e6, o6, cells16] at h6
  rw [e7, o7, cellsS] at h7
  obtain ⟨x0, x1, x2, x3, x4, x5, x6, x7, rfl⟩ := list8 hx
  obtain ⟨c0, c1, c2, c3, c4, c5, c6, c7, rfl⟩ := list8 hl
  obtain ⟨k0, g0, -, w0⟩ := DataW.trod_int Try.underlying23 (show DataW.trod enc Try.prog W 0 sp held n 23 [c0] = some x0 from h0)
  obtain ⟨k1, g1, -, w1⟩ := DataW.trod_int Try.underlying23 (show DataW.trod enc Try.prog W 0 sp held n 23 [c1] = some x1 from h1)
  obtain ⟨k2, g2, -, w2⟩ := DataW.trod_int Try.underlying22 (show DataW.trod enc Try.prog W 0 sp held n 22 [c2] = some x2 from h2)
  obtain ⟨k3, g3, -, w3⟩ := DataW.trod_int Try.underlying22 (show DataW.trod enc Try.prog W 0 sp held n 22 [c3] = some x3 from h3)
  obtain ⟨k4, g4, -, w4⟩ := DataW.trod_int Try.underlying5 (show DataW.trod enc Try.prog W 0 sp held n 5 [c4] = some x4 from h4)
  obtain ⟨k5, g5, -, w5⟩ := DataW.trod_int Try.underlying23 (show DataW.trod enc Try.prog W 0 sp held n 23 [c5] = some x5 from h5)
  obtain ⟨k6, g6, -, w6⟩ := DataW.trod_int Try.underlying23 (show DataW.trod enc Try.prog W 0 sp held n 23 [c6] = some x6 from h6)
  obtain ⟨k7, g7, -, w7⟩ := DataW.trod_string Try.underlying9 (show DataW.trod enc Try.prog W 0 sp held n 9 [c7] = some x7 from h7)
  obtain ⟨p, rfl, b0⟩ := nat_of (wf_u16 w0)
  obtain ⟨q, rfl, b1⟩ := nat_of (wf_u16 w1)
  obtain ⟨sq, rfl, b2⟩ := nat_of (wf_u32 w2)
  obtain ⟨ak, rfl, b3⟩ := nat_of (wf_u32 w3)
  obtain ⟨fl, rfl, b4⟩ := nat_of (wf_u8 w4)
  obtain ⟨wi, rfl, b5⟩ := nat_of (wf_u16 w5)
  obtain ⟨ur, rfl, b6⟩ := nat_of (wf_u16 w6)
  simp only [List.cons.injEq, and_true] at g0 g1 g2 g3 g4 g5 g6 g7
  exact ⟨p, q, sq, ak, fl, wi, ur, k7, by rw [g0, g1, g2, g3, g4, g5, g6, g7], by unfold Ok; omega, w7⟩
end Go.Proofs.Ytecogakledajkaa.tc
