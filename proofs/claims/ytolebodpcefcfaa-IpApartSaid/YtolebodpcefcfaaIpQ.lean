/- How a law's heads lie in memory. Condition: none. -/
import Derived.Test.YtolebodpcefcfaaIpA
import Derived.ProofKit
import Derived.Carry
import Derived.OpenShut
namespace Go.Proofs.Ytolebodpcefcfaa.ip
open Go.ChangeShapes Go.WideShapes Go.ChangeAt Go.RowKit Go.Proofs.Ytolebodpcefcfaa.im
set_option linter.unusedVariables false

theorem list7 {α : Type} {l : List α} (h : l.length = 7) : ∃ a b c d e f g, l = [a, b, c, d, e, f, g] := by
  match l, h with
  | [a, b, c, d, e, f, g], _ => exact ⟨a, b, c, d, e, f, g, rfl⟩
theorem wf_u8 {x : Int} (h : (Lit.int .u8 x).wf = true) : 0 ≤ x ∧ x ≤ 255 := by
  simp [Lit.wf, IntKind.min, IntKind.max, IntKind.signed, IntKind.bits] at h; omega
theorem wf_u16 {x : Int} (h : (Lit.int .u16 x).wf = true) : 0 ≤ x ∧ x ≤ 65535 := by
  simp [Lit.wf, IntKind.min, IntKind.max, IntKind.signed, IntKind.bits] at h; omega
theorem wf_u32 {x : Int} (h : (Lit.int .u32 x).wf = true) : 0 ≤ x ∧ x ≤ 4294967295 := by
  simp [Lit.wf, IntKind.min, IntKind.max, IntKind.signed, IntKind.bits] at h; omega
theorem underH : ∃ f0 f1 f2 f3 f4 f5 f6 : Field, Try.prog.underlying 25 = some (.struct #[f0, f1, f2, f3, f4, f5, f6]) ∧ f0.type = 22 ∧ f1.type = 22 ∧ f2.type = 5 ∧ f3.type = 5 ∧ f4.type = 5 ∧ f5.type = 23 ∧ f6.type = 4
    ∧ f0.offset = 0 ∧ f1.offset = 1 ∧ f2.offset = 2 ∧ f3.offset = 3 ∧ f4.offset = 4 ∧ f5.offset = 5 ∧ f6.offset = 6 := by
  refine ⟨_, _, _, _, _, _, _, Try.underlying25, ?_, ?_, ?_, ?_, ?_, ?_, ?_, ?_, ?_, ?_, ?_, ?_, ?_, ?_⟩ <;> kernel_rfl
theorem cellsH : Try.prog.cellsOf 25 = 7 := by kernel_rfl
theorem cells32 : Try.prog.cellsOf 22 = 1 := by kernel_rfl
theorem cells16 : Try.prog.cellsOf 23 = 1 := by kernel_rfl
theorem cells8 : Try.prog.cellsOf 5 = 1 := by kernel_rfl
theorem cellsB : Try.prog.cellsOf 4 = 1 := by kernel_rfl
theorem nat_of {x : Int} {n : Int} (h : 0 ≤ x ∧ x ≤ n) : ∃ m : Nat, x = (m : Int) ∧ (m : Int) ≤ n := ⟨x.toNat, by omega, by omega⟩
set_option maxRecDepth 100000 in
theorem open_ip {H : Type} {enc : TypeId × Value → H} {W : World} {base : Nat} {sp : Nat → Bool} {held : Bool} {v : Value} {d : DataW H} {p : List MemPlace} (hv : Value.okWide Try.prog W .any base 25 v) (h : DataW.Trod enc Try.prog W 0 sp held 25 v d p) :
    ∃ (a b p t s i : Nat) (d : Bool), v = HV a b p t s i d ∧ Ok a b p t s i := by
  obtain ⟨f0, f1, f2, f3, f4, f5, f6, hu, e0, e1, e2, e3, e4, e5, e6, o0, o1, o2, o3, o4, o5, o6⟩ := underH
  obtain ⟨cs, rfl, hsz⟩ := okWide_struct hu hv
  obtain ⟨fuel, hf⟩ := h
  obtain ⟨l⟩ := cs
  have hl : l.length = 7 := hsz.trans cellsH
  obtain ⟨xs, n, -, -, -, hx, hf⟩ := DataW.trod_struct hu (show DataW.trod enc Try.prog W 0 sp held fuel 25 l = some (d, p) from hf)
  have h0 := hf 0 f0 rfl; have h1 := hf 1 f1 rfl; have h2 := hf 2 f2 rfl; have h3 := hf 3 f3 rfl; have h4 := hf 4 f4 rfl; have h5 := hf 5 f5 rfl; have h6 := hf 6 f6 rfl
  rw [e0, o0, cells32] at h0
  rw [e1, o1, cells32] at h1
  rw [e2, o2, cells8] at h2
  rw [e3, o3, cells8] at h3
  rw [e4, o4, cells8] at h4
  rw [e5, o5, cells16] at h5
  rw [e6, o6, cellsB] at h6
  obtain ⟨x0, x1, x2, x3, x4, x5, x6, rfl⟩ := list7 hx
  obtain ⟨c0, c1, c2, c3, c4, c5, c6, rfl⟩ := list7 hl
  obtain ⟨k0, g0, -, w0⟩ := DataW.trod_int Try.underlying22 (show DataW.trod enc Try.prog W 0 sp held n 22 [c0] = some x0 from h0)
  obtain ⟨k1, g1, -, w1⟩ := DataW.trod_int Try.underlying22 (show DataW.trod enc Try.prog W 0 sp held n 22 [c1] = some x1 from h1)
  obtain ⟨k2, g2, -, w2⟩ := DataW.trod_int Try.underlying5 (show DataW.trod enc Try.prog W 0 sp held n 5 [c2] = some x2 from h2)
  obtain ⟨k3, g3, -, w3⟩ := DataW.trod_int Try.underlying5 (show DataW.trod enc Try.prog W 0 sp held n 5 [c3] = some x3 from h3)
  obtain ⟨k4, g4, -, w4⟩ := DataW.trod_int Try.underlying5 (show DataW.trod enc Try.prog W 0 sp held n 5 [c4] = some x4 from h4)
  obtain ⟨k5, g5, -, w5⟩ := DataW.trod_int Try.underlying23 (show DataW.trod enc Try.prog W 0 sp held n 23 [c5] = some x5 from h5)
  obtain ⟨k6, g6, -⟩ := DataW.trod_bool Try.underlying4 (show DataW.trod enc Try.prog W 0 sp held n 4 [c6] = some x6 from h6)
  obtain ⟨a, rfl, ha⟩ := nat_of (wf_u32 w0)
  obtain ⟨b, rfl, hb⟩ := nat_of (wf_u32 w1)
  obtain ⟨p', rfl, hp⟩ := nat_of (wf_u8 w2)
  obtain ⟨t, rfl, ht⟩ := nat_of (wf_u8 w3)
  obtain ⟨s, rfl, hs⟩ := nat_of (wf_u8 w4)
  obtain ⟨i, rfl, hi⟩ := nat_of (wf_u16 w5)
  simp only [List.cons.injEq, and_true] at g0 g1 g2 g3 g4 g5 g6
  exact ⟨a, b, p', t, s, i, k6, by rw [g0, g1, g2, g3, g4, g5, g6], by unfold Ok; omega⟩
end Go.Proofs.Ytolebodpcefcfaa.ip
