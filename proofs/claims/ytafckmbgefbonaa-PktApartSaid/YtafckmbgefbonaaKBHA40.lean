/- B H A: contracts, part 40. Condition: as each says. -/
import Derived.Test.YtafckmbgefbonaaKBHA16
import Derived.Test.YtafckmbgefbonaaKBHA27
import Derived.Test.YtafckmbgefbonaaKBHA39
set_option linter.unusedVariables false
set_option linter.unusedSimpArgs false
namespace Go.Proofs.Ytafckmbgefbonaa.pk
open Go.ChangeShapes Go.WideShapes Go.ChangeAt Go.Deep Go.Joins Go.RowKit Go.Proofs.Ytafckmbgefbonaa.om Go.Proofs.Ytafckmbgefbonaa.nb Go.Proofs.Ytafckmbgefbonaa.pm
set_option linter.unusedVariables false

theorem wf_u8 {x : Int} (h : (Lit.int .u8 x).wf = true) : 0 ≤ x ∧ x ≤ 255 := by
  simp [Lit.wf, IntKind.min, IntKind.max, IntKind.signed, IntKind.bits] at h; omega
theorem list2q {α : Type} {l : List α} (h : l.length = 2) : ∃ a0 a1, l = [a0, a1] := by
  match l, h with
  | [a0, a1], _ => exact ⟨a0, a1, rfl⟩
theorem list8q {α : Type} {l : List α} (h : l.length = 8) : ∃ a0 a1 a2 a3 a4 a5 a6 a7, l = [a0, a1, a2, a3, a4, a5, a6, a7] := by
  match l, h with
  | [a0, a1, a2, a3, a4, a5, a6, a7], _ => exact ⟨a0, a1, a2, a3, a4, a5, a6, a7, rfl⟩
theorem list16q {α : Type} {l : List α} (h : l.length = 16) : ∃ a0 a1 a2 a3 a4 a5 a6 a7 a8 a9 a10 a11 a12 a13 a14 a15, l = [a0, a1, a2, a3, a4, a5, a6, a7, a8, a9, a10, a11, a12, a13, a14, a15] := by
  match l, h with
  | [a0, a1, a2, a3, a4, a5, a6, a7, a8, a9, a10, a11, a12, a13, a14, a15], _ => exact ⟨a0, a1, a2, a3, a4, a5, a6, a7, a8, a9, a10, a11, a12, a13, a14, a15, rfl⟩
theorem underA : ∃ f0 f1 : Field, Try.prog.underlying 25 = some (.struct #[f0, f1]) ∧ f0.type = 22 ∧ f1.type = 23 ∧ f0.offset = 0 ∧ f1.offset = 1 := by
  refine ⟨_, _, Try.underlying25, ?_, ?_, ?_, ?_⟩ <;> kernel_rfl
theorem underS : ∃ f0 f1 f2 f3 f4 f5 f6 f7 : Field, Try.prog.underlying 30 = some (.struct #[f0, f1, f2, f3, f4, f5, f6, f7]) ∧ f0.type = 25 ∧ f1.type = 25 ∧ f2.type = 22 ∧ f3.type = 22 ∧ f4.type = 5 ∧ f5.type = 23 ∧ f6.type = 28 ∧ f7.type = 9 ∧ f0.offset = 0 ∧ f1.offset = 2 ∧ f2.offset = 4 ∧ f3.offset = 5 ∧ f4.offset = 6 ∧ f5.offset = 7 ∧ f6.offset = 8 ∧ f7.offset = 15 := by
  refine ⟨_, _, _, _, _, _, _, _, Try.underlying30, ?_, ?_, ?_, ?_, ?_, ?_, ?_, ?_, ?_, ?_, ?_, ?_, ?_, ?_, ?_, ?_⟩ <;> kernel_rfl
theorem cellsS : Try.prog.cellsOf 30 = 16 := by kernel_rfl
theorem cellsA : Try.prog.cellsOf 25 = 2 := by kernel_rfl
theorem cells8 : Try.prog.cellsOf 5 = 1 := by kernel_rfl
theorem cellsT : Try.prog.cellsOf 9 = 1 := by kernel_rfl
section
variable {H : Type} {enc : TypeId × Value → H} {W : World} {sp : Nat → Bool} {held : Bool} {fuel : Nat}
theorem open_addr {x0 x1 : Value} {y : DataW H × List MemPlace} (hf : DataW.trod enc Try.prog W 0 sp held fuel 25 [x0, x1] = some y) :
    ∃ a p : Nat, x0 = .int .u32 (a : Nat) ∧ x1 = .int .u16 (p : Nat) ∧ a ≤ 4294967295 ∧ p ≤ 65535 := by
  obtain ⟨f0, f1, hu, e0, e1, o0, o1⟩ := underA
  obtain ⟨xs, n, -, -, -, hx, hf⟩ := DataW.trod_struct hu hf
  have h0 := hf 0 f0 rfl; have h1 := hf 1 f1 rfl
  rw [e0, o0, op.cells32] at h0
  rw [e1, o1, op.cells16] at h1
  obtain ⟨y0, y1, rfl⟩ := list2q hx
  obtain ⟨k0, g0, -, w0⟩ := DataW.trod_int Try.underlying22 (show DataW.trod enc Try.prog W 0 sp held n 22 [x0] = some y0 from h0)
  obtain ⟨k1, g1, -, w1⟩ := DataW.trod_int Try.underlying23 (show DataW.trod enc Try.prog W 0 sp held n 23 [x1] = some y1 from h1)
  obtain ⟨a, rfl, ha⟩ := op.nat_of (op.wf_u32 w0)
  obtain ⟨p, rfl, hp⟩ := op.nat_of (op.wf_u16 w1)
  simp only [List.cons.injEq, and_true] at g0 g1
  exact ⟨a, p, g0, g1, by omega, by omega⟩
set_option maxRecDepth 100000 in
theorem open_optc {c0 c1 c2 c3 c4 c5 c6 : Value} {y : DataW H × List MemPlace} (hf : DataW.trod enc Try.prog W 0 sp held fuel 28 [c0, c1, c2, c3, c4, c5, c6] = some y) :
    ∃ (m : Nat) (s : Int) (k : Bool) (b : List (Nat × Nat)) (t : Bool) (v e : Nat) (A : Option Addr) (n c : Nat), (c0 = .int .u16 (m : Nat) ∧ c1 = .int .i64 s ∧ c2 = .bool k ∧ c3 = .slice A n c ∧ c4 = .bool t ∧ c5 = .int .u32 (v : Nat) ∧ c6 = .int .u32 (e : Nat)) ∧ op.OkA W m s k b t v e A n := by
  obtain ⟨f0, f1, f2, f3, f4, f5, f6, hu, e0, e1, e2, e3, e4, e5, e6, o0, o1, o2, o3, o4, o5, o6⟩ := op.underO
  obtain ⟨xs, n, -, -, -, hx, hf⟩ := DataW.trod_struct hu hf
  have h0 := hf 0 f0 rfl; have h1 := hf 1 f1 rfl; have h2 := hf 2 f2 rfl; have h3 := hf 3 f3 rfl; have h4 := hf 4 f4 rfl; have h5 := hf 5 f5 rfl; have h6 := hf 6 f6 rfl
  rw [e0, o0, op.cells16] at h0
  rw [e1, o1, op.cellsI] at h1
  rw [e2, o2, op.cellsB] at h2
  rw [e3, o3, op.cellsL] at h3
  rw [e4, o4, op.cellsB] at h4
  rw [e5, o5, op.cells32] at h5
  rw [e6, o6, op.cells32] at h6
  obtain ⟨x0, x1, x2, x3, x4, x5, x6, rfl⟩ := op.list7 hx
  obtain ⟨k0, g0, -, w0⟩ := DataW.trod_int Try.underlying23 (show DataW.trod enc Try.prog W 0 sp held n 23 [c0] = some x0 from h0)
  obtain ⟨k1, g1, -, w1⟩ := DataW.trod_int Try.underlying3 (show DataW.trod enc Try.prog W 0 sp held n 3 [c1] = some x1 from h1)
  obtain ⟨k2, g2, -⟩ := DataW.trod_bool Try.underlying4 (show DataW.trod enc Try.prog W 0 sp held n 4 [c2] = some x2 from h2)
  obtain ⟨A, nn, cc, bs, g3, hbl, hbm, hbr, hbw⟩ := op.open_blocks (show DataW.trod enc Try.prog W 0 sp held n 26 [c3] = some x3 from h3)
  obtain ⟨k4, g4, -⟩ := DataW.trod_bool Try.underlying4 (show DataW.trod enc Try.prog W 0 sp held n 4 [c4] = some x4 from h4)
  obtain ⟨k5, g5, -, w5⟩ := DataW.trod_int Try.underlying22 (show DataW.trod enc Try.prog W 0 sp held n 22 [c5] = some x5 from h5)
  obtain ⟨k6, g6, -, w6⟩ := DataW.trod_int Try.underlying22 (show DataW.trod enc Try.prog W 0 sp held n 22 [c6] = some x6 from h6)
  obtain ⟨m, rfl, hm⟩ := op.nat_of (op.wf_u16 w0)
  obtain ⟨v, rfl, hv5⟩ := op.nat_of (op.wf_u32 w5)
  obtain ⟨e, rfl, he6⟩ := op.nat_of (op.wf_u32 w6)
  simp only [List.cons.injEq, and_true] at g0 g1 g2 g3 g4 g5 g6
  exact ⟨m, k1, k2, bs, k4, v, e, A, nn, cc, ⟨g0, g1, g2, g3, g4, g5, g6⟩, ⟨by dsimp only; omega, hbw, by unfold M32; dsimp only; omega, by unfold M32; dsimp only; omega⟩, op.wf_i64 w1, hbr, hbl, hbm⟩
end
abbrev SGV (g : Sg) (A : Option Addr) (n c : Nat) : Value := SA g.sa g.sp g.da g.dp g.sq g.ak g.fl g.wi g.op.mss g.op.sc g.op.sk A n c g.op.tm g.op.va g.op.ec (tx g.dt)
structure SegX (W : World) (g : Sg) (A : Option Addr) (n : Nat) : Prop where
  wf : WfS g
  sc : -9223372036854775808 ≤ g.op.sc ∧ g.op.sc ≤ 9223372036854775807
  len : g.op.bl.length = n
  rd : op.RdB W A g.op.bl
  max : n ≤ maxLen
  dt : g.dt.length ≤ maxLen
theorem SegX.seg {W : World} {g : Sg} {A : Option Addr} {n : Nat} (h : SegX W g A n) (c : Nat) : SegV W (SGV g A n c) g := ⟨A, n, c, rfl, h.len, h.rd⟩
theorem SegX.good {W : World} {g : Sg} {A : Option Addr} {n : Nat} (h : SegX W g A n) (h1 : g.dt.length ≤ 4096) (h2 : g.op.bl.length ≤ 100) : GoodS g := ⟨h.wf, h.sc, by omega, by omega⟩
theorem SegX.up {W W' : World} {g : Sg} {A : Option Addr} {n : Nat} (h : SegX W g A n) (u : Up W W') : SegX W' g A n := ⟨h.wf, h.sc, h.len, h.rd.up u, h.max, h.dt⟩
set_option maxRecDepth 100000 in
theorem open_seg {H : Type} {enc : TypeId × Value → H} {W : World} {base : Nat} {sp : Nat → Bool} {held : Bool} {x : Value} {d : DataW H} {ps : List MemPlace} (hv : Value.okWide Try.prog W .any base 30 x) (h : DataW.Trod enc Try.prog W 0 sp held 30 x d ps) :
    ∃ (g : Sg) (A : Option Addr) (n c : Nat), x = SGV g A n c ∧ SegX W g A n := by
  obtain ⟨f0, f1, f2, f3, f4, f5, f6, f7, hu, e0, e1, e2, e3, e4, e5, e6, e7, o0, o1, o2, o3, o4, o5, o6, o7⟩ := underS
  obtain ⟨cs, rfl, hsz⟩ := okWide_struct hu hv
  obtain ⟨fuel, hf⟩ := h
  obtain ⟨l⟩ := cs
  have hl : l.length = 16 := hsz.trans cellsS
  obtain ⟨xs, n, -, -, -, hx, hf⟩ := DataW.trod_struct hu (show DataW.trod enc Try.prog W 0 sp held fuel 30 l = some (d, ps) from hf)
  have h0 := hf 0 f0 rfl
  rw [e0, o0, cellsA] at h0
  have h1 := hf 1 f1 rfl
  rw [e1, o1, cellsA] at h1
  have h2 := hf 2 f2 rfl
  rw [e2, o2, op.cells32] at h2
  have h3 := hf 3 f3 rfl
  rw [e3, o3, op.cells32] at h3
  have h4 := hf 4 f4 rfl
  rw [e4, o4, cells8] at h4
  have h5 := hf 5 f5 rfl
  rw [e5, o5, op.cells16] at h5
  have h6 := hf 6 f6 rfl
  rw [e6, o6, op.cellsO] at h6
  have h7 := hf 7 f7 rfl
  rw [e7, o7, cellsT] at h7
  obtain ⟨x0, x1, x2, x3, x4, x5, x6, x7, rfl⟩ := list8q hx
  obtain ⟨c0, c1, c2, c3, c4, c5, c6, c7, c8, c9, c10, c11, c12, c13, c14, c15, rfl⟩ := list16q hl
  obtain ⟨a, p, g0, g1, b0, b1⟩ := open_addr (show DataW.trod enc Try.prog W 0 sp held n 25 [c0, c1] = some x0 from h0)
  obtain ⟨b, q, g2, g3, b2, b3⟩ := open_addr (show DataW.trod enc Try.prog W 0 sp held n 25 [c2, c3] = some x1 from h1)
  obtain ⟨k4, g4, -, w4⟩ := DataW.trod_int Try.underlying22 (show DataW.trod enc Try.prog W 0 sp held n 22 [c4] = some x2 from h2)
  obtain ⟨k5, g5, -, w5⟩ := DataW.trod_int Try.underlying22 (show DataW.trod enc Try.prog W 0 sp held n 22 [c5] = some x3 from h3)
  obtain ⟨k6, g6, -, w6⟩ := DataW.trod_int Try.underlying5 (show DataW.trod enc Try.prog W 0 sp held n 5 [c6] = some x4 from h4)
  obtain ⟨k7, g7, -, w7⟩ := DataW.trod_int Try.underlying23 (show DataW.trod enc Try.prog W 0 sp held n 23 [c7] = some x5 from h5)
  obtain ⟨m, s, k, bl, t, v, e, A, nn, cc, ⟨g8, g9, g10, g11, g12, g13, g14⟩, hok⟩ := open_optc (show DataW.trod enc Try.prog W 0 sp held n 28 [c8, c9, c10, c11, c12, c13, c14] = some x6 from h6)
  obtain ⟨S, g15, -, hS⟩ := DataW.trod_string Try.underlying9 (show DataW.trod enc Try.prog W 0 sp held n 9 [c15] = some x7 from h7)
  obtain ⟨y, rfl, hy⟩ := op.nat_of (op.wf_u32 w4)
  obtain ⟨z, rfl, hz⟩ := op.nat_of (op.wf_u32 w5)
  obtain ⟨f, rfl, hf_⟩ := op.nat_of (wf_u8 w6)
  obtain ⟨i, rfl, hi⟩ := op.nat_of (op.wf_u16 w7)
  simp only [List.cons.injEq, and_true] at g4 g5 g6 g7 g15
  obtain ⟨ok1, ok2, ok3, ok4, ok5⟩ := hok
  refine ⟨⟨a, b, p, q, y, z, f, i, ⟨m, s, k, bl, t, v, e⟩, L S⟩, A, nn, cc, ?_, ⟨⟨b0, b2, b1, b3, by show y ≤ _; omega, by show z ≤ _; omega, by show f ≤ _; omega, by show i ≤ _; omega, ok1⟩, ok2, ok4, ok3, ok5, hS⟩⟩
  dsimp only [SGV, SA]
  rw [g0, g1, g2, g3, g4, g5, g6, g7, g8, g9, g10, g11, g12, g13, g14, g15, tx_L]
end Go.Proofs.Ytafckmbgefbonaa.pk
