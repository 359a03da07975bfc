/- How a law's pairs lie in memory; what the listed variables give the walks. Condition: none. -/
import Derived.Test.YtolebodpcefcfaaDoorTupG
import Derived.Test.YtolebodpcefcfaaDoorTupJ
import Derived.ProofKit
import Derived.Carry
import Derived.OpenShut
import Derived.Lay
import Derived.LaidOnce
import Derived.LaidLaws
import Derived.Stop.LaidErr
import Derived.Lib.LaidTab
import Derived.HandedShaped
namespace Go.Proofs.YtolebodpcefcfaaDoor.tu
open Go.ChangeShapes Go.WideShapes Go.ChangeAt Go.RowKit Go.Lib
set_option linter.unusedVariables false

theorem list2 {α : Type} {l : List α} (h : l.length = 2) : ∃ a b, l = [a, b] := by
  match l, h with
  | [a, b], _ => exact ⟨a, b, rfl⟩
theorem list4 {α : Type} {l : List α} (h : l.length = 4) : ∃ a b c d, l = [a, b, c, d] := by
  match l, h with
  | [a, b, c, d], _ => exact ⟨a, b, c, d, rfl⟩
theorem wf_u16 {x : Int} (h : (Lit.int .u16 x).wf = true) : 0 ≤ x ∧ x ≤ 65535 := by
  simp [Lit.wf, IntKind.min, IntKind.max, IntKind.signed, IntKind.bits] at h; omega
theorem wf_u32 {x : Int} (h : (Lit.int .u32 x).wf = true) : 0 ≤ x ∧ x ≤ 4294967295 := by
  simp [Lit.wf, IntKind.min, IntKind.max, IntKind.signed, IntKind.bits] at h; omega
theorem underP : ∃ f0 f1 : Field, Tryd.prog.underlying 27 = some (.struct #[f0, f1]) ∧ f0.type = 25 ∧ f1.type = 25 ∧ f0.offset = 0 ∧ f1.offset = 2 := by
  refine ⟨_, _, Tryd.underlying27, ?_, ?_, ?_, ?_⟩ <;> kernel_rfl
theorem underA : ∃ f0 f1 : Field, Tryd.prog.underlying 25 = some (.struct #[f0, f1]) ∧ f0.type = 22 ∧ f1.type = 23 ∧ f0.offset = 0 ∧ f1.offset = 1 := by
  refine ⟨_, _, Tryd.underlying25, ?_, ?_, ?_, ?_⟩ <;> kernel_rfl
theorem cellsP : Tryd.prog.cellsOf 27 = 4 := by kernel_rfl
theorem cellsA : Tryd.prog.cellsOf 25 = 2 := by kernel_rfl
theorem cells32 : Tryd.prog.cellsOf 22 = 1 := by kernel_rfl
theorem cells16 : Tryd.prog.cellsOf 23 = 1 := by kernel_rfl
theorem nat_of {x : Int} {n : Int} (h : 0 ≤ x ∧ x ≤ n) : ∃ m : Nat, x = (m : Int) ∧ (m : Int) ≤ n := ⟨x.toNat, by omega, by omega⟩
theorem open_addr {H : Type} {enc : TypeId × Value → H} {W : World} {base fuel : Nat} {sp : Nat → Bool} {held : Bool} {cs : List Value} {x : DataW H × List MemPlace} (h : DataW.trod enc Tryd.prog W base sp held fuel 25 cs = some x) :
    ∃ a b : Nat, cs = [.int .u32 (a : Int), .int .u16 (b : Int)] ∧ a ≤ 4294967295 ∧ b ≤ 65535 := by
  obtain ⟨f0, f1, hu, e0, e1, o0, o1⟩ := underA
  obtain ⟨xs, n, -, -, hl, hx, hf⟩ := DataW.trod_struct hu h
  rw [cellsA] at hl
  obtain ⟨c0, c1, rfl⟩ := list2 hl
  obtain ⟨x0, x1, rfl⟩ := list2 hx
  have h0 := hf 0 f0 rfl
  have h1 := hf 1 f1 rfl
  rw [e0, o0, cells32] at h0
  rw [e1, o1, cells16] at h1
  obtain ⟨k, hk, -, wk⟩ := DataW.trod_int Tryd.underlying22 (show DataW.trod enc Tryd.prog W base sp held n 22 [c0] = some x0 from h0)
  obtain ⟨m, hm, -, wm⟩ := DataW.trod_int Tryd.underlying23 (show DataW.trod enc Tryd.prog W base sp held n 23 [c1] = some x1 from h1)
  obtain ⟨a, rfl, ha⟩ := nat_of (wf_u32 wk)
  obtain ⟨b, rfl, hb⟩ := nat_of (wf_u16 wm)
  simp only [List.cons.injEq, and_true] at hk hm
  exact ⟨a, b, by rw [hk, hm], by omega, by omega⟩
set_option maxRecDepth 100000 in
theorem open_pair {H : Type} {enc : TypeId × Value → H} {W : World} {base : Nat} {sp : Nat → Bool} {held : Bool} {v : Value} {d : DataW H} {p : List MemPlace} (hv : Value.okWide Tryd.prog W .any base 27 v) (h : DataW.Trod enc Tryd.prog W 0 sp held 27 v d p) :
    ∃ a b c d : Nat, v = Pair a b c d ∧ a ≤ 4294967295 ∧ b ≤ 65535 ∧ c ≤ 4294967295 ∧ d ≤ 65535 := by
  obtain ⟨f0, f1, hu, e0, e1, o0, o1⟩ := underP
  obtain ⟨cs, rfl, hsz⟩ := okWide_struct hu hv
  obtain ⟨fuel, hf⟩ := h
  obtain ⟨l⟩ := cs
  have hl : l.length = 4 := hsz.trans cellsP
  obtain ⟨xs, n, -, -, -, hx, hf⟩ := DataW.trod_struct hu (show DataW.trod enc Tryd.prog W 0 sp held fuel 27 l = some (d, p) from hf)
  have h0 := hf 0 f0 rfl
  have h1 := hf 1 f1 rfl
  rw [e0, o0, cellsA] at h0
  rw [e1, o1, cellsA] at h1
  obtain ⟨x0, x1, rfl⟩ := list2 hx
  obtain ⟨c0, c1, c2, c3, rfl⟩ := list4 hl
  obtain ⟨a, b, hab, ha, hb⟩ := open_addr (show DataW.trod enc Tryd.prog W 0 sp held n 25 [c0, c1] = some x0 from h0)
  obtain ⟨c, d', hcd, hc, hd⟩ := open_addr (show DataW.trod enc Tryd.prog W 0 sp held n 25 [c2, c3] = some x1 from h1)
  simp only [List.cons.injEq, and_true] at hab hcd
  exact ⟨a, b, c, d', by rw [hab.1, hab.2, hcd.1, hcd.2], ha, hb, hc, hd⟩

/-! ### the listed variables -/
theorem tabEq : (Rows.laid_internal_strconv_uint64pow10 : DataW Unit) = tabData .u64 pow10Tab := by rfl
theorem star : "*" ++ "errors.errorString" = "*errors.errorString" := by decide
theorem rowE (u : TypeId) (h : Tryd.prog.typeName? 3 u = some "*errors.errorString") : u = 106 :=
  typeName_ptr_named (nm := "errors.errorString") (by rw [star]; kernel_rfl) (by kernel_rfl) (by decide) u (by rw [star]; exact h)
theorem gTabT : (Tryd.prog.globals[1]?).map (·.type) = some 94 := by kernel_rfl
theorem gSynT : (Tryd.prog.globals[2]?).map (·.type) = some 64 := by kernel_rfl
theorem gRngT : (Tryd.prog.globals[3]?).map (·.type) = some 64 := by kernel_rfl
theorem cellsE : Tryd.prog.cellsOf 108 = 1 := by kernel_rfl
theorem cellsS : Tryd.prog.cellsOf 9 = 1 := by kernel_rfl
theorem cellsU : Tryd.prog.cellsOf 50 = 1 := by kernel_rfl
theorem cellsT : Tryd.prog.cellsOf 94 = 20 := by kernel_rfl
theorem env_of {W : World} {x0 x1 x3 : String × DataW Unit} {r : List (String × DataW Unit)}
    (h : laidMet Tryd.prog (x0 :: x1 :: ("internal/strconv.uint64pow10", Rows.laid_internal_strconv_uint64pow10) :: x3 :: ("strconv.ErrRange", Rows.laid_strconv_ErrRange) :: ("strconv.ErrSyntax", Rows.laid_strconv_ErrSyntax) :: r) W) (hs : W.ShapedOpen Tryd.prog) : Env W := by
  have h2 := h.tail.tail
  have h4 := h2.tail.tail
  have h5 := h4.tail
  rw [tabEq] at h2
  refine ⟨tabIs_of_head gTab gTabT Tryd.underlying94 Tryd.underlying50 cellsU cellsT h2, ?_, ?_, Tryd.lCut.s1_3 W hs⟩
  · obtain ⟨a, s, hv, _⟩ := laid_sentinel (tp := 106) h5 gSyn gSynT Tryd.underlying64 rowE Tryd.underlying106 Tryd.underlying108 rfl rfl Tryd.underlying9 cellsE cellsS
    exact ⟨_, _, hv⟩
  · obtain ⟨a, s, hv, _⟩ := laid_sentinel (tp := 106) h4 gRng gRngT Tryd.underlying64 rowE Tryd.underlying106 Tryd.underlying108 rfl rfl Tryd.underlying9 cellsE cellsS
    exact ⟨_, _, hv⟩
end Go.Proofs.YtolebodpcefcfaaDoor.tu
