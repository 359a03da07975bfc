/- P A: contracts, part 1. Condition: as each says. -/
import Derived.Test.YtkgcnmloojnblaaKPOAN2
set_option linter.unusedVariables false
set_option linter.unusedSimpArgs false
namespace Go.Proofs.Ytkgcnmloojnblaa.wh
open Go.RowKit Go.Shelf Go.Lib Go.Proofs.Ytkgcnmloojnblaa.nb Go.Proofs.Ytkgcnmloojnblaa.ck
set_option linter.unusedVariables false

theorem obW {LW : WP} {kv : ByteArray → Value} {ok : ByteArray → Prop} {fN fS fG : FuncId} (W : Wh LW kv ok fN fS fG) : Ob LW := ⟨W.lt, W.only⟩
section
variable {P Q LW : WP} {wS w w' : World} {Z F G : Nat → Prop} {b c : Nat} {n1 n2 n1' n2' m : Int} {x1 x2 x1' x2' : List Tm}
theorem Two.stepL (hP : Ob P) (hQ : Ob Q) (T : Two P Q wS Z w b c n1 x1 n2 x2 m F G) {F' : Nat → Prop} (h : P w' b n1' m x1' F') (o : Only F w w') (s : StepF F F' w) (hl : (x1'.length : Int) ≤ m) : Two P Q wS Z w' b c n1' x1' n2 x2 m F' G :=
  ⟨h, hQ.only T.rw_ o (fun k hg hf => T.ap k hf hg), fun k hk => (s k hk).elim (T.fF k) (fun e => .inr (Nat.le_trans T.on.size e)), T.fG,
    fun k hk hg => (s k hk).elim (fun f => T.ap k f hg) (fun e => by have := hQ.lt T.rw_ k hg; omega), T.on.trans o T.fF, hl, T.l2, T.hm⟩
theorem Two.stepR (hP : Ob P) (hQ : Ob Q) (T : Two P Q wS Z w b c n1 x1 n2 x2 m F G) {G' : Nat → Prop} (h : Q w' c n2' m x2' G') (o : Only G w w') (s : StepF G G' w) (hl : (x2'.length : Int) ≤ m) : Two P Q wS Z w' b c n1 x1 n2' x2' m F G' :=
  ⟨hP.only T.lw o T.ap, h, T.fF, fun k hk => (s k hk).elim (T.fG k) (fun e => .inr (Nat.le_trans T.on.size e)),
    fun k hf hk => (s k hk).elim (T.ap k hf) (fun e => by have := hP.lt T.lw k hf; omega), T.on.trans o T.fG, T.l1, hl, T.hm⟩
/-! ### the calls -/
end
end Go.Proofs.Ytkgcnmloojnblaa.wh
