/- P: contracts, part 1. Condition: as each says. -/
import Derived.Test.YtkgcnmloojnblaaKPOAN1
set_option linter.unusedVariables false
set_option linter.unusedSimpArgs false
namespace Go.Proofs.Ytkgcnmloojnblaa.nb
open Go.RowKit Go.Shelf Go.Proofs.Ytkgcnmloojnblaa.sm
set_option linter.unusedVariables false

/-! ### bytes that a call has gathered -/
section
variable {ops : Array Oper} {rest : List Oper} {o : Oper} {a : Act} {Q : Exit → Act → World → Prop} {w : World} {B : Nat} {v : Value}
end

/-! ### bits -/
/-! ### texts out of bytes -/
/-! ### values that lie in a block of their own -/
theorem Box.drewN {W : World} {b : Nat} {vs : List Value} (h : Box W b vs) (n : Nat) : Box (W.drewN n) b vs := h.up (below_drewN (Below.refl _ _) n)
end Go.Proofs.Ytkgcnmloojnblaa.nb

namespace Go.Proofs.Ytkgcnmloojnblaa.ck
open Go.RowKit Go.Shelf Go.Lib Go.Proofs.Ytkgcnmloojnblaa.nb
set_option linter.unusedVariables false

theorem refMay (t : Int) (w : World) : Calls Try.prog 32 #[.int .i64 t] w fun e w' => e = .returned (.bool (mayB t)) ∧ w = w' := by
  by_cases c0 : 0 ≤ t
  · by_cases c1 : t ≤ 17592186044416
    · have E := Lib.hid (mayB_t ⟨c0, c1⟩)
      go_enter Try.func32, Try.ntmps32
      go_wp2
      go_ret
      exact ⟨ret_bool E.out.symm, rfl⟩
    · have E := Lib.hid (mayB_f (t := t) (by omega))
      go_enter Try.func32, Try.ntmps32
      go_wp2
      go_ret
      exact ⟨ret_bool E.out.symm, rfl⟩
  · have E := Lib.hid (mayB_f (t := t) (by omega))
    go_enter Try.func32, Try.ntmps32
    go_wp2
    go_ret
    exact ⟨ret_bool E.out.symm, rfl⟩
end Go.Proofs.Ytkgcnmloojnblaa.ck
