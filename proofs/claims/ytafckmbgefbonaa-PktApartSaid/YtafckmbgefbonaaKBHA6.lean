/- B H A: contracts, part 6. Condition: as each says. -/
import Derived.Test.YtafckmbgefbonaaKBHA5
import Derived.Sort.CutIn
set_option linter.unusedVariables false
set_option linter.unusedSimpArgs false
namespace Go.Proofs.Ytafckmbgefbonaa.op
open Go.RowKit Go.Shelf Go.Lib Go.Proofs.Ytafckmbgefbonaa.sm Go.Proofs.Ytafckmbgefbonaa.nb Go.Proofs.Ytafckmbgefbonaa.om
set_option linter.unusedVariables false

theorem flat_take (b : List (Nat × Nat)) (j x1 x2 : Nat) (h : b[j]? = some (x1, x2)) : flat (b.take (j + 1)) = flat (b.take j) ++ (B32 x1 ++ B32 x2) := by
  obtain ⟨hj, he⟩ := List.getElem?_eq_some_iff.1 h
  rw [List.take_succ_eq_append_getElem hj, flat_app, he]
  show _ ++ (B32 x1 ++ (B32 x2 ++ [])) = _
  rw [List.append_nil]
def mayb (o : Opz) : Bool := decide (May o)
theorem mayb_t {o : Opz} (h : May o) : mayb o = true := decide_eq_true h
theorem mayb_f {o : Opz} (h : ¬ May o) : mayb o = false := decide_eq_false h
def EVo (o : Opz) : Value := if May o then .tuple #[.string (tx (raw o)), .int .i64 0] else .tuple #[.string ByteArray.empty, .int .i64 2]
theorem EVo_ok {o : Opz} (h : May o) : EVo o = .tuple #[.string (tx (raw o)), .int .i64 0] := if_pos h
theorem EVo_no {o : Opz} (h : ¬ May o) : EVo o = .tuple #[.string ByteArray.empty, .int .i64 2] := if_neg h
end Go.Proofs.Ytafckmbgefbonaa.op
