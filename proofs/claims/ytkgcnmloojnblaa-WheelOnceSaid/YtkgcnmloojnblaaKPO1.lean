/- P O: contracts, part 1. Condition: as each says. -/
import Derived.Test.YtkgcnmloojnblaaKPOAN2
set_option linter.unusedVariables false
set_option linter.unusedSimpArgs false
namespace Go.Proofs.Ytkgcnmloojnblaa.wh
open Go.RowKit Go.Shelf Go.Lib Go.Proofs.Ytkgcnmloojnblaa.nb Go.Proofs.Ytkgcnmloojnblaa.ck
set_option linter.unusedVariables false

structure OkSt (x : St) : Prop where
  t : I64 x.t
  k : x.k.size ≤ maxLen
set_option maxHeartbeats 4000000 in
set_option maxRecDepth 100000 in
theorem heavyC (A : Option Addr) (n c : Nat) (xs : List St) (w : World) (hr : RdP w A xs) (hn : xs.length = n) (hm : n ≤ maxLen) :
    Calls Try.prog 7 #[.slice A n c] w fun e w' => (∃ bv, e = .returned (.bool bv) ∧ (bv = false → n ≤ 300)) ∧ Up w w' := by
  have hn2 : n ≤ 9223372036854775807 := by unfold maxLen at hm; omega
  have HR := Lib.hid hr; have HN := Lib.hid hn
  clear hr hn hm
  go_enter Try.func7, Try.ntmps7
  go_wp2_with fail
  go_loopw [3, 4] (fun m i wr => ∃ (j : Nat) (z : Int), j ≤ n ∧ i = .int .i64 j ∧ m = .int .i64 z ∧ Up w wr) (fun _ i _ => n - (intOf i).toNat)
  case atStart => exact ⟨0, 0, Nat.zero_le _, rfl, rfl, Below.refl _ _⟩
  case round =>
    obtain ⟨j, z, hj, rfl, rfl, hu⟩ := hrel
    have last : ∀ (wx : World), Up w wx → True := fun _ _ => trivial
    by_cases hlt : j < n
    · by_cases h5 : j < 500
      · obtain ⟨g, off, d, s, o, t, e, hg, c0, c1, c2, c3, hx⟩ := (HR.out.up hu).at_ (k := j) (by rw [HN.out]; exact hlt)
        subst e
        clear c0 c3
        go_upto_region 5 with fail
        go_quiet (fail)
        go_wp2_with fail
        go_roundw
        case rel => exact ⟨j + 1, _, by omega, by go_num, rfl, up_drN _ hu⟩
        case measure => simp [RowKit.intOf]; omega
      · have g1 : decide (300 < (n : Int)) = true := decide_eq_true (by omega)
        go_wp2
        go_ret
        exact ⟨⟨true, rfl, fun h => by cases h⟩, hu⟩
    · obtain rfl : j = n := by omega
      by_cases h3 : j ≤ 300
      · have g1 : decide (300 < (j : Int)) = false := decide_eq_false (by omega)
        go_wp2
        go_ret
        exact ⟨⟨decide (16384 < z), rfl, fun _ => h3⟩, hu⟩
      · have g1 : decide (300 < (j : Int)) = true := decide_eq_true (by omega)
        go_wp2
        go_ret
        exact ⟨⟨true, rfl, fun h => by cases h⟩, hu⟩
end Go.Proofs.Ytkgcnmloojnblaa.wh

namespace Go.Proofs.Ytkgcnmloojnblaa.wh
open Go.RowKit Go.Shelf Go.Lib Go.Proofs.Ytkgcnmloojnblaa.nb Go.Proofs.Ytkgcnmloojnblaa.ck
set_option linter.unusedVariables false

theorem stopL_len (xs : List Tm) (key : ByteArray) : (stopL xs key).length ≤ xs.length := by
  unfold stopL
  split
  · rw [List.length_eraseIdx]; split <;> omega
  · exact Nat.le_refl _
theorem stopsL_len : ∀ (ks : List ByteArray) (xs : List Tm), (stopsL xs ks).length ≤ xs.length
  | [], xs => Nat.le_refl _
  | k :: r, xs => Nat.le_trans (stopsL_len r _) (stopL_len xs k)

end Go.Proofs.Ytkgcnmloojnblaa.wh

namespace Go.Proofs.Ytkgcnmloojnblaa.wh
open Go.RowKit Go.Shelf Go.Lib Go.Proofs.Ytkgcnmloojnblaa.nb Go.Proofs.Ytkgcnmloojnblaa.ck
set_option linter.unusedVariables false

section
variable {P Q LW : WP} {wS w w' : World} {Z F G : Nat → Prop} {b c : Nat} {n1 n2 n1' n2' m : Int} {x1 x2 x1' x2' : List Tm}
theorem TwoE.rebase (hP : Ob P) (hQ : Ob Q) (T : TwoE P Q wS Z w b c n1 x1 n2 x2 m) {w1 : World} (u : Up w w1) : ∃ Z1, TwoE P Q w1 Z1 w1 b c n1 x1 n2 x2 m ∧ ∀ k, Z1 k → k < w.heap.size ∧ (Z k ∨ wS.heap.size ≤ k) := by
  obtain ⟨F, G, T⟩ := T
  have T1 := T.same hP hQ u
  refine ⟨fun k => F k ∨ G k, ⟨F, G, T1.lw, T1.rw_, fun k h => .inl (.inl h), fun k h => .inl (.inr h), T.ap, Only.refl _ _, T.l1, T.l2, T.hm⟩, fun k hk => ?_⟩
  rcases hk with h | h
  · exact ⟨hP.lt T.lw k h, T.fF k h⟩
  · exact ⟨hQ.lt T.rw_ k h, T.fG k h⟩
/-! ### the calls -/
end
end Go.Proofs.Ytkgcnmloojnblaa.wh

namespace Go.Proofs.Ytkgcnmloojnblaa.wh
open Go.RowKit Go.Shelf Go.Lib Go.Proofs.Ytkgcnmloojnblaa.nb Go.Proofs.Ytkgcnmloojnblaa.ck
set_option linter.unusedVariables false

section
variable {LW : WP} {kv : ByteArray → Value} {ok : ByteArray → Prop} {fN fS fG : FuncId} {wS w w' : World} {Z F : Nat → Prop} {b : Nat} {n n' m : Int} {x x' : List Tm}
theorem OneE.rebase (W : Wh LW kv ok fN fS fG) (T : OneE LW wS Z w b n x m) {w1 : World} (u : Up w w1) : ∃ Z1, OneE LW w1 Z1 w1 b n x m ∧ ∀ k, Z1 k → k < w.heap.size ∧ (Z k ∨ wS.heap.size ≤ k) := by
  obtain ⟨F, T⟩ := T
  exact ⟨F, ⟨F, W.only T.lw (Only.up (F := fun _ => False) u) (fun _ _ => id), fun k h => .inl h, Only.refl _ _, T.l1, T.hm⟩, fun k hk => ⟨W.lt T.lw k hk, T.fF k hk⟩⟩
end

/-! ### the example -/
end Go.Proofs.Ytkgcnmloojnblaa.wh
