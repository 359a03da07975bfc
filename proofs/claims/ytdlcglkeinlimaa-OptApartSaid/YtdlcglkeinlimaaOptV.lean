/- The options of segments: mathematics: one option turned in its place. Condition: none. -/
import Derived.Test.YtdlcglkeinlimaaOptP
namespace Go.Proofs.Ytdlcglkeinlimaa.om
open Go.Proofs.Ytdlcglkeinlimaa.sm Go.Proofs.Ytdlcglkeinlimaa.nb
set_option linter.unusedVariables false

section
variable {b v e p : Nat} {s t : List UInt8}
theorem nb_same (h : t.drop p = s.drop p) (i : Nat) : nb t (p + i) = nb s (p + i) := by
  have := congrArg (fun l : List UInt8 => (l.getD i 0).toNat) h
  simpa [nb, List.getD] using this
theorem split_at (hA : At s p) (hd : t.drop p = s.drop p) : t = t.take (p + 2) ++ ((itm s p).2 ++ t.drop (p + nb s (p + 1))) := by
  have h2 := lenOk_two hA.2.1
  have h3 := hA.2.2
  have e1 : t.drop (p + 2) = s.drop (p + 2) := by rw [← List.drop_drop, hd, List.drop_drop]
  have e2 : t.drop (p + nb s (p + 1)) = (t.drop (p + 2)).drop (nb s (p + 1) - 2) := by rw [List.drop_drop]; congr 1; omega
  have e3 : (itm s p).2 = (t.drop (p + 2)).take (nb s (p + 1) - 2) := by rw [e1]; rfl
  rw [e2, e3, List.take_append_drop, List.take_append_drop]
def mid (b : Nat) (s t : List UInt8) (p i : Nat) : List UInt8 := t.take (p + 2) ++ (wt b (itm s p).2 i ++ t.drop (p + nb s (p + 1)))
theorem take2_len (hA : At s p) (hl : t.length = s.length) : (t.take (p + 2)).length = p + 2 := by
  have := hA.2.2
  have := lenOk_two hA.2.1
  rw [List.length_take]; omega
theorem mid_0 (hA : At s p) (hd : t.drop p = s.drop p) : mid b s t p 0 = t := (split_at hA hd).symm
theorem mid_next (hA : At s p) (hl : t.length = s.length) (i : Nat) (hi : 4 * i + 4 + 2 ≤ nb s (p + 1)) : addAt (mid b s t p i) (p + 2 + 4 * i) b = mid b s t p (i + 1) := by
  have hp := pay_len hA
  have e := addAt_left (t.take (p + 2)) (wt b (itm s p).2 i ++ t.drop (p + nb s (p + 1))) (4 * i) b
  rw [take2_len hA hl, addAt_right (wt b (itm s p).2 i) (t.drop (p + nb s (p + 1))) (4 * i) b (by rw [wt_len _ _ _ (by omega)]; omega)] at e
  exact e
theorem mid_len (hA : At s p) (hl : t.length = s.length) (i : Nat) (hi : 4 * i + 2 ≤ nb s (p + 1)) : (mid b s t p i).length = s.length := by
  have hp := pay_len hA
  have h3 := hA.2.2
  unfold mid
  rw [List.length_append, take2_len hA hl, List.length_append, wt_len _ _ _ (by omega), List.length_drop]; omega
theorem mid_nb (hA : At s p) (hl : t.length = s.length) (i j : Nat) (hj : j < 2) : nb (mid b s t p i) (p + j) = nb t (p + j) := by
  have h := take2_len hA hl
  have h2 := lenOk_two hA.2.1
  have h3 := hA.2.2
  unfold nb mid
  congr 1
  simp only [List.getD]
  rw [List.getElem?_append_left (by omega), List.getElem?_take_of_lt (by omega)]
theorem step_nb (hA : At s p) (hl : t.length = s.length) (j : Nat) (hj : j < 2) : nb (stepT b v e s t p) (p + j) = nb t (p + j) := by
  have h := take2_len hA hl
  have h2 := lenOk_two hA.2.1
  have h3 := hA.2.2
  unfold nb stepT
  congr 1
  simp only [List.getD]
  rw [List.getElem?_append_left (by omega), List.getElem?_take_of_lt (by omega)]
theorem step_5 (hA : At s p) (h5 : nb s p = 5) (q : Nat) (hq : nb s (p + 1) = 8 * q + 2) : mid b s t p (2 * q) = stepT b v e s t p := by
  unfold mid stepT
  rw [h5, tpay_5 b v e q _ (by have := pay_len hA; omega)]
theorem step_8 (hA : At s p) (hl : t.length = s.length) (hd : t.drop p = s.drop p) (h8 : nb s p = 8) : addAt (addAt t (p + 2) v) (p + 6) e = stepT b v e s t p := by
  have hp := pay_len hA
  have hN : nb s (p + 1) = 10 := by have := hA.2.1; rw [h8] at this; exact len8 this
  have h2 := take2_len hA hl
  have e0 := split_at hA hd
  have e1 := addAt_left (t.take (p + 2)) ((itm s p).2 ++ t.drop (p + nb s (p + 1))) 0 v
  rw [← e0, h2, Nat.add_zero, addAt_right _ _ _ _ (by omega)] at e1
  rw [e1]
  have e2 := addAt_left (t.take (p + 2)) (addAt (itm s p).2 0 v ++ t.drop (p + nb s (p + 1))) 4 e
  rw [h2, addAt_right (addAt (itm s p).2 0 v) (t.drop (p + nb s (p + 1))) 4 e (by rw [addAt_len _ _ _ (by omega)]; omega), show p + 2 + 4 = p + 6 by omega] at e2
  rw [e2]
  unfold stepT
  rw [h8, tpay_8 b v e _ (by omega)]
theorem step_x (hA : At s p) (hd : t.drop p = s.drop p) (h5 : nb s p ≠ 5) (h8 : nb s p ≠ 8) : stepT b v e s t p = t := by
  unfold stepT
  rw [tpay_x b v e _ _ h5 h8, ← split_at hA hd]
end
/-- what Turn has come to behind j places -/
theorem Good.before {s : List UInt8} {pl : List Nat} (h : Good s pl) (b v e : Nat) {j p : Nat} (hp : pl[j]? = some p) : (tw b v e s (pl.take j)).length = s.length ∧ (tw b v e s (pl.take j)).drop p = s.drop p ∧ tw b v e s (pl.take (j + 1)) = stepT b v e s (tw b v e s (pl.take j)) p := by
  obtain ⟨hj, he⟩ := List.getElem?_eq_some_iff.1 hp
  have hat : ∀ q ∈ pl.take j, At s q := fun q hq => h.all q (List.mem_of_mem_take hq)
  refine ⟨tw_len hat b v e, tw_drop hat b v e p fun q hq => ?_, ?_⟩
  · have hs := h.srt
    rw [(List.take_append_drop j pl).symm, List.pairwise_append] at hs
    exact hs.2.2 q hq p (by rw [List.drop_eq_getElem_cons hj, he]; simp)
  · rw [List.take_succ_eq_append_getElem hj, he, tw_snoc]
end Go.Proofs.Ytdlcglkeinlimaa.om
