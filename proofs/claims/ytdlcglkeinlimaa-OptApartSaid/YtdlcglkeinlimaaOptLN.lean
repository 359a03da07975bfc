/- The options of segments: mathematics: bytes turned option by option, number by number. Condition: none. -/
import Derived.Test.YtdlcglkeinlimaaOptLM
namespace Go.Proofs.Ytdlcglkeinlimaa.om
open Go.Proofs.Ytdlcglkeinlimaa.sm Go.Proofs.Ytdlcglkeinlimaa.nb
set_option linter.unusedVariables false

/-- by added to n numbers from k on -/
def addN (b : Nat) (t : List UInt8) (k : Nat) : Nat → List UInt8
  | 0 => t
  | n + 1 => addAt (addN b t k n) (k + 4 * n) b
/-- the option at p turned, number by number -/
def opT (b v e : Nat) (s t : List UInt8) (p : Nat) : List UInt8 :=
  if nb s p = 5 then addN b t (p + 2) ((osz s p - 2) / 4) else if nb s p = 8 then addAt (addAt t (p + 2) v) (p + 6) e else t
def tT (b v e : Nat) (s : List UInt8) (pl : List Nat) : List UInt8 := pl.foldl (opT b v e s) s
theorem tT_snoc (b v e : Nat) (s : List UInt8) (pl : List Nat) (p : Nat) : tT b v e s (pl ++ [p]) = opT b v e s (tT b v e s pl) p := by unfold tT; rw [List.foldl_append]; rfl
theorem addN_len (b : Nat) (t : List UInt8) (k : Nat) : ∀ n, k + 4 * n ≤ t.length → (addN b t k n).length = t.length
  | 0, _ => rfl
  | n + 1, h => by
    have ih := addN_len b t k n (by omega)
    show (addAt _ _ _).length = _
    rw [addAt_len _ _ _ (by rw [ih]; omega), ih]
/-- how many numbers blocks have -/
theorem fit_5 {s : List UInt8} {p : Nat} (hf : fitb s p = true) (h2 : 2 ≤ nb s p) (h5 : nb s p = 5) : ∃ m, osz s p = 4 * m + 2 ∧ p + 2 + 4 * m ≤ s.length ∧ m % 2 = 0 ∧ m ≤ 8 := by
  obtain ⟨ha, he, _, _⟩ := fit_at hf h2
  have hn := ha.2.1
  rw [h5] at hn
  have := len5 hn
  have := ha.2.2
  exact ⟨(osz s p - 2) / 4, by omega, by omega, by omega, by omega⟩
theorem fit_8 {s : List UInt8} {p : Nat} (hf : fitb s p = true) (h2 : 2 ≤ nb s p) (h8 : nb s p = 8) : p + 10 ≤ s.length := by
  obtain ⟨ha, he, _, _⟩ := fit_at hf h2
  have hn := ha.2.1
  rw [h8] at hn
  have := len8 hn
  have := ha.2.2
  omega
theorem opT_len {s t : List UInt8} {p : Nat} (hf : fitb s p = true) (h2 : 2 ≤ nb s p) (ht : t.length = s.length) (b v e : Nat) : (opT b v e s t p).length = s.length := by
  unfold opT
  split
  · rename_i h5
    obtain ⟨m, h1, h3, _⟩ := fit_5 hf h2 h5
    rw [addN_len _ _ _ _ (by omega), ht]
  · split
    · rename_i h8
      have := fit_8 hf h2 h8
      rw [addAt_len _ _ _ (by rw [addAt_len _ _ _ (by omega)]; omega), addAt_len _ _ _ (by omega), ht]
    · exact ht
theorem mid_addN {b : Nat} {s t : List UInt8} {p : Nat} (hA : At s p) (hl : t.length = s.length) (hd : t.drop p = s.drop p) : ∀ i, 4 * i + 2 ≤ nb s (p + 1) → mid b s t p i = addN b t (p + 2) i
  | 0, _ => mid_0 hA hd
  | i + 1, h => by
    have ih := mid_addN (b := b) hA hl hd i (by omega)
    rw [← mid_next hA hl i (by omega), ih]
    rfl
theorem opT_step {s t : List UInt8} {p : Nat} (hf : fitb s p = true) (h2 : 2 ≤ nb s p) (hl : t.length = s.length) (hd : t.drop p = s.drop p) (b v e : Nat) : opT b v e s t p = stepT b v e s t p := by
  obtain ⟨ha, he, _, _⟩ := fit_at hf h2
  unfold opT
  split
  · rename_i h5
    obtain ⟨m, h1, h3, h4, _⟩ := fit_5 hf h2 h5
    have e1 := mid_addN (b := b) ha hl hd m (by omega)
    rw [show (osz s p - 2) / 4 = m by omega, ← e1, show m = 2 * (m / 2) by omega]
    exact step_5 ha h5 (m / 2) (by omega)
  · rename_i h5
    split
    · rename_i h8
      exact step_8 ha hl hd h8
    · rename_i h8
      exact (step_x ha hd h5 h8).symm
theorem tT_good {s : List UInt8} {pl : List Nat} (h : Good s pl) (hf : ∀ q ∈ pl, 2 ≤ nb s q ∧ fitb s q = true) (b v e : Nat) : tT b v e s pl = turnL b v e s := by
  rw [h.twg b v e]
  have key : ∀ j, j ≤ pl.length → tT b v e s (pl.take j) = tw b v e s (pl.take j) := by
    intro j
    induction j with
    | zero => intro _; rfl
    | succ j ih =>
      intro hj
      have hp : pl[j]? = some (pl[j]'(by omega)) := List.getElem?_eq_getElem (by omega)
      obtain ⟨h1, h2, h3⟩ := h.before b v e hp
      have hm := hf (pl[j]'(by omega)) (List.getElem_mem _)
      rw [h3, List.take_succ_eq_append_getElem (by omega), tT_snoc, ih (by omega)]
      exact opT_step hm.2 hm.1 h1 h2 b v e
  have := key pl.length (Nat.le_refl _)
  rwa [List.take_length] at this
/-- bytes that are options': each one that is told fits, and none is told twice -/
theorem ok_of {s : List UInt8} (hd : om.dec s ≠ none) {pl : List Nat} {p : Nat} (h : OSteps s pl p) : OkL s pl := by
  induction h with
  | nil => exact OkL.nil_ s
  | pad pl p _ _ _ ih => exact ih
  | next pl p h1 h2 h3 h4 ih =>
    have hr := run_of h1 ih
    have hf : fitb s p = true := by
      by_cases hf : fitb s p = true
      · exact hf
      · exact absurd (hr.badfit h2 h3 (by simpa using hf)) hd
    obtain ⟨ha, _, _, _⟩ := fit_at hf h3
    refine ih.snoc h3 hf fun q hq hk he => ?_
    exact hd (hr.bad3 ha hq hk he)
theorem fit_of_dec {s : List UInt8} (hd : om.dec s ≠ none) {pl : List Nat} {p : Nat} (h : OSteps s pl p) (hp : p < s.length) (h2 : 2 ≤ nb s p) : fitb s p = true := by
  have hr := run_of h (ok_of hd h)
  by_cases hf : fitb s p = true
  · exact hf
  · exact absurd (hr.badfit hp h2 (by simpa using hf)) hd
theorem told_turn {s : List UInt8} (hd : om.dec s ≠ none) {pl : List Nat} (h : OTold s pl) (b v e : Nat) : tT b v e s pl = turnL b v e s := by
  have ho : OkL s pl := by
    rcases h with ⟨p, h, _⟩ | ⟨q, p, rfl, h, hp, h2, h3⟩
    · exact ok_of hd h
    · exfalso
      have hf := fit_of_dec hd h hp h2
      unfold fitb at hf
      rw [Bool.and_eq_true] at hf
      have := lenOk_two hf.1
      omega
  exact tT_good (good_of h ho) ho.fit b v e
end Go.Proofs.Ytdlcglkeinlimaa.om
