/- The options of segments: mathematics: where options begin. Condition: none. -/
import Derived.Test.YtdlcglkeinlimaaOptW
namespace Go.Proofs.Ytdlcglkeinlimaa.om
open Go.Proofs.Ytdlcglkeinlimaa.sm Go.Proofs.Ytdlcglkeinlimaa.nb
set_option linter.unusedVariables false

/-- the byte at p -/
def nb (s : List UInt8) (p : Nat) : Nat := (s.getD p 0).toNat
theorem nb_bt (s : List UInt8) (p : Nat) : bt s p = (nb s p : Int) := rfl
theorem nb_le (s : List UInt8) (p : Nat) : nb s p ≤ 255 := by have := bt_bd s p; rw [nb_bt] at this; omega
/-- the option that begins at p -/
def itm (s : List UInt8) (p : Nat) : Item := (nb s p, (s.drop (p + 2)).take (nb s (p + 1) - 2))
def At (s : List UInt8) (p : Nat) : Prop := 2 ≤ nb s p ∧ lenOk (nb s p) (nb s (p + 1)) = true ∧ p + nb s (p + 1) ≤ s.length
/-- the option at q turned, in t -/
def stepT (b v e : Nat) (s t : List UInt8) (q : Nat) : List UInt8 := t.take (q + 2) ++ (tpay b v e (nb s q) (itm s q).2 ++ t.drop (q + nb s (q + 1)))
def tw (b v e : Nat) (s : List UInt8) (pl : List Nat) : List UInt8 := pl.foldl (stepT b v e s) s
theorem pay_len {s : List UInt8} {q : Nat} (h : At s q) : (itm s q).2.length + 2 = nb s (q + 1) := by
  obtain ⟨_, h2, h3⟩ := h
  have := lenOk_two h2
  show ((s.drop (q + 2)).take (nb s (q + 1) - 2)).length + 2 = _
  rw [List.length_take, List.length_drop]; omega
theorem tpay_at {s : List UInt8} {q : Nat} (h : At s q) (b v e : Nat) : (tpay b v e (nb s q) (itm s q).2).length + 2 = nb s (q + 1) := by
  rw [tpay_len h.2.1 (pay_len h).symm]; exact pay_len h
theorem step_keep {s t : List UInt8} {q : Nat} (h : At s q) (ht : t.length = s.length) (b v e : Nat) : (stepT b v e s t q).length = s.length ∧ ∀ p, q + nb s (q + 1) ≤ p → (stepT b v e s t q).drop p = t.drop p := by
  have hp := tpay_at h b v e
  have h3 := h.2.2
  refine ⟨?_, fun p hpq => ?_⟩
  · unfold stepT; simp only [List.length_append, List.length_take, List.length_drop]; omega
  · unfold stepT
    rw [← List.append_assoc, List.drop_append, List.drop_of_length_le (by simp only [List.length_append, List.length_take]; omega), List.nil_append, List.drop_drop]
    congr 1
    simp only [List.length_append, List.length_take]; omega
theorem fold_keep {s : List UInt8} (b v e : Nat) : ∀ (pl : List Nat) (t : List UInt8), t.length = s.length → (∀ q ∈ pl, At s q) → (pl.foldl (stepT b v e s) t).length = s.length ∧ ∀ p, (∀ q ∈ pl, q + nb s (q + 1) ≤ p) → (pl.foldl (stepT b v e s) t).drop p = t.drop p
  | [], t, ht, _ => ⟨ht, fun _ _ => rfl⟩
  | q :: r, t, ht, h => by
    have h1 := step_keep (h q (by simp)) ht b v e
    have ih := fold_keep b v e r (stepT b v e s t q) h1.1 (fun x hx => h x (by simp [hx]))
    refine ⟨ih.1, fun p hp => ?_⟩
    rw [List.foldl_cons, ih.2 p (fun x hx => hp x (by simp [hx])), h1.2 p (hp q (by simp))]
theorem tw_len {s : List UInt8} {pl : List Nat} (h : ∀ q ∈ pl, At s q) (b v e : Nat) : (tw b v e s pl).length = s.length := (fold_keep b v e pl s rfl h).1
theorem tw_drop {s : List UInt8} {pl : List Nat} (h : ∀ q ∈ pl, At s q) (b v e p : Nat) (hp : ∀ q ∈ pl, q + nb s (q + 1) ≤ p) : (tw b v e s pl).drop p = s.drop p := (fold_keep b v e pl s rfl h).2 p hp
theorem tw_snoc (b v e : Nat) (s : List UInt8) (pl : List Nat) (p : Nat) : tw b v e s (pl ++ [p]) = stepT b v e s (tw b v e s pl) p := by unfold tw; rw [List.foldl_append]; rfl
structure Good (s : List UInt8) (pl : List Nat) : Prop where
  par : parse s = some (pl.map (itm s))
  cl : (pl.map (itm s)).Pairwise Clash
  all : ∀ q ∈ pl, At s q
  srt : pl.Pairwise fun a b => a + nb s (a + 1) ≤ b
  twg : ∀ b v e, turnL b v e s = tw b v e s pl
structure Run (s : List UInt8) (pl : List Nat) (p : Nat) : Prop where
  par : parse s = (parse (s.drop p)).map fun r => pl.map (itm s) ++ r
  cl : (pl.map (itm s)).Pairwise Clash
  all : ∀ q ∈ pl, At s q ∧ q + nb s (q + 1) ≤ p
  srt : pl.Pairwise fun a b => a + nb s (a + 1) ≤ b
  twr : ∀ b v e, turnL b v e s = (tw b v e s pl).take p ++ turnL b v e (s.drop p)
theorem drop_nb {s : List UInt8} {p : Nat} (h : p < s.length) : s.drop p = (s.getD p 0) :: s.drop (p + 1) := by
  rw [List.drop_eq_getElem_cons h]
  simp [List.getD, h]
section
variable {s : List UInt8} {pl : List Nat} {p : Nat}
theorem Run.start (s : List UInt8) : Run s [] 0 := ⟨by rw [List.drop_zero]; cases parse s <;> rfl, List.Pairwise.nil, fun _ h => (by cases h), List.Pairwise.nil, fun b v e => by rw [List.take_zero, List.drop_zero]; rfl⟩
theorem Run.pad (h : Run s pl p) (hp : p < s.length) (h1 : nb s p = 1) : Run s pl (p + 1) :=
  ⟨by rw [h.par, drop_nb hp, parse_1 _ _ h1], h.cl, fun q hq => ⟨(h.all q hq).1, by have := (h.all q hq).2; omega⟩, h.srt, fun b v e => by
    have hd := tw_drop (fun q hq => (h.all q hq).1) b v e p (fun q hq => (h.all q hq).2)
    rw [h.twr b v e, List.take_add, hd, drop_nb hp, turn_1 _ _ h1, List.append_assoc]; rfl⟩
theorem Run.stop (h : Run s pl p) (hp : p < s.length) (h1 : nb s p = 0) : Good s pl :=
  ⟨by rw [h.par, drop_nb hp, parse_0 _ _ h1]; simp, h.cl, fun q hq => (h.all q hq).1, h.srt, fun b v e => by
    have hd := tw_drop (fun q hq => (h.all q hq).1) b v e p (fun q hq => (h.all q hq).2)
    rw [h.twr b v e, drop_nb hp, turn_0 _ _ h1, ← drop_nb hp, ← hd, List.take_append_drop]⟩
theorem Run.fin (h : Run s pl p) (hp : s.length ≤ p) : Good s pl :=
  ⟨by rw [h.par, List.drop_of_length_le hp, parse_nil]; simp, h.cl, fun q hq => (h.all q hq).1, h.srt, fun b v e => by
    have hl := tw_len (fun q hq => (h.all q hq).1) b v e
    rw [h.twr b v e, List.drop_of_length_le hp, turn_nil, List.append_nil, List.take_of_length_le (by omega)]⟩
theorem parse_at (h : At s p) : parse (s.drop p) = (parse (s.drop (p + nb s (p + 1)))).map fun r => itm s p :: r := by
  obtain ⟨h1, h2, h3⟩ := h
  have h22 := lenOk_two h2
  rw [drop_nb (by omega : p < s.length), drop_nb (by omega : p + 1 < s.length)]
  rw [parse_yes _ _ _ (show nb s p ≠ 0 by omega) (show nb s p ≠ 1 by omega) h2 (by rw [List.length_drop]; show nb s (p + 1) ≤ _; omega)]
  rw [List.drop_drop]
  show (parse (s.drop (p + 1 + 1 + (nb s (p + 1) - 2)))).map _ = _
  rw [show p + 1 + 1 + (nb s (p + 1) - 2) = p + nb s (p + 1) by omega]
  rfl
theorem Run.next (h : Run s pl p) (ha : At s p) (hc : ∀ q ∈ pl, known (nb s p) = true → nb s q ≠ nb s p) : Run s (pl ++ [p]) (p + nb s (p + 1)) := by
  refine ⟨?_, ?_, ?_, ?_, ?_⟩
  · rw [h.par, parse_at ha]
    cases parse (s.drop (p + nb s (p + 1))) with
    | none => rfl
    | some r => simp
  · rw [List.map_append, List.pairwise_append]
    refine ⟨h.cl, by simp, ?_⟩
    intro x hx y hy
    obtain ⟨q, hq, rfl⟩ := List.mem_map.1 hx
    simp at hy; subst hy
    intro hk he
    exact hc q hq (by rw [show nb s p = nb s q from he.symm]; exact hk) he
  · intro q hq
    rcases List.mem_append.1 hq with hq | hq
    · exact ⟨(h.all q hq).1, by have := (h.all q hq).2; omega⟩
    · simp at hq; subst hq; exact ⟨ha, Nat.le_refl _⟩
  · rw [List.pairwise_append]
    refine ⟨h.srt, by simp, ?_⟩
    intro a hq b hb
    simp at hb; subst hb
    exact (h.all a hq).2
  · intro b v e
    have hd := tw_drop (fun q hq => (h.all q hq).1) b v e p (fun q hq => (h.all q hq).2)
    have hl := tw_len (fun q hq => (h.all q hq).1) b v e
    have hp2 := pay_len ha
    have htp := tpay_at ha b v e
    have h3 := ha.2.2
    have h22 := lenOk_two ha.2.1
    have hs : s.drop p = s.getD p 0 :: s.getD (p + 1) 0 :: ((itm s p).2 ++ s.drop (p + nb s (p + 1))) := by
      rw [drop_nb (by omega : p < s.length), drop_nb (by omega : p + 1 < s.length)]
      show _ = _ :: _ :: ((s.drop (p + 2)).take (nb s (p + 1) - 2) ++ s.drop (p + nb s (p + 1)))
      have hdd : s.drop (p + nb s (p + 1)) = (s.drop (p + 2)).drop (nb s (p + 1) - 2) := by rw [List.drop_drop]; congr 1; omega
      rw [hdd, List.take_append_drop]
    have ht : turnL b v e (s.drop p) = s.getD p 0 :: s.getD (p + 1) 0 :: (tpay b v e (nb s p) (itm s p).2 ++ turnL b v e (s.drop (p + nb s (p + 1)))) := by
      rw [hs]; exact turn_item _ _ _ _ ha.1 hp2.symm
    rw [h.twr b v e, ht, tw_snoc]
    unfold stepT
    have e1 : (tw b v e s pl).take (p + 2) = (tw b v e s pl).take p ++ [s.getD p 0, s.getD (p + 1) 0] := by
      rw [List.take_add, hd, hs]; rfl
    rw [e1]
    have e2 : ((tw b v e s pl).take p ++ [s.getD p 0, s.getD (p + 1) 0] ++ tpay b v e (nb s p) (itm s p).2).length = p + nb s (p + 1) := by
      simp only [List.length_append, List.length_take, List.length_cons, List.length_nil]; omega
    rw [← List.append_assoc (_ ++ _) (tpay b v e (nb s p) (itm s p).2), List.take_left' e2]
    simp only [List.append_assoc, List.cons_append, List.nil_append]
theorem Run.bad1 (h : Run s pl p) (hp : p < s.length) (h2 : 2 ≤ nb s p) (hl : s.length ≤ p + 1) : dec s = none := by
  apply dec_none
  rw [h.par, drop_nb hp, List.drop_of_length_le hl, parse_one _ (show nb s p ≠ 0 by omega) (show nb s p ≠ 1 by omega)]; rfl
theorem Run.bad2 (h : Run s pl p) (hp : p + 1 < s.length) (h2 : 2 ≤ nb s p) (hl : ¬ (lenOk (nb s p) (nb s (p + 1)) = true ∧ p + nb s (p + 1) ≤ s.length)) : dec s = none := by
  apply dec_none
  rw [h.par, drop_nb (by omega : p < s.length), drop_nb hp, parse_no _ _ _ (show nb s p ≠ 0 by omega) (show nb s p ≠ 1 by omega) ?_]
  · rfl
  · rintro ⟨h3, h4⟩
    refine hl ⟨h3, ?_⟩
    rw [List.length_drop] at h4
    have : nb s (p + 1) ≤ s.length - (p + 1 + 1) + 2 := h4
    omega
theorem Run.bad3 (h : Run s pl p) (ha : At s p) {q : Nat} (hq : q ∈ pl) (hk : known (nb s p) = true) (he : nb s q = nb s p) : dec s = none := by
  have e := h.par
  rw [parse_at ha] at e
  cases hr : parse (s.drop (p + nb s (p + 1))) with
  | none => rw [hr] at e; exact dec_none e
  | some r =>
    rw [hr] at e
    simp only [Option.map_some] at e
    refine dec_bad e ?_
    rintro ⟨hf, _⟩
    rw [List.pairwise_append] at hf
    exact hf.2.2 (itm s q) (List.mem_map.2 ⟨q, hq, rfl⟩) (itm s p) (by simp) (show known (nb s q) = true by rw [he]; exact hk) he
/-- no MSS 0 -/
def NoZ (x : Item) : Prop := ¬ (x.1 = 2 ∧ wd x.2 0 = 0)
def nzb (K : Nat) (X : List UInt8) : Bool := if K = 2 then !decide (wd X 0 = 0) else true
theorem nzb_x {K : Nat} {X : List UInt8} (h : K ≠ 2) : nzb K X = true := if_neg h
theorem nzb_t {x : Item} (h : nzb x.1 x.2 = true) : NoZ x := by
  rintro ⟨h1, h2⟩
  unfold nzb at h
  rw [if_pos h1] at h
  simp at h
  exact h h2
theorem nzb_f {x : Item} (h : nzb x.1 x.2 = false) : ¬ NoZ x := by
  unfold nzb at h
  intro hn
  split at h
  · rename_i hk; simp at h; exact hn ⟨hk, h⟩
  · cases h
theorem Good.dec (h : Good s pl) (hz : ∀ q ∈ pl, NoZ (itm s q)) : dec s = some ((pl.map (itm s)).foldl put none_) := by
  refine dec_some h.par ⟨h.cl, ?_⟩
  intro x hx
  obtain ⟨q, hq, rfl⟩ := List.mem_map.1 hx
  exact hz q hq
theorem Good.bad (h : Good s pl) {q : Nat} (hq : q ∈ pl) (hz : ¬ NoZ (itm s q)) : om.dec s = none :=
  dec_bad h.par fun hf => hz (hf.2 (itm s q) (List.mem_map.2 ⟨q, hq, rfl⟩))
end
end Go.Proofs.Ytdlcglkeinlimaa.om
