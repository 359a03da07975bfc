/- The options of segments: mathematics: options told one by one, as an iterator tells them. Condition: none. -/
import Derived.Test.YtdlcglkeinlimaaOptV
import Derived.Test.YtdlcglkeinlimaaOptU
namespace Go.Proofs.Ytdlcglkeinlimaa.om
open Go.Proofs.Ytdlcglkeinlimaa.sm Go.Proofs.Ytdlcglkeinlimaa.nb
set_option linter.unusedVariables false

/-- how many bytes the option at p has: 0, if its length is not there, or is more than is left -/
def osz (s : List UInt8) (p : Nat) : Nat := if p + 2 ≤ s.length ∧ nb s (p + 1) + p ≤ s.length then nb s (p + 1) else 0
/-- what it says -/
def osay (s : List UInt8) (p : Nat) : List UInt8 := (s.drop (p + 2)).take (osz s p - 2)
theorem osz_le (s : List UInt8) (p : Nat) : osz s p ≤ 255 := by
  unfold osz; split
  · exact nb_le s _
  · exact Nat.zero_le _
theorem osz_in {s : List UInt8} {p : Nat} (h : 0 < osz s p) : p + 2 ≤ s.length ∧ osz s p + p ≤ s.length ∧ osz s p = nb s (p + 1) := by
  unfold osz at h ⊢; split at h
  · rename_i h1; rw [if_pos h1]; exact ⟨h1.1, h1.2, rfl⟩
  · omega
theorem osay_len (s : List UInt8) (p : Nat) : (osay s p).length = osz s p - 2 := by
  unfold osay
  rw [List.length_take, List.length_drop]
  by_cases h : 0 < osz s p
  · have := osz_in h; omega
  · omega
/-- has it as many bytes as its kind must have; of an MSS: is it one -/
def fitb (s : List UInt8) (p : Nat) : Bool := lenOk (nb s p) (osz s p) && nzb (nb s p) (osay s p)
theorem fit_at {s : List UInt8} {p : Nat} (h : fitb s p = true) (h2 : 2 ≤ nb s p) : At s p ∧ osz s p = nb s (p + 1) ∧ osay s p = (itm s p).2 ∧ NoZ (itm s p) := by
  unfold fitb at h
  rw [Bool.and_eq_true] at h
  have h22 := lenOk_two h.1
  obtain ⟨h3, h4, h5⟩ := osz_in (s := s) (p := p) (by omega)
  have e : osay s p = (itm s p).2 := by unfold osay itm; rw [h5]
  refine ⟨⟨h2, by rw [← h5]; exact h.1, by omega⟩, h5, e, ?_⟩
  exact nzb_t (x := itm s p) (by rw [← e]; exact h.2)
theorem fit_of {s : List UInt8} {p : Nat} (h : At s p) (hz : NoZ (itm s p)) : fitb s p = true := by
  obtain ⟨h1, h2, h3⟩ := h
  have h22 := lenOk_two h2
  have e : osz s p = nb s (p + 1) := by unfold osz; rw [if_pos ⟨by omega, by omega⟩]
  have e2 : osay s p = (itm s p).2 := by unfold osay itm; rw [e]
  unfold fitb
  rw [e, h2, e2]
  unfold nzb
  split
  · rename_i hk
    have : ¬ wd (itm s p).2 0 = 0 := fun hw => hz ⟨hk, hw⟩
    simp [this]
  · rfl
section
variable {s : List UInt8} {pl : List Nat} {p : Nat}
theorem Run.bad4 (h : Run s pl p) (ha : At s p) (hz : ¬ NoZ (itm s p)) : om.dec s = none := by
  have e := h.par
  rw [parse_at ha] at e
  cases hr : parse (s.drop (p + nb s (p + 1))) with
  | none => rw [hr] at e; exact dec_none e
  | some r =>
    rw [hr] at e
    simp only [Option.map_some] at e
    refine dec_bad e ?_
    rintro ⟨_, hf⟩
    exact hz (hf (itm s p) (by simp))
theorem Run.badfit (h : Run s pl p) (hp : p < s.length) (h2 : 2 ≤ nb s p) (hf : fitb s p = false) : om.dec s = none := by
  by_cases hl : s.length ≤ p + 1
  · exact h.bad1 hp h2 hl
  by_cases ha : lenOk (nb s p) (nb s (p + 1)) = true ∧ p + nb s (p + 1) ≤ s.length
  · have hat : At s p := ⟨h2, ha.1, ha.2⟩
    refine h.bad4 hat fun hz => ?_
    rw [fit_of hat hz] at hf; cases hf
  · exact h.bad2 (by omega) h2 ha
end

/-- how far one is, when these have been told -/
inductive OSteps (s : List UInt8) : List Nat → Nat → Prop
  | nil : OSteps s [] 0
  | pad (pl : List Nat) (p : Nat) : OSteps s pl p → p < s.length → nb s p = 1 → OSteps s pl (p + 1)
  | next (pl : List Nat) (p : Nat) : OSteps s pl p → p < s.length → 2 ≤ nb s p → 2 ≤ osz s p → OSteps s (pl ++ [p]) (p + osz s p)
theorem OSteps.le {s : List UInt8} {pl : List Nat} {p : Nat} (h : OSteps s pl p) : pl.length ≤ p ∧ p ≤ s.length := by
  induction h with
  | nil => exact ⟨Nat.le_refl _, Nat.zero_le _⟩
  | pad pl p _ h1 _ ih => exact ⟨by omega, by omega⟩
  | next pl p _ h1 _ h3 ih =>
    have := osz_in (s := s) (p := p) (by omega)
    rw [List.length_append]
    exact ⟨by simp; omega, by omega⟩
/-- all have been told: the end, or one that has no length -/
def OTold (s : List UInt8) (pl : List Nat) : Prop :=
  (∃ p, OSteps s pl p ∧ (s.length ≤ p ∨ p < s.length ∧ nb s p = 0)) ∨ ∃ q p, pl = q ++ [p] ∧ OSteps s q p ∧ p < s.length ∧ 2 ≤ nb s p ∧ osz s p < 2
/-- some have been told -/
def OPart (s : List UInt8) (pl : List Nat) : Prop := ∃ q p, pl = q ++ [p] ∧ OSteps s q p ∧ p < s.length ∧ 2 ≤ nb s p
/-- each fits, and none is there twice -/
structure OkL (s : List UInt8) (pl : List Nat) : Prop where
  fit : ∀ q ∈ pl, 2 ≤ nb s q ∧ fitb s q = true
  cl : (pl.map (itm s)).Pairwise Clash
theorem OkL.nil_ (s : List UInt8) : OkL s [] := ⟨fun _ h => (by cases h), List.Pairwise.nil⟩
theorem OkL.init {s : List UInt8} {pl : List Nat} {p : Nat} (h : OkL s (pl ++ [p])) : OkL s pl :=
  ⟨fun q hq => h.fit q (by simp [hq]), by have := h.cl; rw [List.map_append, List.pairwise_append] at this; exact this.1⟩
theorem OkL.last {s : List UInt8} {pl : List Nat} {p : Nat} (h : OkL s (pl ++ [p])) : ∀ q ∈ pl, known (nb s p) = true → nb s q ≠ nb s p := by
  intro q hq hk he
  have := h.cl
  rw [List.map_append, List.pairwise_append] at this
  exact this.2.2 (itm s q) (List.mem_map.2 ⟨q, hq, rfl⟩) (itm s p) (by simp) (show known (nb s q) = true by rw [he]; exact hk) he
theorem OkL.snoc {s : List UInt8} {pl : List Nat} {p : Nat} (h : OkL s pl) (h2 : 2 ≤ nb s p) (hf : fitb s p = true) (hc : ∀ q ∈ pl, known (nb s p) = true → nb s q ≠ nb s p) : OkL s (pl ++ [p]) := by
  refine ⟨?_, ?_⟩
  · intro q hq
    rcases List.mem_append.1 hq with hq | hq
    · exact h.fit q hq
    · simp at hq; subst hq; exact ⟨h2, hf⟩
  · rw [List.map_append, List.pairwise_append]
    refine ⟨h.cl, by simp, ?_⟩
    intro x hx y hy
    obtain ⟨q, hq, rfl⟩ := List.mem_map.1 hx
    simp at hy; subst hy
    intro hk he
    exact hc q hq (by rw [show nb s p = nb s q from he.symm]; exact hk) he
theorem run_of {s : List UInt8} {pl : List Nat} {p : Nat} (h : OSteps s pl p) (ho : OkL s pl) : Run s pl p := by
  induction h with
  | nil => exact Run.start s
  | pad pl p _ h1 h2 ih => exact (ih ho).pad h1 h2
  | next pl p _ h1 h2 h3 ih =>
    obtain ⟨_, hf⟩ := ho.fit p (by simp)
    obtain ⟨ha, he, _, _⟩ := fit_at hf h2
    rw [he]
    exact (ih ho.init).next ha ho.last
theorem good_of {s : List UInt8} {pl : List Nat} (h : OTold s pl) (ho : OkL s pl) : Good s pl := by
  rcases h with ⟨p, h, hp⟩ | ⟨q, p, rfl, h, hp, h2, h3⟩
  · have hr := run_of h ho
    rcases hp with hp | ⟨hp, h0⟩
    · exact hr.fin hp
    · exact hr.stop hp h0
  · exfalso
    obtain ⟨_, hf⟩ := ho.fit p (by simp)
    unfold fitb at hf
    rw [Bool.and_eq_true] at hf
    have := lenOk_two hf.1
    omega
/-- the options that have been read -/
def fo (s : List UInt8) (pl : List Nat) : Opz := (pl.map (itm s)).foldl put none_
theorem fo_snoc (s : List UInt8) (pl : List Nat) (p : Nat) : fo s (pl ++ [p]) = put (fo s pl) (itm s p) := by unfold fo; rw [List.map_append, List.foldl_append]; rfl
theorem dec_told {s : List UInt8} {pl : List Nat} (h : OTold s pl) (ho : OkL s pl) : om.dec s = some (fo s pl) :=
  (good_of h ho).dec fun q hq => (fit_at (ho.fit q hq).2 (ho.fit q hq).1).2.2.2
/-- is an option of that kind there -/
def amg (o : Opz) (k : Nat) : Bool :=
  if k = 2 then decide (o.mss ≠ 0) else if k = 3 then decide (o.sc ≠ -1) else if k = 4 then o.sk else if k = 5 then decide (o.bl ≠ []) else if k = 8 then o.tm else false
theorem blocks_ne {p : List UInt8} (h : 8 ≤ p.length) : blocks p ≠ [] := by
  intro e
  have := blocks_len p
  rw [e] at this
  simp at this; omega
theorem amg_put {s : List UInt8} {p : Nat} (hf : fitb s p = true) (h2 : 2 ≤ nb s p) (o : Opz) (k : Nat) : amg (put o (itm s p)) k = (amg o k || (known k && nb s p == k)) := by
  obtain ⟨ha, he, hsay, hz⟩ := fit_at hf h2
  have hl := pay_len ha
  have hn := ha.2.1
  obtain ⟨K, hK⟩ : ∃ K, nb s p = K := ⟨_, rfl⟩
  have e1 : (itm s p).1 = K := hK
  unfold put
  rw [e1]
  rw [hK] at hn h2 ⊢
  by_cases k2 : K = 2
  · subst k2
    have hw : (wd (itm s p).2 0).toNat ≠ 0 := by
      have h1 := wd_bd (itm s p).2 0
      have : ¬ wd (itm s p).2 0 = 0 := fun hw => hz ⟨hK, hw⟩
      omega
    by_cases c : k = 2
    · subst c; simp [amg, hw, known]
    · have : ¬ (2 = k) := fun h => c h.symm
      simp [amg, c, this]
  by_cases k3 : K = 3
  · subst k3
    have hb := bt_bd (itm s p).2 0
    have hw : ¬ (min (bt (itm s p).2 0) 14 = -1) := by omega
    by_cases c : k = 3
    · subst c; simp [amg, hw, known]
    · have : ¬ (3 = k) := fun h => c h.symm
      simp [amg, c, this]
  by_cases k4 : K = 4
  · subst k4
    by_cases c : k = 4
    · subst c; simp [amg, known]
    · have : ¬ (4 = k) := fun h => c h.symm
      simp [amg, c, this]
  by_cases k5 : K = 5
  · subst k5
    have hne := blocks_ne (p := (itm s p).2) (by have := len5 hn; omega)
    by_cases c : k = 5
    · subst c; simp [amg, known, hne]
    · have : ¬ (5 = k) := fun h => c h.symm
      simp [amg, c, this]
  by_cases k8 : K = 8
  · subst k8
    by_cases c : k = 8
    · subst c; simp [amg, known]
    · have : ¬ (8 = k) := fun h => c h.symm
      simp [amg, c, this]
  simp only [if_neg k2, if_neg k3, if_neg k4, if_neg k5, if_neg k8]
  by_cases c : K = k
  · subst c
    have : known K = false := by simp [known, k8]; omega
    simp [this]
  · simp [c]
theorem amg_fo {s : List UInt8} : ∀ (pl : List Nat), (∀ q ∈ pl, 2 ≤ nb s q ∧ fitb s q = true) → ∀ (o : Opz) (k : Nat), amg ((pl.map (itm s)).foldl put o) k = (amg o k || (known k && pl.any fun q => nb s q == k))
  | [], _, o, k => by simp
  | q :: t, h, o, k => by
    rw [List.map_cons, List.foldl_cons, amg_fo t (fun x hx => h x (by simp [hx]))]
    rw [amg_put (h q (by simp)).2 (h q (by simp)).1, List.any_cons]
    cases amg o k <;> cases known k <;> simp
theorem amg_none (k : Nat) : amg none_ k = false := by
  unfold amg none_; simp
theorem amg_f {s : List UInt8} {pl : List Nat} (h : OkL s pl) {k : Nat} (ha : amg (fo s pl) k = false) : ∀ q ∈ pl, known k = true → nb s q ≠ k := by
  intro q hq hk he
  unfold fo at ha
  rw [amg_fo pl h.fit, amg_none, Bool.false_or, hk, Bool.true_and, List.any_eq_false] at ha
  exact ha q hq (by simp [he])
theorem amg_t {s : List UInt8} {pl : List Nat} (h : OkL s pl) {k : Nat} (ha : amg (fo s pl) k = true) : known k = true ∧ ∃ q ∈ pl, nb s q = k := by
  unfold fo at ha
  rw [amg_fo pl h.fit, amg_none, Bool.false_or, Bool.and_eq_true, List.any_eq_true] at ha
  obtain ⟨hk, q, hq, he⟩ := ha
  exact ⟨hk, q, hq, by simpa using he⟩
/-- one that does not fit, or is there already, is told: bytes are none of options' -/
theorem dec_part {s : List UInt8} {pl : List Nat} {p : Nat} (h : OPart s (pl ++ [p])) (ho : OkL s pl) (hb : fitb s p = false ∨ amg (fo s pl) (nb s p) = true) : om.dec s = none := by
  obtain ⟨q, p', e, hs, hp, h2⟩ := h
  obtain ⟨rfl, rfl⟩ : pl = q ∧ p = p' := by
    have := List.append_inj' e rfl
    exact ⟨this.1, by simpa using this.2⟩
  have hr := run_of hs ho
  by_cases hf : fitb s p = false
  · exact hr.badfit hp h2 hf
  · rcases hb with hb | hb
    · exact absurd hb hf
    · obtain ⟨ha, _, _, _⟩ := fit_at (by simpa using hf) h2
      obtain ⟨hk, q', hq', he⟩ := amg_t ho hb
      exact hr.bad3 ha hq' hk he
/-- what is read is small -/
theorem fo_rdn (s : List UInt8) (pl : List Nat) : Rdn (fo s pl) := fold_rdn _ _ rdn_none
end Go.Proofs.Ytdlcglkeinlimaa.om
