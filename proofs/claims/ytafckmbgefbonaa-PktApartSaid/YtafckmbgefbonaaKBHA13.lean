/- B H A: contracts, part 13. Condition: as each says. -/
import Derived.Test.YtafckmbgefbonaaKBHA5
set_option linter.unusedVariables false
set_option linter.unusedSimpArgs false
namespace Go.Proofs.Ytafckmbgefbonaa.nb
open Go.RowKit Go.Shelf Go.Proofs.Ytafckmbgefbonaa.sm
set_option linter.unusedVariables false

def reach (ops : Array Oper) : Nat → Nat → Nat → Bool
  | 0, i, j => waits ops i j
  | m + 1, i, j => waits ops i j || (List.range i).any fun k => waits ops i k && reach ops m k j
theorem closed_waits {ops : Array Oper} {listed : Array Bool} (hc : ∀ j oj, ops[j]? = some oj → listed.getD j false = true → ∀ e ∈ oj.after, Region.binds .any e = true → listed.getD e.on false = true) {i j : Nat} (hl : listed.getD i false = true) (h : waits ops i j = true) : listed.getD j false = true := by
  unfold waits at h
  cases ho : ops[i]? with
  | none => rw [ho] at h; cases h
  | some o =>
    simp only [ho] at h
    obtain ⟨e, he, hb⟩ := Array.any_eq_true'.1 h
    simp only [Bool.and_eq_true, beq_iff_eq] at hb
    rw [← hb.2]
    exact hc i o ho hl e he hb.1
theorem closed_reach {ops : Array Oper} {listed : Array Bool} (hc : ∀ j oj, ops[j]? = some oj → listed.getD j false = true → ∀ e ∈ oj.after, Region.binds .any e = true → listed.getD e.on false = true) : ∀ (m : Nat) {i j : Nat}, listed.getD i false = true → reach ops m i j = true → listed.getD j false = true
  | 0, i, j, hl, h => closed_waits hc hl h
  | m + 1, i, j, hl, h => by
    unfold reach at h
    rw [Bool.or_eq_true] at h
    rcases h with h | h
    · exact closed_waits hc hl h
    · obtain ⟨k, _, hk⟩ := List.any_eq_true.1 h
      rw [Bool.and_eq_true] at hk
      exact closed_reach hc m (closed_waits hc hl hk.1) hk.2
theorem reach_listed {ops : Array Oper} {listed : Array Bool} (hc : ∀ j oj, ops[j]? = some oj → listed.getD j false = true → ∀ e ∈ oj.after, Region.binds .any e = true → listed.getD e.on false = true) (m : Nat) {i j : Nat} (hi : i ∈ Region.ready .any ops listed) (h : reach ops m i j = true) : listed.getD j false = true := by
  cases m with
  | zero => exact waits_listed hi h
  | succ m =>
    unfold reach at h
    rw [Bool.or_eq_true] at h
    rcases h with h | h
    · exact waits_listed hi h
    · obtain ⟨k, _, hk⟩ := List.any_eq_true.1 h
      rw [Bool.and_eq_true] at hk
      exact closed_reach hc m (waits_listed hi hk.1) hk.2
def tailG (ops : Array Oper) (n f : Nat) : Bool := ((List.range n).all fun j => reach ops 8 n j || decide (j = f)) && ((List.range ops.size).all fun i => decide (i ≤ n) || waits ops i (i - 1)) && (decide (ops.size ≤ n + 1) || waits ops (n + 1) f)
theorem tailG_all {ops : Array Oper} {n f j : Nat} (h : tailG ops n f = true) (hj : j < n) (hf : j ≠ f) : reach ops 8 n j = true := by
  unfold tailG at h
  rw [Bool.and_eq_true, Bool.and_eq_true] at h
  have := List.all_eq_true.1 h.1.1 j (List.mem_range.2 hj)
  rw [Bool.or_eq_true, decide_eq_true_eq] at this
  exact this.resolve_right hf
theorem tailG_chain {ops : Array Oper} {n f i : Nat} (h : tailG ops n f = true) (hi : i < ops.size) (hn : n < i) : waits ops i (i - 1) = true := by
  unfold tailG at h
  rw [Bool.and_eq_true, Bool.and_eq_true] at h
  have := List.all_eq_true.1 h.1.2 i (List.mem_range.2 hi)
  rw [Bool.or_eq_true, decide_eq_true_eq] at this
  exact this.resolve_left (by omega)
theorem tailG_late {ops : Array Oper} {n f : Nat} (h : tailG ops n f = true) (hn : n + 1 < ops.size) : waits ops (n + 1) f = true := by
  unfold tailG at h
  rw [Bool.and_eq_true, Bool.and_eq_true] at h
  have := h.2
  rw [Bool.or_eq_true, decide_eq_true_eq] at this
  exact this.resolve_left (by omega)
theorem wp_region_rel7 {P : Program} {id : Nat} (f : Nat) (l rs : List Oper) (on fo : Oper) {Q : Exit → Act → World → Prop} {a0 : Act} {w0 : World} (C : World → Prop) (R : World → World → Prop) (Y : Nat → Value → World → Prop)
    (hm : P.follows .mixedOrders = true) (hB : relB (l ++ on :: rs).toArray a0.tmps.size = true) (hT : tailG (l ++ on :: rs).toArray l.length f = true) (hC : C w0.drew)
    (hst : ∀ k v w w', Y k v w → R w w' → Y k v w')
    (hop : obligs P (l ++ on :: rs).toArray a0 C R Y l 0) (hfo : l[f]? = some fo)
    (hend : ∀ vals w, C w → (∀ k o s, l[k]? = some o → o.dst = some s → Y k (vals k) w) → wpList P (l ++ on :: rs).toArray Q (on :: rs) (putAll l 0 vals a0) w)
    (hend1 : ∀ vals w, C w → (∀ k o s, k ≠ f → l[k]? = some o → o.dst = some s → Y k (vals k) w) → wpList P (l ++ on :: rs).toArray Q (on :: fo :: rs) (putAll (l.set f { fo with dst := none }) 0 vals a0) w) :
    (Code.region id (l ++ on :: rs).toArray true).wp P Q a0 w0 := by
  obtain ⟨tl, htl⟩ : ∃ tl, tl = on :: rs := ⟨_, rfl⟩
  rw [← htl] at hB hT hop hend hend1 ⊢
  have hops : ∀ k, k < l.length → (l ++ tl).toArray[k]? = l[k]? := fun k hk => by simp [List.getElem?_append_left hk]
  have hopt : ∀ j, (l ++ tl).toArray[l.length + j]? = tl[j]? := fun j => by simp [List.getElem?_append_right]
  have hsz : (l ++ tl).toArray.size = l.length + tl.length := by simp
  let I1 : Array Bool → Act → World → Prop := fun listed a w => RelI (l ++ tl).toArray a0 C Y listed a w ∧ ∀ k, l.length ≤ k → listed.getD k false = false
  let I2 : Array Bool → Act → World → Prop := fun listed a w => ∃ j, j ≤ tl.length ∧ listed.size = (l ++ tl).toArray.size ∧ (∀ k, k < l.length + j → listed.getD k false = true) ∧ (∀ k, l.length + j ≤ k → listed.getD k false = false) ∧ wpList P (l ++ tl).toArray Q (tl.drop j) a w
  obtain ⟨hfl, hfe⟩ := List.getElem?_eq_some_iff.1 hfo
  let I3 : Array Bool → Act → World → Prop := fun listed a w => listed.size = (l ++ tl).toArray.size ∧ (∀ k, k < l.length → k ≠ f → listed.getD k false = true) ∧ listed.getD f false = false ∧ listed.getD l.length false = true ∧ (∀ k, l.length + 1 ≤ k → listed.getD k false = false) ∧ wpList P (l ++ tl).toArray Q (fo :: rs) a w
  have step2 : ∀ listed a w i, I2 listed a w → i ∈ Region.ready .any (l ++ tl).toArray listed → wpOp P (l ++ tl).toArray Q i (fun a' w' => I1 (listed.setIfInBounds i true) a' w' ∨ I3 (listed.setIfInBounds i true) a' w' ∨ I2 (listed.setIfInBounds i true) a' w') a w := by
    rintro listed a w i ⟨j, hj, hls, h1, h2, h3⟩ hi
    obtain ⟨hu, o, ho, hall⟩ := mem_ready.1 hi
    have hi' : i < (l ++ tl).toArray.size := (Array.getElem?_eq_some_iff.1 ho).1
    have hil : i < listed.size := by omega
    have hun : listed.getD i false = false := by simpa [hil] using hu
    have hge : l.length + j ≤ i := by
      rcases Nat.lt_or_ge i (l.length + j) with h | h
      · rw [h1 i h] at hun; cases hun
      · exact h
    have hij : i = l.length + j := by
      rcases Nat.lt_or_ge (l.length + j) i with h | h
      · have := waits_listed hi (tailG_chain hT hi' (by omega))
        rw [h2 (i - 1) (by omega)] at this; cases this
      · omega
    subst hij
    have htj : tl[j]? = some o := by rw [← hopt]; exact ho
    have hjl : j < tl.length := (List.getElem?_eq_some_iff.1 htj).1
    have hdrop : tl.drop j = o :: tl.drop (j + 1) := by
      rw [List.drop_eq_getElem_cons hjl]
      congr 1
      exact (List.getElem?_eq_some_iff.1 htj).2
    rw [hdrop] at h3
    have hg := (relB_spec hB ho).1
    unfold wpOp
    simp only [ho]
    have hw : Region.wanted o (yielded (l ++ tl).toArray a.tmps) = true := by unfold Region.wanted; rw [hg]
    unfold wpList at h3
    rw [if_pos hw] at h3 ⊢
    refine h3.imp (Oper.wp_mono (fun a' w' h => .inr (.inr ⟨j + 1, by omega, by simpa using hls, fun k hk => ?_, fun k hk => ?_, h⟩))) (fun x => x)
    · by_cases hkj : k = l.length + j
      · subst hkj; simp [hil]
      · have := h1 k (by omega)
        simpa [Array.getElem?_setIfInBounds, Ne.symm hkj] using this
    · have := h2 k (by omega)
      have hkj : k ≠ l.length + j := by omega
      simpa [Array.getElem?_setIfInBounds, Ne.symm hkj] using this
  have to2 : ∀ listed a w, I1 listed a w → (∀ k, k < l.length → listed.getD k false = true) → I2 listed a w := by
    rintro listed a w ⟨hI, ht⟩ hl
    refine ⟨0, Nat.zero_le _, hI.size, fun k hk => hl k (by omega), fun k hk => ht k (by omega), ?_⟩
    rw [List.drop_zero]
    have hlt : ∀ k o s, l[k]? = some o → o.dst = some s → Y k (a.tmps.getD s undef) w := fun k o s hk hs =>
      hI.done k o s (by rw [hops k (List.getElem?_eq_some_iff.1 hk).1]; exact hk) hs (hl k (List.getElem?_eq_some_iff.1 hk).1)
    have e : a = putAll l 0 (fun k => a.tmps.getD (dstOf l k) undef) a0 := by
      refine act_ext (by rw [putAll_size]; exact hI.tsize) (fun s => ?_) (by rw [putAll_defers]; exact hI.defers)
      by_cases h : ∃ (i : Nat) (o : Oper), l[i]? = some o ∧ o.dst = some s
      · obtain ⟨i, o, hi, hs⟩ := h
        have hil := (List.getElem?_eq_some_iff.1 hi).1
        have hsp := (relB_spec hB (i := i) (o := o) (by rw [hops i hil]; exact hi)).2.2 s hs
        rw [putAll_at l 0 _ a0 i o s (fun j oj hj hjo => hsp.2 j oj hj (by rw [hops j (List.getElem?_eq_some_iff.1 hjo).1]; exact hjo)) hi hs hsp.1, Nat.zero_add]
        show _ = a.tmps.getD (dstOf l i) undef
        unfold dstOf
        rw [hi]
        simp [hs]
      · rw [putAll_not l 0 _ a0 s (fun o ho he => by
          obtain ⟨j, hj, hjo⟩ := List.mem_iff_getElem.1 ho
          exact h ⟨j, o, by simp [hj, hjo], he⟩)]
        refine hI.rest s fun k o hk he => ?_
        rcases Nat.lt_or_ge k l.length with hk' | hk'
        · exact absurd ⟨k, o, by rw [← hops k hk']; exact hk, he⟩ h
        · exact ht k hk'
    rw [e]
    refine hend _ w hI.cls fun k o s hk hs => ?_
    show Y k (a.tmps.getD (dstOf l k) undef) w
    have : dstOf l k = s := by unfold dstOf; rw [hk]; simp [hs]
    rw [this]
    exact hlt k o s hk hs
  have step3 : ∀ listed a w i, I3 listed a w → i ∈ Region.ready .any (l ++ tl).toArray listed → wpOp P (l ++ tl).toArray Q i (fun a' w' => I1 (listed.setIfInBounds i true) a' w' ∨ I3 (listed.setIfInBounds i true) a' w' ∨ I2 (listed.setIfInBounds i true) a' w') a w := by
    rintro listed a w i ⟨hls, h1, hf0, hn1, h2, h3⟩ hi
    obtain ⟨hu, o, ho, hall⟩ := mem_ready.1 hi
    have hi' : i < (l ++ tl).toArray.size := (Array.getElem?_eq_some_iff.1 ho).1
    have hil : i < listed.size := by omega
    have hun : listed.getD i false = false := by simpa [hil] using hu
    have hif : i = f := by
      rcases Nat.lt_trichotomy i l.length with h | h | h
      · by_cases he : i = f
        · exact he
        · rw [h1 i h he] at hun; cases hun
      · rw [h, hn1] at hun; cases hun
      · rcases Nat.lt_or_ge (l.length + 1) i with hh | hh
        · have := waits_listed hi (tailG_chain hT hi' (by omega))
          rw [h2 (i - 1) (by omega)] at this; cases this
        · obtain rfl : i = l.length + 1 := by omega
          have := waits_listed hi (tailG_late hT hi')
          rw [hf0] at this; cases this
    subst hif
    obtain rfl : fo = o := by
      have h5 := hops i hfl
      rw [ho, hfo] at h5
      exact (Option.some.inj h5).symm
    have hg := (relB_spec hB ho).1
    unfold wpOp
    simp only [ho]
    have hw : Region.wanted fo (yielded (l ++ tl).toArray a.tmps) = true := by unfold Region.wanted; rw [hg]
    unfold wpList at h3
    rw [if_pos hw] at h3 ⊢
    refine h3.imp (Oper.wp_mono (fun a' w' h => .inr (.inr ⟨1, by rw [htl]; simp, by simpa using hls, fun k hk => ?_, fun k hk => ?_, ?_⟩))) (fun x => x)
    · by_cases hkj : k = i
      · subst hkj; simp [hil]
      · have : listed.getD k false = true := by
          rcases Nat.lt_or_ge k l.length with h | h
          · exact h1 k h hkj
          · rw [show k = l.length by omega]; exact hn1
        simpa [Array.getElem?_setIfInBounds, Ne.symm hkj] using this
    · have := h2 k hk
      have hkj : k ≠ i := by omega
      simpa [Array.getElem?_setIfInBounds, Ne.symm hkj] using this
    · have hd : tl.drop 1 = rs := by rw [htl]; rfl
      rw [hd]; exact h
  have to3 : ∀ listed a w, I1 listed a w → (∀ k, k < l.length → k ≠ f → listed.getD k false = true) → listed.getD f false = false → wpList P (l ++ tl).toArray Q (on :: fo :: rs) a w := by
    rintro listed a w ⟨hI, ht⟩ hl hf0
    have hset : ∀ k, k ≠ f → (l.set f { fo with dst := none })[k]? = l[k]? := fun k hk => List.getElem?_set_ne (Ne.symm hk)
    have hsetf : (l.set f { fo with dst := none })[f]? = some { fo with dst := none } := by simp [List.getElem?_set, hfl]
    have e : a = putAll (l.set f { fo with dst := none }) 0 (fun k => a.tmps.getD (dstOf l k) undef) a0 := by
      refine act_ext (by rw [putAll_size]; exact hI.tsize) (fun s => ?_) (by rw [putAll_defers]; exact hI.defers)
      by_cases h : ∃ (i : Nat) (o : Oper), (l.set f { fo with dst := none })[i]? = some o ∧ o.dst = some s
      · obtain ⟨i, o, hi, hs⟩ := h
        have hif : i ≠ f := by
          rintro rfl
          rw [hsetf] at hi; cases hi; cases hs
        have hi2 := hi
        rw [hset i hif] at hi2
        have hil := (List.getElem?_eq_some_iff.1 hi2).1
        have hsp := (relB_spec hB (i := i) (o := o) (by rw [hops i hil]; exact hi2)).2.2 s hs
        rw [putAll_at _ 0 _ a0 i o s (fun j oj hj hjo => by
          by_cases hjf : j = f
          · subst hjf; rw [hsetf] at hjo; cases hjo; intro h; cases h
          · rw [hset j hjf] at hjo
            exact hsp.2 j oj hj (by rw [hops j (List.getElem?_eq_some_iff.1 hjo).1]; exact hjo)) hi hs hsp.1, Nat.zero_add]
        show _ = a.tmps.getD (dstOf l i) undef
        unfold dstOf
        rw [hi2]
        simp [hs]
      · rw [putAll_not _ 0 _ a0 s (fun o ho he => by
          obtain ⟨j, hj, hjo⟩ := List.mem_iff_getElem.1 ho
          exact h ⟨j, o, by rw [List.getElem?_eq_getElem hj, hjo], he⟩)]
        refine hI.rest s fun k o hk he => ?_
        rcases Nat.lt_or_ge k l.length with hk' | hk'
        · by_cases hkf : k = f
          · subst hkf; exact hf0
          · exact absurd ⟨k, o, by rw [hset k hkf, ← hops k hk']; exact hk, he⟩ h
        · exact ht k hk'
    rw [e]
    refine hend1 _ w hI.cls fun k o s hkf hk hs => ?_
    show Y k (a.tmps.getD (dstOf l k) undef) w
    have : dstOf l k = s := by unfold dstOf; rw [hk]; simp [hs]
    rw [this]
    have hkl := (List.getElem?_eq_some_iff.1 hk).1
    exact hI.done k o s (by rw [hops k hkl]; exact hk) hs (hl k hkl hkf)
  refine wp_region_any hm (wpAny_inv (fun listed a w => I1 listed a w ∨ I3 listed a w ∨ I2 listed a w) ?_ ?_ _ _ _ _ ?_ (by simp) (.inl ⟨?_, ?_⟩))
  · intro listed a w i hI hi
    rcases hI with hI | hI | hI
    case inr.inl => exact step3 listed a w i hI hi
    case inr.inr => exact step2 listed a w i hI hi
    obtain ⟨hu, o, ho, hall⟩ := mem_ready.1 hi
    have hi' : i < (l ++ tl).toArray.size := (Array.getElem?_eq_some_iff.1 ho).1
    rcases Nat.lt_or_ge i l.length with hin | hin
    case inr =>
      have hin' : i = l.length := by
        rcases Nat.lt_or_ge l.length i with h | h
        · have := waits_listed hi (tailG_chain hT hi' h)
          rw [hI.2 (i - 1) (by omega)] at this; cases this
        · omega
      have hoth : ∀ k, k < l.length → k ≠ f → listed.getD k false = true := fun k hk hkf => by subst hin'; exact reach_listed hI.1.closed 8 hi (tailG_all hT hk hkf)
      cases hff : listed.getD f false with
      | true =>
        exact step2 listed a w i (to2 listed a w hI fun k hk => by
          by_cases hkf : k = f
          · rw [hkf]; exact hff
          · exact hoth k hk hkf) hi
      | false =>
        have h3 := to3 listed a w hI hoth hff
        have hls := hI.1.size
        have hil : i < listed.size := by omega
        obtain rfl : on = o := by
          have h5 := hopt 0
          rw [Nat.add_zero, ← hin', ho, htl] at h5
          exact (Option.some.inj h5).symm
        have hg := (relB_spec hB ho).1
        unfold wpOp
        simp only [ho]
        have hw : Region.wanted on (yielded (l ++ tl).toArray a.tmps) = true := by unfold Region.wanted; rw [hg]
        unfold wpList at h3
        rw [if_pos hw] at h3 ⊢
        refine h3.imp (Oper.wp_mono (fun a' w' h => .inr (.inl ⟨by simpa using hls, fun k hk hkf => ?_, ?_, ?_, fun k hk => ?_, h⟩))) (fun x => x)
        · have := hoth k hk hkf
          have hki : k ≠ i := by omega
          simpa [Array.getElem?_setIfInBounds, Ne.symm hki] using this
        · have hki : f ≠ i := by omega
          simpa [Array.getElem?_setIfInBounds, Ne.symm hki] using hff
        · rw [← hin']; simp [hil]
        · have := hI.2 k (by omega)
          have hki : k ≠ i := by omega
          simpa [Array.getElem?_setIfInBounds, Ne.symm hki] using this
    obtain ⟨hI, htl⟩ := hI
    obtain ⟨hg, hlt, hdst⟩ := relB_spec hB ho
    have hil : i < listed.size := by rw [hI.size]; exact hi'
    have hun : listed.getD i false = false := by simpa [hil] using hu
    unfold wpOp
    simp only [ho]
    rw [if_pos (by unfold Region.wanted; rw [hg])]
    refine .inl ?_
    have hob0 := obligs_at l 0 hop i o (by rw [← hops i hin]; exact ho)
    rw [Nat.zero_add] at hob0
    have hob := hob0 a w hI.cls ?_ ?_ (fun u w' => Y i u w' ∧ C w' ∧ R w w') (fun u w' h1 h2 h3 => ⟨h1, h2, h3⟩)
    · refine Oper.wp_mono (fun a' w' h => ?_) (opTo_wp hob)
      obtain ⟨v, rfl, hY, hCw, hR⟩ := h
      refine .inl ⟨⟨by simpa using hI.size, hCw, fun j oj hj hl e he hb => ?_, fun k ok s hk hs hl => ?_, fun s hs => ?_, ?_, ?_⟩, fun k hk => ?_⟩
      · rcases listed_set hl with rfl | hl'
        · rw [ho] at hj; cases hj
          have := hall e he hb
          by_cases hei : e.on = j
          · rw [hei]; simp [hil]
          · simpa [Array.getElem?_setIfInBounds, Ne.symm hei] using this
        · have := hI.closed j oj hj hl' e he hb
          by_cases hei : e.on = i
          · rw [hei]; simp [hil]
          · simpa [Array.getElem?_setIfInBounds, Ne.symm hei] using this
      · rw [getD_put]
        by_cases hki : k = i
        · subst hki
          rw [ho] at hk; cases hk
          rw [if_pos ⟨hs, by rw [hI.tsize]; exact (hdst s hs).1⟩]
          exact hY
        · have hne : o.dst ≠ some s := fun he => (hdst s he).2 k ok hki hk hs
          rw [if_neg (fun hh => hne hh.1)]
          rcases listed_set hl with h | h
          · exact absurd h hki
          · exact hst k _ _ _ (hI.done k ok s hk hs h) hR
      · rw [getD_put]
        have hne : o.dst ≠ some s := fun he => by
          have := hs i o ho he
          simp [hil] at this
        rw [if_neg (fun hh => hne hh.1)]
        refine hI.rest s fun k ok hk hsk => ?_
        have h5 := hs k ok hk hsk
        by_cases hki : k = i
        · subst hki; exact hun
        · simpa [Array.getElem?_setIfInBounds, Ne.symm hki] using h5
      · show (a.put o.dst v).tmps.size = _
        rw [← hI.tsize]; unfold Act.put; cases o.dst <;> simp
      · show (a.put o.dst v).defers = _
        rw [← hI.defers]; unfold Act.put; cases o.dst <;> rfl
      · have h5 := htl k hk
        have hki : k ≠ i := by omega
        simpa [Array.getElem?_setIfInBounds, Ne.symm hki] using h5
    · intro d od s hw hd hs
      exact hI.done d od s hd hs (waits_listed hi hw)
    · intro s hs
      refine hI.rest s fun k ok hk hsk => ?_
      have hw := hs k ok hk hsk
      unfold waits at hw
      simp only [hk] at hw
      obtain ⟨e, he, hb⟩ := Array.any_eq_true'.1 hw
      simp only [Bool.and_eq_true, beq_iff_eq] at hb
      cases hlk : listed.getD k false with
      | false => rfl
      | true =>
        have := hI.closed k ok hk hlk e he hb.1
        rw [hb.2, hun] at this
        exact absurd this (by decide)
  · intro listed a w hI hr
    have hl : ∀ (n : Nat), listed.size = (l ++ tl).toArray.size → n ≤ (l ++ tl).toArray.size → ∀ k, k < n → listed.getD k false = true := by
      intro n hls hn k
      induction k using Nat.strongRecOn with
      | _ k ih =>
        intro hk
        cases hlk : listed.getD k false with
        | true => rfl
        | false =>
          exfalso
          have hkl : k < listed.size := by omega
          have ho : (l ++ tl).toArray[k]? = some (l ++ tl).toArray[k] := Array.getElem?_eq_getElem (by omega)
          have hmem : k ∈ Region.ready .any (l ++ tl).toArray listed := mem_ready.2 ⟨by simpa [hkl] using hlk, _, ho, fun e he hb => by
            have h1 := (relB_spec hB ho).2.1 e he hb
            exact ih e.on h1 (by omega)⟩
          rw [hr] at hmem; cases hmem
    have hI2 : I2 listed a w := by
      rcases hI with hI | hI | hI
      · exact to2 listed a w hI fun k hk => hl l.length hI.1.size (by omega) k hk
      · have := hl (f + 1) hI.1 (by omega) f (by omega)
        rw [hI.2.2.1] at this; cases this
      · exact hI
    obtain ⟨j, hj, hls, h1, h2, h3⟩ := hI2
    rcases Nat.lt_or_ge j tl.length with hjl | hjl
    · have := hl (l.length + j + 1) hls (by omega) (l.length + j) (by omega)
      rw [h2 _ (Nat.le_refl _)] at this; cases this
    · rw [List.drop_of_length_le hjl] at h3
      exact h3
  · have : (Array.replicate (l ++ tl).toArray.size false).toList.count false ≤ (l ++ tl).toArray.size := by
      have := List.count_le_length (a := false) (l := (Array.replicate (l ++ tl).toArray.size false).toList)
      simp only [Array.length_toList, Array.size_replicate] at this
      exact this
    exact this
  · refine ⟨by simp, hC, fun j oj hj hl => ?_, fun k o s hk hs hl => ?_, fun s _ => rfl, rfl, rfl⟩
    · exact absurd hl (by rw [replicate_false_getD]; decide)
    · exact absurd hl (by rw [replicate_false_getD]; decide)
  · intro k _
    exact replicate_false_getD _ _
theorem wp_region_rel8 {P : Program} {id : Nat} (n f : Nat) {l : List Oper} {Q : Exit → Act → World → Prop} {a0 : Act} {w0 : World} (C : World → Prop) (R : World → World → Prop) (Y : Nat → Value → World → Prop)
    (hm : P.follows .mixedOrders = true) (hB : relB l.toArray a0.tmps.size = true) (hT : (decide (n < l.length) && decide (f < n) && tailG l.toArray n f) = true) (hC : C w0.drew)
    (hst : ∀ k v w w', Y k v w → R w w' → Y k v w')
    (hop : obligs P l.toArray a0 C R Y (l.take n) 0)
    (hend : ∀ vals w, C w → (∀ k o s, (l.take n)[k]? = some o → o.dst = some s → Y k (vals k) w) → wpList P l.toArray Q (l.drop n) (putAll (l.take n) 0 vals a0) w)
    (hend1 : ∀ vals w, C w → (∀ k o s, k ≠ f → (l.take n)[k]? = some o → o.dst = some s → Y k (vals k) w) → wpList P l.toArray Q ((l.drop n).take 1 ++ ((l.drop f).take 1 ++ l.drop (n + 1))) (putAll ((l.take n).set f { (l.drop f).headD default with dst := none }) 0 vals a0) w) :
    (Code.region id l.toArray true).wp P Q a0 w0 := by
  rw [Bool.and_eq_true, Bool.and_eq_true] at hT
  have hn := of_decide_eq_true hT.1.1
  have hf := of_decide_eq_true hT.1.2
  have hl : (l.take n).length = n := by rw [List.length_take]; omega
  have hd : l.drop n = l[n] :: l.drop (n + 1) := List.drop_eq_getElem_cons hn
  have hdf : l.drop f = l[f]'(by omega) :: l.drop (f + 1) := List.drop_eq_getElem_cons (by omega)
  have he : l.take n ++ l[n] :: l.drop (n + 1) = l := by rw [← hd, List.take_append_drop]
  have h := wp_region_rel7 (P := P) (id := id) f (l.take n) (l.drop (n + 1)) l[n] (l[f]'(by omega)) (Q := Q) (a0 := a0) (w0 := w0) C R Y hm (by rw [he]; exact hB) (by rw [he, hl]; exact hT.2) hC hst
    (by rw [he]; exact hop) (by rw [List.getElem?_take_of_lt hf]; exact List.getElem?_eq_getElem (by omega)) (by rw [he, ← hd]; exact hend) (by
      rw [he]
      intro vals w hc hy
      have := hend1 vals w hc hy
      rw [hd, hdf] at this
      exact this)
  rwa [he] at h
end Go.Proofs.Ytafckmbgefbonaa.nb

namespace Go.Proofs.Ytafckmbgefbonaa.nb
open Go.RowKit Go.Shelf

section
variable {P : Program}
def relBg (ops : Array Oper) (n : Nat) : Bool :=
  (List.range ops.size).all fun i => match ops[i]? with
    | none => true
    | some o => (match o.guard with | none => true | some (g, _) => waits ops i g && ((ops[g]?).bind (·.dst)).isSome) && (o.after.all fun e => !Region.binds .any e || decide (e.on < i)) &&
      (match o.dst with
       | none => true
       | some s => decide (s < n) && (List.range ops.size).all fun j => decide (j = i) || (match ops[j]? with | some oj => oj.dst != some s | none => true))
theorem relBg_guard {ops : Array Oper} {n : Nat} (h : relBg ops n = true) {i : Nat} {o : Oper} (ho : ops[i]? = some o) {g : Nat} {b : Bool} (hg : o.guard = some (g, b)) :
    waits ops i g = true ∧ ∃ og s, ops[g]? = some og ∧ og.dst = some s := by
  have hi : i < ops.size := (Array.getElem?_eq_some_iff.1 ho).1
  have h1 := List.all_eq_true.1 h i (List.mem_range.2 hi)
  simp only [ho, hg, Bool.and_eq_true] at h1
  obtain ⟨⟨⟨h2, h3⟩, _⟩, _⟩ := h1
  refine ⟨h2, ?_⟩
  cases hog : ops[g]? with
  | none => simp [hog] at h3
  | some og =>
    cases hs : og.dst with
    | none => simp [hog, hs] at h3
    | some s => exact ⟨og, s, rfl, hs⟩
theorem relBg_spec {ops : Array Oper} {n : Nat} (h : relBg ops n = true) {i : Nat} {o : Oper} (ho : ops[i]? = some o) :
    (∀ e ∈ o.after, Region.binds .any e = true → e.on < i) ∧ ∀ s, o.dst = some s → s < n ∧ ∀ j oj, j ≠ i → ops[j]? = some oj → oj.dst ≠ some s := by
  have hi : i < ops.size := (Array.getElem?_eq_some_iff.1 ho).1
  have h1 := List.all_eq_true.1 h i (List.mem_range.2 hi)
  simp only [ho, Bool.and_eq_true] at h1
  obtain ⟨⟨_, h3⟩, h4⟩ := h1
  refine ⟨fun e he hb => ?_, fun s hs => ?_⟩
  · have h5 := Array.all_eq_true'.1 h3 e he
    simpa [hb] using h5
  · simp only [hs, Bool.and_eq_true, decide_eq_true_eq] at h4
    refine ⟨h4.1, fun j oj hj hoj he => ?_⟩
    have hjl : j < ops.size := (Array.getElem?_eq_some_iff.1 hoj).1
    have h5 := List.all_eq_true.1 h4.2 j (List.mem_range.2 hjl)
    simp [hj, hoj, he] at h5

theorem wp_region_relg {id : Nat} {l : List Oper} {Q : Exit → Act → World → Prop} {a0 : Act} {w0 : World} (C : World → Prop) (R : World → World → Prop) (Y : Nat → Value → World → Prop)
    (hm : P.follows .mixedOrders = true) (hB : relBg l.toArray a0.tmps.size = true) (hC : C w0.drew)
    (hst : ∀ k v w w', Y k v w → R w w' → Y k v w')
    (hG : ∀ (i : Nat) (o : Oper) (g : Nat) (b : Bool), l.toArray[i]? = some o → o.guard = some (g, b) → ∀ v w, Y g v w → v = .bool b) (hop : obligs P l.toArray a0 C R Y l 0)
    (hend : ∀ a w, C w → (∀ k o s, l.toArray[k]? = some o → o.dst = some s → Y k (a.tmps.getD s undef) w) →
      (∀ s, (∀ (k : Nat) (o : Oper), l.toArray[k]? = some o → o.dst ≠ some s) → a.tmps.getD s undef = a0.tmps.getD s undef) → a.tmps.size = a0.tmps.size → a.defers = a0.defers → Q .normal a w) :
    (Code.region id l.toArray true).wp P Q a0 w0 := by
  refine wp_region_any hm (wpAny_inv (RelI l.toArray a0 C Y) ?_ ?_ _ _ _ _ ?_ (by simp) ?_)
  · intro listed a w i hI hi
    obtain ⟨h2, o, ho, hall⟩ := mem_ready.1 hi
    obtain ⟨hlt, hdst⟩ := relBg_spec hB ho
    have hi' : i < l.toArray.size := (Array.getElem?_eq_some_iff.1 ho).1
    have hil : i < listed.size := by rw [hI.size]; exact hi'
    have hun : listed.getD i false = false := by simpa [hil] using h2
    unfold wpOp
    simp only [ho]
    have hw : Region.wanted o (yielded l.toArray a.tmps) = true := by
      unfold Region.wanted
      cases hgu : o.guard with
      | none => rfl
      | some p =>
        obtain ⟨g, b⟩ := p
        obtain ⟨hwt, og, s, hog, hs⟩ := relBg_guard hB ho hgu
        have hY := hI.done g og s hog hs (waits_listed hi hwt)
        have hv := hG i o g b ho hgu _ _ hY
        have hsz : s < a.tmps.size := by rw [hI.tsize]; exact ((relBg_spec hB hog).2 s hs).1
        show (yielded l.toArray a.tmps g == some b) = true
        have e1 : a.tmps[s]? = some (.bool b) := by
          rw [Array.getD_eq_getD_getElem?, Array.getElem?_eq_getElem hsz] at hv
          rw [Array.getElem?_eq_getElem hsz]; exact congrArg some hv
        unfold yielded
        rw [hog]
        simp only [Option.bind_some, hs, e1, beq_self_eq_true]
    rw [if_pos hw]
    refine .inl ?_
    have hob0 := obligs_at l 0 hop i o (by simpa using ho)
    rw [Nat.zero_add] at hob0
    have hob := hob0 a w hI.cls ?_ ?_ (fun u w' => Y i u w' ∧ C w' ∧ R w w') (fun u w' h1 h2 h3 => ⟨h1, h2, h3⟩)
    · refine Oper.wp_mono (fun a' w' h => ?_) (opTo_wp hob)
      obtain ⟨v, rfl, hY, hCw, hR⟩ := h
      refine ⟨by simpa using hI.size, hCw, fun j oj hj hl e he hb => ?_, fun k ok s hk hs hl => ?_, fun s hs => ?_, ?_, ?_⟩
      · rcases listed_set hl with rfl | hl'
        · rw [ho] at hj; cases hj
          have := hall e he hb
          by_cases hei : e.on = j
          · rw [hei]; simp [hil]
          · simpa [Array.getElem?_setIfInBounds, Ne.symm hei] using this
        · have := hI.closed j oj hj hl' e he hb
          by_cases hei : e.on = i
          · rw [hei]; simp [hil]
          · simpa [Array.getElem?_setIfInBounds, Ne.symm hei] using this
      · rw [getD_put]
        by_cases hki : k = i
        · subst hki
          rw [ho] at hk; cases hk
          rw [if_pos ⟨hs, by rw [hI.tsize]; exact (hdst s hs).1⟩]
          exact hY
        · have hne : o.dst ≠ some s := fun he => (hdst s he).2 k ok hki hk hs
          rw [if_neg (fun hh => hne hh.1)]
          rcases listed_set hl with h | h
          · exact absurd h hki
          · exact hst k _ _ _ (hI.done k ok s hk hs h) hR
      · rw [getD_put]
        have hne : o.dst ≠ some s := fun he => by
          have := hs i o ho he
          simp [hil] at this
        rw [if_neg (fun hh => hne hh.1)]
        refine hI.rest s fun k ok hk hsk => ?_
        have h5 := hs k ok hk hsk
        by_cases hki : k = i
        · subst hki; exact hun
        · simpa [Array.getElem?_setIfInBounds, Ne.symm hki] using h5
      · show (a.put o.dst v).tmps.size = _
        rw [← hI.tsize]; unfold Act.put; cases o.dst <;> simp
      · show (a.put o.dst v).defers = _
        rw [← hI.defers]; unfold Act.put; cases o.dst <;> rfl
    · intro d od s hw hd hs
      refine hI.done d od s hd hs ?_
      unfold waits at hw
      simp only [ho] at hw
      obtain ⟨e, he, hb⟩ := Array.any_eq_true'.1 hw
      simp only [Bool.and_eq_true, beq_iff_eq] at hb
      rw [← hb.2]; exact hall e he hb.1
    · intro s hs
      refine hI.rest s fun k ok hk hsk => ?_
      have hw := hs k ok hk hsk
      unfold waits at hw
      simp only [hk] at hw
      obtain ⟨e, he, hb⟩ := Array.any_eq_true'.1 hw
      simp only [Bool.and_eq_true, beq_iff_eq] at hb
      cases hlk : listed.getD k false with
      | false => rfl
      | true =>
        have := hI.closed k ok hk hlk e he hb.1
        rw [hb.2, hun] at this
        exact absurd this (by decide)
  · intro listed a w hI hr
    have hl : ∀ k, k < l.toArray.size → listed.getD k false = true := by
      intro k
      induction k using Nat.strongRecOn with
      | _ k ih =>
        intro hk
        cases hlk : listed.getD k false with
        | true => rfl
        | false =>
          exfalso
          have hkl : k < listed.size := by rw [hI.size]; exact hk
          have ho : l.toArray[k]? = some l.toArray[k] := Array.getElem?_eq_getElem hk
          have hmem : k ∈ Region.ready .any l.toArray listed := mem_ready.2 ⟨by simpa [hkl] using hlk, _, ho, fun e he hb => by
            have h1 := (relBg_spec hB ho).1 e he hb
            exact ih e.on h1 (by omega)⟩
          rw [hr] at hmem; cases hmem
    exact hend a w hI.cls (fun k o s hk hs => hI.done k o s hk hs (hl k (Array.getElem?_eq_some_iff.1 hk).1)) (fun s hs => hI.rest s fun k o hk hsk => absurd hsk (hs k o hk)) hI.tsize hI.defers
  · have : (Array.replicate l.toArray.size false).toList.count false ≤ l.toArray.size := by
      have := List.count_le_length (a := false) (l := (Array.replicate l.toArray.size false).toList)
      simp only [Array.length_toList, Array.size_replicate] at this
      exact this
    exact this
  · refine ⟨by simp, hC, fun j oj hj hl => ?_, fun k o s hk hs hl => ?_, fun s _ => rfl, rfl, rfl⟩
    · exact absurd hl (by rw [replicate_false_getD]; decide)
    · exact absurd hl (by rw [replicate_false_getD]; decide)

theorem wp_region_rel2g {id : Nat} {l : List Oper} {Q : Exit → Act → World → Prop} {a0 : Act} {w0 : World} (C : World → Prop) (R : World → World → Prop) (Y : Nat → Value → World → Prop)
    (hm : P.follows .mixedOrders = true) (hB : relBg l.toArray a0.tmps.size = true) (hC : C w0.drew)
    (hst : ∀ k v w w', Y k v w → R w w' → Y k v w')
    (gs : List Nat) (hgs : (l.all fun o => match o.guard with | none => true | some (g, b) => b && gs.contains g) = true) (hgy : ∀ g, g ∈ gs → ∀ v w, Y g v w → v = .bool true) (hop : obligs P l.toArray a0 C R Y l 0)
    (hend : ∀ vals w, C w → (∀ k o s, l[k]? = some o → o.dst = some s → Y k (vals k) w) → Q .normal (putAll l 0 vals a0) w) :
    (Code.region id l.toArray true).wp P Q a0 w0 := by
  refine wp_region_relg C R Y hm hB hC hst (fun i o g b ho hgu v w hY => by
    have h1 := List.all_eq_true.1 hgs o (by simpa using Array.mem_of_getElem? ho)
    rw [hgu] at h1
    simp only [Bool.and_eq_true] at h1
    rw [h1.1]
    exact hgy g (by simpa using h1.2) v w hY) hop fun a w hCw hY hrest hsz hdf => ?_
  have e : a = putAll l 0 (fun k => a.tmps.getD (dstOf l k) undef) a0 := by
    refine act_ext (by rw [putAll_size]; exact hsz) (fun s => ?_) (by rw [putAll_defers]; exact hdf)
    by_cases h : ∃ (i : Nat) (o : Oper), l[i]? = some o ∧ o.dst = some s
    · obtain ⟨i, o, hi, hs⟩ := h
      have hsp := (relBg_spec hB (i := i) (o := o) (by simpa using hi)).2 s hs
      rw [putAll_at l 0 _ a0 i o s (fun j oj hj hjo => hsp.2 j oj hj (by simpa using hjo)) hi hs hsp.1, Nat.zero_add]
      show _ = a.tmps.getD (dstOf l i) undef
      unfold dstOf
      rw [hi]
      simp [hs]
    · rw [putAll_not l 0 _ a0 s (fun o ho he => by
        obtain ⟨j, hj, hjo⟩ := List.mem_iff_getElem.1 ho
        exact h ⟨j, o, by simp [hj, hjo], he⟩)]
      exact hrest s fun k o hk he => h ⟨k, o, by simpa using hk, he⟩
  rw [e]
  refine hend _ w hCw fun k o s hk hs => ?_
  show Y k (a.tmps.getD (dstOf l k) undef) w
  have : dstOf l k = s := by unfold dstOf; rw [hk]; simp [hs]
  rw [this]
  exact hY k o s (by simpa using hk) hs

end
end Go.Proofs.Ytafckmbgefbonaa.nb
