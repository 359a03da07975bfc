/- T R: contracts, part 1. Condition: as each says. -/
import Derived.Test.YtafckmbgefbonaaGreatVTRW4
set_option linter.unusedVariables false
set_option linter.unusedSimpArgs false
set_option maxRecDepth 100000
set_option maxHeartbeats 8000000
namespace Go.Proofs.YtafckmbgefbonaaGreat.nb
open RowKit Shelf sm

theorem num2 (s : ByteArray) (k : Nat) (h : k + 2 ≤ s.size) (w : World) :
  Calls Tryz.prog 49 #[.string (s.extract k (k + 2))] w fun e w' => e = .returned (.int .u32 (wd (L s) k)) ∧ w = w' := by
 have hz := sub_size s k (k + 2) (by omega) h
 refine (refNum (s.extract k (k + 2)) w (by omega)).mono fun e w' ⟨h1, h2⟩ => ⟨?_, h2⟩
 rw [h1, hz, show k + 2 - k = 2 by omega, L_extract, show k + 2 - k = 2 by omega, nm2]
end Go.Proofs.YtafckmbgefbonaaGreat.nb

namespace Go.Proofs.YtafckmbgefbonaaGreat.nb
open RowKit Shelf

section
variable {P : Program}

structure RelJ (ops : Array Oper) (a0 : Act) (C : World → Prop) (Y : Nat → Value → World → Prop) (listed : Array Bool) (a : Act) (w : World) : Prop where
 size : listed.size = ops.size
 cls : C w
 closed : ∀ j oj, ops[j]? = some oj → listed.getD j false = true → ∀ e ∈ oj.after, Region.binds .any e = true → listed.getD e.on false = true
 done : ∀ k o, ops[k]? = some o → listed.getD k false = true → ∃ v, Y k v w ∧ ∀ s, o.dst = some s → a.tmps.getD s undef = v
 rest : ∀ s, (∀ k o, ops[k]? = some o → o.dst = some s → listed.getD k false = false) → a.tmps.getD s undef = a0.tmps.getD s undef
 tsize : a.tmps.size = a0.tmps.size
 defers : a.defers = a0.defers

theorem wp_region_relJ {id : Nat} {l : List Oper} {Q : Exit → Act → World → Prop} {a0 : Act} {w0 : World} (C : World → Prop) (R : World → World → Prop) (Y : Nat → Value → World → Prop)
  (hm : P.follows .mixedOrders = true) (hB : relB l.toArray a0.tmps.size = true) (hC : C w0.drew)
  (hst : ∀ k v w w', Y k v w → R w w' → Y k v w')
  (hop : obligs P l.toArray a0 C R Y l 0)
  (hend : ∀ a w, C w → (∀ k o, l.toArray[k]? = some o → ∃ v, Y k v w ∧ ∀ s, o.dst = some s → a.tmps.getD s undef = v) →
   (∀ s, (∀ (k : Nat) (o : Oper), l.toArray[k]? = some o → o.dst ≠ some s) → a.tmps.getD s undef = a0.tmps.getD s undef) → a.tmps.size = a0.tmps.size → a.defers = a0.defers → Q .normal a w) :
  (Code.region id l.toArray true).wp P Q a0 w0 := by
 refine wp_region_any hm (wpAny_inv (RelJ l.toArray a0 C Y) ?_ ?_ _ _ _ _ ?_ (by simp) ?_)
 ·intro listed a w i hI hi
  obtain ⟨h2, o, ho, hall⟩ := mem_ready.1 hi
  obtain ⟨hg, hlt, hdst⟩ := relB_spec hB ho
  have hi' : i < l.toArray.size := (Array.getElem?_eq_some_iff.1 ho).1
  have hil : i < listed.size := by rw [hI.size]; exact hi'
  have hun : listed.getD i false = false := by simpa [hil] using h2
  unfold wpOp
  simp only [ho]
  rw [if_pos (by unfold Region.wanted; rw [hg])]
  refine .inl ?_
  have hob0 := obligs_at l 0 hop i o (by simpa using ho)
  rw [Nat.zero_add] at hob0
  have hob := hob0 a w hI.cls ?_ ?_ (fun u w' => Y i u w' ∧ C w' ∧ R w w') (fun u w' h1 h2 h3 => ⟨h1, h2, h3⟩)
  ·refine Oper.wp_mono (fun a' w' h => ?_) (opTo_wp hob)
   obtain ⟨v, rfl, hY, hCw, hR⟩ := h
   refine ⟨by simpa using hI.size, hCw, fun j oj hj hl e he hb => ?_, fun k ok hk hl => ?_, fun s hs => ?_, ?_, ?_⟩
   ·rcases listed_set hl with rfl | hl'
    ·rw [ho] at hj; cases hj
     have := hall e he hb
     by_cases hei : e.on = j
     ·rw [hei]; simp [hil]
     ·simpa [Array.getElem?_setIfInBounds, Ne.symm hei] using this
    ·have := hI.closed j oj hj hl' e he hb
     by_cases hei : e.on = i
     ·rw [hei]; simp [hil]
     ·simpa [Array.getElem?_setIfInBounds, Ne.symm hei] using this
   ·by_cases hki : k = i
    ·subst hki
     rw [ho] at hk; cases hk
     refine ⟨v, hY, fun s hs => ?_⟩
     rw [getD_put, if_pos ⟨hs, by rw [hI.tsize]; exact (hdst s hs).1⟩]
    ·rcases listed_set hl with h | h
     ·exact absurd h hki
     ·obtain ⟨v', hv', hs'⟩ := hI.done k ok hk h
      refine ⟨v', hst k _ _ _ hv' hR, fun s hs => ?_⟩
      rw [getD_put]
      have hne : o.dst ≠ some s := fun he => (hdst s he).2 k ok hki hk hs
      rw [if_neg (fun hh => hne hh.1)]
      exact hs' s hs
   ·rw [getD_put]
    have hne : o.dst ≠ some s := fun he => by
     have := hs i o ho he
     simp [hil] at this
    rw [if_neg (fun hh => hne hh.1)]
    refine hI.rest s fun k ok hk hsk => ?_
    have h5 := hs k ok hk hsk
    by_cases hki : k = i
    ·subst hki; exact hun
    ·simpa [Array.getElem?_setIfInBounds, Ne.symm hki] using h5
   ·show (a.put o.dst v).tmps.size = _
    rw [← hI.tsize]; unfold Act.put; cases o.dst <;> simp
   ·show (a.put o.dst v).defers = _
    rw [← hI.defers]; unfold Act.put; cases o.dst <;> rfl
  ·intro d od s hw hd hs
   obtain ⟨v, hv, he⟩ := hI.done d od hd (waits_listed hi hw)
   rw [he s hs]; exact hv
  ·intro s hs
   refine hI.rest s fun k ok hk hsk => ?_
   have hw := hs k ok hk hsk
   unfold waits at hw
   simp only [hk] at hw
   obtain ⟨e, he, hb⟩ := Array.any_eq_true'.1 hw
   simp only [Bool.and_eq_true, beq_iff_eq] at hb
   cases hlk : listed.getD k false with
   | false => rfl
   | true =>
    have := hI.closed k ok hk hlk e he hb.1
    rw [hb.2, hun] at this
    exact absurd this (by decide)
 ·intro listed a w hI hr
  have hl : ∀ k, k < l.toArray.size → listed.getD k false = true := by
   intro k
   induction k using Nat.strongRecOn with
   | _ k ih =>
    intro hk
    cases hlk : listed.getD k false with
    | true => rfl
    | false =>
     exfalso
     have hkl : k < listed.size := by rw [hI.size]; exact hk
     have ho : l.toArray[k]? = some l.toArray[k] := Array.getElem?_eq_getElem hk
     have hmem : k ∈ Region.ready .any l.toArray listed := mem_ready.2 ⟨by simpa [hkl] using hlk, _, ho, fun e he hb => by
      have h1 := (relB_spec hB ho).2.1 e he hb
      exact ih e.on h1 (by omega)⟩
     rw [hr] at hmem; cases hmem
  exact hend a w hI.cls (fun k o hk => hI.done k o hk (hl k (Array.getElem?_eq_some_iff.1 hk).1)) (fun s hs => hI.rest s fun k o hk hsk => absurd hsk (hs k o hk)) hI.tsize hI.defers
 ·have : (Array.replicate l.toArray.size false).toList.count false ≤ l.toArray.size := by
   have := List.count_le_length (a := false) (l := (Array.replicate l.toArray.size false).toList)
   simp only [Array.length_toList, Array.size_replicate] at this
   exact this
  exact this
 ·refine ⟨by simp, hC, fun j oj hj hl => ?_, fun k o hk hl => ?_, fun s _ => rfl, rfl, rfl⟩
  ·exact absurd hl (by rw [replicate_false_getD]; decide)
  ·exact absurd hl (by rw [replicate_false_getD]; decide)

theorem wp_region_rel9 {id : Nat} {l : List Oper} {Q : Exit → Act → World → Prop} {a0 : Act} {w0 : World} (C : World → Prop) (R : World → World → Prop) (Y : Nat → Value → World → Prop)
  (hm : P.follows .mixedOrders = true) (hB : relB l.toArray a0.tmps.size = true) (hC : C w0.drew)
  (hst : ∀ k v w w', Y k v w → R w w' → Y k v w')
  (hop : obligs P l.toArray a0 C R Y l 0)
  (hend : ∀ vals w, C w → (∀ k o, l[k]? = some o → Y k (vals k) w) → Q .normal (putAll l 0 vals a0) w) :
  (Code.region id l.toArray true).wp P Q a0 w0 := by
 refine wp_region_relJ C R Y hm hB hC hst hop fun a w hCw hY hrest hsz hdf => ?_
 obtain ⟨vals, hvals⟩ : ∃ vals : Nat → Value, ∀ k o, l[k]? = some o → Y k (vals k) w ∧ ∀ s, o.dst = some s → a.tmps.getD s undef = vals k := by
  have h1 : ∀ k, ∃ v, ∀ o, l[k]? = some o → Y k v w ∧ ∀ s, o.dst = some s → a.tmps.getD s undef = v := fun k => by
   cases h : l[k]? with
   | none => exact ⟨undef, fun o ho => by cases ho⟩
   | some x =>
    obtain ⟨v, hv, hs⟩ := hY k x (by simpa using h)
    exact ⟨v, fun o ho => by cases ho; exact ⟨hv, hs⟩⟩
  exact ⟨fun k => Classical.choose (h1 k), fun k => Classical.choose_spec (h1 k)⟩
 have e : a = putAll l 0 vals a0 := by
  refine act_ext (by rw [putAll_size]; exact hsz) (fun s => ?_) (by rw [putAll_defers]; exact hdf)
  by_cases h : ∃ (i : Nat) (o : Oper), l[i]? = some o ∧ o.dst = some s
  ·obtain ⟨i, o, hi, hs⟩ := h
   have hsp := (relB_spec hB (i := i) (o := o) (by simpa using hi)).2.2 s hs
   rw [putAll_at l 0 _ a0 i o s (fun j oj hj hjo => hsp.2 j oj hj (by simpa using hjo)) hi hs hsp.1, Nat.zero_add]
   exact (hvals i o hi).2 s hs
  ·rw [putAll_not l 0 _ a0 s (fun o ho he => by
    obtain ⟨j, hj, hjo⟩ := List.mem_iff_getElem.1 ho
    exact h ⟨j, o, by simp [hj, hjo], he⟩)]
   exact hrest s fun k o hk he => h ⟨k, o, by simpa using hk, he⟩
 rw [e]
 exact hend _ w hCw fun k o hk => (hvals k o hk).1
end
end Go.Proofs.YtafckmbgefbonaaGreat.nb
