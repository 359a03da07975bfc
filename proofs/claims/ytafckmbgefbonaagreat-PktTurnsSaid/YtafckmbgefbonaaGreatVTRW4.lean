/- T R W: contracts, part 4. Condition: as each says. -/
import Derived.Test.YtafckmbgefbonaaGreatVTRW3
import Derived.Orders
set_option linter.unusedVariables false
set_option linter.unusedSimpArgs false
set_option maxRecDepth 100000
set_option maxHeartbeats 8000000
namespace Go.Proofs.YtafckmbgefbonaaGreat.nb
open RowKit Shelf

section
variable {P : Program}

def opUpon (P : Program) (K : Value → World → Prop) : Result Next → Prop
 | .ok (.value v) w' => K v w'
 | .ok .skip w' => K undef w'
 | .ok (.enter f args) w' => Calls P f args w' (fun e w'' => ∃ v, e = .returned v ∧ K v w'')
 | _ => False
def opTo (P : Program) (o : Oper) (a : Act) (w : World) (K : Value → World → Prop) : Prop := opUpon P K ((execOp a.eval o).run P w)
theorem opTo_wp {o : Oper} {a : Act} {w : World} {K : Value → World → Prop} {Q : Exit → Act → World → Prop} (h : opTo P o a w K) : o.wp P a w (fun a' w' => ∃ v, a' = a.put o.dst v ∧ K v w') Q := by
 unfold opTo at h
 unfold Oper.wp
 generalize (execOp a.eval o).run P w = r at *
 cases r with
 | ok n w' =>
  cases n <;> simp only [opUpon] at h <;> simp only [Oper.upon]
  case value u => exact ⟨u, rfl, h⟩
  case skip => exact ⟨_, rfl, h⟩
  case enter f args => exact h.mono fun e w'' ⟨v, he, hk⟩ => by subst he; exact ⟨v, rfl, hk⟩
 | halt x w' => simp only [opUpon] at h

theorem wpAny_inv {ops : Array Oper} {Q : Exit → Act → World → Prop} (I : Array Bool → Act → World → Prop)
  (hstep : ∀ listed a w i, I listed a w → i ∈ Region.ready .any ops listed → wpOp P ops Q i (fun a' w' => I (listed.setIfInBounds i true) a' w') a w)
  (hend : ∀ listed a w, I listed a w → Region.ready .any ops listed = [] → Q .normal a w) :
  ∀ (fuel : Nat) (listed : Array Bool) (a : Act) (w : World), (listed.toList.count false ≤ fuel) → listed.size = ops.size → I listed a w → wpAny P .any ops Q fuel listed a w
 | 0, listed, a, w, hf, hs, h => by
  have hr : Region.ready .any ops listed = [] := by
   rw [List.eq_nil_iff_forall_not_mem]
   intro i hi
   obtain ⟨h1, o, ho, _⟩ := mem_ready.1 hi
   have hi' : i < ops.size := (Array.getElem?_eq_some_iff.1 ho).1
   have hil : i < listed.size := by omega
   have : false ∈ listed.toList := by
    have e : listed[i] = false := by simpa [hil] using h1
    rw [← e]; simp
   have := List.count_pos_iff.2 this
   omega
  exact ⟨hr, hend listed a w h hr⟩
 | fuel + 1, listed, a, w, hf, hs, h => by
  refine ⟨fun h0 => hend listed a w h h0, fun i hi => ?_⟩
  have h1 := hstep listed a w i h hi
  obtain ⟨h2, o, ho, _⟩ := mem_ready.1 hi
  have hi' : i < ops.size := (Array.getElem?_eq_some_iff.1 ho).1
  have hil : i < listed.size := by omega
  have hf' : (listed.setIfInBounds i true).toList.count false ≤ fuel := by
   have e : listed.toList[i]'(by simpa using hil) = false := by simpa [hil] using h2
   rw [Array.toList_setIfInBounds, List.count_set (by simpa using hil)]
   simp only [e]
   simp
   have : 0 < listed.toList.count false := List.count_pos_iff.2 (by rw [← e]; simp)
   have e3 : listed.toList.count false = Array.count false listed := by simp
   omega
  refine wpOp_mono (fun a' w' h' => wpAny_inv I hstep hend fuel _ a' w' hf' (by simpa using hs) h') h1

def waits (ops : Array Oper) (j i : Nat) : Bool := match ops[j]? with
 | some o => o.after.any fun e => Region.binds .any e && e.on == i
 | none => false
def relB (ops : Array Oper) (n : Nat) : Bool :=
  (List.range ops.size).all fun i => match ops[i]? with
    | none => true
    | some o => o.guard.isNone && (o.after.all fun e => !Region.binds .any e || decide (e.on < i)) &&
      (match o.dst with
       | none => true
       | some s => decide (s < n) && (List.range ops.size).all fun j => decide (j = i) || (match ops[j]? with | some oj => oj.dst != some s | none => true))
theorem relB_spec {ops : Array Oper} {n : Nat} (h : relB ops n = true) {i : Nat} {o : Oper} (ho : ops[i]? = some o) :
  o.guard = none ∧ (∀ e ∈ o.after, Region.binds .any e = true → e.on < i) ∧ ∀ s, o.dst = some s → s < n ∧ ∀ j oj, j ≠ i → ops[j]? = some oj → oj.dst ≠ some s := by
 have hi : i < ops.size := (Array.getElem?_eq_some_iff.1 ho).1
 have h1 := List.all_eq_true.1 h i (List.mem_range.2 hi)
 simp only [ho, Bool.and_eq_true] at h1
 obtain ⟨⟨h2, h3⟩, h4⟩ := h1
 refine ⟨by simpa using h2, fun e he hb => ?_, fun s hs => ?_⟩
 ·have h5 := Array.all_eq_true'.1 h3 e he
  simpa [hb] using h5
 ·simp only [hs, Bool.and_eq_true, decide_eq_true_eq] at h4
  refine ⟨h4.1, fun j oj hj hoj he => ?_⟩
  have hjl : j < ops.size := (Array.getElem?_eq_some_iff.1 hoj).1
  have h5 := List.all_eq_true.1 h4.2 j (List.mem_range.2 hjl)
  simp [hj, hoj, he] at h5

structure RelI (ops : Array Oper) (a0 : Act) (C : World → Prop) (Y : Nat → Value → World → Prop) (listed : Array Bool) (a : Act) (w : World) : Prop where
 size : listed.size = ops.size
 cls : C w
 closed : ∀ j oj, ops[j]? = some oj → listed.getD j false = true → ∀ e ∈ oj.after, Region.binds .any e = true → listed.getD e.on false = true
 done : ∀ k o s, ops[k]? = some o → o.dst = some s → listed.getD k false = true → Y k (a.tmps.getD s undef) w
 rest : ∀ s, (∀ k o, ops[k]? = some o → o.dst = some s → listed.getD k false = false) → a.tmps.getD s undef = a0.tmps.getD s undef
 tsize : a.tmps.size = a0.tmps.size
 defers : a.defers = a0.defers

def oblig (P : Program) (ops : Array Oper) (a0 : Act) (C : World → Prop) (R : World → World → Prop) (Y : Nat → Value → World → Prop) (i : Nat) (o : Oper) : Prop :=
 ∀ (a : Act) (w : World), C w → (∀ d od s, waits ops i d = true → ops[d]? = some od → od.dst = some s → Y d (a.tmps.getD s undef) w) →
  (∀ s, (∀ k ok, ops[k]? = some ok → ok.dst = some s → waits ops k i = true) → a.tmps.getD s undef = a0.tmps.getD s undef) →
  ∀ K : Value → World → Prop, (∀ u w', Y i u w' → C w' → R w w' → K u w') → opTo P o a w K
def obligs (P : Program) (ops : Array Oper) (a0 : Act) (C : World → Prop) (R : World → World → Prop) (Y : Nat → Value → World → Prop) : List Oper → Nat → Prop
 | [], _ => True
 | o :: t, k => oblig P ops a0 C R Y k o ∧ obligs P ops a0 C R Y t (k + 1)
theorem obligs_at {ops : Array Oper} {a0 : Act} {C : World → Prop} {R : World → World → Prop} {Y : Nat → Value → World → Prop} : ∀ (l : List Oper) (k : Nat), obligs P ops a0 C R Y l k → ∀ i o, l[i]? = some o → oblig P ops a0 C R Y (k + i) o
 | [], _, _, i, o, ho => by simp at ho
 | x :: t, k, h, 0, o, ho => by
  obtain rfl : x = o := by simpa using ho
  exact h.1
 | x :: t, k, h, i + 1, o, ho => by
  have := obligs_at t (k + 1) h.2 i o (by simpa using ho)
  rwa [show k + 1 + i = k + (i + 1) by omega] at this

theorem getD_put (a : Act) (d : Option Tmp) (u : Value) (s : Nat) : (a.put d u).tmps.getD s undef = if d = some s ∧ s < a.tmps.size then u else a.tmps.getD s undef := by
 cases d with
 | none => simp [Act.put]
 | some t =>
  by_cases h : t = s
  ·subst h
   by_cases h2 : t < a.tmps.size
   ·simp [Act.put, h2]
   ·simp [Act.put, h2]
  ·simp [Act.put, h, Array.getElem?_setIfInBounds]
theorem listed_set {listed : Array Bool} {i k : Nat} (h : (listed.setIfInBounds i true).getD k false = true) : k = i ∨ listed.getD k false = true := by
 by_cases hk : k = i
 ·exact .inl hk
 ·right
  simpa [Array.getElem?_setIfInBounds, Ne.symm hk] using h

theorem replicate_false_getD (m j : Nat) : (Array.replicate m false).getD j false = false := by
 by_cases h : j < m
 ·simp [h]
 ·simp [h]

theorem wp_region_rel {id : Nat} {l : List Oper} {Q : Exit → Act → World → Prop} {a0 : Act} {w0 : World} (C : World → Prop) (R : World → World → Prop) (Y : Nat → Value → World → Prop)
  (hm : P.follows .mixedOrders = true) (hB : relB l.toArray a0.tmps.size = true) (hC : C w0.drew)
  (hst : ∀ k v w w', Y k v w → R w w' → Y k v w')
  (hop : obligs P l.toArray a0 C R Y l 0)
  (hend : ∀ a w, C w → (∀ k o s, l.toArray[k]? = some o → o.dst = some s → Y k (a.tmps.getD s undef) w) →
   (∀ s, (∀ (k : Nat) (o : Oper), l.toArray[k]? = some o → o.dst ≠ some s) → a.tmps.getD s undef = a0.tmps.getD s undef) → a.tmps.size = a0.tmps.size → a.defers = a0.defers → Q .normal a w) :
  (Code.region id l.toArray true).wp P Q a0 w0 := by
 refine wp_region_any hm (wpAny_inv (RelI l.toArray a0 C Y) ?_ ?_ _ _ _ _ ?_ (by simp) ?_)
 ·intro listed a w i hI hi
  obtain ⟨h2, o, ho, hall⟩ := mem_ready.1 hi
  obtain ⟨hg, hlt, hdst⟩ := relB_spec hB ho
  have hi' : i < l.toArray.size := (Array.getElem?_eq_some_iff.1 ho).1
  have hil : i < listed.size := by rw [hI.size]; exact hi'
  have hun : listed.getD i false = false := by simpa [hil] using h2
  unfold wpOp
  simp only [ho]
  rw [if_pos (by unfold Region.wanted; rw [hg])]
  refine .inl ?_
  have hob0 := obligs_at l 0 hop i o (by simpa using ho)
  rw [Nat.zero_add] at hob0
  have hob := hob0 a w hI.cls ?_ ?_ (fun u w' => Y i u w' ∧ C w' ∧ R w w') (fun u w' h1 h2 h3 => ⟨h1, h2, h3⟩)
  ·refine Oper.wp_mono (fun a' w' h => ?_) (opTo_wp hob)
   obtain ⟨v, rfl, hY, hCw, hR⟩ := h
   refine ⟨by simpa using hI.size, hCw, fun j oj hj hl e he hb => ?_, fun k ok s hk hs hl => ?_, fun s hs => ?_, ?_, ?_⟩
   ·rcases listed_set hl with rfl | hl'
    ·rw [ho] at hj; cases hj
     have := hall e he hb
     by_cases hei : e.on = j
     ·rw [hei]; simp [hil]
     ·simpa [Array.getElem?_setIfInBounds, Ne.symm hei] using this
    ·have := hI.closed j oj hj hl' e he hb
     by_cases hei : e.on = i
     ·rw [hei]; simp [hil]
     ·simpa [Array.getElem?_setIfInBounds, Ne.symm hei] using this
   ·rw [getD_put]
    by_cases hki : k = i
    ·subst hki
     rw [ho] at hk; cases hk
     rw [if_pos ⟨hs, by rw [hI.tsize]; exact (hdst s hs).1⟩]
     exact hY
    ·have hne : o.dst ≠ some s := fun he => (hdst s he).2 k ok hki hk hs
     rw [if_neg (fun hh => hne hh.1)]
     rcases listed_set hl with h | h
     ·exact absurd h hki
     ·exact hst k _ _ _ (hI.done k ok s hk hs h) hR
   ·rw [getD_put]
    have hne : o.dst ≠ some s := fun he => by
     have := hs i o ho he
     simp [hil] at this
    rw [if_neg (fun hh => hne hh.1)]
    refine hI.rest s fun k ok hk hsk => ?_
    have h5 := hs k ok hk hsk
    by_cases hki : k = i
    ·subst hki; exact hun
    ·simpa [Array.getElem?_setIfInBounds, Ne.symm hki] using h5
   ·show (a.put o.dst v).tmps.size = _
    rw [← hI.tsize]; unfold Act.put; cases o.dst <;> simp
   ·show (a.put o.dst v).defers = _
    rw [← hI.defers]; unfold Act.put; cases o.dst <;> rfl
  ·intro d od s hw hd hs
   refine hI.done d od s hd hs ?_
   unfold waits at hw
   simp only [ho] at hw
   obtain ⟨e, he, hb⟩ := Array.any_eq_true'.1 hw
   simp only [Bool.and_eq_true, beq_iff_eq] at hb
   rw [← hb.2]; exact hall e he hb.1
  ·intro s hs
   refine hI.rest s fun k ok hk hsk => ?_
   have hw := hs k ok hk hsk
   unfold waits at hw
   simp only [hk] at hw
   obtain ⟨e, he, hb⟩ := Array.any_eq_true'.1 hw
   simp only [Bool.and_eq_true, beq_iff_eq] at hb
   cases hlk : listed.getD k false with
   | false => rfl
   | true =>
    have := hI.closed k ok hk hlk e he hb.1
    rw [hb.2, hun] at this
    exact absurd this (by decide)
 ·intro listed a w hI hr
  have hl : ∀ k, k < l.toArray.size → listed.getD k false = true := by
   intro k
   induction k using Nat.strongRecOn with
   | _ k ih =>
    intro hk
    cases hlk : listed.getD k false with
    | true => rfl
    | false =>
     exfalso
     have hkl : k < listed.size := by rw [hI.size]; exact hk
     have ho : l.toArray[k]? = some l.toArray[k] := Array.getElem?_eq_getElem hk
     have hmem : k ∈ Region.ready .any l.toArray listed := mem_ready.2 ⟨by simpa [hkl] using hlk, _, ho, fun e he hb => by
      have h1 := (relB_spec hB ho).2.1 e he hb
      exact ih e.on h1 (by omega)⟩
     rw [hr] at hmem; cases hmem
  exact hend a w hI.cls (fun k o s hk hs => hI.done k o s hk hs (hl k (Array.getElem?_eq_some_iff.1 hk).1)) (fun s hs => hI.rest s fun k o hk hsk => absurd hsk (hs k o hk)) hI.tsize hI.defers
 ·have : (Array.replicate l.toArray.size false).toList.count false ≤ l.toArray.size := by
   have := List.count_le_length (a := false) (l := (Array.replicate l.toArray.size false).toList)
   simp only [Array.length_toList, Array.size_replicate] at this
   exact this
  exact this
 ·refine ⟨by simp, hC, fun j oj hj hl => ?_, fun k o s hk hs hl => ?_, fun s _ => rfl, rfl, rfl⟩
  ·exact absurd hl (by rw [replicate_false_getD]; decide)
  ·exact absurd hl (by rw [replicate_false_getD]; decide)

def putAll : List Oper → Nat → (Nat → Value) → Act → Act
 | [], _, _, a => a
 | o :: t, k, vals, a => putAll t (k + 1) vals (a.put o.dst (vals k))
theorem putAll_size : ∀ (l : List Oper) (k : Nat) (vals : Nat → Value) (a : Act), (putAll l k vals a).tmps.size = a.tmps.size
 | [], _, _, _ => rfl
 | o :: t, k, vals, a => by
  show (putAll t (k + 1) vals (a.put o.dst (vals k))).tmps.size = _
  rw [putAll_size t]; unfold Act.put; cases o.dst <;> simp
theorem putAll_defers : ∀ (l : List Oper) (k : Nat) (vals : Nat → Value) (a : Act), (putAll l k vals a).defers = a.defers
 | [], _, _, _ => rfl
 | o :: t, k, vals, a => by
  show (putAll t (k + 1) vals (a.put o.dst (vals k))).defers = _
  rw [putAll_defers t]; unfold Act.put; cases o.dst <;> rfl
theorem putAll_not : ∀ (l : List Oper) (k : Nat) (vals : Nat → Value) (a : Act) (s : Nat), (∀ o ∈ l, o.dst ≠ some s) → (putAll l k vals a).tmps.getD s undef = a.tmps.getD s undef
 | [], _, _, _, _, _ => rfl
 | o :: t, k, vals, a, s, h => by
  show (putAll t (k + 1) vals (a.put o.dst (vals k))).tmps.getD s undef = _
  rw [putAll_not t _ _ _ s (fun o' ho' => h o' (List.mem_cons_of_mem _ ho')), getD_put, if_neg (fun hh => h o List.mem_cons_self hh.1)]
theorem putAll_at : ∀ (l : List Oper) (k : Nat) (vals : Nat → Value) (a : Act) (i : Nat) (o : Oper) (s : Nat), (∀ j oj, j ≠ i → l[j]? = some oj → oj.dst ≠ some s) → l[i]? = some o → o.dst = some s → s < a.tmps.size →
  (putAll l k vals a).tmps.getD s undef = vals (k + i)
 | [], _, _, _, i, o, s, _, h, _, _ => by simp at h
 | x :: t, k, vals, a, 0, o, s, hd, h, hs, hl => by
  obtain rfl : x = o := by simpa using h
  show (putAll t (k + 1) vals (a.put x.dst (vals k))).tmps.getD s undef = _
  rw [putAll_not t _ _ _ s (fun o' ho' => by
   obtain ⟨j, hj, hjo⟩ := List.mem_iff_getElem.1 ho'
   exact hd (j + 1) o' (by omega) (by simp [hj, hjo])), getD_put, if_pos ⟨hs, hl⟩]
  rfl
 | x :: t, k, vals, a, i + 1, o, s, hd, h, hs, hl => by
  show (putAll t (k + 1) vals (a.put x.dst (vals k))).tmps.getD s undef = _
  rw [putAll_at t (k + 1) vals _ i o s (fun j oj hj hjo => hd (j + 1) oj (by omega) (by simpa using hjo)) (by simpa using h) hs (by unfold Act.put; cases x.dst <;> simpa using hl)]
  rw [show k + 1 + i = k + (i + 1) by omega]
def dstOf (l : List Oper) (k : Nat) : Nat := ((l[k]?).bind (·.dst)).getD 0
theorem act_ext {a b : Act} (h1 : a.tmps.size = b.tmps.size) (h2 : ∀ s, a.tmps.getD s undef = b.tmps.getD s undef) (h3 : a.defers = b.defers) : a = b := by
 obtain ⟨x, p⟩ := a
 obtain ⟨y, q⟩ := b
 simp only at h1 h2 h3
 subst h3
 have : x = y := by
  apply Array.ext h1
  intro i hi hj
  have := h2 i
  simpa [hi, hj] using this
 rw [this]

theorem wp_region_rel2 {id : Nat} {l : List Oper} {Q : Exit → Act → World → Prop} {a0 : Act} {w0 : World} (C : World → Prop) (R : World → World → Prop) (Y : Nat → Value → World → Prop)
  (hm : P.follows .mixedOrders = true) (hB : relB l.toArray a0.tmps.size = true) (hC : C w0.drew)
  (hst : ∀ k v w w', Y k v w → R w w' → Y k v w')
  (hop : obligs P l.toArray a0 C R Y l 0)
  (hend : ∀ vals w, C w → (∀ k o s, l[k]? = some o → o.dst = some s → Y k (vals k) w) → Q .normal (putAll l 0 vals a0) w) :
  (Code.region id l.toArray true).wp P Q a0 w0 := by
 refine wp_region_rel C R Y hm hB hC hst hop fun a w hCw hY hrest hsz hdf => ?_
 have e : a = putAll l 0 (fun k => a.tmps.getD (dstOf l k) undef) a0 := by
  refine act_ext (by rw [putAll_size]; exact hsz) (fun s => ?_) (by rw [putAll_defers]; exact hdf)
  by_cases h : ∃ (i : Nat) (o : Oper), l[i]? = some o ∧ o.dst = some s
  ·obtain ⟨i, o, hi, hs⟩ := h
   have hsp := (relB_spec hB (i := i) (o := o) (by simpa using hi)).2.2 s hs
   rw [putAll_at l 0 _ a0 i o s (fun j oj hj hjo => hsp.2 j oj hj (by simpa using hjo)) hi hs hsp.1, Nat.zero_add]
   show _ = a.tmps.getD (dstOf l i) undef
   unfold dstOf
   rw [hi]
   simp [hs]
  ·rw [putAll_not l 0 _ a0 s (fun o ho he => by
    obtain ⟨j, hj, hjo⟩ := List.mem_iff_getElem.1 ho
    exact h ⟨j, o, by simp [hj, hjo], he⟩)]
   exact hrest s fun k o hk he => h ⟨k, o, by simpa using hk, he⟩
 rw [e]
 refine hend _ w hCw fun k o s hk hs => ?_
 show Y k (a.tmps.getD (dstOf l k) undef) w
 have : dstOf l k = s := by unfold dstOf; rw [hk]; simp [hs]
 rw [this]
 exact hY k o s (by simpa using hk) hs

def tailB (ops : Array Oper) (n : Nat) : Bool := (List.range ops.size).all fun i => decide (i < n) || (List.range i).all fun j => waits ops i j
theorem tailB_spec {ops : Array Oper} {n i j : Nat} (h : tailB ops n = true) (hi : i < ops.size) (hn : n ≤ i) (hj : j < i) : waits ops i j = true := by
 have h1 := List.all_eq_true.1 h i (List.mem_range.2 hi)
 rw [Bool.or_eq_true] at h1
 rcases h1 with h1 | h1
 ·have := of_decide_eq_true h1; omega
 ·exact List.all_eq_true.1 h1 j (List.mem_range.2 hj)
theorem waits_listed {ops : Array Oper} {listed : Array Bool} {i j : Nat} (hi : i ∈ Region.ready .any ops listed) (h : waits ops i j = true) : listed.getD j false = true := by
 obtain ⟨_, o, ho, hall⟩ := mem_ready.1 hi
 unfold waits at h
 simp only [ho] at h
 obtain ⟨e, he, hb⟩ := Array.any_eq_true'.1 h
 simp only [Bool.and_eq_true, beq_iff_eq] at hb
 rw [← hb.2]; exact hall e he hb.1

theorem wp_region_rel3 {id : Nat} (l tl : List Oper) {Q : Exit → Act → World → Prop} {a0 : Act} {w0 : World} (C : World → Prop) (R : World → World → Prop) (Y : Nat → Value → World → Prop)
  (hm : P.follows .mixedOrders = true) (hB : relB (l ++ tl).toArray a0.tmps.size = true) (hT : tailB (l ++ tl).toArray l.length = true) (hC : C w0.drew)
  (hst : ∀ k v w w', Y k v w → R w w' → Y k v w')
  (hop : obligs P (l ++ tl).toArray a0 C R Y l 0)
  (hend : ∀ vals w, C w → (∀ k o s, l[k]? = some o → o.dst = some s → Y k (vals k) w) → wpList P (l ++ tl).toArray Q tl (putAll l 0 vals a0) w) :
  (Code.region id (l ++ tl).toArray true).wp P Q a0 w0 := by
 have hops : ∀ k, k < l.length → (l ++ tl).toArray[k]? = l[k]? := fun k hk => by simp [List.getElem?_append_left hk]
 have hopt : ∀ j, (l ++ tl).toArray[l.length + j]? = tl[j]? := fun j => by simp [List.getElem?_append_right]
 have hsz : (l ++ tl).toArray.size = l.length + tl.length := by simp
 let I1 : Array Bool → Act → World → Prop := fun listed a w => RelI (l ++ tl).toArray a0 C Y listed a w ∧ ∀ k, l.length ≤ k → listed.getD k false = false
 let I2 : Array Bool → Act → World → Prop := fun listed a w => ∃ j, j ≤ tl.length ∧ listed.size = (l ++ tl).toArray.size ∧ (∀ k, k < l.length + j → listed.getD k false = true) ∧ (∀ k, l.length + j ≤ k → listed.getD k false = false) ∧ wpList P (l ++ tl).toArray Q (tl.drop j) a w
 have step2 : ∀ listed a w i, I2 listed a w → i ∈ Region.ready .any (l ++ tl).toArray listed → wpOp P (l ++ tl).toArray Q i (fun a' w' => I1 (listed.setIfInBounds i true) a' w' ∨ I2 (listed.setIfInBounds i true) a' w') a w := by
  rintro listed a w i ⟨j, hj, hls, h1, h2, h3⟩ hi
  obtain ⟨hu, o, ho, hall⟩ := mem_ready.1 hi
  have hi' : i < (l ++ tl).toArray.size := (Array.getElem?_eq_some_iff.1 ho).1
  have hil : i < listed.size := by omega
  have hun : listed.getD i false = false := by simpa [hil] using hu
  have hge : l.length + j ≤ i := by
   rcases Nat.lt_or_ge i (l.length + j) with h | h
   ·rw [h1 i h] at hun; cases hun
   ·exact h
  have hij : i = l.length + j := by
   rcases Nat.lt_or_ge (l.length + j) i with h | h
   ·have := waits_listed hi (tailB_spec hT hi' (by omega) h)
    rw [h2 _ (Nat.le_refl _)] at this; cases this
   ·omega
  subst hij
  have htj : tl[j]? = some o := by rw [← hopt]; exact ho
  have hjl : j < tl.length := (List.getElem?_eq_some_iff.1 htj).1
  have hdrop : tl.drop j = o :: tl.drop (j + 1) := by
   rw [List.drop_eq_getElem_cons hjl]
   congr 1
   exact (List.getElem?_eq_some_iff.1 htj).2
  rw [hdrop] at h3
  have hg := (relB_spec hB ho).1
  unfold wpOp
  simp only [ho]
  have hw : Region.wanted o (yielded (l ++ tl).toArray a.tmps) = true := by unfold Region.wanted; rw [hg]
  unfold wpList at h3
  rw [if_pos hw] at h3 ⊢
  refine h3.imp (Oper.wp_mono (fun a' w' h => .inr ⟨j + 1, by omega, by simpa using hls, fun k hk => ?_, fun k hk => ?_, h⟩)) (fun x => x)
  ·by_cases hkj : k = l.length + j
   ·subst hkj; simp [hil]
   ·have := h1 k (by omega)
    simpa [Array.getElem?_setIfInBounds, Ne.symm hkj] using this
  ·have := h2 k (by omega)
   have hkj : k ≠ l.length + j := by omega
   simpa [Array.getElem?_setIfInBounds, Ne.symm hkj] using this
 have to2 : ∀ listed a w, I1 listed a w → (∀ k, k < l.length → listed.getD k false = true) → I2 listed a w := by
  rintro listed a w ⟨hI, ht⟩ hl
  refine ⟨0, Nat.zero_le _, hI.size, fun k hk => hl k (by omega), fun k hk => ht k (by omega), ?_⟩
  rw [List.drop_zero]
  have hlt : ∀ k o s, l[k]? = some o → o.dst = some s → Y k (a.tmps.getD s undef) w := fun k o s hk hs =>
   hI.done k o s (by rw [hops k (List.getElem?_eq_some_iff.1 hk).1]; exact hk) hs (hl k (List.getElem?_eq_some_iff.1 hk).1)
  have e : a = putAll l 0 (fun k => a.tmps.getD (dstOf l k) undef) a0 := by
   refine act_ext (by rw [putAll_size]; exact hI.tsize) (fun s => ?_) (by rw [putAll_defers]; exact hI.defers)
   by_cases h : ∃ (i : Nat) (o : Oper), l[i]? = some o ∧ o.dst = some s
   ·obtain ⟨i, o, hi, hs⟩ := h
    have hil := (List.getElem?_eq_some_iff.1 hi).1
    have hsp := (relB_spec hB (i := i) (o := o) (by rw [hops i hil]; exact hi)).2.2 s hs
    rw [putAll_at l 0 _ a0 i o s (fun j oj hj hjo => hsp.2 j oj hj (by rw [hops j (List.getElem?_eq_some_iff.1 hjo).1]; exact hjo)) hi hs hsp.1, Nat.zero_add]
    show _ = a.tmps.getD (dstOf l i) undef
    unfold dstOf
    rw [hi]
    simp [hs]
   ·rw [putAll_not l 0 _ a0 s (fun o ho he => by
     obtain ⟨j, hj, hjo⟩ := List.mem_iff_getElem.1 ho
     exact h ⟨j, o, by simp [hj, hjo], he⟩)]
    refine hI.rest s fun k o hk he => ?_
    rcases Nat.lt_or_ge k l.length with hk' | hk'
    ·exact absurd ⟨k, o, by rw [← hops k hk']; exact hk, he⟩ h
    ·exact ht k hk'
  rw [e]
  refine hend _ w hI.cls fun k o s hk hs => ?_
  show Y k (a.tmps.getD (dstOf l k) undef) w
  have : dstOf l k = s := by unfold dstOf; rw [hk]; simp [hs]
  rw [this]
  exact hlt k o s hk hs
 refine wp_region_any hm (wpAny_inv (fun listed a w => I1 listed a w ∨ I2 listed a w) ?_ ?_ _ _ _ _ ?_ (by simp) (.inl ⟨?_, ?_⟩))
 ·intro listed a w i hI hi
  rcases hI with hI | hI
  case inr => exact step2 listed a w i hI hi
  obtain ⟨hu, o, ho, hall⟩ := mem_ready.1 hi
  have hi' : i < (l ++ tl).toArray.size := (Array.getElem?_eq_some_iff.1 ho).1
  rcases Nat.lt_or_ge i l.length with hin | hin
  case inr =>
   exact step2 listed a w i (to2 listed a w hI fun k hk => waits_listed hi (tailB_spec hT hi' hin (by omega))) hi
  obtain ⟨hI, htl⟩ := hI
  obtain ⟨hg, hlt, hdst⟩ := relB_spec hB ho
  have hil : i < listed.size := by rw [hI.size]; exact hi'
  have hun : listed.getD i false = false := by simpa [hil] using hu
  unfold wpOp
  simp only [ho]
  rw [if_pos (by unfold Region.wanted; rw [hg])]
  refine .inl ?_
  have hob0 := obligs_at l 0 hop i o (by rw [← hops i hin]; exact ho)
  rw [Nat.zero_add] at hob0
  have hob := hob0 a w hI.cls ?_ ?_ (fun u w' => Y i u w' ∧ C w' ∧ R w w') (fun u w' h1 h2 h3 => ⟨h1, h2, h3⟩)
  ·refine Oper.wp_mono (fun a' w' h => ?_) (opTo_wp hob)
   obtain ⟨v, rfl, hY, hCw, hR⟩ := h
   refine .inl ⟨⟨by simpa using hI.size, hCw, fun j oj hj hl e he hb => ?_, fun k ok s hk hs hl => ?_, fun s hs => ?_, ?_, ?_⟩, fun k hk => ?_⟩
   ·rcases listed_set hl with rfl | hl'
    ·rw [ho] at hj; cases hj
     have := hall e he hb
     by_cases hei : e.on = j
     ·rw [hei]; simp [hil]
     ·simpa [Array.getElem?_setIfInBounds, Ne.symm hei] using this
    ·have := hI.closed j oj hj hl' e he hb
     by_cases hei : e.on = i
     ·rw [hei]; simp [hil]
     ·simpa [Array.getElem?_setIfInBounds, Ne.symm hei] using this
   ·rw [getD_put]
    by_cases hki : k = i
    ·subst hki
     rw [ho] at hk; cases hk
     rw [if_pos ⟨hs, by rw [hI.tsize]; exact (hdst s hs).1⟩]
     exact hY
    ·have hne : o.dst ≠ some s := fun he => (hdst s he).2 k ok hki hk hs
     rw [if_neg (fun hh => hne hh.1)]
     rcases listed_set hl with h | h
     ·exact absurd h hki
     ·exact hst k _ _ _ (hI.done k ok s hk hs h) hR
   ·rw [getD_put]
    have hne : o.dst ≠ some s := fun he => by
     have := hs i o ho he
     simp [hil] at this
    rw [if_neg (fun hh => hne hh.1)]
    refine hI.rest s fun k ok hk hsk => ?_
    have h5 := hs k ok hk hsk
    by_cases hki : k = i
    ·subst hki; exact hun
    ·simpa [Array.getElem?_setIfInBounds, Ne.symm hki] using h5
   ·show (a.put o.dst v).tmps.size = _
    rw [← hI.tsize]; unfold Act.put; cases o.dst <;> simp
   ·show (a.put o.dst v).defers = _
    rw [← hI.defers]; unfold Act.put; cases o.dst <;> rfl
   ·have h5 := htl k hk
    have hki : k ≠ i := by omega
    simpa [Array.getElem?_setIfInBounds, Ne.symm hki] using h5
  ·intro d od s hw hd hs
   exact hI.done d od s hd hs (waits_listed hi hw)
  ·intro s hs
   refine hI.rest s fun k ok hk hsk => ?_
   have hw := hs k ok hk hsk
   unfold waits at hw
   simp only [hk] at hw
   obtain ⟨e, he, hb⟩ := Array.any_eq_true'.1 hw
   simp only [Bool.and_eq_true, beq_iff_eq] at hb
   cases hlk : listed.getD k false with
   | false => rfl
   | true =>
    have := hI.closed k ok hk hlk e he hb.1
    rw [hb.2, hun] at this
    exact absurd this (by decide)
 ·intro listed a w hI hr
  have hl : ∀ (n : Nat), listed.size = (l ++ tl).toArray.size → n ≤ (l ++ tl).toArray.size → ∀ k, k < n → listed.getD k false = true := by
   intro n hls hn k
   induction k using Nat.strongRecOn with
   | _ k ih =>
    intro hk
    cases hlk : listed.getD k false with
    | true => rfl
    | false =>
     exfalso
     have hkl : k < listed.size := by omega
     have ho : (l ++ tl).toArray[k]? = some (l ++ tl).toArray[k] := Array.getElem?_eq_getElem (by omega)
     have hmem : k ∈ Region.ready .any (l ++ tl).toArray listed := mem_ready.2 ⟨by simpa [hkl] using hlk, _, ho, fun e he hb => by
      have h1 := (relB_spec hB ho).2.1 e he hb
      exact ih e.on h1 (by omega)⟩
     rw [hr] at hmem; cases hmem
  have hI2 : I2 listed a w := by
   rcases hI with hI | hI
   ·exact to2 listed a w hI fun k hk => hl l.length hI.1.size (by omega) k hk
   ·exact hI
  obtain ⟨j, hj, hls, h1, h2, h3⟩ := hI2
  rcases Nat.lt_or_ge j tl.length with hjl | hjl
  ·have := hl (l.length + j + 1) hls (by omega) (l.length + j) (by omega)
   rw [h2 _ (Nat.le_refl _)] at this; cases this
  ·rw [List.drop_of_length_le hjl] at h3
   exact h3
 ·have : (Array.replicate (l ++ tl).toArray.size false).toList.count false ≤ (l ++ tl).toArray.size := by
   have := List.count_le_length (a := false) (l := (Array.replicate (l ++ tl).toArray.size false).toList)
   simp only [Array.length_toList, Array.size_replicate] at this
   exact this
  exact this
 ·refine ⟨by simp, hC, fun j oj hj hl => ?_, fun k o s hk hs hl => ?_, fun s _ => rfl, rfl, rfl⟩
  ·exact absurd hl (by rw [replicate_false_getD]; decide)
  ·exact absurd hl (by rw [replicate_false_getD]; decide)
 ·intro k _
  exact replicate_false_getD _ _

theorem wp_region_rel4 {id : Nat} (n : Nat) {l : List Oper} {Q : Exit → Act → World → Prop} {a0 : Act} {w0 : World} (C : World → Prop) (R : World → World → Prop) (Y : Nat → Value → World → Prop)
  (hm : P.follows .mixedOrders = true) (hB : relB l.toArray a0.tmps.size = true) (hT : (decide (n ≤ l.length) && tailB l.toArray n) = true) (hC : C w0.drew)
  (hst : ∀ k v w w', Y k v w → R w w' → Y k v w')
  (hop : obligs P l.toArray a0 C R Y (l.take n) 0)
  (hend : ∀ vals w, C w → (∀ k o s, (l.take n)[k]? = some o → o.dst = some s → Y k (vals k) w) → wpList P l.toArray Q (l.drop n) (putAll (l.take n) 0 vals a0) w) :
  (Code.region id l.toArray true).wp P Q a0 w0 := by
 rw [Bool.and_eq_true] at hT
 have hn := of_decide_eq_true hT.1
 have hl : (l.take n).length = n := by rw [List.length_take]; omega
 have h := wp_region_rel3 (P := P) (id := id) (l.take n) (l.drop n) (Q := Q) (a0 := a0) (w0 := w0) C R Y hm (by rw [List.take_append_drop]; exact hB) (by rw [List.take_append_drop, hl]; exact hT.2) hC hst
  (by rw [List.take_append_drop]; exact hop) (by rw [List.take_append_drop]; exact hend)
 rwa [List.take_append_drop] at h
def slotOk (ops : Array Oper) (s i : Nat) : Bool := (List.range ops.size).all fun k => match ops[k]? with
 | some o => o.dst != some s || waits ops k i
 | none => true
theorem slotOk_spec {ops : Array Oper} {s i : Nat} (h : slotOk ops s i = true) : ∀ k ok, ops[k]? = some ok → ok.dst = some s → waits ops k i = true := fun k ok hk hs => by
 have hk' : k < ops.size := (Array.getElem?_eq_some_iff.1 hk).1
 have h1 := List.all_eq_true.1 h k (List.mem_range.2 hk')
 simpa [hk, hs] using h1
abbrev Det (u : Value) : Value → World → Prop := fun v _ => v = u
abbrev Fresh (n : Nat) (cs : List Value) : Value → World → Prop := fun v W => ∃ g, v = .slice (some ⟨g, 0, none⟩) n n ∧ Box W g cs
abbrev Ys (ys : List (Value → World → Prop)) : Nat → Value → World → Prop := fun k => ys.getD k (fun _ _ => True)
abbrev New (B : Nat) (cs : List Value) : Value → World → Prop := fun v W => ∃ g, v = .pointer (some ⟨g, 0, none⟩) ∧ B ≤ g ∧ Box W g cs
theorem New.st (B : Nat) (cs : List Value) : ∀ v w w', New B cs v w → Up w w' → New B cs v w' := fun _ _ _ ⟨g, h1, h2, h3⟩ hu => ⟨g, h1, h2, h3.up hu⟩
def Stable : List (Value → World → Prop) → Prop
 | [] => True
 | p :: t => (∀ v w w', p v w → Up w w' → p v w') ∧ Stable t
theorem Det.st (u : Value) : ∀ v w w', Det u v w → Up w w' → Det u v w' := fun _ _ _ h _ => h
theorem Fresh.st (n : Nat) (cs : List Value) : ∀ v w w', Fresh n cs v w → Up w w' → Fresh n cs v w' := fun _ _ _ ⟨g, h1, h2⟩ hu => ⟨g, h1, h2.up hu⟩
theorem Stable.ys : ∀ {ys : List (Value → World → Prop)}, Stable ys → ∀ k v w w', Ys ys k v w → Up w w' → Ys ys k v w'
 | [], _, _, _, _, _, h, _ => h
 | p :: t, hs, 0, v, w, w', h, hu => hs.1 v w w' h hu
 | p :: t, hs, k + 1, v, w, w', h, hu => Stable.ys (ys := t) hs.2 k v w w' h hu

def depB (ops : Array Oper) (i d s : Nat) : Bool := waits ops i d && (match ops[d]? with | some od => od.dst == some s | none => false)
theorem dep_of {ops : Array Oper} {Y : Nat → Value → World → Prop} {i : Nat} {a : Act} {w : World} (h : ∀ d od s, waits ops i d = true → ops[d]? = some od → od.dst = some s → Y d (a.tmps.getD s undef) w)
  (d s : Nat) (hb : depB ops i d s = true) : Y d (a.tmps.getD s undef) w := by
 unfold depB at hb
 rw [Bool.and_eq_true] at hb
 obtain ⟨h1, h2⟩ := hb
 split at h2
 ·rename_i od ho
  exact h d od s h1 ho (by simpa using h2)
 ·exact absurd h2 (by decide)
theorem obligs_cons {ops : Array Oper} {a0 : Act} {C : World → Prop} {R : World → World → Prop} {Y : Nat → Value → World → Prop} {o : Oper} {t : List Oper} {k : Nat}
  (h : oblig P ops a0 C R Y k o) (h' : obligs P ops a0 C R Y t (k + 1)) : obligs P ops a0 C R Y (o :: t) k := ⟨h, h'⟩
theorem obligs_nil {ops : Array Oper} {a0 : Act} {C : World → Prop} {R : World → World → Prop} {Y : Nat → Value → World → Prop} {k : Nat} : obligs P ops a0 C R Y [] k := trivial
end
end Go.Proofs.YtafckmbgefbonaaGreat.nb

namespace Go.Proofs.YtafckmbgefbonaaGreat
abbrev oC := @nb.obligs_cons
end Go.Proofs.YtafckmbgefbonaaGreat

namespace Go.Proofs.YtafckmbgefbonaaGreat.nb
open RowKit Shelf sm

theorem results_cell_tmp2 {fn : Func} {p u v : Tmp} {ty : TypeId} (h : fn.results = #[.cell p ty, .tmp u, .tmp v]) (tmps : Array Value) (P : Program) (w : World) :
  (results fn tmps).run P w =
   ((asAddr (tmps.getD p undef)).run P w).andThen fun a w₁ => ((loadVar ty a).run P w₁).andThen fun x w₂ => .ok (.tuple #[x, tmps.getD u undef, tmps.getD v undef]) w₂ := by
 simp only [results, h]
 simp [Sem.run_bind, Result.andThen]

theorem results_cell1 {fn : Func} {p : Tmp} {ty : TypeId} (h : fn.results = #[.cell p ty]) (tmps : Array Value) (P : Program) (w : World) :
  (results fn tmps).run P w = ((asAddr (tmps.getD p undef)).run P w).andThen fun a w₁ => ((loadVar ty a).run P w₁).andThen fun v w₂ => .ok v w₂ := by
 simp only [results, h]
 simp [Sem.run_bind, Result.andThen]
 cases (Sem.run P (asAddr (tmps[p]?.getD undef)) w) with
 | ok a w1 => cases h2 : (Sem.run P (loadVar ty a) w1) <;> simp [h2]
 | halt h w1 => rfl
theorem beq_dec (x y : Int) : (x == y) = decide (x = y) := by rw [Bool.eq_iff_iff]; simp
theorem bne_dec (x y : Int) : (x != y) = decide (x ≠ y) := by rw [Bool.eq_iff_iff]; simp
theorem u8_and15 (x : Nat) (h : x ≤ 255) : bits .and .u8 (x : Int) 15 = ((x % 16 : Nat) : Int) := by
 have h1 : (BitVec.ofInt 8 (x : Int)).toNat = x := by rw [BitVec.ofInt_natCast, BitVec.toNat_ofNat]; exact Nat.mod_eq_of_lt (by omega)
 have h2 : (BitVec.ofInt 8 (15 : Int)).toNat = 15 := by decide
 show IntKind.u8.wrap ((BitVec.ofInt 8 (x : Int) &&& BitVec.ofInt 8 (15 : Int)).toNat : Int) = _
 rw [BitVec.toNat_and, h1, h2, show x &&& 15 = x % 16 from Nat.and_two_pow_sub_one_eq_mod x 4, IntKind.wrap_u8]
 omega
theorem refBytes (n : Int) (w : World) (hn : 0 ≤ n ∧ n ≤ 65535) :
  Calls Tryz.prog 50 #[.int .u16 n] w fun e w' => e = .returned (.string (tx (B16 n.toNat))) ∧ Up w w' := by
 obtain ⟨m, rfl⟩ := Int.eq_ofNat_of_zero_le hn.1
 rw [Int.toNat_natCast]
 have n1 : (m : Int) / 256 = ((oct (m / 256)).toNat : Int) := by rw [oct_nat (by omega)]; omega
 have n0 : (m : Int) % 256 = ((oct (m % 256)).toNat : Int) := by rw [oct_nat (by omega)]; omega
 have hcv := conv_lit (w := w) (B16 m) 2 rfl #[.int .u8 ((oct (m / 256)).toNat : Int), .int .u8 ((oct (m % 256)).toNat : Int)] rfl
 go_enter Tryz.func50, Tryz.ntmps50
 go_wp2
 go_ret
 exact ⟨rfl, up_al _ bR⟩
theorem B32_two (x : Nat) (h : x ≤ 4294967295) : B16 (x / 65536) ++ B16 (x % 65536) = B32 x := by
 show [oct (x / 65536 / 256), oct (x / 65536 % 256), oct (x % 65536 / 256), oct (x % 65536 % 256)] = [oct (q3 x), oct (q2 x), oct (q1 x), oct (q0 x)]
 unfold q3 q2 q1 q0
 rw [show x / 65536 / 256 = x / 16777216 by omega, show x % 65536 / 256 = x / 256 % 256 by omega, show x % 65536 % 256 = x % 256 by omega]
theorem sz16 (n : Nat) : (tx (B16 n)).size = 2 := by rw [tx_size]; rfl
theorem sz32 (n : Nat) : (tx (B32 n)).size = 4 := by rw [tx_size]; rfl
theorem refFour (x : Nat) (w : World) (hx : x ≤ 4294967295) :
  Calls Tryz.prog 89 #[.int .u32 x] w fun e w' => e = .returned (.string (tx (B32 x))) ∧ Up w w' := by
 have h1 : (0 : Int) ≤ (x : Int) / 65536 ∧ (x : Int) / 65536 ≤ 65535 := by omega
 have h2 : (0 : Int) ≤ (x : Int) % 65536 ∧ (x : Int) % 65536 ≤ 65535 := by omega
 have z1 := sz16 ((x : Int) / 65536).toNat
 have z2 := sz16 ((x : Int) % 65536).toNat
 have HE : Hid (tx (B16 ((x : Int) / 65536).toNat) ++ tx (B16 ((x : Int) % 65536).toNat) = tx (B32 x)) := by
  unfold Hid
  rw [tx_app, show ((x : Int) / 65536).toNat = x / 65536 by omega, show ((x : Int) % 65536).toNat = x % 65536 by omega, B32_two x hx]
 have HX := Lib.hid hx; clear hx
 go_enter Tryz.func89, Tryz.ntmps89
 go_wp2_with fail
 refine (refBytes _ _ (by first | exact h1 | (have := HX.out; omega))).mono ?_
 rintro e w1 ⟨rfl, hv1⟩
 go_wp2_with fail
 refine (refBytes _ _ (by first | exact h2 | (have := HX.out; omega))).mono ?_
 rintro e w2 ⟨rfl, hv2⟩
 go_wp2
 go_ret
 exact ⟨by rw [← HE.out]; first | rfl | simp, hv1.on hv2⟩

def nm (l : List UInt8) : Nat → Int
 | 0 => 0
 | k + 1 => 256 * nm l k + bt l k
theorem nm_bd (l : List UInt8) : 0 ≤ nm l 0 ∧ nm l 0 ≤ 0 ∧ 0 ≤ nm l 1 ∧ nm l 1 ≤ 255 ∧ 0 ≤ nm l 2 ∧ nm l 2 ≤ 65535 ∧ 0 ≤ nm l 3 ∧ nm l 3 ≤ 16777215 ∧ 0 ≤ nm l 4 ∧ nm l 4 ≤ 4294967295 := by
 have b0 := bt_bd l 0; have b1 := bt_bd l 1; have b2 := bt_bd l 2; have b3 := bt_bd l 3
 have e0 : nm l 0 = 0 := rfl
 have e1 : nm l 1 = 256 * nm l 0 + bt l 0 := rfl
 have e2 : nm l 2 = 256 * nm l 1 + bt l 1 := rfl
 have e3 : nm l 3 = 256 * nm l 2 + bt l 2 := rfl
 have e4 : nm l 4 = 256 * nm l 3 + bt l 3 := rfl
 omega
theorem nm_le (l : List UInt8) (k : Nat) (hk : k ≤ 4) : 0 ≤ nm l k ∧ nm l k ≤ 4294967295 := by
 have := nm_bd l
 rcases (by omega : k = 0 ∨ k = 1 ∨ k = 2 ∨ k = 3 ∨ k = 4) with rfl | rfl | rfl | rfl | rfl <;> omega
theorem nm_lt (l : List UInt8) (k : Nat) (hk : k < 4) : 0 ≤ nm l k ∧ 256 * nm l k + 255 ≤ 4294967295 := by
 have := nm_bd l
 rcases (by omega : k = 0 ∨ k = 1 ∨ k = 2 ∨ k = 3) with rfl | rfl | rfl | rfl <;> omega
theorem refNum (s : ByteArray) (w : World) (hs : s.size ≤ 4) :
  Calls Tryz.prog 49 #[.string s] w fun e w' => e = .returned (.int .u32 (nm (L s) s.size)) ∧ w = w' := by
 go_enter Tryz.func49, Tryz.ntmps49
 go_wp2
 go_loop [3, 4] (fun x i => ∃ k : Nat, k ≤ s.size ∧ i = .int .i64 (k : Nat) ∧ x = .int .u32 (nm (L s) k)) (fun _ i => s.size - (intOf i).toNat)
 case atStart => exact ⟨0, by omega, rfl, rfl⟩
 case round =>
  obtain ⟨k, hk, rfl, rfl⟩ := hrel
  have b := nm_le (L s) k (by omega)
  by_cases h : k < s.size
  ·have b2 := nm_lt (L s) k (by omega)
   have bb := bt_bd (L s) k
   have hn := Lib.hid (show nm (L s) (k + 1) = 256 * nm (L s) k + bt (L s) k from rfl)
   have e := bt_at s k h
   rw [← e] at bb
   have HE : Hid ((s[k].toNat : Int) = bt (L s) k) := e
   clear e
   generalize nm (L s) k = x at b b2 hn ⊢
   go_wp2
   go_round
   case rel => exact ⟨k + 1, by omega, by go_num, by rw [hn.out, ← HE.out]⟩
   case measure => simp [intOf]; omega
  ·obtain rfl : k = s.size := by omega
   go_wp2
   go_ret
   exact ⟨rfl, rfl⟩
theorem nm2 (l : List UInt8) (k : Nat) : nm ((l.drop k).take 2) 2 = wd l k := by
 have e : ∀ j, j < 2 → bt ((l.drop k).take 2) j = bt l (k + j) := fun j hj => by
  rw [← bt_drop]; unfold bt; simp [List.getD, List.getElem?_take, hj]
 show 256 * (256 * 0 + bt _ 0) + bt _ 1 = bt l k * 256 + bt l (k + 1)
 rw [e 0 (by omega), e 1 (by omega), Nat.add_zero]; omega
theorem nm4 (l : List UInt8) (k : Nat) : nm ((l.drop k).take 4) 4 = qd l k := by
 have e : ∀ j, j < 4 → bt ((l.drop k).take 4) j = bt l (k + j) := fun j hj => by
  rw [← bt_drop]; unfold bt; simp [List.getD, List.getElem?_take, hj]
 show 256 * (256 * (256 * (256 * 0 + bt _ 0) + bt _ 1) + bt _ 2) + bt _ 3 = (bt l k * 256 + bt l (k + 1)) * 65536 + (bt l (k + 2) * 256 + bt l (k + 3))
 rw [e 0 (by omega), e 1 (by omega), e 2 (by omega), e 3 (by omega), Nat.add_zero]; omega
theorem sub_size (s : ByteArray) (i j : Nat) (h : i ≤ j) (hj : j ≤ s.size) : (s.extract i j).size = j - i := by simp; omega
theorem num4 (s : ByteArray) (k : Nat) (h : k + 4 ≤ s.size) (w : World) :
  Calls Tryz.prog 49 #[.string (s.extract k (k + 4))] w fun e w' => e = .returned (.int .u32 (qd (L s) k)) ∧ w = w' := by
 have hz := sub_size s k (k + 4) (by omega) h
 refine (refNum (s.extract k (k + 4)) w (by omega)).mono fun e w' ⟨h1, h2⟩ => ⟨?_, h2⟩
 rw [h1, hz, show k + 4 - k = 4 by omega, L_extract, show k + 4 - k = 4 by omega, nm4]
end Go.Proofs.YtafckmbgefbonaaGreat.nb

namespace Go.Proofs.YtafckmbgefbonaaGreat.op
open RowKit Shelf Lib sm nb om

def RdB (w : World) (A : Option Addr) (xs : List (Nat × Nat)) : Prop :=
 xs ≠ [] → ∃ b off, A = some ⟨b, off, none⟩ ∧ b < w.heap.size ∧ ∀ k, k < xs.length →
  w.cell? ⟨b, off + k * 2, none⟩ = some (.int .u32 ((xs.getD k (0, 0)).1 : Nat)) ∧ w.cell? ⟨b, off + k * 2 + 1, none⟩ = some (.int .u32 ((xs.getD k (0, 0)).2 : Nat))
theorem RdB.at_ {w : World} {A : Option Addr} {xs : List (Nat × Nat)} (h : RdB w A xs) {k : Nat} (hk : k < xs.length) : ∃ b off, A = some ⟨b, off, none⟩ ∧ b < w.heap.size ∧
  ∃ x1 x2 : Nat, w.cell? ⟨b, off + k * 2, none⟩ = some (.int .u32 x1) ∧ w.cell? ⟨b, off + k * 2 + 1, none⟩ = some (.int .u32 x2) ∧ Hid (xs[k]? = some (x1, x2)) := by
 obtain ⟨b, off, e, hl, hc⟩ := h (by intro h; subst h; simp at hk)
 obtain ⟨c1, c2⟩ := hc k hk
 exact ⟨b, off, e, hl, _, _, c1, c2, (show xs[k]? = _ by simp [List.getD, List.getElem?_eq_getElem hk])⟩
theorem RdB.two {w : World} {A : Option Addr} {xs : List (Nat × Nat)} (h : RdB w A xs) {k j : Nat} (hk : k < xs.length) (hj : j < xs.length) : ∃ b off, A = some ⟨b, off, none⟩ ∧ b < w.heap.size ∧
  ∃ x1 x2 y1 y2 : Nat, w.cell? ⟨b, off + k * 2, none⟩ = some (.int .u32 x1) ∧ w.cell? ⟨b, off + k * 2 + 1, none⟩ = some (.int .u32 x2) ∧ Hid (xs[k]? = some (x1, x2)) ∧
   w.cell? ⟨b, off + j * 2, none⟩ = some (.int .u32 y1) ∧ w.cell? ⟨b, off + j * 2 + 1, none⟩ = some (.int .u32 y2) ∧ Hid (xs[j]? = some (y1, y2)) := by
 obtain ⟨b, off, e, hl, x1, x2, c1, c2, hx⟩ := h.at_ hk
 obtain ⟨b', off', e', hl', y1, y2, d1, d2, hy⟩ := h.at_ hj
 rw [e] at e'; cases e'
 exact ⟨b, off, e, hl, x1, x2, y1, y2, c1, c2, hx, d1, d2, hy⟩
theorem RdB.below {w w' : World} {A : Option Addr} {xs : List (Nat × Nat)} (h : RdB w A xs) {B : Nat} (hb : Below B w w') (hB : w.heap.size ≤ B) : RdB w' A xs := fun hn => by
 obtain ⟨b, off, rfl, hlt, hc⟩ := h hn
 refine ⟨b, off, rfl, Nat.lt_of_lt_of_le hlt hb.size, fun k hk => ?_⟩
 obtain ⟨h1, h2⟩ := hc k hk
 exact ⟨(hb.cell (p := ⟨b, _, none⟩) (Nat.lt_of_lt_of_le hlt hB)).trans h1, (hb.cell (p := ⟨b, _, none⟩) (Nat.lt_of_lt_of_le hlt hB)).trans h2⟩

def cells (xs : List (Nat × Nat)) : List Value := xs.flatMap fun x => [.int .u32 (x.1 : Nat), .int .u32 (x.2 : Nat)]
theorem cells_cons (x : Nat × Nat) (r : List (Nat × Nat)) : cells (x :: r) = .int .u32 x.1 :: .int .u32 x.2 :: cells r := rfl
theorem cells_append (a b : List (Nat × Nat)) : cells (a ++ b) = cells a ++ cells b := by simp [cells]
theorem cells_len : ∀ (xs : List (Nat × Nat)), (cells xs).length = xs.length * 2
 | [] => rfl
 | x :: r => by rw [cells_cons, List.length_cons, List.length_cons, cells_len r, List.length_cons]; omega
theorem cells_at : ∀ (xs : List (Nat × Nat)) (k : Nat), k < xs.length → (cells xs)[k * 2]? = some (.int .u32 ((xs.getD k (0, 0)).1 : Nat)) ∧ (cells xs)[k * 2 + 1]? = some (.int .u32 ((xs.getD k (0, 0)).2 : Nat))
 | [], k, h => by simp at h
 | x :: r, 0, _ => ⟨rfl, rfl⟩
 | x :: r, k + 1, h => by
  have := cells_at r k (by simpa using h)
  rw [cells_cons, show (k + 1) * 2 = k * 2 + 1 + 1 by omega]
  simpa using this
theorem cells_one (xs : List (Nat × Nat)) : ∀ u, u ∈ cells xs → u.oneCell' = true := by
 intro u hu
 obtain ⟨x, _, h⟩ := List.mem_flatMap.1 hu
 simp at h
 rcases h with rfl | rfl <;> rfl
def OwnK (w : World) (B : Nat) (v : Value) (xs : List (Nat × Nat)) : Prop := w.ownsRow B 93 2 v xs.length (cells xs)
theorem OwnK.nil_ (w : World) (B : Nat) : OwnK w B (.slice none 0 0) [] := World.ownsRow_nil _ _ _ _
theorem OwnK.up {w w' : World} {B : Nat} {v : Value} {xs : List (Nat × Nat)} (h : OwnK w B v xs) (hb : Below w.heap.size w w') : OwnK w' B v xs := kept_below h hb
theorem OwnK.rd {w : World} {B : Nat} {v : Value} {xs : List (Nat × Nat)} (h : OwnK w B v xs) : ∃ A c, v = .slice A xs.length c ∧ RdB w A xs := by
 rcases own_form h with ⟨rfl, hn⟩ | ⟨g, cap, rfl, hB, hg, _⟩
 ·exact ⟨none, 0, by rw [hn], fun hne => absurd (List.eq_nil_of_length_eq_zero hn) hne⟩
 ·refine ⟨_, cap, rfl, fun _ => ⟨g, 0, rfl, hg, fun k hk => ?_⟩⟩
  rw [Nat.zero_add, World.ownsRow.cellAt h (k * 2) (by omega), World.ownsRow.cellAt h (k * 2 + 1) (by omega)]
  exact cells_at xs k hk

theorem infoB : (Tryz.prog.info? 93).map (fun i => (i.zero, i.size, i.bytes)) = some (some (.agg #[.int .u32 0, .int .u32 0]), 2, 8) := by kernel_rfl
section
variable {ops : Array Oper} {rest : List Oper} {o : Oper} {a : Act} {Q : Exit → Act → World → Prop} {w : World} {B : Nat} {v : Value}
theorem app2 {xs : List (Nat × Nat)} (s x : Operand) (g : Nat) (news : List (Nat × Nat)) (hown : OwnK w B v xs) (hgd : o.guard = none) (ho : o.op = .call { callee := .builtin .append, args := #[s, x], argTypes := #[26, 26] })
  (hs : a.eval s = v) (hx : a.eval x = .slice (some ⟨g, 0, none⟩) news.length news.length) (hc : ∀ j u, (cells news)[j]? = some u → w.cell? ⟨g, j, none⟩ = some u) (hn : xs.length < 1099511627776) (hm : news.length < 1099511627776) (hB : B ≤ w.heap.size)
  (h : ∀ v' w', OwnK w' B v' (xs ++ news) → Below B w w' → wpList Tryz.prog ops Q rest (a.put o.dst v') w') : wpList Tryz.prog ops Q (o :: rest) a w := by
 obtain ⟨i0, hi, hz0, hz1, hz2⟩ := info_parts infoB
 refine wpList_append_own w hgd s x 26 ho B 93 i0 (.agg #[.int .u32 0, .int .u32 0]) 2 8 Tryz.underlying26 hi hz0 hz1 hz2 rfl (by decide) v xs.length _ hs hown ⟨g, 0, none⟩ news.length news.length (cells news) hx (cells_len news) ?_ (cells_one news) (by unfold maxLen; omega) (by omega) hB ?_
 ·intro j u' hj
  rw [show (⟨g, 0, none⟩ : Addr).add j = ⟨g, j, none⟩ by unfold Addr.add; split <;> simp_all]
  exact hc j u' hj
 ·intro v' w' ho' hg _
  exact h v' w' (by unfold OwnK; rw [cells_append, List.length_append]; exact ho') ((Below.refl B w).grown hg hB (fun k hk => (hown.lt k hk).1))
end
theorem step_app2 {ops : Array Oper} {o : Oper} {a : Act} {K : Act → World → Prop} {Q : Exit → Act → World → Prop} {E : Prop} {w : World} {B : Nat} {v : Value} {xs : List (Nat × Nat)} (s x : Operand) (g : Nat) (news : List (Nat × Nat)) (hown : OwnK w B v xs) (hgd : o.guard = none)
  (ho : o.op = .call { callee := .builtin .append, args := #[s, x], argTypes := #[26, 26] })
  (hs : a.eval s = v) (hx : a.eval x = .slice (some ⟨g, 0, none⟩) news.length news.length) (hc : ∀ j u, (cells news)[j]? = some u → w.cell? ⟨g, j, none⟩ = some u) (hn : xs.length < 1099511627776) (hm : news.length < 1099511627776) (hB : B ≤ w.heap.size)
  (h : ∀ v' w', OwnK w' B v' (xs ++ news) → Below B w w' → K (a.put o.dst v') w') : if Region.wanted o (yielded ops a.tmps) = true then Oper.wp Tryz.prog o a w K Q else E := by
 have hw : Region.wanted o (yielded ops a.tmps) = true := by simp [Region.wanted, hgd]
 rw [if_pos hw]
 obtain ⟨i0, hi, hz0, hz1, hz2⟩ := info_parts infoB
 refine wp_append_own w s x 26 ho B 93 i0 (.agg #[.int .u32 0, .int .u32 0]) 2 8 Tryz.underlying26 hi hz0 hz1 hz2 rfl (by decide) v xs.length _ hs hown ⟨g, 0, none⟩ news.length news.length (cells news) hx (cells_len news) ?_ (cells_one news) (by unfold maxLen; omega) (by omega) hB ?_
 ·intro j u' hj
  rw [show (⟨g, 0, none⟩ : Addr).add j = ⟨g, j, none⟩ by unfold Addr.add; split <;> simp_all]
  exact hc j u' hj
 ·intro v' w' ho' hg _
  exact h v' w' (by unfold OwnK; rw [cells_append, List.length_append]; exact ho') ((Below.refl B w).grown hg hB (fun k hk => (hown.lt k hk).1))
theorem cells_new1 {w : World} {g : Nat} {x y : Nat} (h1 : w.cell? ⟨g, 0, none⟩ = some (.int .u32 x)) (h2 : w.cell? ⟨g, 1, none⟩ = some (.int .u32 y)) : ∀ j u, (cells [(x, y)])[j]? = some u → w.cell? ⟨g, j, none⟩ = some u := by
 intro j u hj
 match j, hj with
 | 0, hj => simp [cells] at hj; subst hj; exact h1
 | 1, hj => simp [cells] at hj; subst hj; exact h2

theorem rd_cells {w : World} {b off : Nat} {xs : List (Nat × Nat)} (h : ∀ k, k < xs.length → w.cell? ⟨b, off + k * 2, none⟩ = some (.int .u32 ((xs.getD k (0, 0)).1 : Nat)) ∧ w.cell? ⟨b, off + k * 2 + 1, none⟩ = some (.int .u32 ((xs.getD k (0, 0)).2 : Nat))) :
  ∀ j u, (cells xs)[j]? = some u → w.cell? ((⟨b, off, none⟩ : Addr).add j) = some u := by
 intro j u hu
 have hj : j < xs.length * 2 := by rw [← cells_len]; exact (List.getElem?_eq_some_iff.1 hu).1
 obtain ⟨q, r, rfl, hr⟩ : ∃ q r, j = q * 2 + r ∧ r < 2 := ⟨j / 2, j % 2, by omega, by omega⟩
 have hq : q < xs.length := by omega
 rw [show (⟨b, off, none⟩ : Addr).add (q * 2 + r) = ⟨b, off + (q * 2 + r), none⟩ by unfold Addr.add; split <;> simp_all]
 obtain ⟨a1, a2⟩ := cells_at xs q hq
 obtain ⟨b1, b2⟩ := h q hq
 rcases (show r = 0 ∨ r = 1 by omega) with rfl | rfl
 ·rw [Nat.add_zero] at hu ⊢; rw [a1] at hu; rw [b1, hu]
 ·rw [a2] at hu; rw [← Nat.add_assoc, b2, hu]
theorem app2src {ops : Array Oper} {rest : List Oper} {o : Oper} {a : Act} {Q : Exit → Act → World → Prop} {w : World} {B : Nat} {v : Value} {xs : List (Nat × Nat)} (s x : Operand) (ad : Addr) (n c : Nat) (news : List (Nat × Nat)) (hown : OwnK w B v xs) (hgd : o.guard = none)
  (ho : o.op = .call { callee := .builtin .append, args := #[s, x], argTypes := #[26, 26] })
  (hs : a.eval s = v) (hx : a.eval x = .slice (some ad) n c) (hl : news.length = n) (hr : RdB w (some ad) news) (hn : xs.length < 1099511627776) (hm : n < 1099511627776) (hB : B ≤ w.heap.size)
  (h : ∀ A' n' c' w', (xs ++ news).length = n' → OwnK w' B (.slice A' n' c') (xs ++ news) → RowKit.Below B w w' → wpList Tryz.prog ops Q rest (a.put o.dst (.slice A' n' c')) w') : wpList Tryz.prog ops Q (o :: rest) a w := by
 obtain ⟨i0, hi, hz0, hz1, hz2⟩ := info_parts infoB
 refine wpList_append_own w hgd s x 26 ho B 93 i0 (.agg #[.int .u32 0, .int .u32 0]) 2 8 Tryz.underlying26 hi hz0 hz1 hz2 rfl (by decide) v xs.length _ hs hown ad n c (cells news) hx (by rw [cells_len, hl]) ?_ (cells_one news) (by unfold maxLen; omega) (by omega) hB ?_
 ·intro j u' hj
  by_cases he : news = []
  ·subst he; simp [cells] at hj
  ·obtain ⟨b, off, e, _, hc⟩ := hr he
   cases e
   exact rd_cells hc j u' hj
 ·intro v' w' ho' hg _
  have hO : OwnK w' B v' (xs ++ news) := by unfold OwnK; rw [cells_append, List.length_append, hl]; exact ho'
  obtain ⟨A', c', hv, _⟩ := hO.rd
  rw [hv] at hO ⊢
  exact h A' _ c' w' rfl hO ((RowKit.Below.refl B w).grown hg hB (fun k hk => (hown.lt k hk).1))

theorem RdB.up {w w' : World} {A : Option Addr} {xs : List (Nat × Nat)} (h : RdB w A xs) (hb : Up w w') : RdB w' A xs := h.below hb (Nat.le_refl _)
abbrev OA (m : Nat) (s : Int) (k : Bool) (A : Option Addr) (n c : Nat) (t : Bool) (v e : Nat) : Value :=
 .agg #[.int .u16 m, .int .i64 s, .bool k, .slice A n c, .bool t, .int .u32 v, .int .u32 e]
def OptV (w : World) (x : Value) (o : Opz) : Prop := ∃ A n c, x = OA o.mss o.sc o.sk A n c o.tm o.va o.ec ∧ o.bl.length = n ∧ RdB w A o.bl
theorem OptV.up {w w' : World} {x : Value} {o : Opz} (h : OptV w x o) (hb : Up w w') : OptV w' x o := by
 obtain ⟨A, n, c, h1, h2, h3⟩ := h
 exact ⟨A, n, c, h1, h2, h3.up hb⟩
end Go.Proofs.YtafckmbgefbonaaGreat.op

namespace Go.Proofs.YtafckmbgefbonaaGreat.pk
open RowKit Shelf Lib sm nb pm

theorem and8 (x m : Nat) (hx : x < 256) (hm : m < 256) : bits .and .u8 (x : Int) (m : Int) = ((x &&& m : Nat) : Int) := by
 have h1 : (BitVec.ofInt 8 (x : Int)).toNat = x := by rw [BitVec.ofInt_natCast, BitVec.toNat_ofNat]; exact Nat.mod_eq_of_lt (by omega)
 have h2 : (BitVec.ofInt 8 (m : Int)).toNat = m := by rw [BitVec.ofInt_natCast, BitVec.toNat_ofNat]; exact Nat.mod_eq_of_lt (by omega)
 have h3 : x &&& m < 256 := Nat.lt_of_le_of_lt Nat.and_le_left hx
 show IntKind.u8.wrap ((BitVec.ofInt 8 (x : Int) &&& BitVec.ofInt 8 (m : Int)).toNat : Int) = _
 rw [BitVec.toNat_and, h1, h2, IntKind.wrap_u8]
 omega
theorem and_1 : ∀ f : Fin 256, f.val &&& 1 = f.val % 2 := by decide +kernel
theorem and_2 : ∀ f : Fin 256, f.val &&& 2 = f.val / 2 % 2 * 2 := by decide +kernel
theorem and_4 : ∀ f : Fin 256, f.val &&& 4 = f.val / 4 % 2 * 4 := by decide +kernel
theorem and_16 : ∀ f : Fin 256, f.val &&& 16 = f.val / 16 % 2 * 16 := by decide +kernel
theorem f1 (f : Nat) (h : f ≤ 255) : bits .and .u8 (f : Int) 1 = ((f % 2 : Nat) : Int) := by rw [show (1 : Int) = ((1 : Nat) : Int) from rfl, and8 f 1 (by omega) (by omega)]; exact congrArg Int.ofNat (and_1 ⟨f, by omega⟩)
theorem f2 (f : Nat) (h : f ≤ 255) : bits .and .u8 (f : Int) 2 = ((f / 2 % 2 * 2 : Nat) : Int) := by rw [show (2 : Int) = ((2 : Nat) : Int) from rfl, and8 f 2 (by omega) (by omega)]; exact congrArg Int.ofNat (and_2 ⟨f, by omega⟩)
theorem f4 (f : Nat) (h : f ≤ 255) : bits .and .u8 (f : Int) 4 = ((f / 4 % 2 * 4 : Nat) : Int) := by rw [show (4 : Int) = ((4 : Nat) : Int) from rfl, and8 f 4 (by omega) (by omega)]; exact congrArg Int.ofNat (and_4 ⟨f, by omega⟩)
theorem f16 (f : Nat) (h : f ≤ 255) : bits .and .u8 (f : Int) 16 = ((f / 16 % 2 * 16 : Nat) : Int) := by rw [show (16 : Int) = ((16 : Nat) : Int) from rfl, and8 f 16 (by omega) (by omega)]; exact congrArg Int.ofNat (and_16 ⟨f, by omega⟩)
def cnt (f : Nat) : Nat → Nat
 | 0 => 0
 | 1 => f % 2
 | 2 => f % 2 + f / 2 % 2
 | _ => f % 2 + f / 2 % 2 + f / 4 % 2
theorem cnt_le (f i : Nat) : cnt f i ≤ 3 := by
 match i with
 | 0 => exact Nat.zero_le _
 | 1 => show f % 2 ≤ 3; omega
 | 2 => show f % 2 + f / 2 % 2 ≤ 3; omega
 | i + 3 => show f % 2 + f / 2 % 2 + f / 4 % 2 ≤ 3; omega
theorem refFlags (f : Nat) (w : World) (hf : f ≤ 255) :
  Calls Tryz.prog 32 #[.int .u8 f] w fun e w' => e = .returned (.bool (flg f)) ∧ Up w w' := by
 go_enter Tryz.func32, Tryz.ntmps32
 go_upto_region 3 with fail
 have hA := Box.new w #[.int .u8 1, .int .u8 2, .int .u8 4] 5
 have hu : Up w (w.alloc (.cells #[.int .u8 1, .int .u8 2, .int .u8 4] 5)) := up_al _ bR
 generalize World.alloc w _ = w0 at hA hu ⊢
 generalize w.heap.size = n0 at hA ⊢
 have k0 := hA.at 0 rfl
 have k1 := hA.at 1 rfl
 have k2 := hA.at 2 rfl
 go_wp2_with fail
 go_loopw [3, 5] (fun c i wr => ∃ j : Nat, j ≤ 3 ∧ i = .int .i64 j ∧ c = .int .i64 (cnt f j : Nat) ∧ wr = w0) (fun _ i _ => 3 - (RowKit.intOf i).toNat)
 case atStart => exact ⟨0, by omega, rfl, rfl, rfl⟩
 case round =>
  obtain ⟨j, hj, rfl, rfl, rfl⟩ := hrel
  have hc := cnt_le f j
  rcases (by omega : j = 0 ∨ j = 1 ∨ j = 2 ∨ j = 3) with rfl | rfl | rfl | rfl
  ·have q := f1 f hf
   by_cases h : f % 2 = 0
   ·have q0 : bits .and .u8 (f : Int) 1 = 0 := by rw [q, h]; rfl
    have HC := Lib.hid (show cnt f 1 = cnt f 0 from h)
    clear q h
    go_wp2
    go_roundw
    case rel => exact ⟨1, by omega, by go_num, by rw [HC.out], by first | rfl | trivial⟩
    case measure => simp [RowKit.intOf]
   ·have q0 : bits .and .u8 (f : Int) 1 = 1 := by rw [q, show f % 2 = 1 by omega]; rfl
    have HC := Lib.hid (show cnt f 1 = cnt f 0 + 1 by show f % 2 = 0 + 1; omega)
    clear q h
    generalize cnt f 0 = c at hc HC ⊢
    have q2 : IntKind.i64.wrap ((c : Int) + 1) = (c : Int) + 1 := IntWalk.i64_in _ (by omega)
    go_wp2
    go_roundw
    case rel => exact ⟨1, by omega, by go_num, by rw [HC.out]; go_num, by first | rfl | trivial⟩
    case measure => simp [RowKit.intOf]
  ·have q := f2 f hf
   by_cases h : f / 2 % 2 = 0
   ·have q0 : bits .and .u8 (f : Int) 2 = 0 := by rw [q, h]; rfl
    have HC := Lib.hid (show cnt f 2 = cnt f 1 by show f % 2 + f / 2 % 2 = f % 2; omega)
    clear q h
    generalize cnt f 1 = c at hc HC ⊢
    go_wp2
    go_roundw
    case rel => exact ⟨2, by omega, by go_num, by rw [HC.out], by first | rfl | trivial⟩
    case measure => simp [RowKit.intOf]
   ·have q0 : bits .and .u8 (f : Int) 2 = 2 := by rw [q, show f / 2 % 2 = 1 by omega]; rfl
    have HC := Lib.hid (show cnt f 2 = cnt f 1 + 1 by show f % 2 + f / 2 % 2 = f % 2 + 1; omega)
    clear q h
    generalize cnt f 1 = c at hc HC ⊢
    have q2 : IntKind.i64.wrap ((c : Int) + 1) = (c : Int) + 1 := IntWalk.i64_in _ (by omega)
    go_wp2
    go_roundw
    case rel => exact ⟨2, by omega, by go_num, by rw [HC.out]; go_num, by first | rfl | trivial⟩
    case measure => simp [RowKit.intOf]
  ·have q := f4 f hf
   by_cases h : f / 4 % 2 = 0
   ·have q0 : bits .and .u8 (f : Int) 4 = 0 := by rw [q, h]; rfl
    have HC := Lib.hid (show cnt f 3 = cnt f 2 by show f % 2 + f / 2 % 2 + f / 4 % 2 = f % 2 + f / 2 % 2; omega)
    clear q h
    generalize cnt f 2 = c at hc HC ⊢
    go_wp2
    go_roundw
    case rel => exact ⟨3, by omega, by go_num, by rw [HC.out], by first | rfl | trivial⟩
    case measure => simp [RowKit.intOf]
   ·have q0 : bits .and .u8 (f : Int) 4 = 4 := by rw [q, show f / 4 % 2 = 1 by omega]; rfl
    have HC := Lib.hid (show cnt f 3 = cnt f 2 + 1 by show f % 2 + f / 2 % 2 + f / 4 % 2 = f % 2 + f / 2 % 2 + 1; omega)
    clear q h
    generalize cnt f 2 = c at hc HC ⊢
    have q2 : IntKind.i64.wrap ((c : Int) + 1) = (c : Int) + 1 := IntWalk.i64_in _ (by omega)
    go_wp2
    go_roundw
    case rel => exact ⟨3, by omega, by go_num, by rw [HC.out]; go_num, by first | rfl | trivial⟩
    case measure => simp [RowKit.intOf]
  ·have HC := Lib.hid (show flg f = (decide (f < 32) && decide (cnt f 3 ≤ 1)) from rfl)
   generalize cnt f 3 = c at hc HC ⊢
   by_cases h : f < 32
   ·have i0 : (f : Int) < 32 := by omega
    have HD := Lib.hid (decide_eq_true h)
    clear h
    go_wp2
    go_ret
    exact ⟨ret_bool (by rw [HC.out, HD.out, Bool.true_and]; exact decide_eq_decide.2 (by omega)), hu⟩
   ·have i0 : ¬ (f : Int) < 32 := by omega
    have HD := Lib.hid (decide_eq_false h)
    clear h
    go_wp2
    go_ret
    exact ⟨ret_bool (by rw [HC.out, HD.out, Bool.false_and]), hu⟩
theorem shr_in (z k : Nat) : (z : Int) / 2 ^ k = ((z / 2 ^ k : Nat) : Int) := by simp
end Go.Proofs.YtafckmbgefbonaaGreat.pk

namespace Go.Proofs.YtafckmbgefbonaaGreat.nb
open RowKit Shelf sm

def tailF (ops : Array Oper) (n f : Nat) : Bool := (List.range ops.size).all fun i => decide (i < n) || (List.range i).all fun j => waits ops i j || (decide (i = n) && decide (j = f))
theorem tailF_spec {ops : Array Oper} {n f i j : Nat} (h : tailF ops n f = true) (hi : i < ops.size) (hn : n ≤ i) (hj : j < i) (hne : i ≠ n ∨ j ≠ f) : waits ops i j = true := by
 have h1 := List.all_eq_true.1 h i (List.mem_range.2 hi)
 rw [Bool.or_eq_true] at h1
 rcases h1 with h1 | h1
 ·have := of_decide_eq_true h1; omega
 ·have h2 := List.all_eq_true.1 h1 j (List.mem_range.2 hj)
  rw [Bool.or_eq_true, Bool.and_eq_true, decide_eq_true_eq, decide_eq_true_eq] at h2
  rcases h2 with h2 | ⟨h2, h3⟩
  ·exact h2
  ·omega
theorem wp_region_rel5 {P : Program} {id : Nat} (f : Nat) (l rs : List Oper) (on fo : Oper) {Q : Exit → Act → World → Prop} {a0 : Act} {w0 : World} (C : World → Prop) (R : World → World → Prop) (Y : Nat → Value → World → Prop)
  (hm : P.follows .mixedOrders = true) (hB : relB (l ++ on :: rs).toArray a0.tmps.size = true) (hT : tailF (l ++ on :: rs).toArray l.length f = true) (hC : C w0.drew)
  (hst : ∀ k v w w', Y k v w → R w w' → Y k v w')
  (hop : obligs P (l ++ on :: rs).toArray a0 C R Y l 0) (hfo : l[f]? = some fo)
  (hend : ∀ vals w, C w → (∀ k o s, l[k]? = some o → o.dst = some s → Y k (vals k) w) → wpList P (l ++ on :: rs).toArray Q (on :: rs) (putAll l 0 vals a0) w)
  (hend1 : ∀ vals w, C w → (∀ k o s, k ≠ f → l[k]? = some o → o.dst = some s → Y k (vals k) w) → wpList P (l ++ on :: rs).toArray Q (on :: fo :: rs) (putAll (l.set f { fo with dst := none }) 0 vals a0) w) :
  (Code.region id (l ++ on :: rs).toArray true).wp P Q a0 w0 := by
 obtain ⟨tl, htl⟩ : ∃ tl, tl = on :: rs := ⟨_, rfl⟩
 rw [← htl] at hB hT hop hend hend1 ⊢
 have hops : ∀ k, k < l.length → (l ++ tl).toArray[k]? = l[k]? := fun k hk => by simp [List.getElem?_append_left hk]
 have hopt : ∀ j, (l ++ tl).toArray[l.length + j]? = tl[j]? := fun j => by simp [List.getElem?_append_right]
 have hsz : (l ++ tl).toArray.size = l.length + tl.length := by simp
 let I1 : Array Bool → Act → World → Prop := fun listed a w => RelI (l ++ tl).toArray a0 C Y listed a w ∧ ∀ k, l.length ≤ k → listed.getD k false = false
 let I2 : Array Bool → Act → World → Prop := fun listed a w => ∃ j, j ≤ tl.length ∧ listed.size = (l ++ tl).toArray.size ∧ (∀ k, k < l.length + j → listed.getD k false = true) ∧ (∀ k, l.length + j ≤ k → listed.getD k false = false) ∧ wpList P (l ++ tl).toArray Q (tl.drop j) a w
 obtain ⟨hfl, hfe⟩ := List.getElem?_eq_some_iff.1 hfo
 let I3 : Array Bool → Act → World → Prop := fun listed a w => listed.size = (l ++ tl).toArray.size ∧ (∀ k, k < l.length → k ≠ f → listed.getD k false = true) ∧ listed.getD f false = false ∧ listed.getD l.length false = true ∧ (∀ k, l.length + 1 ≤ k → listed.getD k false = false) ∧ wpList P (l ++ tl).toArray Q (fo :: rs) a w
 have step2 : ∀ listed a w i, I2 listed a w → i ∈ Region.ready .any (l ++ tl).toArray listed → wpOp P (l ++ tl).toArray Q i (fun a' w' => I1 (listed.setIfInBounds i true) a' w' ∨ I3 (listed.setIfInBounds i true) a' w' ∨ I2 (listed.setIfInBounds i true) a' w') a w := by
  rintro listed a w i ⟨j, hj, hls, h1, h2, h3⟩ hi
  obtain ⟨hu, o, ho, hall⟩ := mem_ready.1 hi
  have hi' : i < (l ++ tl).toArray.size := (Array.getElem?_eq_some_iff.1 ho).1
  have hil : i < listed.size := by omega
  have hun : listed.getD i false = false := by simpa [hil] using hu
  have hge : l.length + j ≤ i := by
   rcases Nat.lt_or_ge i (l.length + j) with h | h
   ·rw [h1 i h] at hun; cases hun
   ·exact h
  have hij : i = l.length + j := by
   rcases Nat.lt_or_ge (l.length + j) i with h | h
   ·have := waits_listed hi (tailF_spec hT hi' (by omega) h (by omega))
    rw [h2 _ (Nat.le_refl _)] at this; cases this
   ·omega
  subst hij
  have htj : tl[j]? = some o := by rw [← hopt]; exact ho
  have hjl : j < tl.length := (List.getElem?_eq_some_iff.1 htj).1
  have hdrop : tl.drop j = o :: tl.drop (j + 1) := by
   rw [List.drop_eq_getElem_cons hjl]
   congr 1
   exact (List.getElem?_eq_some_iff.1 htj).2
  rw [hdrop] at h3
  have hg := (relB_spec hB ho).1
  unfold wpOp
  simp only [ho]
  have hw : Region.wanted o (yielded (l ++ tl).toArray a.tmps) = true := by unfold Region.wanted; rw [hg]
  unfold wpList at h3
  rw [if_pos hw] at h3 ⊢
  refine h3.imp (Oper.wp_mono (fun a' w' h => .inr (.inr ⟨j + 1, by omega, by simpa using hls, fun k hk => ?_, fun k hk => ?_, h⟩))) (fun x => x)
  ·by_cases hkj : k = l.length + j
   ·subst hkj; simp [hil]
   ·have := h1 k (by omega)
    simpa [Array.getElem?_setIfInBounds, Ne.symm hkj] using this
  ·have := h2 k (by omega)
   have hkj : k ≠ l.length + j := by omega
   simpa [Array.getElem?_setIfInBounds, Ne.symm hkj] using this
 have to2 : ∀ listed a w, I1 listed a w → (∀ k, k < l.length → listed.getD k false = true) → I2 listed a w := by
  rintro listed a w ⟨hI, ht⟩ hl
  refine ⟨0, Nat.zero_le _, hI.size, fun k hk => hl k (by omega), fun k hk => ht k (by omega), ?_⟩
  rw [List.drop_zero]
  have hlt : ∀ k o s, l[k]? = some o → o.dst = some s → Y k (a.tmps.getD s undef) w := fun k o s hk hs =>
   hI.done k o s (by rw [hops k (List.getElem?_eq_some_iff.1 hk).1]; exact hk) hs (hl k (List.getElem?_eq_some_iff.1 hk).1)
  have e : a = putAll l 0 (fun k => a.tmps.getD (dstOf l k) undef) a0 := by
   refine act_ext (by rw [putAll_size]; exact hI.tsize) (fun s => ?_) (by rw [putAll_defers]; exact hI.defers)
   by_cases h : ∃ (i : Nat) (o : Oper), l[i]? = some o ∧ o.dst = some s
   ·obtain ⟨i, o, hi, hs⟩ := h
    have hil := (List.getElem?_eq_some_iff.1 hi).1
    have hsp := (relB_spec hB (i := i) (o := o) (by rw [hops i hil]; exact hi)).2.2 s hs
    rw [putAll_at l 0 _ a0 i o s (fun j oj hj hjo => hsp.2 j oj hj (by rw [hops j (List.getElem?_eq_some_iff.1 hjo).1]; exact hjo)) hi hs hsp.1, Nat.zero_add]
    show _ = a.tmps.getD (dstOf l i) undef
    unfold dstOf
    rw [hi]
    simp [hs]
   ·rw [putAll_not l 0 _ a0 s (fun o ho he => by
     obtain ⟨j, hj, hjo⟩ := List.mem_iff_getElem.1 ho
     exact h ⟨j, o, by simp [hj, hjo], he⟩)]
    refine hI.rest s fun k o hk he => ?_
    rcases Nat.lt_or_ge k l.length with hk' | hk'
    ·exact absurd ⟨k, o, by rw [← hops k hk']; exact hk, he⟩ h
    ·exact ht k hk'
  rw [e]
  refine hend _ w hI.cls fun k o s hk hs => ?_
  show Y k (a.tmps.getD (dstOf l k) undef) w
  have : dstOf l k = s := by unfold dstOf; rw [hk]; simp [hs]
  rw [this]
  exact hlt k o s hk hs
 have step3 : ∀ listed a w i, I3 listed a w → i ∈ Region.ready .any (l ++ tl).toArray listed → wpOp P (l ++ tl).toArray Q i (fun a' w' => I1 (listed.setIfInBounds i true) a' w' ∨ I3 (listed.setIfInBounds i true) a' w' ∨ I2 (listed.setIfInBounds i true) a' w') a w := by
  rintro listed a w i ⟨hls, h1, hf0, hn1, h2, h3⟩ hi
  obtain ⟨hu, o, ho, hall⟩ := mem_ready.1 hi
  have hi' : i < (l ++ tl).toArray.size := (Array.getElem?_eq_some_iff.1 ho).1
  have hil : i < listed.size := by omega
  have hun : listed.getD i false = false := by simpa [hil] using hu
  have hif : i = f := by
   rcases Nat.lt_trichotomy i l.length with h | h | h
   ·by_cases he : i = f
    ·exact he
    ·rw [h1 i h he] at hun; cases hun
   ·rw [h, hn1] at hun; cases hun
   ·have := waits_listed hi (tailF_spec hT hi' (by omega) (show f < i by omega) (by omega))
    rw [hf0] at this; cases this
  subst hif
  obtain rfl : fo = o := by
   have h5 := hops i hfl
   rw [ho, hfo] at h5
   exact (Option.some.inj h5).symm
  have hg := (relB_spec hB ho).1
  unfold wpOp
  simp only [ho]
  have hw : Region.wanted fo (yielded (l ++ tl).toArray a.tmps) = true := by unfold Region.wanted; rw [hg]
  unfold wpList at h3
  rw [if_pos hw] at h3 ⊢
  refine h3.imp (Oper.wp_mono (fun a' w' h => .inr (.inr ⟨1, by rw [htl]; simp, by simpa using hls, fun k hk => ?_, fun k hk => ?_, ?_⟩))) (fun x => x)
  ·by_cases hkj : k = i
   ·subst hkj; simp [hil]
   ·have : listed.getD k false = true := by
     rcases Nat.lt_or_ge k l.length with h | h
     ·exact h1 k h hkj
     ·rw [show k = l.length by omega]; exact hn1
    simpa [Array.getElem?_setIfInBounds, Ne.symm hkj] using this
  ·have := h2 k hk
   have hkj : k ≠ i := by omega
   simpa [Array.getElem?_setIfInBounds, Ne.symm hkj] using this
  ·have hd : tl.drop 1 = rs := by rw [htl]; rfl
   rw [hd]; exact h
 have to3 : ∀ listed a w, I1 listed a w → (∀ k, k < l.length → k ≠ f → listed.getD k false = true) → listed.getD f false = false → wpList P (l ++ tl).toArray Q (on :: fo :: rs) a w := by
  rintro listed a w ⟨hI, ht⟩ hl hf0
  have hset : ∀ k, k ≠ f → (l.set f { fo with dst := none })[k]? = l[k]? := fun k hk => List.getElem?_set_ne (Ne.symm hk)
  have hsetf : (l.set f { fo with dst := none })[f]? = some { fo with dst := none } := by simp [List.getElem?_set, hfl]
  have e : a = putAll (l.set f { fo with dst := none }) 0 (fun k => a.tmps.getD (dstOf l k) undef) a0 := by
   refine act_ext (by rw [putAll_size]; exact hI.tsize) (fun s => ?_) (by rw [putAll_defers]; exact hI.defers)
   by_cases h : ∃ (i : Nat) (o : Oper), (l.set f { fo with dst := none })[i]? = some o ∧ o.dst = some s
   ·obtain ⟨i, o, hi, hs⟩ := h
    have hif : i ≠ f := by
     rintro rfl
     rw [hsetf] at hi; cases hi; cases hs
    have hi2 := hi
    rw [hset i hif] at hi2
    have hil := (List.getElem?_eq_some_iff.1 hi2).1
    have hsp := (relB_spec hB (i := i) (o := o) (by rw [hops i hil]; exact hi2)).2.2 s hs
    rw [putAll_at _ 0 _ a0 i o s (fun j oj hj hjo => by
     by_cases hjf : j = f
     ·subst hjf; rw [hsetf] at hjo; cases hjo; intro h; cases h
     ·rw [hset j hjf] at hjo
      exact hsp.2 j oj hj (by rw [hops j (List.getElem?_eq_some_iff.1 hjo).1]; exact hjo)) hi hs hsp.1, Nat.zero_add]
    show _ = a.tmps.getD (dstOf l i) undef
    unfold dstOf
    rw [hi2]
    simp [hs]
   ·rw [putAll_not _ 0 _ a0 s (fun o ho he => by
     obtain ⟨j, hj, hjo⟩ := List.mem_iff_getElem.1 ho
     exact h ⟨j, o, by rw [List.getElem?_eq_getElem hj, hjo], he⟩)]
    refine hI.rest s fun k o hk he => ?_
    rcases Nat.lt_or_ge k l.length with hk' | hk'
    ·by_cases hkf : k = f
     ·subst hkf; exact hf0
     ·exact absurd ⟨k, o, by rw [hset k hkf, ← hops k hk']; exact hk, he⟩ h
    ·exact ht k hk'
  rw [e]
  refine hend1 _ w hI.cls fun k o s hkf hk hs => ?_
  show Y k (a.tmps.getD (dstOf l k) undef) w
  have : dstOf l k = s := by unfold dstOf; rw [hk]; simp [hs]
  rw [this]
  have hkl := (List.getElem?_eq_some_iff.1 hk).1
  exact hI.done k o s (by rw [hops k hkl]; exact hk) hs (hl k hkl hkf)
 refine wp_region_any hm (wpAny_inv (fun listed a w => I1 listed a w ∨ I3 listed a w ∨ I2 listed a w) ?_ ?_ _ _ _ _ ?_ (by simp) (.inl ⟨?_, ?_⟩))
 ·intro listed a w i hI hi
  rcases hI with hI | hI | hI
  case inr.inl => exact step3 listed a w i hI hi
  case inr.inr => exact step2 listed a w i hI hi
  obtain ⟨hu, o, ho, hall⟩ := mem_ready.1 hi
  have hi' : i < (l ++ tl).toArray.size := (Array.getElem?_eq_some_iff.1 ho).1
  rcases Nat.lt_or_ge i l.length with hin | hin
  case inr =>
   have hin' : i = l.length := by
    rcases Nat.lt_or_ge l.length i with h | h
    ·have := waits_listed hi (tailF_spec hT hi' hin h (by omega))
     rw [hI.2 _ (Nat.le_refl _)] at this; cases this
    ·omega
   have hoth : ∀ k, k < l.length → k ≠ f → listed.getD k false = true := fun k hk hkf => waits_listed hi (tailF_spec hT hi' hin (by omega) (by omega))
   cases hff : listed.getD f false with
   | true =>
    exact step2 listed a w i (to2 listed a w hI fun k hk => by
     by_cases hkf : k = f
     ·rw [hkf]; exact hff
     ·exact hoth k hk hkf) hi
   | false =>
    have h3 := to3 listed a w hI hoth hff
    have hls := hI.1.size
    have hil : i < listed.size := by omega
    obtain rfl : on = o := by
     have h5 := hopt 0
     rw [Nat.add_zero, ← hin', ho, htl] at h5
     exact (Option.some.inj h5).symm
    have hg := (relB_spec hB ho).1
    unfold wpOp
    simp only [ho]
    have hw : Region.wanted on (yielded (l ++ tl).toArray a.tmps) = true := by unfold Region.wanted; rw [hg]
    unfold wpList at h3
    rw [if_pos hw] at h3 ⊢
    refine h3.imp (Oper.wp_mono (fun a' w' h => .inr (.inl ⟨by simpa using hls, fun k hk hkf => ?_, ?_, ?_, fun k hk => ?_, h⟩))) (fun x => x)
    ·have := hoth k hk hkf
     have hki : k ≠ i := by omega
     simpa [Array.getElem?_setIfInBounds, Ne.symm hki] using this
    ·have hki : f ≠ i := by omega
     simpa [Array.getElem?_setIfInBounds, Ne.symm hki] using hff
    ·rw [← hin']; simp [hil]
    ·have := hI.2 k (by omega)
     have hki : k ≠ i := by omega
     simpa [Array.getElem?_setIfInBounds, Ne.symm hki] using this
  obtain ⟨hI, htl⟩ := hI
  obtain ⟨hg, hlt, hdst⟩ := relB_spec hB ho
  have hil : i < listed.size := by rw [hI.size]; exact hi'
  have hun : listed.getD i false = false := by simpa [hil] using hu
  unfold wpOp
  simp only [ho]
  rw [if_pos (by unfold Region.wanted; rw [hg])]
  refine .inl ?_
  have hob0 := obligs_at l 0 hop i o (by rw [← hops i hin]; exact ho)
  rw [Nat.zero_add] at hob0
  have hob := hob0 a w hI.cls ?_ ?_ (fun u w' => Y i u w' ∧ C w' ∧ R w w') (fun u w' h1 h2 h3 => ⟨h1, h2, h3⟩)
  ·refine Oper.wp_mono (fun a' w' h => ?_) (opTo_wp hob)
   obtain ⟨v, rfl, hY, hCw, hR⟩ := h
   refine .inl ⟨⟨by simpa using hI.size, hCw, fun j oj hj hl e he hb => ?_, fun k ok s hk hs hl => ?_, fun s hs => ?_, ?_, ?_⟩, fun k hk => ?_⟩
   ·rcases listed_set hl with rfl | hl'
    ·rw [ho] at hj; cases hj
     have := hall e he hb
     by_cases hei : e.on = j
     ·rw [hei]; simp [hil]
     ·simpa [Array.getElem?_setIfInBounds, Ne.symm hei] using this
    ·have := hI.closed j oj hj hl' e he hb
     by_cases hei : e.on = i
     ·rw [hei]; simp [hil]
     ·simpa [Array.getElem?_setIfInBounds, Ne.symm hei] using this
   ·rw [getD_put]
    by_cases hki : k = i
    ·subst hki
     rw [ho] at hk; cases hk
     rw [if_pos ⟨hs, by rw [hI.tsize]; exact (hdst s hs).1⟩]
     exact hY
    ·have hne : o.dst ≠ some s := fun he => (hdst s he).2 k ok hki hk hs
     rw [if_neg (fun hh => hne hh.1)]
     rcases listed_set hl with h | h
     ·exact absurd h hki
     ·exact hst k _ _ _ (hI.done k ok s hk hs h) hR
   ·rw [getD_put]
    have hne : o.dst ≠ some s := fun he => by
     have := hs i o ho he
     simp [hil] at this
    rw [if_neg (fun hh => hne hh.1)]
    refine hI.rest s fun k ok hk hsk => ?_
    have h5 := hs k ok hk hsk
    by_cases hki : k = i
    ·subst hki; exact hun
    ·simpa [Array.getElem?_setIfInBounds, Ne.symm hki] using h5
   ·show (a.put o.dst v).tmps.size = _
    rw [← hI.tsize]; unfold Act.put; cases o.dst <;> simp
   ·show (a.put o.dst v).defers = _
    rw [← hI.defers]; unfold Act.put; cases o.dst <;> rfl
   ·have h5 := htl k hk
    have hki : k ≠ i := by omega
    simpa [Array.getElem?_setIfInBounds, Ne.symm hki] using h5
  ·intro d od s hw hd hs
   exact hI.done d od s hd hs (waits_listed hi hw)
  ·intro s hs
   refine hI.rest s fun k ok hk hsk => ?_
   have hw := hs k ok hk hsk
   unfold waits at hw
   simp only [hk] at hw
   obtain ⟨e, he, hb⟩ := Array.any_eq_true'.1 hw
   simp only [Bool.and_eq_true, beq_iff_eq] at hb
   cases hlk : listed.getD k false with
   | false => rfl
   | true =>
    have := hI.closed k ok hk hlk e he hb.1
    rw [hb.2, hun] at this
    exact absurd this (by decide)
 ·intro listed a w hI hr
  have hl : ∀ (n : Nat), listed.size = (l ++ tl).toArray.size → n ≤ (l ++ tl).toArray.size → ∀ k, k < n → listed.getD k false = true := by
   intro n hls hn k
   induction k using Nat.strongRecOn with
   | _ k ih =>
    intro hk
    cases hlk : listed.getD k false with
    | true => rfl
    | false =>
     exfalso
     have hkl : k < listed.size := by omega
     have ho : (l ++ tl).toArray[k]? = some (l ++ tl).toArray[k] := Array.getElem?_eq_getElem (by omega)
     have hmem : k ∈ Region.ready .any (l ++ tl).toArray listed := mem_ready.2 ⟨by simpa [hkl] using hlk, _, ho, fun e he hb => by
      have h1 := (relB_spec hB ho).2.1 e he hb
      exact ih e.on h1 (by omega)⟩
     rw [hr] at hmem; cases hmem
  have hI2 : I2 listed a w := by
   rcases hI with hI | hI | hI
   ·exact to2 listed a w hI fun k hk => hl l.length hI.1.size (by omega) k hk
   ·have := hl (f + 1) hI.1 (by omega) f (by omega)
    rw [hI.2.2.1] at this; cases this
   ·exact hI
  obtain ⟨j, hj, hls, h1, h2, h3⟩ := hI2
  rcases Nat.lt_or_ge j tl.length with hjl | hjl
  ·have := hl (l.length + j + 1) hls (by omega) (l.length + j) (by omega)
   rw [h2 _ (Nat.le_refl _)] at this; cases this
  ·rw [List.drop_of_length_le hjl] at h3
   exact h3
 ·have : (Array.replicate (l ++ tl).toArray.size false).toList.count false ≤ (l ++ tl).toArray.size := by
   have := List.count_le_length (a := false) (l := (Array.replicate (l ++ tl).toArray.size false).toList)
   simp only [Array.length_toList, Array.size_replicate] at this
   exact this
  exact this
 ·refine ⟨by simp, hC, fun j oj hj hl => ?_, fun k o s hk hs hl => ?_, fun s _ => rfl, rfl, rfl⟩
  ·exact absurd hl (by rw [replicate_false_getD]; decide)
  ·exact absurd hl (by rw [replicate_false_getD]; decide)
 ·intro k _
  exact replicate_false_getD _ _
theorem wp_region_rel6 {P : Program} {id : Nat} (n f : Nat) {l : List Oper} {Q : Exit → Act → World → Prop} {a0 : Act} {w0 : World} (C : World → Prop) (R : World → World → Prop) (Y : Nat → Value → World → Prop)
  (hm : P.follows .mixedOrders = true) (hB : relB l.toArray a0.tmps.size = true) (hT : (decide (n < l.length) && decide (f < n) && tailF l.toArray n f) = true) (hC : C w0.drew)
  (hst : ∀ k v w w', Y k v w → R w w' → Y k v w')
  (hop : obligs P l.toArray a0 C R Y (l.take n) 0)
  (hend : ∀ vals w, C w → (∀ k o s, (l.take n)[k]? = some o → o.dst = some s → Y k (vals k) w) → wpList P l.toArray Q (l.drop n) (putAll (l.take n) 0 vals a0) w)
  (hend1 : ∀ vals w, C w → (∀ k o s, k ≠ f → (l.take n)[k]? = some o → o.dst = some s → Y k (vals k) w) → wpList P l.toArray Q ((l.drop n).take 1 ++ ((l.drop f).take 1 ++ l.drop (n + 1))) (putAll ((l.take n).set f { (l.drop f).headD default with dst := none }) 0 vals a0) w) :
  (Code.region id l.toArray true).wp P Q a0 w0 := by
 rw [Bool.and_eq_true, Bool.and_eq_true] at hT
 have hn := of_decide_eq_true hT.1.1
 have hf := of_decide_eq_true hT.1.2
 have hl : (l.take n).length = n := by rw [List.length_take]; omega
 have hd : l.drop n = l[n] :: l.drop (n + 1) := List.drop_eq_getElem_cons hn
 have hdf : l.drop f = l[f]'(by omega) :: l.drop (f + 1) := List.drop_eq_getElem_cons (by omega)
 have he : l.take n ++ l[n] :: l.drop (n + 1) = l := by rw [← hd, List.take_append_drop]
 have h := wp_region_rel5 (P := P) (id := id) f (l.take n) (l.drop (n + 1)) l[n] (l[f]'(by omega)) (Q := Q) (a0 := a0) (w0 := w0) C R Y hm (by rw [he]; exact hB) (by rw [he, hl]; exact hT.2) hC hst
  (by rw [he]; exact hop) (by rw [List.getElem?_take_of_lt hf]; exact List.getElem?_eq_getElem (by omega)) (by rw [he, ← hd]; exact hend) (by
   rw [he]
   intro vals w hc hy
   have := hend1 vals w hc hy
   rw [hd, hdf] at this
   exact this)
 rwa [he] at h
end Go.Proofs.YtafckmbgefbonaaGreat.nb

namespace Go.Proofs.YtafckmbgefbonaaGreat.nb
open RowKit Shelf

section
variable {P : Program}

def StableR (R : World → World → Prop) : List (Value → World → Prop) → Prop
 | [] => True
 | p :: t => (∀ v w w', p v w → R w w' → p v w') ∧ StableR R t
theorem StableR.ys {R : World → World → Prop} : ∀ {ys : List (Value → World → Prop)}, StableR R ys → ∀ k v w w', Ys ys k v w → R w w' → Ys ys k v w'
 | [], _, _, _, _, _, h, _ => h
 | p :: t, hs, 0, v, w, w', h, hu => hs.1 v w w' h hu
 | p :: t, hs, k + 1, v, w, w', h, hu => StableR.ys (ys := t) hs.2 k v w w' h hu
end
end Go.Proofs.YtafckmbgefbonaaGreat.nb
