/- B H A: contracts, part 5. Condition: as each says. -/
import Derived.Test.YtafckmbgefbonaaKBHA4
import Derived.Orders
set_option linter.unusedVariables false
set_option linter.unusedSimpArgs false
namespace Go.Proofs.Ytafckmbgefbonaa.nb
open Go.RowKit Go.Shelf

section
variable {P : Program}

def opUpon (P : Program) (K : Value → World → Prop) : Result Next → Prop
  | .ok (.value v) w' => K v w'
  | .ok .skip w' => K undef w'
  | .ok (.enter f args) w' => Calls P f args w' (fun e w'' => ∃ v, e = .returned v ∧ K v w'')
  | _ => False
def opTo (P : Program) (o : Oper) (a : Act) (w : World) (K : Value → World → Prop) : Prop := opUpon P K ((execOp a.eval o).run P w)
theorem opTo_wp {o : Oper} {a : Act} {w : World} {K : Value → World → Prop} {Q : Exit → Act → World → Prop} (h : opTo P o a w K) : o.wp P a w (fun a' w' => ∃ v, a' = a.put o.dst v ∧ K v w') Q := by
  unfold opTo at h
  unfold Oper.wp
  generalize (execOp a.eval o).run P w = r at *
  cases r with
  | ok n w' =>
    cases n <;> simp only [opUpon] at h <;> simp only [Oper.upon]
    case value u => exact ⟨u, rfl, h⟩
    case skip => exact ⟨_, rfl, h⟩
    case enter f args => exact h.mono fun e w'' ⟨v, he, hk⟩ => by subst he; exact ⟨v, rfl, hk⟩
  | halt x w' => simp only [opUpon] at h

theorem wpAny_inv {ops : Array Oper} {Q : Exit → Act → World → Prop} (I : Array Bool → Act → World → Prop)
    (hstep : ∀ listed a w i, I listed a w → i ∈ Region.ready .any ops listed → wpOp P ops Q i (fun a' w' => I (listed.setIfInBounds i true) a' w') a w)
    (hend : ∀ listed a w, I listed a w → Region.ready .any ops listed = [] → Q .normal a w) :
    ∀ (fuel : Nat) (listed : Array Bool) (a : Act) (w : World), (listed.toList.count false ≤ fuel) → listed.size = ops.size → I listed a w → wpAny P .any ops Q fuel listed a w
  | 0, listed, a, w, hf, hs, h => by
    have hr : Region.ready .any ops listed = [] := by
      rw [List.eq_nil_iff_forall_not_mem]
      intro i hi
      obtain ⟨h1, o, ho, _⟩ := mem_ready.1 hi
      have hi' : i < ops.size := (Array.getElem?_eq_some_iff.1 ho).1
      have hil : i < listed.size := by omega
      have : false ∈ listed.toList := by
        have e : listed[i] = false := by simpa [hil] using h1
        rw [← e]; simp
      have := List.count_pos_iff.2 this
      omega
    exact ⟨hr, hend listed a w h hr⟩
  | fuel + 1, listed, a, w, hf, hs, h => by
    refine ⟨fun h0 => hend listed a w h h0, fun i hi => ?_⟩
    have h1 := hstep listed a w i h hi
    obtain ⟨h2, o, ho, _⟩ := mem_ready.1 hi
    have hi' : i < ops.size := (Array.getElem?_eq_some_iff.1 ho).1
    have hil : i < listed.size := by omega
    have hf' : (listed.setIfInBounds i true).toList.count false ≤ fuel := by
      have e : listed.toList[i]'(by simpa using hil) = false := by simpa [hil] using h2
      rw [Array.toList_setIfInBounds, List.count_set (by simpa using hil)]
      simp only [e]
      simp
      have : 0 < listed.toList.count false := List.count_pos_iff.2 (by rw [← e]; simp)
      have e3 : listed.toList.count false = Array.count false listed := by simp
      omega
    refine wpOp_mono (fun a' w' h' => wpAny_inv I hstep hend fuel _ a' w' hf' (by simpa using hs) h') h1

def waits (ops : Array Oper) (j i : Nat) : Bool := match ops[j]? with
  | some o => o.after.any fun e => Region.binds .any e && e.on == i
  | none => false
def relB (ops : Array Oper) (n : Nat) : Bool :=
  (List.range ops.size).all fun i => match ops[i]? with
    | none => true
    | some o => o.guard.isNone && (o.after.all fun e => !Region.binds .any e || decide (e.on < i)) &&
      (match o.dst with
       | none => true
       | some s => decide (s < n) && (List.range ops.size).all fun j => decide (j = i) || (match ops[j]? with | some oj => oj.dst != some s | none => true))
theorem relB_spec {ops : Array Oper} {n : Nat} (h : relB ops n = true) {i : Nat} {o : Oper} (ho : ops[i]? = some o) :
    o.guard = none ∧ (∀ e ∈ o.after, Region.binds .any e = true → e.on < i) ∧ ∀ s, o.dst = some s → s < n ∧ ∀ j oj, j ≠ i → ops[j]? = some oj → oj.dst ≠ some s := by
  have hi : i < ops.size := (Array.getElem?_eq_some_iff.1 ho).1
  have h1 := List.all_eq_true.1 h i (List.mem_range.2 hi)
  simp only [ho, Bool.and_eq_true] at h1
  obtain ⟨⟨h2, h3⟩, h4⟩ := h1
  refine ⟨by simpa using h2, fun e he hb => ?_, fun s hs => ?_⟩
  · have h5 := Array.all_eq_true'.1 h3 e he
    simpa [hb] using h5
  · simp only [hs, Bool.and_eq_true, decide_eq_true_eq] at h4
    refine ⟨h4.1, fun j oj hj hoj he => ?_⟩
    have hjl : j < ops.size := (Array.getElem?_eq_some_iff.1 hoj).1
    have h5 := List.all_eq_true.1 h4.2 j (List.mem_range.2 hjl)
    simp [hj, hoj, he] at h5

structure RelI (ops : Array Oper) (a0 : Act) (C : World → Prop) (Y : Nat → Value → World → Prop) (listed : Array Bool) (a : Act) (w : World) : Prop where
  size : listed.size = ops.size
  cls : C w
  closed : ∀ j oj, ops[j]? = some oj → listed.getD j false = true → ∀ e ∈ oj.after, Region.binds .any e = true → listed.getD e.on false = true
  done : ∀ k o s, ops[k]? = some o → o.dst = some s → listed.getD k false = true → Y k (a.tmps.getD s undef) w
  rest : ∀ s, (∀ k o, ops[k]? = some o → o.dst = some s → listed.getD k false = false) → a.tmps.getD s undef = a0.tmps.getD s undef
  tsize : a.tmps.size = a0.tmps.size
  defers : a.defers = a0.defers

def oblig (P : Program) (ops : Array Oper) (a0 : Act) (C : World → Prop) (R : World → World → Prop) (Y : Nat → Value → World → Prop) (i : Nat) (o : Oper) : Prop :=
  ∀ (a : Act) (w : World), C w → (∀ d od s, waits ops i d = true → ops[d]? = some od → od.dst = some s → Y d (a.tmps.getD s undef) w) →
    (∀ s, (∀ k ok, ops[k]? = some ok → ok.dst = some s → waits ops k i = true) → a.tmps.getD s undef = a0.tmps.getD s undef) →
    ∀ K : Value → World → Prop, (∀ u w', Y i u w' → C w' → R w w' → K u w') → opTo P o a w K
def obligs (P : Program) (ops : Array Oper) (a0 : Act) (C : World → Prop) (R : World → World → Prop) (Y : Nat → Value → World → Prop) : List Oper → Nat → Prop
  | [], _ => True
  | o :: t, k => oblig P ops a0 C R Y k o ∧ obligs P ops a0 C R Y t (k + 1)
theorem obligs_at {ops : Array Oper} {a0 : Act} {C : World → Prop} {R : World → World → Prop} {Y : Nat → Value → World → Prop} : ∀ (l : List Oper) (k : Nat), obligs P ops a0 C R Y l k → ∀ i o, l[i]? = some o → oblig P ops a0 C R Y (k + i) o
  | [], _, _, i, o, ho => by simp at ho
  | x :: t, k, h, 0, o, ho => by
    obtain rfl : x = o := by simpa using ho
    exact h.1
  | x :: t, k, h, i + 1, o, ho => by
    have := obligs_at t (k + 1) h.2 i o (by simpa using ho)
    rwa [show k + 1 + i = k + (i + 1) by omega] at this

theorem getD_put (a : Act) (d : Option Tmp) (u : Value) (s : Nat) : (a.put d u).tmps.getD s undef = if d = some s ∧ s < a.tmps.size then u else a.tmps.getD s undef := by
  cases d with
  | none => simp [Act.put]
  | some t =>
    by_cases h : t = s
    · subst h
      by_cases h2 : t < a.tmps.size
      · simp [Act.put, h2]
      · simp [Act.put, h2]
    · simp [Act.put, h, Array.getElem?_setIfInBounds]
theorem listed_set {listed : Array Bool} {i k : Nat} (h : (listed.setIfInBounds i true).getD k false = true) : k = i ∨ listed.getD k false = true := by
  by_cases hk : k = i
  · exact .inl hk
  · right
    simpa [Array.getElem?_setIfInBounds, Ne.symm hk] using h

theorem replicate_false_getD (m j : Nat) : (Array.replicate m false).getD j false = false := by
  by_cases h : j < m
  · simp [h]
  · simp [h]

theorem wp_region_rel {id : Nat} {l : List Oper} {Q : Exit → Act → World → Prop} {a0 : Act} {w0 : World} (C : World → Prop) (R : World → World → Prop) (Y : Nat → Value → World → Prop)
    (hm : P.follows .mixedOrders = true) (hB : relB l.toArray a0.tmps.size = true) (hC : C w0.drew)
    (hst : ∀ k v w w', Y k v w → R w w' → Y k v w')
    (hop : obligs P l.toArray a0 C R Y l 0)
    (hend : ∀ a w, C w → (∀ k o s, l.toArray[k]? = some o → o.dst = some s → Y k (a.tmps.getD s undef) w) →
      (∀ s, (∀ (k : Nat) (o : Oper), l.toArray[k]? = some o → o.dst ≠ some s) → a.tmps.getD s undef = a0.tmps.getD s undef) → a.tmps.size = a0.tmps.size → a.defers = a0.defers → Q .normal a w) :
    (Code.region id l.toArray true).wp P Q a0 w0 := by
  refine wp_region_any hm (wpAny_inv (RelI l.toArray a0 C Y) ?_ ?_ _ _ _ _ ?_ (by simp) ?_)
  · intro listed a w i hI hi
    obtain ⟨h2, o, ho, hall⟩ := mem_ready.1 hi
    obtain ⟨hg, hlt, hdst⟩ := relB_spec hB ho
    have hi' : i < l.toArray.size := (Array.getElem?_eq_some_iff.1 ho).1
    have hil : i < listed.size := by rw [hI.size]; exact hi'
    have hun : listed.getD i false = false := by simpa [hil] using h2
    unfold wpOp
    simp only [ho]
    rw [if_pos (by unfold Region.wanted; rw [hg])]
    refine .inl ?_
    have hob0 := obligs_at l 0 hop i o (by simpa using ho)
    rw [Nat.zero_add] at hob0
    have hob := hob0 a w hI.cls ?_ ?_ (fun u w' => Y i u w' ∧ C w' ∧ R w w') (fun u w' h1 h2 h3 => ⟨h1, h2, h3⟩)
    · refine Oper.wp_mono (fun a' w' h => ?_) (opTo_wp hob)
      obtain ⟨v, rfl, hY, hCw, hR⟩ := h
      refine ⟨by simpa using hI.size, hCw, fun j oj hj hl e he hb => ?_, fun k ok s hk hs hl => ?_, fun s hs => ?_, ?_, ?_⟩
      · rcases listed_set hl with rfl | hl'
        · rw [ho] at hj; cases hj
          have := hall e he hb
          by_cases hei : e.on = j
          · rw [hei]; simp [hil]
          · simpa [Array.getElem?_setIfInBounds, Ne.symm hei] using this
        · have := hI.closed j oj hj hl' e he hb
          by_cases hei : e.on = i
          · rw [hei]; simp [hil]
          · simpa [Array.getElem?_setIfInBounds, Ne.symm hei] using this
      · rw [getD_put]
        by_cases hki : k = i
        · subst hki
          rw [ho] at hk; cases hk
          rw [if_pos ⟨hs, by rw [hI.tsize]; exact (hdst s hs).1⟩]
          exact hY
        · have hne : o.dst ≠ some s := fun he => (hdst s he).2 k ok hki hk hs
          rw [if_neg (fun hh => hne hh.1)]
          rcases listed_set hl with h | h
          · exact absurd h hki
          · exact hst k _ _ _ (hI.done k ok s hk hs h) hR
      · rw [getD_put]
        have hne : o.dst ≠ some s := fun he => by
          have := hs i o ho he
          simp [hil] at this
        rw [if_neg (fun hh => hne hh.1)]
        refine hI.rest s fun k ok hk hsk => ?_
        have h5 := hs k ok hk hsk
        by_cases hki : k = i
        · subst hki; exact hun
        · simpa [Array.getElem?_setIfInBounds, Ne.symm hki] using h5
      · show (a.put o.dst v).tmps.size = _
        rw [← hI.tsize]; unfold Act.put; cases o.dst <;> simp
      · show (a.put o.dst v).defers = _
        rw [← hI.defers]; unfold Act.put; cases o.dst <;> rfl
    · intro d od s hw hd hs
      refine hI.done d od s hd hs ?_
      unfold waits at hw
      simp only [ho] at hw
      obtain ⟨e, he, hb⟩ := Array.any_eq_true'.1 hw
      simp only [Bool.and_eq_true, beq_iff_eq] at hb
      rw [← hb.2]; exact hall e he hb.1
    · intro s hs
      refine hI.rest s fun k ok hk hsk => ?_
      have hw := hs k ok hk hsk
      unfold waits at hw
      simp only [hk] at hw
      obtain ⟨e, he, hb⟩ := Array.any_eq_true'.1 hw
      simp only [Bool.and_eq_true, beq_iff_eq] at hb
      cases hlk : listed.getD k false with
      | false => rfl
      | true =>
        have := hI.closed k ok hk hlk e he hb.1
        rw [hb.2, hun] at this
        exact absurd this (by decide)
  · intro listed a w hI hr
    have hl : ∀ k, k < l.toArray.size → listed.getD k false = true := by
      intro k
      induction k using Nat.strongRecOn with
      | _ k ih =>
        intro hk
        cases hlk : listed.getD k false with
        | true => rfl
        | false =>
          exfalso
          have hkl : k < listed.size := by rw [hI.size]; exact hk
          have ho : l.toArray[k]? = some l.toArray[k] := Array.getElem?_eq_getElem hk
          have hmem : k ∈ Region.ready .any l.toArray listed := mem_ready.2 ⟨by simpa [hkl] using hlk, _, ho, fun e he hb => by
            have h1 := (relB_spec hB ho).2.1 e he hb
            exact ih e.on h1 (by omega)⟩
          rw [hr] at hmem; cases hmem
    exact hend a w hI.cls (fun k o s hk hs => hI.done k o s hk hs (hl k (Array.getElem?_eq_some_iff.1 hk).1)) (fun s hs => hI.rest s fun k o hk hsk => absurd hsk (hs k o hk)) hI.tsize hI.defers
  · have : (Array.replicate l.toArray.size false).toList.count false ≤ l.toArray.size := by
      have := List.count_le_length (a := false) (l := (Array.replicate l.toArray.size false).toList)
      simp only [Array.length_toList, Array.size_replicate] at this
      exact this
    exact this
  · refine ⟨by simp, hC, fun j oj hj hl => ?_, fun k o s hk hs hl => ?_, fun s _ => rfl, rfl, rfl⟩
    · exact absurd hl (by rw [replicate_false_getD]; decide)
    · exact absurd hl (by rw [replicate_false_getD]; decide)

def putAll : List Oper → Nat → (Nat → Value) → Act → Act
  | [], _, _, a => a
  | o :: t, k, vals, a => putAll t (k + 1) vals (a.put o.dst (vals k))
theorem putAll_size : ∀ (l : List Oper) (k : Nat) (vals : Nat → Value) (a : Act), (putAll l k vals a).tmps.size = a.tmps.size
  | [], _, _, _ => rfl
  | o :: t, k, vals, a => by
    show (putAll t (k + 1) vals (a.put o.dst (vals k))).tmps.size = _
    rw [putAll_size t]; unfold Act.put; cases o.dst <;> simp
theorem putAll_defers : ∀ (l : List Oper) (k : Nat) (vals : Nat → Value) (a : Act), (putAll l k vals a).defers = a.defers
  | [], _, _, _ => rfl
  | o :: t, k, vals, a => by
    show (putAll t (k + 1) vals (a.put o.dst (vals k))).defers = _
    rw [putAll_defers t]; unfold Act.put; cases o.dst <;> rfl
theorem putAll_not : ∀ (l : List Oper) (k : Nat) (vals : Nat → Value) (a : Act) (s : Nat), (∀ o ∈ l, o.dst ≠ some s) → (putAll l k vals a).tmps.getD s undef = a.tmps.getD s undef
  | [], _, _, _, _, _ => rfl
  | o :: t, k, vals, a, s, h => by
    show (putAll t (k + 1) vals (a.put o.dst (vals k))).tmps.getD s undef = _
    rw [putAll_not t _ _ _ s (fun o' ho' => h o' (List.mem_cons_of_mem _ ho')), getD_put, if_neg (fun hh => h o List.mem_cons_self hh.1)]
theorem putAll_at : ∀ (l : List Oper) (k : Nat) (vals : Nat → Value) (a : Act) (i : Nat) (o : Oper) (s : Nat), (∀ j oj, j ≠ i → l[j]? = some oj → oj.dst ≠ some s) → l[i]? = some o → o.dst = some s → s < a.tmps.size →
    (putAll l k vals a).tmps.getD s undef = vals (k + i)
  | [], _, _, _, i, o, s, _, h, _, _ => by simp at h
  | x :: t, k, vals, a, 0, o, s, hd, h, hs, hl => by
    obtain rfl : x = o := by simpa using h
    show (putAll t (k + 1) vals (a.put x.dst (vals k))).tmps.getD s undef = _
    rw [putAll_not t _ _ _ s (fun o' ho' => by
      obtain ⟨j, hj, hjo⟩ := List.mem_iff_getElem.1 ho'
      exact hd (j + 1) o' (by omega) (by simp [hj, hjo])), getD_put, if_pos ⟨hs, hl⟩]
    rfl
  | x :: t, k, vals, a, i + 1, o, s, hd, h, hs, hl => by
    show (putAll t (k + 1) vals (a.put x.dst (vals k))).tmps.getD s undef = _
    rw [putAll_at t (k + 1) vals _ i o s (fun j oj hj hjo => hd (j + 1) oj (by omega) (by simpa using hjo)) (by simpa using h) hs (by unfold Act.put; cases x.dst <;> simpa using hl)]
    rw [show k + 1 + i = k + (i + 1) by omega]
def dstOf (l : List Oper) (k : Nat) : Nat := ((l[k]?).bind (·.dst)).getD 0
theorem act_ext {a b : Act} (h1 : a.tmps.size = b.tmps.size) (h2 : ∀ s, a.tmps.getD s undef = b.tmps.getD s undef) (h3 : a.defers = b.defers) : a = b := by
  obtain ⟨x, p⟩ := a
  obtain ⟨y, q⟩ := b
  simp only at h1 h2 h3
  subst h3
  have : x = y := by
    apply Array.ext h1
    intro i hi hj
    have := h2 i
    simpa [hi, hj] using this
  rw [this]

theorem wp_region_rel2 {id : Nat} {l : List Oper} {Q : Exit → Act → World → Prop} {a0 : Act} {w0 : World} (C : World → Prop) (R : World → World → Prop) (Y : Nat → Value → World → Prop)
    (hm : P.follows .mixedOrders = true) (hB : relB l.toArray a0.tmps.size = true) (hC : C w0.drew)
    (hst : ∀ k v w w', Y k v w → R w w' → Y k v w')
    (hop : obligs P l.toArray a0 C R Y l 0)
    (hend : ∀ vals w, C w → (∀ k o s, l[k]? = some o → o.dst = some s → Y k (vals k) w) → Q .normal (putAll l 0 vals a0) w) :
    (Code.region id l.toArray true).wp P Q a0 w0 := by
  refine wp_region_rel C R Y hm hB hC hst hop fun a w hCw hY hrest hsz hdf => ?_
  have e : a = putAll l 0 (fun k => a.tmps.getD (dstOf l k) undef) a0 := by
    refine act_ext (by rw [putAll_size]; exact hsz) (fun s => ?_) (by rw [putAll_defers]; exact hdf)
    by_cases h : ∃ (i : Nat) (o : Oper), l[i]? = some o ∧ o.dst = some s
    · obtain ⟨i, o, hi, hs⟩ := h
      have hsp := (relB_spec hB (i := i) (o := o) (by simpa using hi)).2.2 s hs
      rw [putAll_at l 0 _ a0 i o s (fun j oj hj hjo => hsp.2 j oj hj (by simpa using hjo)) hi hs hsp.1, Nat.zero_add]
      show _ = a.tmps.getD (dstOf l i) undef
      unfold dstOf
      rw [hi]
      simp [hs]
    · rw [putAll_not l 0 _ a0 s (fun o ho he => by
        obtain ⟨j, hj, hjo⟩ := List.mem_iff_getElem.1 ho
        exact h ⟨j, o, by simp [hj, hjo], he⟩)]
      exact hrest s fun k o hk he => h ⟨k, o, by simpa using hk, he⟩
  rw [e]
  refine hend _ w hCw fun k o s hk hs => ?_
  show Y k (a.tmps.getD (dstOf l k) undef) w
  have : dstOf l k = s := by unfold dstOf; rw [hk]; simp [hs]
  rw [this]
  exact hY k o s (by simpa using hk) hs

def tailB (ops : Array Oper) (n : Nat) : Bool := (List.range ops.size).all fun i => decide (i < n) || (List.range i).all fun j => waits ops i j
theorem tailB_spec {ops : Array Oper} {n i j : Nat} (h : tailB ops n = true) (hi : i < ops.size) (hn : n ≤ i) (hj : j < i) : waits ops i j = true := by
  have h1 := List.all_eq_true.1 h i (List.mem_range.2 hi)
  rw [Bool.or_eq_true] at h1
  rcases h1 with h1 | h1
  · have := of_decide_eq_true h1; omega
  · exact List.all_eq_true.1 h1 j (List.mem_range.2 hj)
theorem waits_listed {ops : Array Oper} {listed : Array Bool} {i j : Nat} (hi : i ∈ Region.ready .any ops listed) (h : waits ops i j = true) : listed.getD j false = true := by
  obtain ⟨_, o, ho, hall⟩ := mem_ready.1 hi
  unfold waits at h
  simp only [ho] at h
  obtain ⟨e, he, hb⟩ := Array.any_eq_true'.1 h
  simp only [Bool.and_eq_true, beq_iff_eq] at hb
  rw [← hb.2]; exact hall e he hb.1

theorem wp_region_rel3 {id : Nat} (l tl : List Oper) {Q : Exit → Act → World → Prop} {a0 : Act} {w0 : World} (C : World → Prop) (R : World → World → Prop) (Y : Nat → Value → World → Prop)
    (hm : P.follows .mixedOrders = true) (hB : relB (l ++ tl).toArray a0.tmps.size = true) (hT : tailB (l ++ tl).toArray l.length = true) (hC : C w0.drew)
    (hst : ∀ k v w w', Y k v w → R w w' → Y k v w')
    (hop : obligs P (l ++ tl).toArray a0 C R Y l 0)
    (hend : ∀ vals w, C w → (∀ k o s, l[k]? = some o → o.dst = some s → Y k (vals k) w) → wpList P (l ++ tl).toArray Q tl (putAll l 0 vals a0) w) :
    (Code.region id (l ++ tl).toArray true).wp P Q a0 w0 := by
  have hops : ∀ k, k < l.length → (l ++ tl).toArray[k]? = l[k]? := fun k hk => by simp [List.getElem?_append_left hk]
  have hopt : ∀ j, (l ++ tl).toArray[l.length + j]? = tl[j]? := fun j => by simp [List.getElem?_append_right]
  have hsz : (l ++ tl).toArray.size = l.length + tl.length := by simp
  let I1 : Array Bool → Act → World → Prop := fun listed a w => RelI (l ++ tl).toArray a0 C Y listed a w ∧ ∀ k, l.length ≤ k → listed.getD k false = false
  let I2 : Array Bool → Act → World → Prop := fun listed a w => ∃ j, j ≤ tl.length ∧ listed.size = (l ++ tl).toArray.size ∧ (∀ k, k < l.length + j → listed.getD k false = true) ∧ (∀ k, l.length + j ≤ k → listed.getD k false = false) ∧ wpList P (l ++ tl).toArray Q (tl.drop j) a w
  have step2 : ∀ listed a w i, I2 listed a w → i ∈ Region.ready .any (l ++ tl).toArray listed → wpOp P (l ++ tl).toArray Q i (fun a' w' => I1 (listed.setIfInBounds i true) a' w' ∨ I2 (listed.setIfInBounds i true) a' w') a w := by
    rintro listed a w i ⟨j, hj, hls, h1, h2, h3⟩ hi
    obtain ⟨hu, o, ho, hall⟩ := mem_ready.1 hi
    have hi' : i < (l ++ tl).toArray.size := (Array.getElem?_eq_some_iff.1 ho).1
    have hil : i < listed.size := by omega
    have hun : listed.getD i false = false := by simpa [hil] using hu
    have hge : l.length + j ≤ i := by
      rcases Nat.lt_or_ge i (l.length + j) with h | h
      · rw [h1 i h] at hun; cases hun
      · exact h
    have hij : i = l.length + j := by
      rcases Nat.lt_or_ge (l.length + j) i with h | h
      · have := waits_listed hi (tailB_spec hT hi' (by omega) h)
        rw [h2 _ (Nat.le_refl _)] at this; cases this
      · omega
    subst hij
    have htj : tl[j]? = some o := by rw [← hopt]; exact ho
    have hjl : j < tl.length := (List.getElem?_eq_some_iff.1 htj).1
    have hdrop : tl.drop j = o :: tl.drop (j + 1) := by
      rw [List.drop_eq_getElem_cons hjl]
      congr 1
      exact (List.getElem?_eq_some_iff.1 htj).2
    rw [hdrop] at h3
    have hg := (relB_spec hB ho).1
    unfold wpOp
    simp only [ho]
    have hw : Region.wanted o (yielded (l ++ tl).toArray a.tmps) = true := by unfold Region.wanted; rw [hg]
    unfold wpList at h3
    rw [if_pos hw] at h3 ⊢
    refine h3.imp (Oper.wp_mono (fun a' w' h => .inr ⟨j + 1, by omega, by simpa using hls, fun k hk => ?_, fun k hk => ?_, h⟩)) (fun x => x)
    · by_cases hkj : k = l.length + j
      · subst hkj; simp [hil]
      · have := h1 k (by omega)
        simpa [Array.getElem?_setIfInBounds, Ne.symm hkj] using this
    · have := h2 k (by omega)
      have hkj : k ≠ l.length + j := by omega
      simpa [Array.getElem?_setIfInBounds, Ne.symm hkj] using this
  have to2 : ∀ listed a w, I1 listed a w → (∀ k, k < l.length → listed.getD k false = true) → I2 listed a w := by
    rintro listed a w ⟨hI, ht⟩ hl
    refine ⟨0, Nat.zero_le _, hI.size, fun k hk => hl k (by omega), fun k hk => ht k (by omega), ?_⟩
    rw [List.drop_zero]
    have hlt : ∀ k o s, l[k]? = some o → o.dst = some s → Y k (a.tmps.getD s undef) w := fun k o s hk hs =>
      hI.done k o s (by rw [hops k (List.getElem?_eq_some_iff.1 hk).1]; exact hk) hs (hl k (List.getElem?_eq_some_iff.1 hk).1)
    have e : a = putAll l 0 (fun k => a.tmps.getD (dstOf l k) undef) a0 := by
      refine act_ext (by rw [putAll_size]; exact hI.tsize) (fun s => ?_) (by rw [putAll_defers]; exact hI.defers)
      by_cases h : ∃ (i : Nat) (o : Oper), l[i]? = some o ∧ o.dst = some s
      · obtain ⟨i, o, hi, hs⟩ := h
        have hil := (List.getElem?_eq_some_iff.1 hi).1
        have hsp := (relB_spec hB (i := i) (o := o) (by rw [hops i hil]; exact hi)).2.2 s hs
        rw [putAll_at l 0 _ a0 i o s (fun j oj hj hjo => hsp.2 j oj hj (by rw [hops j (List.getElem?_eq_some_iff.1 hjo).1]; exact hjo)) hi hs hsp.1, Nat.zero_add]
        show _ = a.tmps.getD (dstOf l i) undef
        unfold dstOf
        rw [hi]
        simp [hs]
      · rw [putAll_not l 0 _ a0 s (fun o ho he => by
          obtain ⟨j, hj, hjo⟩ := List.mem_iff_getElem.1 ho
          exact h ⟨j, o, by simp [hj, hjo], he⟩)]
        refine hI.rest s fun k o hk he => ?_
        rcases Nat.lt_or_ge k l.length with hk' | hk'
        · exact absurd ⟨k, o, by rw [← hops k hk']; exact hk, he⟩ h
        · exact ht k hk'
    rw [e]
    refine hend _ w hI.cls fun k o s hk hs => ?_
    show Y k (a.tmps.getD (dstOf l k) undef) w
    have : dstOf l k = s := by unfold dstOf; rw [hk]; simp [hs]
    rw [this]
    exact hlt k o s hk hs
  refine wp_region_any hm (wpAny_inv (fun listed a w => I1 listed a w ∨ I2 listed a w) ?_ ?_ _ _ _ _ ?_ (by simp) (.inl ⟨?_, ?_⟩))
  · intro listed a w i hI hi
    rcases hI with hI | hI
    case inr => exact step2 listed a w i hI hi
    obtain ⟨hu, o, ho, hall⟩ := mem_ready.1 hi
    have hi' : i < (l ++ tl).toArray.size := (Array.getElem?_eq_some_iff.1 ho).1
    rcases Nat.lt_or_ge i l.length with hin | hin
    case inr =>
      exact step2 listed a w i (to2 listed a w hI fun k hk => waits_listed hi (tailB_spec hT hi' hin (by omega))) hi
    obtain ⟨hI, htl⟩ := hI
    obtain ⟨hg, hlt, hdst⟩ := relB_spec hB ho
    have hil : i < listed.size := by rw [hI.size]; exact hi'
    have hun : listed.getD i false = false := by simpa [hil] using hu
    unfold wpOp
    simp only [ho]
    rw [if_pos (by unfold Region.wanted; rw [hg])]
    refine .inl ?_
    have hob0 := obligs_at l 0 hop i o (by rw [← hops i hin]; exact ho)
    rw [Nat.zero_add] at hob0
    have hob := hob0 a w hI.cls ?_ ?_ (fun u w' => Y i u w' ∧ C w' ∧ R w w') (fun u w' h1 h2 h3 => ⟨h1, h2, h3⟩)
    · refine Oper.wp_mono (fun a' w' h => ?_) (opTo_wp hob)
      obtain ⟨v, rfl, hY, hCw, hR⟩ := h
      refine .inl ⟨⟨by simpa using hI.size, hCw, fun j oj hj hl e he hb => ?_, fun k ok s hk hs hl => ?_, fun s hs => ?_, ?_, ?_⟩, fun k hk => ?_⟩
      · rcases listed_set hl with rfl | hl'
        · rw [ho] at hj; cases hj
          have := hall e he hb
          by_cases hei : e.on = j
          · rw [hei]; simp [hil]
          · simpa [Array.getElem?_setIfInBounds, Ne.symm hei] using this
        · have := hI.closed j oj hj hl' e he hb
          by_cases hei : e.on = i
          · rw [hei]; simp [hil]
          · simpa [Array.getElem?_setIfInBounds, Ne.symm hei] using this
      · rw [getD_put]
        by_cases hki : k = i
        · subst hki
          rw [ho] at hk; cases hk
          rw [if_pos ⟨hs, by rw [hI.tsize]; exact (hdst s hs).1⟩]
          exact hY
        · have hne : o.dst ≠ some s := fun he => (hdst s he).2 k ok hki hk hs
          rw [if_neg (fun hh => hne hh.1)]
          rcases listed_set hl with h | h
          · exact absurd h hki
          · exact hst k _ _ _ (hI.done k ok s hk hs h) hR
      · rw [getD_put]
        have hne : o.dst ≠ some s := fun he => by
          have := hs i o ho he
          simp [hil] at this
        rw [if_neg (fun hh => hne hh.1)]
        refine hI.rest s fun k ok hk hsk => ?_
        have h5 := hs k ok hk hsk
        by_cases hki : k = i
        · subst hki; exact hun
        · simpa [Array.getElem?_setIfInBounds, Ne.symm hki] using h5
      · show (a.put o.dst v).tmps.size = _
        rw [← hI.tsize]; unfold Act.put; cases o.dst <;> simp
      · show (a.put o.dst v).defers = _
        rw [← hI.defers]; unfold Act.put; cases o.dst <;> rfl
      · have h5 := htl k hk
        have hki : k ≠ i := by omega
        simpa [Array.getElem?_setIfInBounds, Ne.symm hki] using h5
    · intro d od s hw hd hs
      exact hI.done d od s hd hs (waits_listed hi hw)
    · intro s hs
      refine hI.rest s fun k ok hk hsk => ?_
      have hw := hs k ok hk hsk
      unfold waits at hw
      simp only [hk] at hw
      obtain ⟨e, he, hb⟩ := Array.any_eq_true'.1 hw
      simp only [Bool.and_eq_true, beq_iff_eq] at hb
      cases hlk : listed.getD k false with
      | false => rfl
      | true =>
        have := hI.closed k ok hk hlk e he hb.1
        rw [hb.2, hun] at this
        exact absurd this (by decide)
  · intro listed a w hI hr
    have hl : ∀ (n : Nat), listed.size = (l ++ tl).toArray.size → n ≤ (l ++ tl).toArray.size → ∀ k, k < n → listed.getD k false = true := by
      intro n hls hn k
      induction k using Nat.strongRecOn with
      | _ k ih =>
        intro hk
        cases hlk : listed.getD k false with
        | true => rfl
        | false =>
          exfalso
          have hkl : k < listed.size := by omega
          have ho : (l ++ tl).toArray[k]? = some (l ++ tl).toArray[k] := Array.getElem?_eq_getElem (by omega)
          have hmem : k ∈ Region.ready .any (l ++ tl).toArray listed := mem_ready.2 ⟨by simpa [hkl] using hlk, _, ho, fun e he hb => by
            have h1 := (relB_spec hB ho).2.1 e he hb
            exact ih e.on h1 (by omega)⟩
          rw [hr] at hmem; cases hmem
    have hI2 : I2 listed a w := by
      rcases hI with hI | hI
      · exact to2 listed a w hI fun k hk => hl l.length hI.1.size (by omega) k hk
      · exact hI
    obtain ⟨j, hj, hls, h1, h2, h3⟩ := hI2
    rcases Nat.lt_or_ge j tl.length with hjl | hjl
    · have := hl (l.length + j + 1) hls (by omega) (l.length + j) (by omega)
      rw [h2 _ (Nat.le_refl _)] at this; cases this
    · rw [List.drop_of_length_le hjl] at h3
      exact h3
  · have : (Array.replicate (l ++ tl).toArray.size false).toList.count false ≤ (l ++ tl).toArray.size := by
      have := List.count_le_length (a := false) (l := (Array.replicate (l ++ tl).toArray.size false).toList)
      simp only [Array.length_toList, Array.size_replicate] at this
      exact this
    exact this
  · refine ⟨by simp, hC, fun j oj hj hl => ?_, fun k o s hk hs hl => ?_, fun s _ => rfl, rfl, rfl⟩
    · exact absurd hl (by rw [replicate_false_getD]; decide)
    · exact absurd hl (by rw [replicate_false_getD]; decide)
  · intro k _
    exact replicate_false_getD _ _

theorem wp_region_rel4 {id : Nat} (n : Nat) {l : List Oper} {Q : Exit → Act → World → Prop} {a0 : Act} {w0 : World} (C : World → Prop) (R : World → World → Prop) (Y : Nat → Value → World → Prop)
    (hm : P.follows .mixedOrders = true) (hB : relB l.toArray a0.tmps.size = true) (hT : (decide (n ≤ l.length) && tailB l.toArray n) = true) (hC : C w0.drew)
    (hst : ∀ k v w w', Y k v w → R w w' → Y k v w')
    (hop : obligs P l.toArray a0 C R Y (l.take n) 0)
    (hend : ∀ vals w, C w → (∀ k o s, (l.take n)[k]? = some o → o.dst = some s → Y k (vals k) w) → wpList P l.toArray Q (l.drop n) (putAll (l.take n) 0 vals a0) w) :
    (Code.region id l.toArray true).wp P Q a0 w0 := by
  rw [Bool.and_eq_true] at hT
  have hn := of_decide_eq_true hT.1
  have hl : (l.take n).length = n := by rw [List.length_take]; omega
  have h := wp_region_rel3 (P := P) (id := id) (l.take n) (l.drop n) (Q := Q) (a0 := a0) (w0 := w0) C R Y hm (by rw [List.take_append_drop]; exact hB) (by rw [List.take_append_drop, hl]; exact hT.2) hC hst
    (by rw [List.take_append_drop]; exact hop) (by rw [List.take_append_drop]; exact hend)
  rwa [List.take_append_drop] at h
def slotOk (ops : Array Oper) (s i : Nat) : Bool := (List.range ops.size).all fun k => match ops[k]? with
  | some o => o.dst != some s || waits ops k i
  | none => true
theorem slotOk_spec {ops : Array Oper} {s i : Nat} (h : slotOk ops s i = true) : ∀ k ok, ops[k]? = some ok → ok.dst = some s → waits ops k i = true := fun k ok hk hs => by
  have hk' : k < ops.size := (Array.getElem?_eq_some_iff.1 hk).1
  have h1 := List.all_eq_true.1 h k (List.mem_range.2 hk')
  simpa [hk, hs] using h1
abbrev Det (u : Value) : Value → World → Prop := fun v _ => v = u
abbrev Fresh (n : Nat) (cs : List Value) : Value → World → Prop := fun v W => ∃ g, v = .slice (some ⟨g, 0, none⟩) n n ∧ Box W g cs
abbrev Ys (ys : List (Value → World → Prop)) : Nat → Value → World → Prop := fun k => ys.getD k (fun _ _ => True)
abbrev New (B : Nat) (cs : List Value) : Value → World → Prop := fun v W => ∃ g, v = .pointer (some ⟨g, 0, none⟩) ∧ B ≤ g ∧ Box W g cs
theorem New.st (B : Nat) (cs : List Value) : ∀ v w w', New B cs v w → Up w w' → New B cs v w' := fun _ _ _ ⟨g, h1, h2, h3⟩ hu => ⟨g, h1, h2, h3.up hu⟩
def Stable : List (Value → World → Prop) → Prop
  | [] => True
  | p :: t => (∀ v w w', p v w → Up w w' → p v w') ∧ Stable t
theorem Det.st (u : Value) : ∀ v w w', Det u v w → Up w w' → Det u v w' := fun _ _ _ h _ => h
theorem Fresh.st (n : Nat) (cs : List Value) : ∀ v w w', Fresh n cs v w → Up w w' → Fresh n cs v w' := fun _ _ _ ⟨g, h1, h2⟩ hu => ⟨g, h1, h2.up hu⟩
theorem Stable.ys : ∀ {ys : List (Value → World → Prop)}, Stable ys → ∀ k v w w', Ys ys k v w → Up w w' → Ys ys k v w'
  | [], _, _, _, _, _, h, _ => h
  | p :: t, hs, 0, v, w, w', h, hu => hs.1 v w w' h hu
  | p :: t, hs, k + 1, v, w, w', h, hu => Stable.ys (ys := t) hs.2 k v w w' h hu

def depB (ops : Array Oper) (i d s : Nat) : Bool := waits ops i d && (match ops[d]? with | some od => od.dst == some s | none => false)
theorem dep_of {ops : Array Oper} {Y : Nat → Value → World → Prop} {i : Nat} {a : Act} {w : World} (h : ∀ d od s, waits ops i d = true → ops[d]? = some od → od.dst = some s → Y d (a.tmps.getD s undef) w)
    (d s : Nat) (hb : depB ops i d s = true) : Y d (a.tmps.getD s undef) w := by
  unfold depB at hb
  rw [Bool.and_eq_true] at hb
  obtain ⟨h1, h2⟩ := hb
  split at h2
  · rename_i od ho
    exact h d od s h1 ho (by simpa using h2)
  · exact absurd h2 (by decide)
theorem obligs_cons {ops : Array Oper} {a0 : Act} {C : World → Prop} {R : World → World → Prop} {Y : Nat → Value → World → Prop} {o : Oper} {t : List Oper} {k : Nat}
    (h : oblig P ops a0 C R Y k o) (h' : obligs P ops a0 C R Y t (k + 1)) : obligs P ops a0 C R Y (o :: t) k := ⟨h, h'⟩
theorem obligs_nil {ops : Array Oper} {a0 : Act} {C : World → Prop} {R : World → World → Prop} {Y : Nat → Value → World → Prop} {k : Nat} : obligs P ops a0 C R Y [] k := trivial
end
end Go.Proofs.Ytafckmbgefbonaa.nb

namespace Go.Proofs.Ytafckmbgefbonaa.nb
open Go.RowKit Go.Shelf Go.Proofs.Ytafckmbgefbonaa.sm
set_option linter.unusedVariables false

theorem results_cell_tmp2 {fn : Func} {p u v : Tmp} {ty : TypeId} (h : fn.results = #[.cell p ty, .tmp u, .tmp v]) (tmps : Array Value) (P : Program) (w : World) :
    (results fn tmps).run P w =
      ((asAddr (tmps.getD p undef)).run P w).andThen fun a w₁ => ((loadVar ty a).run P w₁).andThen fun x w₂ => .ok (.tuple #[x, tmps.getD u undef, tmps.getD v undef]) w₂ := by
  simp only [results, h]
  simp [Sem.run_bind, Result.andThen]

theorem results_cell1 {fn : Func} {p : Tmp} {ty : TypeId} (h : fn.results = #[.cell p ty]) (tmps : Array Value) (P : Program) (w : World) :
    (results fn tmps).run P w = ((asAddr (tmps.getD p undef)).run P w).andThen fun a w₁ => ((loadVar ty a).run P w₁).andThen fun v w₂ => .ok v w₂ := by
  simp only [results, h]
  simp [Sem.run_bind, Result.andThen]
  cases (Sem.run P (asAddr (tmps[p]?.getD undef)) w) with
  | ok a w1 => cases h2 : (Sem.run P (loadVar ty a) w1) <;> simp [h2]
  | halt h w1 => rfl
theorem beq_dec (x y : Int) : (x == y) = decide (x = y) := by rw [Bool.eq_iff_iff]; simp
theorem bne_dec (x y : Int) : (x != y) = decide (x ≠ y) := by rw [Bool.eq_iff_iff]; simp
theorem u8_and15 (x : Nat) (h : x ≤ 255) : bits .and .u8 (x : Int) 15 = ((x % 16 : Nat) : Int) := by
  have h1 : (BitVec.ofInt 8 (x : Int)).toNat = x := by rw [BitVec.ofInt_natCast, BitVec.toNat_ofNat]; exact Nat.mod_eq_of_lt (by omega)
  have h2 : (BitVec.ofInt 8 (15 : Int)).toNat = 15 := by decide
  show IntKind.u8.wrap ((BitVec.ofInt 8 (x : Int) &&& BitVec.ofInt 8 (15 : Int)).toNat : Int) = _
  rw [BitVec.toNat_and, h1, h2, show x &&& 15 = x % 16 from Nat.and_two_pow_sub_one_eq_mod x 4, IntKind.wrap_u8]
  omega
def nm (l : List UInt8) : Nat → Int
  | 0 => 0
  | k + 1 => 256 * nm l k + bt l k
end Go.Proofs.Ytafckmbgefbonaa.nb

namespace Go.Proofs.Ytafckmbgefbonaa.op
open Go.RowKit Go.Shelf Go.Lib Go.Proofs.Ytafckmbgefbonaa.sm Go.Proofs.Ytafckmbgefbonaa.nb Go.Proofs.Ytafckmbgefbonaa.om
set_option linter.unusedVariables false

def RdB (w : World) (A : Option Addr) (xs : List (Nat × Nat)) : Prop :=
  xs ≠ [] → ∃ b off, A = some ⟨b, off, none⟩ ∧ b < w.heap.size ∧ ∀ k, k < xs.length →
    w.cell? ⟨b, off + k * 2, none⟩ = some (.int .u32 ((xs.getD k (0, 0)).1 : Nat)) ∧ w.cell? ⟨b, off + k * 2 + 1, none⟩ = some (.int .u32 ((xs.getD k (0, 0)).2 : Nat))
theorem RdB.at_ {w : World} {A : Option Addr} {xs : List (Nat × Nat)} (h : RdB w A xs) {k : Nat} (hk : k < xs.length) : ∃ b off, A = some ⟨b, off, none⟩ ∧ b < w.heap.size ∧
    ∃ x1 x2 : Nat, w.cell? ⟨b, off + k * 2, none⟩ = some (.int .u32 x1) ∧ w.cell? ⟨b, off + k * 2 + 1, none⟩ = some (.int .u32 x2) ∧ Hid (xs[k]? = some (x1, x2)) := by
  obtain ⟨b, off, e, hl, hc⟩ := h (by intro h; subst h; simp at hk)
  obtain ⟨c1, c2⟩ := hc k hk
  exact ⟨b, off, e, hl, _, _, c1, c2, (show xs[k]? = _ by simp [List.getD, List.getElem?_eq_getElem hk])⟩
theorem RdB.two {w : World} {A : Option Addr} {xs : List (Nat × Nat)} (h : RdB w A xs) {k j : Nat} (hk : k < xs.length) (hj : j < xs.length) : ∃ b off, A = some ⟨b, off, none⟩ ∧ b < w.heap.size ∧
    ∃ x1 x2 y1 y2 : Nat, w.cell? ⟨b, off + k * 2, none⟩ = some (.int .u32 x1) ∧ w.cell? ⟨b, off + k * 2 + 1, none⟩ = some (.int .u32 x2) ∧ Hid (xs[k]? = some (x1, x2)) ∧
      w.cell? ⟨b, off + j * 2, none⟩ = some (.int .u32 y1) ∧ w.cell? ⟨b, off + j * 2 + 1, none⟩ = some (.int .u32 y2) ∧ Hid (xs[j]? = some (y1, y2)) := by
  obtain ⟨b, off, e, hl, x1, x2, c1, c2, hx⟩ := h.at_ hk
  obtain ⟨b', off', e', hl', y1, y2, d1, d2, hy⟩ := h.at_ hj
  rw [e] at e'; cases e'
  exact ⟨b, off, e, hl, x1, x2, y1, y2, c1, c2, hx, d1, d2, hy⟩
theorem RdB.below {w w' : World} {A : Option Addr} {xs : List (Nat × Nat)} (h : RdB w A xs) {B : Nat} (hb : Below B w w') (hB : w.heap.size ≤ B) : RdB w' A xs := fun hn => by
  obtain ⟨b, off, rfl, hlt, hc⟩ := h hn
  refine ⟨b, off, rfl, Nat.lt_of_lt_of_le hlt hb.size, fun k hk => ?_⟩
  obtain ⟨h1, h2⟩ := hc k hk
  exact ⟨(hb.cell (p := ⟨b, _, none⟩) (Nat.lt_of_lt_of_le hlt hB)).trans h1, (hb.cell (p := ⟨b, _, none⟩) (Nat.lt_of_lt_of_le hlt hB)).trans h2⟩

def cells (xs : List (Nat × Nat)) : List Value := xs.flatMap fun x => [.int .u32 (x.1 : Nat), .int .u32 (x.2 : Nat)]
theorem cells_cons (x : Nat × Nat) (r : List (Nat × Nat)) : cells (x :: r) = .int .u32 x.1 :: .int .u32 x.2 :: cells r := rfl
theorem cells_append (a b : List (Nat × Nat)) : cells (a ++ b) = cells a ++ cells b := by simp [cells]
theorem cells_len : ∀ (xs : List (Nat × Nat)), (cells xs).length = xs.length * 2
  | [] => rfl
  | x :: r => by rw [cells_cons, List.length_cons, List.length_cons, cells_len r, List.length_cons]; omega
theorem cells_at : ∀ (xs : List (Nat × Nat)) (k : Nat), k < xs.length → (cells xs)[k * 2]? = some (.int .u32 ((xs.getD k (0, 0)).1 : Nat)) ∧ (cells xs)[k * 2 + 1]? = some (.int .u32 ((xs.getD k (0, 0)).2 : Nat))
  | [], k, h => by simp at h
  | x :: r, 0, _ => ⟨rfl, rfl⟩
  | x :: r, k + 1, h => by
    have := cells_at r k (by simpa using h)
    rw [cells_cons, show (k + 1) * 2 = k * 2 + 1 + 1 by omega]
    simpa using this
theorem cells_one (xs : List (Nat × Nat)) : ∀ u, u ∈ cells xs → u.oneCell' = true := by
  intro u hu
  obtain ⟨x, _, h⟩ := List.mem_flatMap.1 hu
  simp at h
  rcases h with rfl | rfl <;> rfl
def OwnK (w : World) (B : Nat) (v : Value) (xs : List (Nat × Nat)) : Prop := w.ownsRow B 109 2 v xs.length (cells xs)
theorem OwnK.nil_ (w : World) (B : Nat) : OwnK w B (.slice none 0 0) [] := World.ownsRow_nil _ _ _ _
theorem OwnK.up {w w' : World} {B : Nat} {v : Value} {xs : List (Nat × Nat)} (h : OwnK w B v xs) (hb : Below w.heap.size w w') : OwnK w' B v xs := kept_below h hb
theorem OwnK.rd {w : World} {B : Nat} {v : Value} {xs : List (Nat × Nat)} (h : OwnK w B v xs) : ∃ A c, v = .slice A xs.length c ∧ RdB w A xs := by
  rcases own_form h with ⟨rfl, hn⟩ | ⟨g, cap, rfl, hB, hg, _⟩
  · exact ⟨none, 0, by rw [hn], fun hne => absurd (List.eq_nil_of_length_eq_zero hn) hne⟩
  · refine ⟨_, cap, rfl, fun _ => ⟨g, 0, rfl, hg, fun k hk => ?_⟩⟩
    rw [Nat.zero_add, World.ownsRow.cellAt h (k * 2) (by omega), World.ownsRow.cellAt h (k * 2 + 1) (by omega)]
    exact cells_at xs k hk

theorem infoB : (Try.prog.info? 109).map (fun i => (i.zero, i.size, i.bytes)) = some (some (.agg #[.int .u32 0, .int .u32 0]), 2, 8) := by kernel_rfl
section
variable {ops : Array Oper} {rest : List Oper} {o : Oper} {a : Act} {Q : Exit → Act → World → Prop} {w : World} {B : Nat} {v : Value}
theorem app2 {xs : List (Nat × Nat)} (s x : Operand) (g : Nat) (news : List (Nat × Nat)) (hown : OwnK w B v xs) (hgd : o.guard = none) (ho : o.op = .call { callee := .builtin .append, args := #[s, x], argTypes := #[26, 26] })
    (hs : a.eval s = v) (hx : a.eval x = .slice (some ⟨g, 0, none⟩) news.length news.length) (hc : ∀ j u, (cells news)[j]? = some u → w.cell? ⟨g, j, none⟩ = some u) (hn : xs.length < 1099511627776) (hm : news.length < 1099511627776) (hB : B ≤ w.heap.size)
    (h : ∀ v' w', OwnK w' B v' (xs ++ news) → Below B w w' → wpList Try.prog ops Q rest (a.put o.dst v') w') : wpList Try.prog ops Q (o :: rest) a w := by
  obtain ⟨i0, hi, hz0, hz1, hz2⟩ := info_parts infoB
  refine wpList_append_own w hgd s x 26 ho B 109 i0 (.agg #[.int .u32 0, .int .u32 0]) 2 8 Try.underlying26 hi hz0 hz1 hz2 rfl (by decide) v xs.length _ hs hown ⟨g, 0, none⟩ news.length news.length (cells news) hx (cells_len news) ?_ (cells_one news) (by unfold maxLen; omega) (by omega) hB ?_
  · intro j u' hj
    rw [show (⟨g, 0, none⟩ : Addr).add j = ⟨g, j, none⟩ by unfold Addr.add; split <;> simp_all]
    exact hc j u' hj
  · intro v' w' ho' hg _
    exact h v' w' (by unfold OwnK; rw [cells_append, List.length_append]; exact ho') ((Below.refl B w).grown hg hB (fun k hk => (hown.lt k hk).1))
end
theorem cells_new1 {w : World} {g : Nat} {x y : Nat} (h1 : w.cell? ⟨g, 0, none⟩ = some (.int .u32 x)) (h2 : w.cell? ⟨g, 1, none⟩ = some (.int .u32 y)) : ∀ j u, (cells [(x, y)])[j]? = some u → w.cell? ⟨g, j, none⟩ = some u := by
  intro j u hj
  match j, hj with
  | 0, hj => simp [cells] at hj; subst hj; exact h1
  | 1, hj => simp [cells] at hj; subst hj; exact h2

theorem rd_cells {w : World} {b off : Nat} {xs : List (Nat × Nat)} (h : ∀ k, k < xs.length → w.cell? ⟨b, off + k * 2, none⟩ = some (.int .u32 ((xs.getD k (0, 0)).1 : Nat)) ∧ w.cell? ⟨b, off + k * 2 + 1, none⟩ = some (.int .u32 ((xs.getD k (0, 0)).2 : Nat))) :
    ∀ j u, (cells xs)[j]? = some u → w.cell? ((⟨b, off, none⟩ : Addr).add j) = some u := by
  intro j u hu
  have hj : j < xs.length * 2 := by rw [← cells_len]; exact (List.getElem?_eq_some_iff.1 hu).1
  obtain ⟨q, r, rfl, hr⟩ : ∃ q r, j = q * 2 + r ∧ r < 2 := ⟨j / 2, j % 2, by omega, by omega⟩
  have hq : q < xs.length := by omega
  rw [show (⟨b, off, none⟩ : Addr).add (q * 2 + r) = ⟨b, off + (q * 2 + r), none⟩ by unfold Addr.add; split <;> simp_all]
  obtain ⟨a1, a2⟩ := cells_at xs q hq
  obtain ⟨b1, b2⟩ := h q hq
  rcases (show r = 0 ∨ r = 1 by omega) with rfl | rfl
  · rw [Nat.add_zero] at hu ⊢; rw [a1] at hu; rw [b1, hu]
  · rw [a2] at hu; rw [← Nat.add_assoc, b2, hu]
theorem app2src {ops : Array Oper} {rest : List Oper} {o : Oper} {a : Act} {Q : Exit → Act → World → Prop} {w : World} {B : Nat} {v : Value} {xs : List (Nat × Nat)} (s x : Operand) (ad : Addr) (n c : Nat) (news : List (Nat × Nat)) (hown : OwnK w B v xs) (hgd : o.guard = none)
    (ho : o.op = .call { callee := .builtin .append, args := #[s, x], argTypes := #[26, 26] })
    (hs : a.eval s = v) (hx : a.eval x = .slice (some ad) n c) (hl : news.length = n) (hr : RdB w (some ad) news) (hn : xs.length < 1099511627776) (hm : n < 1099511627776) (hB : B ≤ w.heap.size)
    (h : ∀ A' n' c' w', (xs ++ news).length = n' → OwnK w' B (.slice A' n' c') (xs ++ news) → RowKit.Below B w w' → wpList Try.prog ops Q rest (a.put o.dst (.slice A' n' c')) w') : wpList Try.prog ops Q (o :: rest) a w := by
  obtain ⟨i0, hi, hz0, hz1, hz2⟩ := info_parts infoB
  refine wpList_append_own w hgd s x 26 ho B 109 i0 (.agg #[.int .u32 0, .int .u32 0]) 2 8 Try.underlying26 hi hz0 hz1 hz2 rfl (by decide) v xs.length _ hs hown ad n c (cells news) hx (by rw [cells_len, hl]) ?_ (cells_one news) (by unfold maxLen; omega) (by omega) hB ?_
  · intro j u' hj
    by_cases he : news = []
    · subst he; simp [cells] at hj
    · obtain ⟨b, off, e, _, hc⟩ := hr he
      cases e
      exact rd_cells hc j u' hj
  · intro v' w' ho' hg _
    have hO : OwnK w' B v' (xs ++ news) := by unfold OwnK; rw [cells_append, List.length_append, hl]; exact ho'
    obtain ⟨A', c', hv, _⟩ := hO.rd
    rw [hv] at hO ⊢
    exact h A' _ c' w' rfl hO ((RowKit.Below.refl B w).grown hg hB (fun k hk => (hown.lt k hk).1))

theorem RdB.up {w w' : World} {A : Option Addr} {xs : List (Nat × Nat)} (h : RdB w A xs) (hb : Up w w') : RdB w' A xs := h.below hb (Nat.le_refl _)
abbrev OA (m : Nat) (s : Int) (k : Bool) (A : Option Addr) (n c : Nat) (t : Bool) (v e : Nat) : Value :=
  .agg #[.int .u16 m, .int .i64 s, .bool k, .slice A n c, .bool t, .int .u32 v, .int .u32 e]
def OptV (w : World) (x : Value) (o : Opz) : Prop := ∃ A n c, x = OA o.mss o.sc o.sk A n c o.tm o.va o.ec ∧ o.bl.length = n ∧ RdB w A o.bl
theorem OptV.up {w w' : World} {x : Value} {o : Opz} (h : OptV w x o) (hb : Up w w') : OptV w' x o := by
  obtain ⟨A, n, c, h1, h2, h3⟩ := h
  exact ⟨A, n, c, h1, h2, h3.up hb⟩
end Go.Proofs.Ytafckmbgefbonaa.op

namespace Go.Proofs.Ytafckmbgefbonaa.pk
open Go.RowKit Go.Shelf Go.Lib Go.Proofs.Ytafckmbgefbonaa.sm Go.Proofs.Ytafckmbgefbonaa.nb Go.Proofs.Ytafckmbgefbonaa.pm
set_option linter.unusedVariables false

theorem and8 (x m : Nat) (hx : x < 256) (hm : m < 256) : bits .and .u8 (x : Int) (m : Int) = ((x &&& m : Nat) : Int) := by
  have h1 : (BitVec.ofInt 8 (x : Int)).toNat = x := by rw [BitVec.ofInt_natCast, BitVec.toNat_ofNat]; exact Nat.mod_eq_of_lt (by omega)
  have h2 : (BitVec.ofInt 8 (m : Int)).toNat = m := by rw [BitVec.ofInt_natCast, BitVec.toNat_ofNat]; exact Nat.mod_eq_of_lt (by omega)
  have h3 : x &&& m < 256 := Nat.lt_of_le_of_lt Nat.and_le_left hx
  show IntKind.u8.wrap ((BitVec.ofInt 8 (x : Int) &&& BitVec.ofInt 8 (m : Int)).toNat : Int) = _
  rw [BitVec.toNat_and, h1, h2, IntKind.wrap_u8]
  omega
theorem and_1 : ∀ f : Fin 256, f.val &&& 1 = f.val % 2 := by decide +kernel
theorem and_2 : ∀ f : Fin 256, f.val &&& 2 = f.val / 2 % 2 * 2 := by decide +kernel
theorem and_4 : ∀ f : Fin 256, f.val &&& 4 = f.val / 4 % 2 * 4 := by decide +kernel
theorem and_16 : ∀ f : Fin 256, f.val &&& 16 = f.val / 16 % 2 * 16 := by decide +kernel
theorem f1 (f : Nat) (h : f ≤ 255) : bits .and .u8 (f : Int) 1 = ((f % 2 : Nat) : Int) := by rw [show (1 : Int) = ((1 : Nat) : Int) from rfl, and8 f 1 (by omega) (by omega)]; exact congrArg Int.ofNat (and_1 ⟨f, by omega⟩)
theorem f2 (f : Nat) (h : f ≤ 255) : bits .and .u8 (f : Int) 2 = ((f / 2 % 2 * 2 : Nat) : Int) := by rw [show (2 : Int) = ((2 : Nat) : Int) from rfl, and8 f 2 (by omega) (by omega)]; exact congrArg Int.ofNat (and_2 ⟨f, by omega⟩)
theorem f4 (f : Nat) (h : f ≤ 255) : bits .and .u8 (f : Int) 4 = ((f / 4 % 2 * 4 : Nat) : Int) := by rw [show (4 : Int) = ((4 : Nat) : Int) from rfl, and8 f 4 (by omega) (by omega)]; exact congrArg Int.ofNat (and_4 ⟨f, by omega⟩)
theorem f16 (f : Nat) (h : f ≤ 255) : bits .and .u8 (f : Int) 16 = ((f / 16 % 2 * 16 : Nat) : Int) := by rw [show (16 : Int) = ((16 : Nat) : Int) from rfl, and8 f 16 (by omega) (by omega)]; exact congrArg Int.ofNat (and_16 ⟨f, by omega⟩)
theorem shr_in (z k : Nat) : (z : Int) / 2 ^ k = ((z / 2 ^ k : Nat) : Int) := by simp
end Go.Proofs.Ytafckmbgefbonaa.pk

namespace Go.Proofs.Ytafckmbgefbonaa.op
open Go.RowKit Go.Shelf Go.Lib Go.Proofs.Ytafckmbgefbonaa.sm Go.Proofs.Ytafckmbgefbonaa.nb Go.Proofs.Ytafckmbgefbonaa.om
set_option linter.unusedVariables false

theorem Box.e7 {W : World} {b : Nat} {x0 x1 x2 x3 x4 x5 x6 : Value} (h : Box W b [x0, x1, x2, x3, x4, x5, x6]) : W.cell? ⟨b, 0, none⟩ = some x0 ∧ W.cell? ⟨b, 1, none⟩ = some x1 ∧ W.cell? ⟨b, 2, none⟩ = some x2 ∧ W.cell? ⟨b, 3, none⟩ = some x3 ∧ W.cell? ⟨b, 4, none⟩ = some x4 ∧ W.cell? ⟨b, 5, none⟩ = some x5 ∧ W.cell? ⟨b, 6, none⟩ = some x6 := ⟨h.at 0 rfl, h.at 1 rfl, h.at 2 rfl, h.at 3 rfl, h.at 4 rfl, h.at 5 rfl, h.at 6 rfl⟩
theorem Box.c7 {W : World} {b : Nat} {x0 x1 x2 x3 x4 x5 x6 : Value} (h : Box W b [x0, x1, x2, x3, x4, x5, x6]) : W.cell? ⟨b, 0, none⟩ = some x0 ∧ W.cell? ⟨b, 1, none⟩ = some x1 ∧ W.cell? ⟨b, 2, none⟩ = some x2 ∧ W.cell? ⟨b, 3, none⟩ = some x3 ∧ W.cell? ⟨b, 4, none⟩ = some x4 ∧ W.cell? ⟨b, 5, none⟩ = some x5 ∧ W.cell? ⟨b, 6, none⟩ = some x6 ∧ W.frozen? ⟨b, 0, none⟩ = false ∧ W.frozen? ⟨b, 1, none⟩ = false ∧ W.frozen? ⟨b, 2, none⟩ = false ∧ W.frozen? ⟨b, 3, none⟩ = false ∧ W.frozen? ⟨b, 4, none⟩ = false ∧ W.frozen? ⟨b, 5, none⟩ = false ∧ W.frozen? ⟨b, 6, none⟩ = false := ⟨h.at 0 rfl, h.at 1 rfl, h.at 2 rfl, h.at 3 rfl, h.at 4 rfl, h.at 5 rfl, h.at 6 rfl, h.fr 0 rfl, h.fr 1 rfl, h.fr 2 rfl, h.fr 3 rfl, h.fr 4 rfl, h.fr 5 rfl, h.fr 6 rfl⟩
theorem put7 {W : World} {b : Nat} {x0 x1 x2 x3 x4 x5 x6 : Value} (hB : Box W b [x0, x1, x2, x3, x4, x5, x6]) (y0 y1 y2 y3 y4 y5 y6 : Value) : Box ((((((((W.setCell ⟨b, 0, none⟩ y0).setCell ⟨b, 1, none⟩ y1).setCell ⟨b, 2, none⟩ y2).setCell ⟨b, 3, none⟩ y3).setCell ⟨b, 4, none⟩ y4).setCell ⟨b, 5, none⟩ y5).setCell ⟨b, 6, none⟩ y6)) b [y0, y1, y2, y3, y4, y5, y6] := (((((((hB.set 0 y0).set 1 y1).set 2 y2).set 3 y3).set 4 y4).set 5 y5).set 6 y6)
theorem ups7 {w W : World} {b : Nat} (hu : Up w W) (hb : w.heap.size ≤ b) (y0 y1 y2 y3 y4 y5 y6 : Value) : Up w ((((((((W.setCell ⟨b, 0, none⟩ y0).setCell ⟨b, 1, none⟩ y1).setCell ⟨b, 2, none⟩ y2).setCell ⟨b, 3, none⟩ y3).setCell ⟨b, 4, none⟩ y4).setCell ⟨b, 5, none⟩ y5).setCell ⟨b, 6, none⟩ y6)) := (up_set (up_set (up_set (up_set (up_set (up_set (up_set hu hb) hb) hb) hb) hb) hb) hb)
theorem far7 {W : World} {b c : Nat} {vs : List Value} (h : Box W b vs) (hc : c ≠ b) (y0 y1 y2 y3 y4 y5 y6 : Value) : Box ((((((((W.setCell ⟨c, 0, none⟩ y0).setCell ⟨c, 1, none⟩ y1).setCell ⟨c, 2, none⟩ y2).setCell ⟨c, 3, none⟩ y3).setCell ⟨c, 4, none⟩ y4).setCell ⟨c, 5, none⟩ y5).setCell ⟨c, 6, none⟩ y6)) b vs := (((((((h.far hc y0).far hc y1).far hc y2).far hc y3).far hc y4).far hc y5).far hc y6)
theorem eqb (n : Nat) (c : Nat) : ((n : Int) == (c : Int)) = (n == c) := by
  rw [Bool.eq_iff_iff, beq_iff_eq, beq_iff_eq]; omega
theorem same_f (a b : Opz) (h : a ≠ b) : same a b = false := by
  cases hs : same a b
  · rfl
  · exact absurd ((same_iff a b).1 hs) h
end Go.Proofs.Ytafckmbgefbonaa.op

namespace Go.Proofs.Ytafckmbgefbonaa.pk
open Go.RowKit Go.Shelf Go.Lib Go.Proofs.Ytafckmbgefbonaa.sm Go.Proofs.Ytafckmbgefbonaa.nb Go.Proofs.Ytafckmbgefbonaa.pm
set_option linter.unusedVariables false

abbrev SA (a p b q y z f i m : Nat) (s : Int) (k : Bool) (A : Option Addr) (n c : Nat) (t : Bool) (v e : Nat) (S : ByteArray) : Value := .agg #[.int .u32 a, .int .u16 p, .int .u32 b, .int .u16 q, .int .u32 y, .int .u32 z, .int .u8 f, .int .u16 i, .int .u16 m, .int .i64 s, .bool k, .slice A n c, .bool t, .int .u32 v, .int .u32 e, .string S]
theorem e16 {W : World} {b : Nat} {x0 x1 x2 x3 x4 x5 x6 x7 x8 x9 x10 x11 x12 x13 x14 x15 : Value} (h : Box W b [x0, x1, x2, x3, x4, x5, x6, x7, x8, x9, x10, x11, x12, x13, x14, x15]) : W.cell? ⟨b, 0, none⟩ = some x0 ∧ W.cell? ⟨b, 1, none⟩ = some x1 ∧ W.cell? ⟨b, 2, none⟩ = some x2 ∧ W.cell? ⟨b, 3, none⟩ = some x3 ∧ W.cell? ⟨b, 4, none⟩ = some x4 ∧ W.cell? ⟨b, 5, none⟩ = some x5 ∧ W.cell? ⟨b, 6, none⟩ = some x6 ∧ W.cell? ⟨b, 7, none⟩ = some x7 ∧ W.cell? ⟨b, 8, none⟩ = some x8 ∧ W.cell? ⟨b, 9, none⟩ = some x9 ∧ W.cell? ⟨b, 10, none⟩ = some x10 ∧ W.cell? ⟨b, 11, none⟩ = some x11 ∧ W.cell? ⟨b, 12, none⟩ = some x12 ∧ W.cell? ⟨b, 13, none⟩ = some x13 ∧ W.cell? ⟨b, 14, none⟩ = some x14 ∧ W.cell? ⟨b, 15, none⟩ = some x15 :=
  ⟨h.at 0 rfl, h.at 1 rfl, h.at 2 rfl, h.at 3 rfl, h.at 4 rfl, h.at 5 rfl, h.at 6 rfl, h.at 7 rfl, h.at 8 rfl, h.at 9 rfl, h.at 10 rfl, h.at 11 rfl, h.at 12 rfl, h.at 13 rfl, h.at 14 rfl, h.at 15 rfl⟩
end Go.Proofs.Ytafckmbgefbonaa.pk

namespace Go.Proofs.Ytafckmbgefbonaa.nb
open Go.RowKit Go.Shelf

section
variable {P : Program}

def StableR (R : World → World → Prop) : List (Value → World → Prop) → Prop
  | [] => True
  | p :: t => (∀ v w w', p v w → R w w' → p v w') ∧ StableR R t
theorem StableR.ys {R : World → World → Prop} : ∀ {ys : List (Value → World → Prop)}, StableR R ys → ∀ k v w w', Ys ys k v w → R w w' → Ys ys k v w'
  | [], _, _, _, _, _, h, _ => h
  | p :: t, hs, 0, v, w, w', h, hu => hs.1 v w w' h hu
  | p :: t, hs, k + 1, v, w, w', h, hu => StableR.ys (ys := t) hs.2 k v w w' h hu
end
end Go.Proofs.Ytafckmbgefbonaa.nb

namespace Go.Proofs.Ytafckmbgefbonaa.pk
open Go.RowKit Go.Shelf Go.Lib Go.Proofs.Ytafckmbgefbonaa.sm Go.Proofs.Ytafckmbgefbonaa.nb Go.Proofs.Ytafckmbgefbonaa.pm
set_option linter.unusedVariables false

open Classical in
noncomputable def sameS (g g' : Sg) : Bool := decide (g = g')
open Classical in
theorem sameS_t {g g' : Sg} (h : g = g') : sameS g g' = true := by unfold sameS; exact decide_eq_true h
open Classical in
theorem sameS_f {g g' : Sg} (h : g ≠ g') : sameS g g' = false := by unfold sameS; exact decide_eq_false h
end Go.Proofs.Ytafckmbgefbonaa.pk
