/- P O A N: contracts, part 17. Condition: as each says. -/
import Derived.Test.YtkgcnmloojnblaaKPOAN1
import Derived.Orders
set_option linter.unusedVariables false
set_option linter.unusedSimpArgs false
namespace Go.Proofs.Ytkgcnmloojnblaa.nb
open Go.RowKit Go.Shelf

section
variable {P : Program}

def waits (ops : Array Oper) (j i : Nat) : Bool := match ops[j]? with
  | some o => o.after.any fun e => Region.binds .any e && e.on == i
  | none => false
def relB (ops : Array Oper) (n : Nat) : Bool :=
  (List.range ops.size).all fun i => match ops[i]? with
    | none => true
    | some o => o.guard.isNone && (o.after.all fun e => !Region.binds .any e || decide (e.on < i)) &&
      (match o.dst with
       | none => true
       | some s => decide (s < n) && (List.range ops.size).all fun j => decide (j = i) || (match ops[j]? with | some oj => oj.dst != some s | none => true))
theorem relB_spec {ops : Array Oper} {n : Nat} (h : relB ops n = true) {i : Nat} {o : Oper} (ho : ops[i]? = some o) :
    o.guard = none ∧ (∀ e ∈ o.after, Region.binds .any e = true → e.on < i) ∧ ∀ s, o.dst = some s → s < n ∧ ∀ j oj, j ≠ i → ops[j]? = some oj → oj.dst ≠ some s := by
  have hi : i < ops.size := (Array.getElem?_eq_some_iff.1 ho).1
  have h1 := List.all_eq_true.1 h i (List.mem_range.2 hi)
  simp only [ho, Bool.and_eq_true] at h1
  obtain ⟨⟨h2, h3⟩, h4⟩ := h1
  refine ⟨by simpa using h2, fun e he hb => ?_, fun s hs => ?_⟩
  · have h5 := Array.all_eq_true'.1 h3 e he
    simpa [hb] using h5
  · simp only [hs, Bool.and_eq_true, decide_eq_true_eq] at h4
    refine ⟨h4.1, fun j oj hj hoj he => ?_⟩
    have hjl : j < ops.size := (Array.getElem?_eq_some_iff.1 hoj).1
    have h5 := List.all_eq_true.1 h4.2 j (List.mem_range.2 hjl)
    simp [hj, hoj, he] at h5

structure RelI (ops : Array Oper) (a0 : Act) (C : World → Prop) (Y : Nat → Value → World → Prop) (listed : Array Bool) (a : Act) (w : World) : Prop where
  size : listed.size = ops.size
  cls : C w
  closed : ∀ j oj, ops[j]? = some oj → listed.getD j false = true → ∀ e ∈ oj.after, Region.binds .any e = true → listed.getD e.on false = true
  done : ∀ k o s, ops[k]? = some o → o.dst = some s → listed.getD k false = true → Y k (a.tmps.getD s undef) w
  rest : ∀ s, (∀ k o, ops[k]? = some o → o.dst = some s → listed.getD k false = false) → a.tmps.getD s undef = a0.tmps.getD s undef
  tsize : a.tmps.size = a0.tmps.size
  defers : a.defers = a0.defers

theorem getD_put (a : Act) (d : Option Tmp) (u : Value) (s : Nat) : (a.put d u).tmps.getD s undef = if d = some s ∧ s < a.tmps.size then u else a.tmps.getD s undef := by
  cases d with
  | none => simp [Act.put]
  | some t =>
    by_cases h : t = s
    · subst h
      by_cases h2 : t < a.tmps.size
      · simp [Act.put, h2]
      · simp [Act.put, h2]
    · simp [Act.put, h, Array.getElem?_setIfInBounds]
theorem listed_set {listed : Array Bool} {i k : Nat} (h : (listed.setIfInBounds i true).getD k false = true) : k = i ∨ listed.getD k false = true := by
  by_cases hk : k = i
  · exact .inl hk
  · right
    simpa [Array.getElem?_setIfInBounds, Ne.symm hk] using h

theorem replicate_false_getD (m j : Nat) : (Array.replicate m false).getD j false = false := by
  by_cases h : j < m
  · simp [h]
  · simp [h]

def putAll : List Oper → Nat → (Nat → Value) → Act → Act
  | [], _, _, a => a
  | o :: t, k, vals, a => putAll t (k + 1) vals (a.put o.dst (vals k))
theorem putAll_size : ∀ (l : List Oper) (k : Nat) (vals : Nat → Value) (a : Act), (putAll l k vals a).tmps.size = a.tmps.size
  | [], _, _, _ => rfl
  | o :: t, k, vals, a => by
    show (putAll t (k + 1) vals (a.put o.dst (vals k))).tmps.size = _
    rw [putAll_size t]; unfold Act.put; cases o.dst <;> simp
theorem putAll_defers : ∀ (l : List Oper) (k : Nat) (vals : Nat → Value) (a : Act), (putAll l k vals a).defers = a.defers
  | [], _, _, _ => rfl
  | o :: t, k, vals, a => by
    show (putAll t (k + 1) vals (a.put o.dst (vals k))).defers = _
    rw [putAll_defers t]; unfold Act.put; cases o.dst <;> rfl
theorem putAll_not : ∀ (l : List Oper) (k : Nat) (vals : Nat → Value) (a : Act) (s : Nat), (∀ o ∈ l, o.dst ≠ some s) → (putAll l k vals a).tmps.getD s undef = a.tmps.getD s undef
  | [], _, _, _, _, _ => rfl
  | o :: t, k, vals, a, s, h => by
    show (putAll t (k + 1) vals (a.put o.dst (vals k))).tmps.getD s undef = _
    rw [putAll_not t _ _ _ s (fun o' ho' => h o' (List.mem_cons_of_mem _ ho')), getD_put, if_neg (fun hh => h o List.mem_cons_self hh.1)]
theorem putAll_at : ∀ (l : List Oper) (k : Nat) (vals : Nat → Value) (a : Act) (i : Nat) (o : Oper) (s : Nat), (∀ j oj, j ≠ i → l[j]? = some oj → oj.dst ≠ some s) → l[i]? = some o → o.dst = some s → s < a.tmps.size →
    (putAll l k vals a).tmps.getD s undef = vals (k + i)
  | [], _, _, _, i, o, s, _, h, _, _ => by simp at h
  | x :: t, k, vals, a, 0, o, s, hd, h, hs, hl => by
    obtain rfl : x = o := by simpa using h
    show (putAll t (k + 1) vals (a.put x.dst (vals k))).tmps.getD s undef = _
    rw [putAll_not t _ _ _ s (fun o' ho' => by
      obtain ⟨j, hj, hjo⟩ := List.mem_iff_getElem.1 ho'
      exact hd (j + 1) o' (by omega) (by simp [hj, hjo])), getD_put, if_pos ⟨hs, hl⟩]
    rfl
  | x :: t, k, vals, a, i + 1, o, s, hd, h, hs, hl => by
    show (putAll t (k + 1) vals (a.put x.dst (vals k))).tmps.getD s undef = _
    rw [putAll_at t (k + 1) vals _ i o s (fun j oj hj hjo => hd (j + 1) oj (by omega) (by simpa using hjo)) (by simpa using h) hs (by unfold Act.put; cases x.dst <;> simpa using hl)]
    rw [show k + 1 + i = k + (i + 1) by omega]
theorem act_ext {a b : Act} (h1 : a.tmps.size = b.tmps.size) (h2 : ∀ s, a.tmps.getD s undef = b.tmps.getD s undef) (h3 : a.defers = b.defers) : a = b := by
  obtain ⟨x, p⟩ := a
  obtain ⟨y, q⟩ := b
  simp only at h1 h2 h3
  subst h3
  have : x = y := by
    apply Array.ext h1
    intro i hi hj
    have := h2 i
    simpa [hi, hj] using this
  rw [this]

def slotOk (ops : Array Oper) (s i : Nat) : Bool := (List.range ops.size).all fun k => match ops[k]? with
  | some o => o.dst != some s || waits ops k i
  | none => true
theorem slotOk_spec {ops : Array Oper} {s i : Nat} (h : slotOk ops s i = true) : ∀ k ok, ops[k]? = some ok → ok.dst = some s → waits ops k i = true := fun k ok hk hs => by
  have hk' : k < ops.size := (Array.getElem?_eq_some_iff.1 hk).1
  have h1 := List.all_eq_true.1 h k (List.mem_range.2 hk')
  simpa [hk, hs] using h1
end
end Go.Proofs.Ytkgcnmloojnblaa.nb
