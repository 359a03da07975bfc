/- Plain mathematics of lists of spans: no program. -/
import Derived.WalkKit
namespace Go.Proofs.Ytejknbpadlidaaa.spm

abbrev Sp := Int × Int
def mem (xs : List Sp) (n : Int) : Prop := ∃ s, s ∈ xs ∧ s.1 ≤ n ∧ n < s.2
def Canon (p : Int) : List Sp → Prop
  | [] => True
  | x :: r => p < x.1 ∧ x.1 < x.2 ∧ Canon x.2 r
theorem mem_nil (n : Int) : ¬ mem [] n := by rintro ⟨s, h, _⟩; cases h
theorem mem_cons (x : Sp) (r : List Sp) (n : Int) : mem (x :: r) n ↔ (x.1 ≤ n ∧ n < x.2) ∨ mem r n := by
  constructor
  · rintro ⟨s, h, h1⟩
    rcases List.mem_cons.1 h with rfl | h
    · exact .inl h1
    · exact .inr ⟨s, h, h1⟩
  · rintro (h | ⟨s, h, h1⟩)
    · exact ⟨x, List.mem_cons_self, h⟩
    · exact ⟨s, List.mem_cons_of_mem _ h, h1⟩
theorem mem_append (a b : List Sp) (n : Int) : mem (a ++ b) n ↔ mem a n ∨ mem b n := by
  constructor
  · rintro ⟨s, h, h1⟩
    rcases List.mem_append.1 h with h | h
    · exact .inl ⟨s, h, h1⟩
    · exact .inr ⟨s, h, h1⟩
  · rintro (⟨s, h, h1⟩ | ⟨s, h, h1⟩)
    · exact ⟨s, List.mem_append.2 (.inl h), h1⟩
    · exact ⟨s, List.mem_append.2 (.inr h), h1⟩
theorem Canon.weak {p q : Int} : ∀ {xs : List Sp}, Canon p xs → q ≤ p → Canon q xs
  | [], _, _ => trivial
  | _ :: _, ⟨a, b, c⟩, h => ⟨by omega, b, c⟩
theorem Canon.lo {p : Int} : ∀ {xs : List Sp}, Canon p xs → ∀ {s : Sp}, s ∈ xs → p < s.1 ∧ s.1 < s.2
  | [], _, _, h => by cases h
  | x :: r, ⟨a, b, c⟩, s, h => by
    rcases List.mem_cons.1 h with rfl | h
    · exact ⟨a, b⟩
    · have := c.lo h; omega
theorem Canon.mem_lo {p : Int} {xs : List Sp} (h : Canon p xs) {n : Int} : mem xs n → p < n := by
  rintro ⟨s, hs, h1, _⟩; have := h.lo hs; omega
theorem can_ext : ∀ {xs ys : List Sp} {p q : Int}, Canon p xs → Canon q ys → (∀ n, mem xs n ↔ mem ys n) → xs = ys
  | [], [], _, _, _, _, _ => rfl
  | [], y :: t, _, _, _, hy, h => absurd ((h y.1).2 ⟨y, List.mem_cons_self, by have := hy.2.1; omega⟩) (mem_nil _)
  | x :: r, [], _, _, hx, _, h => absurd ((h x.1).1 ⟨x, List.mem_cons_self, by have := hx.2.1; omega⟩) (mem_nil _)
  | x :: r, y :: t, p, q, hx, hy, h => by
    have a1 := (mem_cons y t x.1).1 ((h x.1).1 ((mem_cons x r x.1).2 (.inl (by have := hx.2.1; omega))))
    have a2 := (mem_cons x r y.1).1 ((h y.1).2 ((mem_cons y t y.1).2 (.inl (by have := hy.2.1; omega))))
    have e1 : x.1 = y.1 := by
      rcases a1 with a1 | a1 <;> rcases a2 with a2 | a2
      · omega
      · have := hx.2.2.mem_lo a2; have := hx.2.1; omega
      · have := hy.2.2.mem_lo a1; have := hy.2.1; omega
      · have := hx.2.2.mem_lo a2; have := hy.2.2.mem_lo a1; have := hx.2.1; have := hy.2.1; omega
    have e2 : x.2 = y.2 := by
      rcases Int.lt_trichotomy x.2 y.2 with hl | hl | hl
      · have b := (mem_cons x r x.2).1 ((h x.2).2 ((mem_cons y t x.2).2 (.inl (by have := hx.2.1; omega))))
        rcases b with b | b
        · omega
        · have := hx.2.2.mem_lo b; omega
      · exact hl
      · have b := (mem_cons y t y.2).1 ((h y.2).1 ((mem_cons x r y.2).2 (.inl (by have := hy.2.1; omega))))
        rcases b with b | b
        · omega
        · have := hy.2.2.mem_lo b; omega
    have e : x = y := Prod.ext e1 e2
    subst e
    rw [can_ext hx.2.2 hy.2.2 fun n => ?_]
    constructor
    · intro hn
      have := hx.2.2.mem_lo hn
      rcases (mem_cons x t n).1 ((h n).1 ((mem_cons x r n).2 (.inr hn))) with b | b
      · omega
      · exact b
    · intro hn
      have := hy.2.2.mem_lo hn
      rcases (mem_cons x r n).1 ((h n).2 ((mem_cons x t n).2 (.inr hn))) with b | b
      · omega
      · exact b
/-- two spans of such a list that have one number are one -/
theorem Canon.one {p : Int} : ∀ {xs : List Sp}, Canon p xs → ∀ {s t : Sp} {n : Int}, s ∈ xs → t ∈ xs → s.1 ≤ n → n < s.2 → t.1 ≤ n → n < t.2 → s = t
  | [], _, _, _, _, h, _, _, _, _, _ => by cases h
  | x :: r, ⟨a, b, c⟩, s, t, n, hs, ht, h1, h2, h3, h4 => by
    rcases List.mem_cons.1 hs with e | hs' <;> rcases List.mem_cons.1 ht with e' | ht'
    · rw [e, e']
    · have := c.lo ht'; rw [e] at h1 h2; omega
    · have := c.lo hs'; rw [e'] at h3 h4; omega
    · exact c.one hs' ht' h1 h2 h3 h4
/-- an end is none of the numbers; nor is what stands below a beginning -/
theorem Canon.end_ {p : Int} : ∀ {xs : List Sp}, Canon p xs → ∀ {s : Sp}, s ∈ xs → ¬ mem xs s.2 ∧ ¬ mem xs (s.1 - 1)
  | [], _, _, h => by cases h
  | x :: r, ⟨a, b, c⟩, s, h => by
    rcases List.mem_cons.1 h with e | h
    · subst e
      refine ⟨fun hm => ?_, fun hm => ?_⟩ <;> rcases (mem_cons _ r _).1 hm with hm | hm
      · omega
      · have := c.mem_lo hm; omega
      · omega
      · have := c.mem_lo hm; omega
    · have hlo := c.lo h
      refine ⟨fun hm => ?_, fun hm => ?_⟩ <;> rcases (mem_cons _ r _).1 hm with hm | hm
      · omega
      · exact (c.end_ h).1 hm
      · omega
      · exact (c.end_ h).2 hm

/-! ### joining -/
def jr (c : Sp) : List Sp → List Sp
  | [] => [c]
  | x :: r => if x.1 ≤ c.2 then jr (c.1, max c.2 x.2) r else c :: jr x r
def jstep (out : List Sp) (x : Sp) : List Sp :=
  match out.getLast? with
  | none => [x]
  | some l => if x.1 ≤ l.2 then out.dropLast ++ [(l.1, max l.2 x.2)] else out ++ [x]
def joinL (ys : List Sp) : List Sp := ys.foldl jstep []
theorem jstep_nil (x : Sp) : jstep [] x = [x] := rfl
theorem jstep_in (acc : List Sp) (c x : Sp) (h : x.1 ≤ c.2) : jstep (acc ++ [c]) x = acc ++ [(c.1, max c.2 x.2)] := by simp [jstep, h]
theorem jstep_out (acc : List Sp) (c x : Sp) (h : ¬ x.1 ≤ c.2) : jstep (acc ++ [c]) x = acc ++ [c] ++ [x] := by simp [jstep, h]
theorem foldl_jr : ∀ (ys acc : List Sp) (c : Sp), ys.foldl jstep (acc ++ [c]) = acc ++ jr c ys
  | [], acc, c => rfl
  | x :: r, acc, c => by
    rw [List.foldl_cons, jr]
    by_cases h : x.1 ≤ c.2
    · rw [jstep_in acc c x h, if_pos h, foldl_jr r acc _]
    · rw [jstep_out acc c x h, if_neg h, foldl_jr r _ x, List.append_assoc]; rfl
theorem joinL_cons (x : Sp) (r : List Sp) : joinL (x :: r) = jr x r := foldl_jr r [] x
theorem joinL_snoc (ys : List Sp) (x : Sp) : joinL (ys ++ [x]) = jstep (joinL ys) x := by simp [joinL]
theorem jr_spec : ∀ (r : List Sp) (c : Sp) (p : Int), p < c.1 → c.1 < c.2 → (∀ x, x ∈ r → c.1 ≤ x.1 ∧ x.1 < x.2) → r.Pairwise (fun a b => a.1 ≤ b.1) →
    Canon p (jr c r) ∧ (∀ n, mem (jr c r) n ↔ mem (c :: r) n) ∧ (jr c r).length ≤ r.length + 1
  | [], c, p, h1, h2, _, _ => ⟨⟨h1, h2, trivial⟩, fun _ => Iff.rfl, Nat.le_refl _⟩
  | x :: r, c, p, h1, h2, h3, h4 => by
    have hx := h3 x List.mem_cons_self
    have hr := List.pairwise_cons.1 h4
    unfold jr
    by_cases h : x.1 ≤ c.2
    · rw [if_pos h]
      obtain ⟨a, b, d⟩ := jr_spec r (c.1, max c.2 x.2) p h1 (by show c.1 < max c.2 x.2; omega) (fun y hy => h3 y (List.mem_cons_of_mem _ hy)) hr.2
      refine ⟨a, fun n => ?_, by simp only [List.length_cons]; omega⟩
      rw [b, mem_cons, mem_cons, mem_cons, ← or_assoc]
      exact or_congr (by show c.1 ≤ n ∧ n < max c.2 x.2 ↔ _; omega) Iff.rfl
    · rw [if_neg h]
      obtain ⟨a, b, d⟩ := jr_spec r x c.2 (by omega) hx.2 (fun y hy => ⟨hr.1 y hy, (h3 y (List.mem_cons_of_mem _ hy)).2⟩) hr.2
      refine ⟨⟨h1, h2, a⟩, fun n => ?_, by simp only [List.length_cons]; omega⟩
      rw [mem_cons, b, mem_cons c]
theorem joinL_spec (ys : List Sp) (h0 : ∀ x, x ∈ ys → 0 ≤ x.1 ∧ x.1 < x.2) (hs : ys.Pairwise (fun a b => a.1 ≤ b.1)) :
    Canon (-1) (joinL ys) ∧ (∀ n, mem (joinL ys) n ↔ mem ys n) ∧ (joinL ys).length ≤ ys.length := by
  cases ys with
  | nil => exact ⟨trivial, fun _ => Iff.rfl, Nat.le_refl _⟩
  | cons x r =>
    have hx := h0 x List.mem_cons_self
    have hr := List.pairwise_cons.1 hs
    rw [joinL_cons]
    exact jr_spec r x (-1) (by omega) hx.2 (fun y hy => ⟨hr.1 y hy, (h0 y (List.mem_cons_of_mem _ hy)).2⟩) hr.2

/-! ### numbers put in order -/
def ins (n : Int) : List Int → List Int
  | [] => [n]
  | a :: r => if n < a then n :: a :: r else a :: ins n r
def putL (l : List Int) (n : Int) : List Int := if n ∈ l then l else ins n l
theorem mem_ins (n : Int) : ∀ (l : List Int) (a : Int), a ∈ ins n l ↔ a = n ∨ a ∈ l
  | [], a => by simp [ins]
  | b :: r, a => by
    unfold ins
    by_cases h : n < b
    · simp [h]
    · simp only [h, if_false, List.mem_cons, mem_ins n r a]
      constructor
      · rintro (h | h | h) <;> simp [h]
      · rintro (h | h | h) <;> simp [h]
theorem ins_rise (n : Int) : ∀ (l : List Int), n ∉ l → l.Pairwise (· < ·) → (ins n l).Pairwise (· < ·)
  | [], _, _ => by simp [ins]
  | b :: r, hn, h => by
    have hr := List.pairwise_cons.1 h
    unfold ins
    by_cases hb : n < b
    · rw [if_pos hb]
      refine List.pairwise_cons.2 ⟨fun a ha => ?_, h⟩
      rcases List.mem_cons.1 ha with rfl | ha
      · exact hb
      · have := hr.1 a ha; omega
    · rw [if_neg hb]
      have hne : n ≠ b := fun e => hn (e ▸ List.mem_cons_self)
      refine List.pairwise_cons.2 ⟨fun a ha => ?_, ins_rise n r (fun e => hn (List.mem_cons_of_mem _ e)) hr.2⟩
      rcases (mem_ins n r a).1 ha with rfl | ha
      · omega
      · exact hr.1 a ha
theorem ins_len (n : Int) : ∀ (l : List Int), (ins n l).length = l.length + 1
  | [] => rfl
  | b :: r => by unfold ins; by_cases h : n < b <;> simp [h, ins_len n r]
theorem ins_done (n b : Int) : ∀ (l : List Int), (∃ a, a ∈ l ∧ n < a) → ins n (l ++ [b]) = ins n l ++ [b]
  | [], ⟨_, h, _⟩ => by cases h
  | c :: r, ⟨a, h, h1⟩ => by
    rw [List.cons_append, ins, ins]
    by_cases hc : n < c
    · simp [hc]
    · rw [if_neg hc, if_neg hc]
      rcases List.mem_cons.1 h with rfl | h
      · exact absurd h1 hc
      · rw [ins_done n b r ⟨a, h, h1⟩]; rfl
theorem ins_now (n b : Int) : ∀ (l : List Int), (∀ a, a ∈ l → ¬ n < a) → n < b → ins n (l ++ [b]) = l ++ [n] ++ [b]
  | [], _, h => by simp [ins, h]
  | c :: r, h, hb => by
    rw [List.cons_append, ins, if_neg (h c List.mem_cons_self), ins_now n b r (fun a ha => h a (List.mem_cons_of_mem _ ha)) hb]; rfl
theorem ins_end (n : Int) : ∀ (l : List Int), (∀ a, a ∈ l → ¬ n < a) → ins n l = l ++ [n]
  | [], _ => rfl
  | c :: r, h => by
    rw [ins, if_neg (h c List.mem_cons_self), ins_end n r (fun a ha => h a (List.mem_cons_of_mem _ ha))]; rfl
theorem mem_putL (l : List Int) (n a : Int) : a ∈ putL l n ↔ a = n ∨ a ∈ l := by
  unfold putL
  by_cases h : n ∈ l
  · rw [if_pos h]; constructor
    · exact .inr
    · rintro (rfl | h1) <;> assumption
  · rw [if_neg h, mem_ins]
theorem putL_rise (l : List Int) (n : Int) (h : l.Pairwise (· < ·)) : (putL l n).Pairwise (· < ·) := by
  unfold putL
  by_cases h1 : n ∈ l
  · rw [if_pos h1]; exact h
  · rw [if_neg h1]; exact ins_rise n l h1 h
theorem putL_len (l : List Int) (n : Int) : (putL l n).length ≤ l.length + 1 := by
  unfold putL
  by_cases h1 : n ∈ l
  · rw [if_pos h1]; omega
  · rw [if_neg h1, ins_len]; exact Nat.le_refl _
def endsTo (xs : List Sp) : List Int := xs.foldl (fun o s => putL (putL o s.1) s.2) []
def endsL (xs : List Sp) (x : Sp) : List Int := putL (putL (endsTo xs) x.1) x.2
theorem endsTo_snoc (xs : List Sp) (s : Sp) : endsTo (xs ++ [s]) = putL (putL (endsTo xs) s.1) s.2 := by simp [endsTo]
theorem foldl_ends : ∀ (xs : List Sp) (o : List Int), o.Pairwise (· < ·) →
    (xs.foldl (fun o s => putL (putL o s.1) s.2) o).Pairwise (· < ·) ∧ (xs.foldl (fun o s => putL (putL o s.1) s.2) o).length ≤ o.length + 2 * xs.length ∧
      ∀ a, a ∈ xs.foldl (fun o s => putL (putL o s.1) s.2) o ↔ a ∈ o ∨ ∃ s, s ∈ xs ∧ (a = s.1 ∨ a = s.2)
  | [], o, h => ⟨h, by simp, fun a => by simp⟩
  | s :: r, o, h => by
    obtain ⟨a, b, c⟩ := foldl_ends r (putL (putL o s.1) s.2) (putL_rise _ _ (putL_rise _ _ h))
    rw [List.foldl_cons]
    refine ⟨a, ?_, fun e => ?_⟩
    · have := putL_len (putL o s.1) s.2
      have := putL_len o s.1
      simp only [List.length_cons]
      omega
    · rw [c, mem_putL, mem_putL]
      constructor
      · rintro ((h | h | h) | ⟨t, ht, h⟩)
        · exact .inr ⟨s, List.mem_cons_self, .inr h⟩
        · exact .inr ⟨s, List.mem_cons_self, .inl h⟩
        · exact .inl h
        · exact .inr ⟨t, List.mem_cons_of_mem _ ht, h⟩
      · rintro (h | ⟨t, ht, h⟩)
        · exact .inl (.inr (.inr h))
        · rcases List.mem_cons.1 ht with rfl | ht
          · rcases h with h | h
            · exact .inl (.inr (.inl h))
            · exact .inl (.inl h)
          · exact .inr ⟨t, ht, h⟩
theorem endsL_spec (xs : List Sp) (x : Sp) : (endsL xs x).Pairwise (· < ·) ∧ (endsL xs x).length ≤ 2 * xs.length + 2 ∧
    ∀ a, a ∈ endsL xs x ↔ (a = x.1 ∨ a = x.2) ∨ ∃ s, s ∈ xs ∧ (a = s.1 ∨ a = s.2) := by
  obtain ⟨a, b, c⟩ := foldl_ends xs [] (by simp)
  refine ⟨putL_rise _ _ (putL_rise _ _ a), ?_, fun e => ?_⟩
  · have := putL_len (putL (endsTo xs) x.1) x.2
    have := putL_len (endsTo xs) x.1
    have : (endsTo xs).length ≤ 2 * xs.length := by unfold endsTo; simpa using b
    unfold endsL
    omega
  · unfold endsL
    rw [mem_putL, mem_putL, show (e ∈ endsTo xs) = (e ∈ xs.foldl (fun o s => putL (putL o s.1) s.2) []) from rfl, c]
    simp only [List.not_mem_nil, false_or]
    constructor
    · rintro (h | h | h)
      · exact .inl (.inr h)
      · exact .inl (.inl h)
      · exact .inr h
    · rintro ((h | h) | h)
      · exact .inr (.inl h)
      · exact .inl h
      · exact .inr (.inr h)

/-! ### pieces between places -/
def pcs (keep : Int → Bool) : List Int → List Sp
  | a :: b :: r => (if keep a then [(a, b)] else []) ++ pcs keep (b :: r)
  | [_] => []
  | [] => []
theorem pcs_take (keep : Int → Bool) : ∀ (p : List Int) (k : Nat) (h : k + 1 < p.length), pcs keep (p.take (k + 2)) = pcs keep (p.take (k + 1)) ++ (if keep (p[k]'(by omega)) then [(p[k]'(by omega), p[k + 1])] else [])
  | [], k, h => by simp at h
  | [_], k, h => by simp at h
  | a :: b :: r, 0, _ => by simp [pcs]
  | a :: b :: r, k + 1, h => by
    have := pcs_take keep (b :: r) k (by simpa using h)
    simp only [List.take_succ_cons, List.getElem_cons_succ] at this ⊢
    rw [pcs, pcs, this, List.append_assoc]
def jstepE (out : List Sp) (x : Sp) : List Sp :=
  match out.getLast? with
  | none => [x]
  | some l => if l.2 = x.1 then out.dropLast ++ [(l.1, x.2)] else out ++ [x]
theorem jstepE_nil (x : Sp) : jstepE [] x = [x] := rfl
theorem jstepE_in (acc : List Sp) (c x : Sp) (h : c.2 = x.1) : jstepE (acc ++ [c]) x = acc ++ [(c.1, x.2)] := by simp [jstepE, h]
theorem jstepE_out (acc : List Sp) (c x : Sp) (h : ¬ c.2 = x.1) : jstepE (acc ++ [c]) x = acc ++ [c] ++ [x] := by simp [jstepE, h]
def joinE (ys : List Sp) : List Sp := ys.foldl jstepE []
theorem joinE_snoc (ys : List Sp) (x : Sp) : joinE (ys ++ [x]) = jstepE (joinE ys) x := by simp [joinE]
theorem snoc_cases {α : Type} (l : List α) : l = [] ∨ ∃ a c, l = a ++ [c] := by
  rcases List.eq_nil_or_concat l with h | ⟨a, c, h⟩
  · exact .inl h
  · exact .inr ⟨a, c, by rw [h, List.concat_eq_append]⟩
theorem foldE (keep : Int → Bool) : ∀ (p : List Int) (acc : List Sp), p.Pairwise (· < ·) → (∀ a, p.head? = some a → ∀ s, s ∈ acc → s.2 ≤ a) → (pcs keep p).foldl jstepE acc = (pcs keep p).foldl jstep acc
  | [], _, _, _ => rfl
  | [_], _, _, _ => rfl
  | a :: b :: r, acc, h, hl => by
    have hr := List.pairwise_cons.1 h
    have hab := hr.1 b List.mem_cons_self
    have hacc := hl a rfl
    unfold pcs
    by_cases hk : keep a = true
    · rw [if_pos hk, List.foldl_append, List.foldl_append]
      have e : jstepE acc (a, b) = jstep acc (a, b) := by
        rcases snoc_cases acc with rfl | ⟨u, c, rfl⟩
        · rfl
        · have hc := hacc c (by simp)
          by_cases e : c.2 = a
          · rw [jstepE_in u c (a, b) e, jstep_in u c (a, b) (by show a ≤ c.2; omega), show max c.2 b = b by omega]
          · rw [jstepE_out u c (a, b) e, jstep_out u c (a, b) (by show ¬ a ≤ c.2; omega)]
      show List.foldl jstepE (jstepE acc (a, b)) _ = List.foldl jstep (jstep acc (a, b)) _
      rw [e]
      refine foldE keep (b :: r) _ hr.2 (fun a' ha' s hs => ?_)
      have : a' = b := by simpa using ha'.symm
      subst this
      rcases snoc_cases acc with rfl | ⟨u, c, rfl⟩
      · rw [jstep_nil] at hs; simp at hs; subst hs; exact Int.le_refl _
      · by_cases e : a ≤ c.2
        · rw [jstep_in u c (a, a') e] at hs
          rcases List.mem_append.1 hs with hs | hs
          · have := hacc s (by simp [hs]); omega
          · simp at hs; subst hs; have := hacc c (by simp); show max c.2 a' ≤ a'; omega
        · rw [jstep_out u c (a, a') e] at hs
          rcases List.mem_append.1 hs with hs | hs
          · have := hacc s hs; omega
          · simp at hs; subst hs; exact Int.le_refl _
    · rw [if_neg hk]
      exact foldE keep (b :: r) acc hr.2 (fun a' ha' s hs => by
        have : a' = b := by simpa using ha'.symm
        have := hacc s hs; omega)
theorem pcs_in (keep : Int → Bool) : ∀ (p : List Int) (s : Sp), p.Pairwise (· < ·) → s ∈ pcs keep p → keep s.1 = true ∧ s.1 < s.2 ∧ s.1 ∈ p ∧ ∀ e, e ∈ p → e ≤ s.1 ∨ s.2 ≤ e
  | [], _, _, h => by cases h
  | [_], _, _, h => by cases h
  | a :: b :: r, s, h, hs => by
    have hr := List.pairwise_cons.1 h
    have hab := hr.1 b List.mem_cons_self
    unfold pcs at hs
    rcases List.mem_append.1 hs with hs | hs
    · by_cases hk : keep a = true
      · rw [if_pos hk] at hs
        simp at hs; subst hs
        refine ⟨hk, hab, List.mem_cons_self, fun e he => ?_⟩
        rcases List.mem_cons.1 he with rfl | he
        · exact .inl (Int.le_refl _)
        · rcases List.mem_cons.1 he with rfl | he
          · exact .inr (Int.le_refl _)
          · have := (List.pairwise_cons.1 hr.2).1 e he; exact .inr (by show b ≤ e; omega)
      · rw [if_neg hk] at hs; cases hs
    · obtain ⟨h1, h2, h3, h4⟩ := pcs_in keep (b :: r) s hr.2 hs
      refine ⟨h1, h2, List.mem_cons_of_mem _ h3, fun e he => ?_⟩
      rcases List.mem_cons.1 he with rfl | he
      · exact .inl (by have := hr.1 s.1 h3; omega)
      · exact h4 e he
theorem pcs_has (keep : Int → Bool) (n : Int) : ∀ (p : List Int), p.Pairwise (· < ·) → (∃ e, e ∈ p ∧ e ≤ n) → (∃ e, e ∈ p ∧ n < e) → (∀ a, a ∈ p → a ≤ n → (∀ e, e ∈ p → e ≤ a ∨ n < e) → keep a = true) → mem (pcs keep p) n
  | [], _, ⟨_, h, _⟩, _, _ => by cases h
  | [a], _, ⟨e, h, h1⟩, ⟨e', h', h1'⟩, _ => by simp at h h'; subst h; subst h'; omega
  | a :: b :: r, h, hlo, hhi, hk => by
    have hr := List.pairwise_cons.1 h
    have hab := hr.1 b List.mem_cons_self
    unfold pcs
    rw [mem_append]
    by_cases hb : b ≤ n
    · refine .inr (pcs_has keep n (b :: r) hr.2 ⟨b, List.mem_cons_self, hb⟩ ?_ ?_)
      · obtain ⟨e, he, hn⟩ := hhi
        rcases List.mem_cons.1 he with rfl | he
        · omega
        · exact ⟨e, he, hn⟩
      · intro c hc hcn hall
        refine hk c (List.mem_cons_of_mem _ hc) hcn (fun e he => ?_)
        rcases List.mem_cons.1 he with rfl | he
        · exact .inl (by have := hr.1 c hc; omega)
        · exact hall e he
    · have han : a ≤ n := by
        obtain ⟨e, he, hn⟩ := hlo
        rcases List.mem_cons.1 he with rfl | he
        · exact hn
        · have := hr.1 e he; omega
      have := hk a List.mem_cons_self han (fun e he => by
        rcases List.mem_cons.1 he with rfl | he
        · exact .inl (Int.le_refl _)
        · refine .inr ?_
          rcases List.mem_cons.1 he with rfl | he
          · omega
          · have := (List.pairwise_cons.1 hr.2).1 e he; omega)
      rw [if_pos this]
      exact .inl ⟨(a, b), by simp, han, by show n < b; omega⟩
theorem pcs_sorted (keep : Int → Bool) : ∀ (p : List Int), p.Pairwise (· < ·) → (pcs keep p).Pairwise (fun a b => a.1 ≤ b.1)
  | [], _ => by simp [pcs]
  | [_], _ => by simp [pcs]
  | a :: b :: r, h => by
    have hr := List.pairwise_cons.1 h
    unfold pcs
    by_cases hk : keep a = true
    · rw [if_pos hk]
      refine List.pairwise_cons.2 ⟨fun s hs => ?_, pcs_sorted keep (b :: r) hr.2⟩
      have := (pcs_in keep (b :: r) s hr.2 hs).2.2.1
      have := hr.1 _ this
      show a ≤ s.1
      omega
    · rw [if_neg hk]; exact pcs_sorted keep (b :: r) hr.2

/-! ### the set of a list with a span, or without it -/
def hasB (xs : List Sp) (n : Int) : Bool := xs.any fun s => decide (s.1 ≤ n) && decide (n < s.2)
theorem hasB_iff (xs : List Sp) (n : Int) : hasB xs n = true ↔ mem xs n := by simp [hasB, mem]
def inB (x : Sp) (n : Int) : Bool := decide (x.1 ≤ n) && decide (n < x.2)
theorem inB_iff (x : Sp) (n : Int) : inB x n = true ↔ x.1 ≤ n ∧ n < x.2 := by simp [inB]
def keepB (xs : List Sp) (x : Sp) (add : Bool) (n : Int) : Bool := (hasB xs n && (add || !inB x n)) || (add && inB x n)
theorem keepB_add (xs : List Sp) (x : Sp) (n : Int) : keepB xs x true n = true ↔ mem xs n ∨ (x.1 ≤ n ∧ n < x.2) := by
  rw [← hasB_iff, ← inB_iff]; simp [keepB]
theorem keepB_cut (xs : List Sp) (x : Sp) (n : Int) : keepB xs x false n = true ↔ mem xs n ∧ ¬ (x.1 ≤ n ∧ n < x.2) := by
  rw [← hasB_iff, ← inB_iff]; simp [keepB]
theorem keepB_same (xs : List Sp) (x : Sp) (add : Bool) (a n : Int) (han : a ≤ n) (h : ∀ e, e ∈ endsL xs x → e ≤ a ∨ n < e) : keepB xs x add n = keepB xs x add a := by
  obtain ⟨_, _, he⟩ := endsL_spec xs x
  have h1 : hasB xs n = hasB xs a := by
    rw [Bool.eq_iff_iff, hasB_iff, hasB_iff]
    constructor <;> rintro ⟨s, hs, h1, h2⟩ <;> refine ⟨s, hs, ?_⟩ <;> have a1 := h s.1 ((he _).2 (.inr ⟨s, hs, .inl rfl⟩)) <;> have a2 := h s.2 ((he _).2 (.inr ⟨s, hs, .inr rfl⟩)) <;> omega
  have h2 : inB x n = inB x a := by
    rw [Bool.eq_iff_iff, inB_iff, inB_iff]
    have a1 := h x.1 ((he _).2 (.inl (.inl rfl)))
    have a2 := h x.2 ((he _).2 (.inl (.inr rfl)))
    omega
  unfold keepB
  rw [h1, h2]
def madeL (xs : List Sp) (x : Sp) (add : Bool) : List Sp := joinE (pcs (keepB xs x add) (endsL xs x))
theorem madeL_spec (xs : List Sp) (x : Sp) (add : Bool) (h0 : ∀ s, s ∈ xs → 0 ≤ s.1 ∧ 0 ≤ s.2) (hx : 0 ≤ x.1 ∧ 0 ≤ x.2) :
    Canon (-1) (madeL xs x add) ∧ ∀ n, mem (madeL xs x add) n ↔ keepB xs x add n = true := by
  obtain ⟨hr, _, he⟩ := endsL_spec xs x
  have hj : madeL xs x add = joinL (pcs (keepB xs x add) (endsL xs x)) := foldE _ _ [] hr (fun _ _ s hs => by cases hs)
  have hp0 : ∀ e, e ∈ endsL xs x → 0 ≤ e := fun e hh => by
    rcases (he e).1 hh with (rfl | rfl) | ⟨s, hs, rfl | rfl⟩
    · exact hx.1
    · exact hx.2
    · exact (h0 s hs).1
    · exact (h0 s hs).2
  obtain ⟨a, b, _⟩ := joinL_spec (pcs (keepB xs x add) (endsL xs x)) (fun s hs => by
    obtain ⟨_, h2, h3, _⟩ := pcs_in _ _ s hr hs
    exact ⟨hp0 _ h3, h2⟩) (pcs_sorted _ _ hr)
  rw [hj]
  refine ⟨a, fun n => ?_⟩
  rw [b]
  constructor
  · rintro ⟨s, hs, h1, h2⟩
    obtain ⟨k, _, _, h4⟩ := pcs_in _ _ s hr hs
    rw [keepB_same xs x add s.1 n h1 (fun e he' => by rcases h4 e he' with h | h <;> omega)]
    exact k
  · intro hk
    have hin : (∃ s, s ∈ xs ∧ s.1 ≤ n ∧ n < s.2) ∨ (x.1 ≤ n ∧ n < x.2) := by
      cases add
      · exact .inl ((keepB_cut xs x n).1 hk).1
      · exact (keepB_add xs x n).1 hk
    refine pcs_has _ n _ hr ?_ ?_ (fun a _ han hall => by rw [← keepB_same xs x add a n han hall]; exact hk)
    · rcases hin with ⟨s, hs, h1, _⟩ | ⟨h1, _⟩
      · exact ⟨s.1, (he _).2 (.inr ⟨s, hs, .inl rfl⟩), h1⟩
      · exact ⟨x.1, (he _).2 (.inl (.inl rfl)), h1⟩
    · rcases hin with ⟨s, hs, _, h1⟩ | ⟨_, h1⟩
      · exact ⟨s.2, (he _).2 (.inr ⟨s, hs, .inr rfl⟩), h1⟩
      · exact ⟨x.2, (he _).2 (.inl (.inr rfl)), h1⟩

/-! ### looking in a list -/
theorem Canon.find {p : Int} : ∀ {xs : List Sp}, Canon p xs → ∀ {s : Sp} {n : Int}, s ∈ xs → s.1 ≤ n → n < s.2 → xs.find? (inB · n) = some s
  | [], _, _, _, h, _, _ => by cases h
  | x :: r, ⟨a, b, c⟩, s, n, h, h1, h2 => by
    rcases List.mem_cons.1 h with e | h'
    · rw [List.find?_cons_of_pos (by rw [inB_iff, ← e]; exact ⟨h1, h2⟩), e]
    · have := c.lo h'
      rw [List.find?_cons_of_neg (by rw [inB_iff]; omega)]
      exact c.find h' h1 h2
theorem find_some {xs : List Sp} {n : Int} {s : Sp} (h : xs.find? (inB · n) = some s) : s ∈ xs ∧ s.1 ≤ n ∧ n < s.2 :=
  ⟨List.mem_of_find?_eq_some h, (inB_iff _ _).1 (List.find?_some (p := (inB · n)) h)⟩
theorem find_none {xs : List Sp} {n : Int} (h : xs.find? (inB · n) = none) : ¬ mem xs n := by
  rintro ⟨s, hs, h1⟩
  have := List.find?_eq_none.1 h s hs
  rw [inB_iff] at this
  exact this h1
/-- the search by ends -/
theorem Canon.search {p : Int} : ∀ {xs : List Sp}, Canon p xs → ∀ (n : Int), (xs.countP (fun s => !decide (n < s.2)) = xs.length ∧ xs.find? (inB · n) = none) ∨
    (∃ s, xs[xs.countP (fun s => !decide (n < s.2))]? = some s ∧ n < s.2 ∧ xs.find? (inB · n) = if s.1 ≤ n then some s else none)
  | [], _, _ => .inl ⟨rfl, rfl⟩
  | x :: r, ⟨a, b, c⟩, n => by
    by_cases h : n < x.2
    · refine .inr ⟨x, ?_, h, ?_⟩
      · have e : r.countP (fun s => !decide (n < s.2)) = 0 := by
          rw [List.countP_eq_zero]
          intro s hs
          have := c.lo hs
          simp
          omega
        rw [List.countP_cons, e]
        simp [h]
      · by_cases h1 : x.1 ≤ n
        · rw [if_pos h1, List.find?_cons_of_pos (by rw [inB_iff]; exact ⟨h1, h⟩)]
        · rw [if_neg h1, List.find?_cons_of_neg (by rw [inB_iff]; omega), List.find?_eq_none]
          intro s hs
          have := c.lo hs
          rw [inB_iff]; omega
    · have e : (x :: r).countP (fun s => !decide (n < s.2)) = r.countP (fun s => !decide (n < s.2)) + 1 := by rw [List.countP_cons]; simp [h]
      rw [e, List.find?_cons_of_neg (by rw [inB_iff]; omega)]
      rcases c.search n with ⟨h1, h2⟩ | ⟨s, h1, h2, h3⟩
      · exact .inl ⟨by rw [h1]; rfl, h2⟩
      · exact .inr ⟨s, by simpa using h1, h2, h3⟩
theorem Canon.ends_up {p : Int} : ∀ {xs : List Sp}, Canon p xs → ∀ (i j : Nat) (s t : Sp), i ≤ j → xs[i]? = some s → xs[j]? = some t → s.2 ≤ t.2
  | [], _, _, _, _, _, _, h, _ => by simp at h
  | x :: r, ⟨a, b, c⟩, i, j, s, t, hij, h1, h2 => by
    cases j with
    | zero =>
      obtain rfl : i = 0 := by omega
      rw [h1] at h2; cases h2; exact Int.le_refl _
    | succ j =>
      cases i with
      | zero =>
        simp at h1 h2
        have := c.lo (List.mem_of_getElem? h2)
        rw [← h1]; omega
      | succ i =>
        simp at h1 h2
        exact c.ends_up i j s t (by omega) h1 h2
theorem hasB_find (xs : List Sp) (n : Int) : hasB xs n = (xs.find? (inB · n)).isSome := by
  rw [Bool.eq_iff_iff, List.find?_isSome]; unfold hasB; rw [List.any_eq_true]; rfl

/-! ### how many numbers; what is covered -/
def sumI : List Sp → Int
  | [] => 0
  | x :: r => (x.2 - x.1) + sumI r
theorem sumI_snoc : ∀ (l : List Sp) (x : Sp), sumI (l ++ [x]) = sumI l + (x.2 - x.1)
  | [], x => by simp [sumI]
  | y :: r, x => by rw [List.cons_append, sumI, sumI, sumI_snoc r x]; omega
theorem Canon.take {p : Int} : ∀ {xs : List Sp} (k : Nat), Canon p xs → Canon p (xs.take k)
  | [], k, _ => by simp [Canon]
  | _ :: _, 0, _ => trivial
  | x :: r, k + 1, ⟨a, b, c⟩ => ⟨a, b, c.take k⟩
theorem Canon.sum_le {E : Int} : ∀ {xs : List Sp} {p : Int}, Canon p xs → (∀ s, s ∈ xs → s.2 ≤ E) → 0 ≤ sumI xs ∧ sumI xs ≤ max 0 (E - p - 1)
  | [], p, _, _ => by simp [sumI]; omega
  | x :: r, p, ⟨a, b, c⟩, h => by
    have := c.sum_le (E := E) (fun s hs => h s (List.mem_cons_of_mem _ hs))
    have := h x List.mem_cons_self
    unfold sumI
    omega
def covB (xs : List Sp) (a b : Int) : Bool := xs.any fun s => decide (s.1 ≤ a) && decide (b ≤ s.2)
theorem Canon.cov {p : Int} {xs : List Sp} (h : Canon p xs) (a b : Int) (hab : a < b) : covB xs a b = match xs.find? (inB · a) with | some s => decide (b ≤ s.2) | none => false := by
  rw [Bool.eq_iff_iff]
  unfold covB
  rw [List.any_eq_true]
  constructor
  · rintro ⟨s, hs, hh⟩
    simp at hh
    rw [h.find hs hh.1 (by omega)]
    simpa using hh.2
  · cases hf : xs.find? (inB · a) with
    | none => intro hh; cases hh
    | some s =>
      intro hh
      obtain ⟨h1, h2, h3⟩ := find_some hf
      exact ⟨s, h1, by simp at hh ⊢; exact ⟨h2, hh⟩⟩
end Go.Proofs.Ytejknbpadlidaaa.spm
