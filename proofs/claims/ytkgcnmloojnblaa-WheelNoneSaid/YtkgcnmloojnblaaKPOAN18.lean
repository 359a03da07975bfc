/- P O A N: contracts, part 18. Condition: as each says. -/
import Derived.Test.YtkgcnmloojnblaaKPOAN8
import Derived.Test.YtkgcnmloojnblaaKPOAN17
set_option linter.unusedVariables false
set_option linter.unusedSimpArgs false
namespace Go.Proofs.Ytkgcnmloojnblaa.nb
open Go.RowKit Go.Shelf Go.Conc
set_option linter.unusedVariables false

section
variable {P : Program} {Q : Exit → Act → World → Prop}

theorem RelI.step {ops : Array Oper} {a0 : Act} {C : World → Prop} {Y : Nat → Value → World → Prop} {listed : Array Bool} {a : Act} {w : World} {i : Nat} {o : Oper} {v : Value} (hB : relB ops a0.tmps.size = true) (hI : RelI ops a0 C Y listed a w) (hi : i ∈ Region.ready .any ops listed) (ho : ops[i]? = some o) (hY : Y i v w) :
    RelI ops a0 C Y (listed.setIfInBounds i true) (a.put o.dst v) w := by
  obtain ⟨h2, o', ho', hall⟩ := mem_ready.1 hi
  rw [ho] at ho'; cases ho'
  obtain ⟨hg, hlt, hdst⟩ := relB_spec hB ho
  have hi' : i < ops.size := (Array.getElem?_eq_some_iff.1 ho).1
  have hil : i < listed.size := by rw [hI.size]; exact hi'
  have hun : listed.getD i false = false := by simpa [hil] using h2
  refine ⟨by simpa using hI.size, hI.cls, fun j oj hj hl e he hb => ?_, fun k ok s hk hs hl => ?_, fun s hs => ?_, ?_, ?_⟩
  · rcases listed_set hl with rfl | hl'
    · rw [ho] at hj; cases hj
      have := hall e he hb
      by_cases hei : e.on = j
      · rw [hei]; simp [hil]
      · simpa [Array.getElem?_setIfInBounds, Ne.symm hei] using this
    · have := hI.closed j oj hj hl' e he hb
      by_cases hei : e.on = i
      · rw [hei]; simp [hil]
      · simpa [Array.getElem?_setIfInBounds, Ne.symm hei] using this
  · rw [getD_put]
    by_cases hki : k = i
    · subst hki
      rw [ho] at hk; cases hk
      rw [if_pos ⟨hs, by rw [hI.tsize]; exact (hdst s hs).1⟩]
      exact hY
    · have hne : o.dst ≠ some s := fun he => (hdst s he).2 k ok hki hk hs
      rw [if_neg (fun hh => hne hh.1)]
      rcases listed_set hl with h | h
      · exact absurd h hki
      · exact hI.done k ok s hk hs h
  · rw [getD_put]
    have hne : o.dst ≠ some s := fun he => by
      have := hs i o ho he
      simp [hil] at this
    rw [if_neg (fun hh => hne hh.1)]
    refine hI.rest s fun k ok hk hsk => ?_
    have h5 := hs k ok hk hsk
    by_cases hki : k = i
    · subst hki; exact hun
    · simpa [Array.getElem?_setIfInBounds, Ne.symm hki] using h5
  · show (a.put o.dst v).tmps.size = _
    rw [← hI.tsize]; unfold Act.put; cases o.dst <;> simp
  · show (a.put o.dst v).defers = _
    rw [← hI.defers]; unfold Act.put; cases o.dst <;> rfl
theorem RelI.finds {ops : Array Oper} {a0 : Act} {C : World → Prop} {Y : Nat → Value → World → Prop} {listed : Array Bool} {a : Act} {w : World} {i : Nat} (hI : RelI ops a0 C Y listed a w) (hi : i ∈ Region.ready .any ops listed) :
    (∀ d od s, waits ops i d = true → ops[d]? = some od → od.dst = some s → Y d (a.tmps.getD s undef) w) ∧
    (∀ s, (∀ k ok, ops[k]? = some ok → ok.dst = some s → waits ops k i = true) → a.tmps.getD s undef = a0.tmps.getD s undef) := by
  obtain ⟨h2, o, ho, hall⟩ := mem_ready.1 hi
  have hi' : i < ops.size := (Array.getElem?_eq_some_iff.1 ho).1
  have hil : i < listed.size := by rw [hI.size]; exact hi'
  have hun : listed.getD i false = false := by simpa [hil] using h2
  refine ⟨fun d od s hw hd hs => ?_, fun s hs => ?_⟩
  · refine hI.done d od s hd hs ?_
    unfold waits at hw
    simp only [ho] at hw
    obtain ⟨e, he, hb⟩ := Array.any_eq_true'.1 hw
    simp only [Bool.and_eq_true, beq_iff_eq] at hb
    rw [← hb.2]; exact hall e he hb.1
  · refine hI.rest s fun k ok hk hsk => ?_
    have hw := hs k ok hk hsk
    unfold waits at hw
    simp only [hk] at hw
    obtain ⟨e, he, hb⟩ := Array.any_eq_true'.1 hw
    simp only [Bool.and_eq_true, beq_iff_eq] at hb
    cases hlk : listed.getD k false with
    | false => rfl
    | true =>
      have := hI.closed k ok hk hlk e he hb.1
      rw [hb.2, hun] at this
      exact absurd this (by decide)
theorem RelI.all {ops : Array Oper} {a0 : Act} {C : World → Prop} {Y : Nat → Value → World → Prop} {listed : Array Bool} {a : Act} {w : World} (hB : relB ops a0.tmps.size = true) (hI : RelI ops a0 C Y listed a w) (hr : Region.ready .any ops listed = []) : ∀ k, k < ops.size → listed.getD k false = true := by
  intro k
  induction k using Nat.strongRecOn with
  | _ k ih =>
    intro hk
    cases hlk : listed.getD k false with
    | true => rfl
    | false =>
      exfalso
      have hkl : k < listed.size := by rw [hI.size]; exact hk
      have ho : ops[k]? = some ops[k] := Array.getElem?_eq_getElem hk
      have hmem : k ∈ Region.ready .any ops listed := mem_ready.2 ⟨by simpa [hkl] using hlk, _, ho, fun e he hb => by
        have h1 := (relB_spec hB ho).2.1 e he hb
        exact ih e.on h1 (by omega)⟩
      rw [hr] at hmem; cases hmem
theorem go_done {ops : Array Oper} {listed : Array Bool} (hr : Region.ready .any ops listed = []) : ∀ fuel t, Region.linearise.go .any ops fuel t listed [] = []
  | 0, t => by simp [Region.linearise.go]
  | fuel + 1, t => by
    simp only [Region.linearise.go]
    change (match (Region.ready .any ops listed)[t % (Region.ready .any ops listed).length]? with
      | some i => Region.linearise.go .any ops fuel (t / (Region.ready .any ops listed).length) (listed.setIfInBounds i true) [i]
      | none => [].reverse) = []
    rw [hr]; rfl
theorem set_count {listed : Array Bool} {i fuel : Nat} (hil : i < listed.size) (h2 : listed.getD i false = false) (hf : listed.toList.count false ≤ fuel + 1) : (listed.setIfInBounds i true).toList.count false ≤ fuel := by
  have e : listed.toList[i]'(by simpa using hil) = false := by simpa [hil] using h2
  rw [Array.toList_setIfInBounds, List.count_set (by simpa using hil)]
  simp only [e]
  simp
  have : 0 < listed.toList.count false := List.count_pos_iff.2 (by rw [← e]; simp)
  have e3 : listed.toList.count false = Array.count false listed := by simp
  omega
theorem wp_region_comm_any {id : Nat} {l : List Oper} {c : Oper} {a0 : Act} {w0 w1 w2 : World} {cases : Array CommCase} {blocking : Bool} {shape : CommShape} {v : Value} (vals : Nat → Value)
    (hm : P.follows .mixedOrders = true) (hB : relB (l ++ [c]).toArray a0.tmps.size = true)
    (hlast : ∀ L : Nat → Bool, (∀ i j, L i = true → waits (l ++ [c]).toArray i j = true → L j = true) → (∀ j, waits (l ++ [c]).toArray l.length j = true → L j = true) → ∀ j, j < l.length → L j = true)
    (hop : ∀ i o, l[i]? = some o → ∀ a : Act, (∀ d od s, waits (l ++ [c]).toArray i d = true → (l ++ [c]).toArray[d]? = some od → od.dst = some s → a.tmps.getD s undef = vals d) →
      (∀ s, (∀ k ok, (l ++ [c]).toArray[k]? = some ok → ok.dst = some s → waits (l ++ [c]).toArray k i = true) → a.tmps.getD s undef = a0.tmps.getD s undef) → (execOp a.eval o).run P w0.drew = .ok (.value (vals i)) w0.drew)
    (hrc : (execOp (putAll l 0 vals a0).eval c).run P w0.drew = .ok (.comm cases blocking shape) w1) (hcom : CommTo P cases blocking shape w1 v w2)
    (hend : Q .normal ((putAll l 0 vals a0).put c.dst v) w2) : (Code.region id (l ++ [c]).toArray true).wp P Q a0 w0 := by
  have hsize : (l ++ [c]).toArray.size = l.length + 1 := by simp
  have hcl : (l ++ [c]).toArray[l.length]? = some c := by simp
  have key : ∀ (fuel t : Nat) (listed : Array Bool) (a : Act), listed.toList.count false ≤ fuel → listed.getD l.length false = false →
      RelI (l ++ [c]).toArray a0 (fun _ => True) (fun k u _ => k < l.length → u = vals k) listed a w0.drew → Arr P (l ++ [c]).toArray Q (Region.linearise.go .any (l ++ [c]).toArray fuel t listed []) a w0.drew := by
    intro fuel
    induction fuel with
    | zero =>
      intro t listed a hf hl hI
      exfalso
      have hil : l.length < listed.size := by rw [hI.size, hsize]; omega
      have : false ∈ listed.toList := by
        have e : listed[l.length] = false := by simpa [hil] using hl
        rw [← e]; simp
      have := List.count_pos_iff.2 this
      omega
    | succ fuel ih =>
      intro t listed a hf hl hI
      simp only [Region.linearise.go]
      change Arr P (l ++ [c]).toArray Q (match (Region.ready .any (l ++ [c]).toArray listed)[t % (Region.ready .any (l ++ [c]).toArray listed).length]? with
        | some i => Region.linearise.go .any (l ++ [c]).toArray fuel (t / (Region.ready .any (l ++ [c]).toArray listed).length) (listed.setIfInBounds i true) [i]
        | none => [].reverse) a w0.drew
      have hne : Region.ready .any (l ++ [c]).toArray listed ≠ [] := fun hr => by
        have := hI.all hB hr l.length (by rw [hsize]; omega)
        rw [hl] at this; cases this
      cases hi : (Region.ready .any (l ++ [c]).toArray listed)[t % (Region.ready .any (l ++ [c]).toArray listed).length]? with
      | none =>
        exfalso
        have hlt := Nat.mod_lt t (List.length_pos_iff.2 hne)
        rw [List.getElem?_eq_getElem hlt] at hi
        cases hi
      | some i =>
        have him := List.mem_of_getElem? hi
        simp only []
        rw [linearise_go_acc, List.reverse_singleton, List.singleton_append]
        obtain ⟨h2, o, ho, hall⟩ := mem_ready.1 him
        have hi' : i < (l ++ [c]).toArray.size := (Array.getElem?_eq_some_iff.1 ho).1
        have hil : i < listed.size := by rw [hI.size]; exact hi'
        have hun : listed.getD i false = false := by simpa [hil] using h2
        obtain ⟨f1, f2⟩ := hI.finds him
        have hg := (relB_spec hB ho).1
        have hw : Region.wanted o (yielded (l ++ [c]).toArray a.tmps) = true := by unfold Region.wanted; rw [hg]
        have hLs : ∀ d, waits (l ++ [c]).toArray i d = true → listed.getD d false = true := fun d hd => by
          unfold waits at hd
          simp only [ho] at hd
          obtain ⟨e, he, hb⟩ := Array.any_eq_true'.1 hd
          simp only [Bool.and_eq_true, beq_iff_eq] at hb
          rw [← hb.2]; exact hall e he hb.1
        have hLc : ∀ x y, listed.getD x false = true → waits (l ++ [c]).toArray x y = true → listed.getD y false = true := fun x y hx hy => by
          unfold waits at hy
          cases hox : (l ++ [c]).toArray[x]? with
          | none => simp [hox] at hy
          | some ox =>
            simp only [hox] at hy
            obtain ⟨e, he, hb⟩ := Array.any_eq_true'.1 hy
            simp only [Bool.and_eq_true, beq_iff_eq] at hb
            rw [← hb.2]; exact hI.closed x ox hox hx e he hb.1
        by_cases hil2 : i = l.length
        · subst hil2
          rw [hcl] at ho; cases ho
          have hallL := hlast (fun k => listed.getD k false) hLc hLs
          have e : a = putAll l 0 vals a0 := by
            refine act_ext (by rw [putAll_size]; exact hI.tsize) (fun s => ?_) (by rw [putAll_defers]; exact hI.defers)
            by_cases h : ∃ (i : Nat) (o : Oper), l[i]? = some o ∧ o.dst = some s
            · obtain ⟨i, o, hi, hs⟩ := h
              have hil3 : i < l.length := (List.getElem?_eq_some_iff.1 hi).1
              have hoi : (l ++ [c]).toArray[i]? = some o := by simp [List.getElem?_append_left hil3, hi]
              have hsp := (relB_spec hB hoi).2.2 s hs
              rw [putAll_at l 0 _ a0 i o s (fun j oj hj hjo => hsp.2 j oj hj (by
                have := (List.getElem?_eq_some_iff.1 hjo).1
                simp [List.getElem?_append_left this, hjo])) hi hs hsp.1, Nat.zero_add]
              exact hI.done i o s hoi hs (hallL i hil3) hil3
            · rw [putAll_not l 0 _ a0 s (fun o ho he => by
                obtain ⟨j, hj, hjo⟩ := List.mem_iff_getElem.1 ho
                exact h ⟨j, o, by simp [hj, hjo], he⟩)]
              refine hI.rest s fun k ok hk hsk => ?_
              by_cases hkl : k < l.length
              · refine absurd ?_ h
                refine ⟨k, ok, ?_, hsk⟩
                simpa [List.getElem?_append_left hkl] using hk
              · have : k < l.length + 1 := by rw [← hsize]; exact (Array.getElem?_eq_some_iff.1 hk).1
                obtain rfl : k = l.length := by omega
                exact hl
          rw [go_done]
          · rw [e] at hw ⊢
            exact Arr.comm hcl hw hrc hcom (Arr.walk (by simpa [wpOps] using hend))
          · rw [List.eq_nil_iff_forall_not_mem]
            intro k hk
            obtain ⟨g1, ok, gk, _⟩ := mem_ready.1 hk
            have hk' : k < l.length + 1 := by rw [← hsize]; exact (Array.getElem?_eq_some_iff.1 gk).1
            have hks : k < listed.size := by rw [hI.size, hsize]; exact hk'
            by_cases hkl : k = l.length
            · subst hkl; simp [hks] at g1
            · have h4 := hallL k (by omega)
              have h5 : (listed.setIfInBounds l.length true).getD k true = true := by
                simp [hks, Array.getElem_setIfInBounds, Ne.symm hkl] at h4 ⊢
                exact h4
              rw [h5] at g1; cases g1
        · have hil3 : i < l.length := by rw [hsize] at hi'; omega
          have hoi : l[i]? = some o := by simpa [List.getElem?_append_left hil3] using ho
          have hrun := hop i o hoi a (fun d od s hw hd hs => f1 d od s hw hd hs (by
            have h1 := (relB_spec hB ho).2.1
            unfold waits at hw
            simp only [ho] at hw
            obtain ⟨e, he, hb⟩ := Array.any_eq_true'.1 hw
            simp only [Bool.and_eq_true, beq_iff_eq] at hb
            have := h1 e he hb.1
            omega)) f2
          refine Arr.val ho hw hrun (ih _ _ _ (set_count hil hun hf) ?_ (hI.step hB him ho (fun _ => rfl)))
          simpa [Array.getElem?_setIfInBounds, hil2] using hl
  intro b k cs
  have h0 := fun t => key ((l ++ [c]).toArray.size) t (Array.replicate (l ++ [c]).toArray.size false) a0 (by
    have := List.count_le_length (a := false) (l := (Array.replicate (l ++ [c]).toArray.size false).toList)
    simp only [Array.length_toList, Array.size_replicate] at this
    exact this) (by rw [replicate_false_getD]) ⟨by simp, trivial, fun j oj hj hl => absurd hl (by rw [replicate_false_getD]; decide), fun k o s hk hs hl => absurd hl (by rw [replicate_false_getD]; decide), fun s _ => rfl, rfl, rfl⟩
  have h1 : ∀ t, Arr P (l ++ [c]).toArray Q (Region.schedule (P.follows .mixedOrders) (l ++ [c]).toArray t) a0 w0.drew := fun t => by
    simp only [Region.schedule, hm, Bool.true_or, if_true]
    exact h0 t
  obtain ⟨e, a', w', q, r⟩ := h1 _ b k cs
  exact ⟨e, a', w', q, .of_steps (.one step_region_draw) r⟩
end
end Go.Proofs.Ytkgcnmloojnblaa.nb
