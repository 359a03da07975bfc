/- B A: contracts, part 2. Condition: as each says. -/
import Derived.Test.YtafckmbgefbonaaKBHA13
set_option linter.unusedVariables false
set_option linter.unusedSimpArgs false
namespace Go.Proofs.Ytafckmbgefbonaa.nb
open Go.RowKit Go.Shelf

section
variable {P : Program}
theorem wp_region_rel2h {id : Nat} {l : List Oper} {Q : Exit → Act → World → Prop} {a0 : Act} {w0 : World} (C : World → Prop) (R : World → World → Prop) (Y : Nat → Value → World → Prop)
    (hm : P.follows .mixedOrders = true) (hB : relBg l.toArray a0.tmps.size = true) (hC : C w0.drew)
    (hst : ∀ k v w w', Y k v w → R w w' → Y k v w')
    (gs : List (Nat × Bool)) (hgs : (l.all fun o => match o.guard with | none => true | some p => gs.contains p) = true) (hgy : ∀ p, p ∈ gs → ∀ v w, Y p.1 v w → v = .bool p.2) (hop : obligs P l.toArray a0 C R Y l 0)
    (hend : ∀ vals w, C w → (∀ k o s, l[k]? = some o → o.dst = some s → Y k (vals k) w) → Q .normal (putAll l 0 vals a0) w) :
    (Code.region id l.toArray true).wp P Q a0 w0 := by
  refine wp_region_relg C R Y hm hB hC hst (fun i o g b ho hgu v w hY => by
    have h1 := List.all_eq_true.1 hgs o (by simpa using Array.mem_of_getElem? ho)
    rw [hgu] at h1
    exact hgy (g, b) (by simpa using h1) v w hY) hop fun a w hCw hY hrest hsz hdf => ?_
  have e : a = putAll l 0 (fun k => a.tmps.getD (dstOf l k) undef) a0 := by
    refine act_ext (by rw [putAll_size]; exact hsz) (fun s => ?_) (by rw [putAll_defers]; exact hdf)
    by_cases h : ∃ (i : Nat) (o : Oper), l[i]? = some o ∧ o.dst = some s
    · obtain ⟨i, o, hi, hs⟩ := h
      have hsp := (relBg_spec hB (i := i) (o := o) (by simpa using hi)).2 s hs
      rw [putAll_at l 0 _ a0 i o s (fun j oj hj hjo => hsp.2 j oj hj (by simpa using hjo)) hi hs hsp.1, Nat.zero_add]
      show _ = a.tmps.getD (dstOf l i) undef
      unfold dstOf
      rw [hi]
      simp [hs]
    · rw [putAll_not l 0 _ a0 s (fun o ho he => by
        obtain ⟨j, hj, hjo⟩ := List.mem_iff_getElem.1 ho
        exact h ⟨j, o, by simp [hj, hjo], he⟩)]
      exact hrest s fun k o hk he => h ⟨k, o, by simpa using hk, he⟩
  rw [e]
  refine hend _ w hCw fun k o s hk hs => ?_
  show Y k (a.tmps.getD (dstOf l k) undef) w
  have : dstOf l k = s := by unfold dstOf; rw [hk]; simp [hs]
  rw [this]
  exact hY k o s (by simpa using hk) hs
end
end Go.Proofs.Ytafckmbgefbonaa.nb
