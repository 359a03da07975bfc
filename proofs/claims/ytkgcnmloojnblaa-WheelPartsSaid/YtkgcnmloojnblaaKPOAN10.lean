/- P O A N: contracts, part 10. Condition: as each says. -/
import Derived.Test.YtkgcnmloojnblaaKPOAN3
import Derived.Maps.Views
set_option linter.unusedVariables false
set_option linter.unusedSimpArgs false
namespace Go.Proofs.Ytkgcnmloojnblaa.wh
open Go.RowKit Go.Shelf Go.Lib Go.Proofs.Ytkgcnmloojnblaa.nb Go.Proofs.Ytkgcnmloojnblaa.ck
set_option linter.unusedVariables false

def Ks (s : ByteArray) : Lit := .string s.data.toList
def Vi (v : Int) : DataW Unit := .lit (.int .i64 v)
theorem Ks_key (s : ByteArray) : WideAt.IsKeyLit (Ks s) := trivial
theorem Ks_inj {a b : ByteArray} (h : Ks a = Ks b) : a = b := by
  have h2 : a.data.toList = b.data.toList := Lit.string.inj h
  cases a; cases b
  exact congrArg ByteArray.mk (Array.toList_inj.1 h2)
theorem Ks_ne {a b : ByteArray} (h : a ≠ b) : Ks a ≠ Ks b := fun e => h (Ks_inj e)
structure MapIs (D : DataW Unit) (x : List Tm) : Prop where
  nodup : (x.map Prod.fst).Nodup
  has : ∀ s, Maps.has D (Ks s) = true ↔ s ∈ x.map Prod.fst
  at_ : ∀ p ∈ x, D.atKey (Ks p.1) (Vi 0) = Vi p.2
  size : Maps.size D = x.length
  tidy : Maps.Tidy D
  fit : ∀ p ∈ x, p.1.size ≤ maxLen
theorem MapIs.nil_ : MapIs (.map []) [] := ⟨List.nodup_nil, fun s => ⟨fun h => (by cases h), fun h => (by cases h)⟩, fun p h => (by cases h), rfl, Maps.tidy_empty, fun p h => (by cases h)⟩
theorem MapIs.perm {D : DataW Unit} {x y : List Tm} (h : MapIs D x) (p : x.Perm y) : MapIs D y :=
  ⟨(p.map _).nodup_iff.1 h.nodup, fun s => (h.has s).trans (p.map _).mem_iff, fun q hq => h.at_ q (p.mem_iff.2 hq), h.size.trans p.length_eq, h.tidy, fun q hq => h.fit q (p.mem_iff.2 hq)⟩
theorem MapIs.del_head {D : DataW Unit} {s : ByteArray} {v : Int} {x : List Tm} (h : MapIs D ((s, v) :: x)) : MapIs (D.del (Ks s)) x := by
  have hn := List.nodup_cons.1 (show (s :: x.map Prod.fst).Nodup from h.nodup)
  refine ⟨hn.2, fun k => ?_, fun q hq => ?_, ?_, h.tidy.del _, fun q hq => h.fit q (List.mem_cons_of_mem _ hq)⟩
  · by_cases e : k = s
    · subst e
      rw [Maps.has_del_same]
      exact ⟨fun h => (by cases h), fun h => absurd h hn.1⟩
    · rw [Maps.has_del_other (Ks_ne e), h.has k]
      show k ∈ s :: x.map Prod.fst ↔ _
      rw [List.mem_cons]
      exact ⟨fun h => h.resolve_left e, .inr⟩
  · have : q.1 ≠ s := fun e => hn.1 (List.mem_map.2 ⟨q, hq, e⟩)
    rw [Maps.atKey_del_other (Ks_ne this)]
    exact h.at_ q (List.mem_cons_of_mem _ hq)
  · have := Maps.size_del h.tidy (k := Ks s)
    rw [(h.has s).2 (List.mem_cons_self ..), if_pos rfl, h.size] at this
    simpa using this
theorem MapIs.put_new {D : DataW Unit} {s : ByteArray} {v : Int} {x : List Tm} (h : MapIs D x) (hs : s ∉ x.map Prod.fst) (hf : s.size ≤ maxLen) : MapIs (D.put (Ks s) (Vi v)) ((s, v) :: x) := by
  refine ⟨List.nodup_cons.2 ⟨hs, h.nodup⟩, fun k => ?_, fun q hq => ?_, ?_, h.tidy.put (Ks_key s) _, fun q hq => (List.mem_cons.1 hq).elim (fun e => by rw [e]; exact hf) (h.fit q)⟩
  · by_cases e : k = s
    · subst e
      rw [Maps.has_put_same h.tidy.isMap (Ks_key _)]
      exact ⟨fun _ => List.mem_cons_self .., fun _ => rfl⟩
    · rw [Maps.has_put_other (Ks_ne e), h.has k]
      show _ ↔ k ∈ s :: x.map Prod.fst
      rw [List.mem_cons]
      exact ⟨.inr, fun h => h.resolve_left e⟩
  · rcases List.mem_cons.1 hq with rfl | hq
    · exact Maps.atKey_put_same h.tidy.isMap (Ks_key _) _ _
    · have : q.1 ≠ s := fun e => hs (List.mem_map.2 ⟨q, hq, e⟩)
      rw [Maps.atKey_put_other (Ks_ne this)]
      exact h.at_ q hq
  · rw [Maps.size_put h.tidy]
    have : Maps.has D (Ks s) = false := by
      cases hc : Maps.has D (Ks s)
      · rfl
      · exact absurd ((h.has s).1 hc) hs
    rw [this, h.size]; rfl
theorem MapIs.put_old {D : DataW Unit} {s : ByteArray} {v u : Int} {x : List Tm} (h : MapIs D ((s, u) :: x)) : MapIs (D.put (Ks s) (Vi v)) ((s, v) :: x) := by
  have hn := List.nodup_cons.1 (show (s :: x.map Prod.fst).Nodup from h.nodup)
  refine ⟨h.nodup, fun k => ?_, fun q hq => ?_, ?_, h.tidy.put (Ks_key s) _, fun q hq => ?_⟩
  · by_cases e : k = s
    · subst e
      rw [Maps.has_put_same h.tidy.isMap (Ks_key _)]
      exact ⟨fun _ => List.mem_cons_self .., fun _ => rfl⟩
    · rw [Maps.has_put_other (Ks_ne e)]; exact h.has k
  · rcases List.mem_cons.1 hq with rfl | hq
    · exact Maps.atKey_put_same h.tidy.isMap (Ks_key _) _ _
    · have : q.1 ≠ s := fun e => hn.1 (List.mem_map.2 ⟨q, hq, e⟩)
      rw [Maps.atKey_put_other (Ks_ne this)]
      exact h.at_ q (List.mem_cons_of_mem _ hq)
  · rw [Maps.size_put h.tidy, (h.has s).2 (List.mem_cons_self ..), if_pos rfl]; exact h.size
  · rcases List.mem_cons.1 hq with rfl | hq
    · exact h.fit (s, u) (List.mem_cons_self ..)
    · exact h.fit q (List.mem_cons_of_mem _ hq)

theorem findZ_spec (x : List Tm) (key : ByteArray) : (findZ x key = -1 ∧ key ∉ x.map Prod.fst) ∨ ∃ (k : Nat) (t : Int), findZ x key = k ∧ k < x.length ∧ x[k]? = some (key, t) := by
  unfold findZ
  by_cases h : x.findIdx (fun y => eqK y.1 key) < x.length
  · rw [if_pos h]
    have h1 := List.findIdx_getElem (w := h)
    have h2 : (x[x.findIdx (fun y => eqK y.1 key)]).1 = key := eqK_iff.1 h1
    refine .inr ⟨_, (x[x.findIdx (fun y => eqK y.1 key)]).2, rfl, h, ?_⟩
    rw [List.getElem?_eq_getElem h]
    exact congrArg some (Prod.ext h2 rfl)
  · rw [if_neg h]
    refine .inl ⟨rfl, fun hm => ?_⟩
    obtain ⟨q, hq, e⟩ := List.mem_map.1 hm
    have := List.findIdx_lt_length_of_exists (p := fun y : Tm => eqK y.1 key) (xs := x) ⟨q, hq, eqK_iff.2 e⟩
    omega
theorem perm_erase {x : List Tm} {k : Nat} {q : Tm} (h : x[k]? = some q) : x.Perm (q :: x.eraseIdx k) := by
  obtain ⟨hk, rfl⟩ := List.getElem?_eq_some_iff.1 h
  rw [List.eraseIdx_eq_take_drop_succ]
  conv => lhs; rw [← List.take_append_drop k x, List.drop_eq_getElem_cons hk]
  exact List.perm_middle
theorem MapIs.stop {D : DataW Unit} {x : List Tm} (h : MapIs D x) (key : ByteArray) : MapIs (D.del (Ks key)) (stopL x key) := by
  unfold stopL
  rcases findZ_spec x key with ⟨hz, hn⟩ | ⟨k, t, hz, hk, hx⟩
  · rw [hz, if_neg (by omega), Maps.del_of_not_has]
    · exact h
    · cases hc : Maps.has D (Ks key)
      · rfl
      · exact absurd ((h.has key).1 hc) hn
  · rw [hz, if_pos (by omega), Int.toNat_natCast]
    exact (h.perm (perm_erase hx)).del_head
theorem MapIs.set {D : DataW Unit} {x : List Tm} {now m : Int} (h : MapIs D x) (key : ByteArray) (t : Int) (hf : key.size ≤ maxLen) (hc : setC now m x key t = 0) : MapIs (D.put (Ks key) (Vi t)) (setL now m x key t) := by
  unfold setC at hc
  unfold setL
  split at hc
  · rename_i h0
    rw [if_pos h0]
    rcases findZ_spec x key with ⟨hz, hn⟩ | ⟨k, u, hz, hk, hx⟩
    · rw [hz, if_neg (by omega)] at hc ⊢
      split at hc
      · omega
      · rename_i h1
        rw [if_neg h1]
        exact (h.put_new (v := t) hn hf).perm (List.perm_append_comm (l₁ := [(key, t)]))
    · rw [hz, if_pos (by omega), Int.toNat_natCast]
      exact ((h.perm (perm_erase hx)).put_old (v := t)).perm (List.perm_append_comm (l₁ := [(key, t)]))
  · omega
theorem MapIs.go {D : DataW Unit} {x : List Tm} (h : MapIs D x) (now t : Int) : MapIs D (goT now t x ++ goS now t x) := by
  unfold goT goS
  split
  · exact h.perm (told_all _ x t rfl).2.2.2.symm
  · exact h
end Go.Proofs.Ytkgcnmloojnblaa.wh

namespace Go.Proofs.Ytkgcnmloojnblaa.wf
open Go.Proofs.Ytkgcnmloojnblaa.wh
set_option linter.unusedVariables false

def allP (S : Nat → List Nat) : List Nat := (List.range 288).flatMap S
theorem mem_allP {S : Nat → List Nat} {p : Nat} : p ∈ allP S ↔ ∃ s, s < 288 ∧ p ∈ S s := by
  unfold allP
  rw [List.mem_flatMap]
  exact ⟨fun ⟨s, h, hp⟩ => ⟨s, List.mem_range.1 h, hp⟩, fun ⟨s, h, hp⟩ => ⟨s, List.mem_range.2 h, hp⟩⟩
theorem flatMap_congr' {α β : Type} {f g : α → List β} : ∀ {l : List α}, (∀ x ∈ l, f x = g x) → l.flatMap f = l.flatMap g
  | [], _ => rfl
  | x :: l, h => by rw [List.flatMap_cons, List.flatMap_cons, h x (List.mem_cons_self ..), flatMap_congr' (fun y hy => h y (List.mem_cons_of_mem _ hy))]
theorem allP_split (S : Nat → List Nat) {s : Nat} (hs : s < 288) : ∃ R, (allP S).Perm (S s ++ R) ∧ ∀ l', (allP (upd S s l')).Perm (l' ++ R) := by
  have e : List.range 288 = List.range s ++ s :: (List.range 288).drop (s + 1) := by
    have h1 : (List.range 288).take s = List.range s := by rw [List.take_range, Nat.min_eq_left (Nat.le_of_lt hs)]
    have h2 : (List.range 288).drop s = s :: (List.range 288).drop (s + 1) := by
      rw [List.drop_eq_getElem_cons (by simpa using hs)]; simp
    rw [← h1, ← h2, List.take_append_drop]
  have hb : ∀ x ∈ (List.range 288).drop (s + 1), x ≠ s := fun x hx e => by
    obtain ⟨i, hi, rfl⟩ := List.mem_iff_getElem.1 hx
    rw [List.getElem_drop, List.getElem_range] at e
    omega
  refine ⟨(List.range s).flatMap S ++ ((List.range 288).drop (s + 1)).flatMap S, ?_, fun l' => ?_⟩
  · unfold allP
    rw [e, List.flatMap_append, List.flatMap_cons]
    rw [show (List.range s ++ s :: (List.range 288).drop (s + 1)).drop (s + 1) = (List.range 288).drop (s + 1) by rw [← e]]
    exact (List.perm_append_comm_assoc ..)
  · unfold allP
    rw [e, List.flatMap_append, List.flatMap_cons, upd_same]
    rw [show (List.range s ++ s :: (List.range 288).drop (s + 1)).drop (s + 1) = (List.range 288).drop (s + 1) by rw [← e]]
    rw [flatMap_congr' (f := upd S s l') (g := S) (l := List.range s) (fun x hx => upd_other _ (by have := List.mem_range.1 hx; omega)), flatMap_congr' (f := upd S s l') (g := S) (l := (List.range 288).drop (s + 1)) (fun x hx => upd_other _ (hb x hx))]
    exact (List.perm_append_comm_assoc ..)
theorem allP_leave {S : Nat → List Nat} {s p : Nat} {A B : List Nat} (hs : s < 288) (e : S s = A ++ p :: B) : (allP S).Perm (p :: allP (upd S s (A ++ B))) := by
  obtain ⟨R, h1, h2⟩ := allP_split S hs
  rw [e] at h1
  refine h1.trans ?_
  have : ((A ++ p :: B) ++ R).Perm (p :: ((A ++ B) ++ R)) := by
    rw [List.append_assoc, List.cons_append, List.append_assoc]; exact List.perm_middle
  exact this.trans ((h2 (A ++ B)).symm.cons p)
theorem allP_join {S : Nat → List Nat} {s : Nat} (p : Nat) (hs : s < 288) : (allP (upd S s (S s ++ [p]))).Perm (p :: allP S) := by
  obtain ⟨R, h1, h2⟩ := allP_split S hs
  refine (h2 _).trans ?_
  have : ((S s ++ [p]) ++ R).Perm (p :: (S s ++ R)) := by
    rw [List.append_assoc]; exact List.perm_middle
  exact this.trans (h1.symm.cons p)
def tm (t : Int) : Nat := t.toNat
structure Wi (most now : Nat) (S : Nat → List Nat) (T : Nat → Tm) (L : Lks) (l : List (ByteArray × Nat)) (fr : List Nat) (xs : List Tm) : Prop where
  lk : LinkOk S L
  top : ∀ s, 288 ≤ s → S s = []
  all : (allP S ++ fr).Perm (List.range most)
  map : l.Perm ((allP S).map fun p => ((T p).1, p))
  tms : ((allP S).map T).Perm xs
  at_ : ∀ s, ∀ p ∈ S s, slot now (tm (T p).2) = s
  time : ∀ x ∈ xs, (now : Int) < x.2 ∧ x.2 ≤ 17592186044416
  ord : ∀ t, ft t ((S (slot now (tm t))).map T) = ft t xs
  keys : (xs.map Prod.fst).Nodup
  nowle : now ≤ 17592186044416
section
variable {most now : Nat} {S : Nat → List Nat} {T : Nat → Tm} {L : Lks} {l : List (ByteArray × Nat)} {fr : List Nat} {xs : List Tm}
theorem Wi.nodup (h : Wi most now S T L l fr xs) : (allP S ++ fr).Nodup := h.all.nodup_iff.2 List.nodup_range
theorem Wi.lt (h : Wi most now S T L l fr xs) : ∀ s x, x ∈ S s → x < most := fun s x hx => by
  have hs : s < 288 := by
    rcases Nat.lt_or_ge s 288 with h1 | h1
    · exact h1
    · rw [h.top s h1] at hx; cases hx
  exact List.mem_range.1 (h.all.mem_iff.1 (List.mem_append_left _ (mem_allP.2 ⟨s, hs, hx⟩)))
theorem Wi.slot_lt (h : Wi most now S T L l fr xs) {s p : Nat} (hp : p ∈ S s) : s < 288 := by
  rcases Nat.lt_or_ge s 288 with h1 | h1
  · exact h1
  · rw [h.top s h1] at hp; cases hp
theorem Wi.mem (h : Wi most now S T L l fr xs) {p : Nat} (hp : p ∈ allP S) : T p ∈ xs := h.tms.mem_iff.1 (List.mem_map.2 ⟨p, hp, rfl⟩)
theorem Wi.len (h : Wi most now S T L l fr xs) : (allP S).length = xs.length := by have := h.tms.length_eq; simpa using this
theorem Wi.len2 (h : Wi most now S T L l fr xs) : xs.length + fr.length = most := by have := h.all.length_eq; rw [List.length_append, h.len, List.length_range] at this; exact this
theorem Wi.find (h : Wi most now S T L l fr xs) {x : Tm} (hx : x ∈ xs) : ∃ p A B, S (slot now (tm x.2)) = A ++ p :: B ∧ T p = x ∧ (x.1, p) ∈ l ∧ slot now (tm x.2) < 288 ∧ p < most := by
  obtain ⟨p, hp, e⟩ := List.mem_map.1 (h.tms.mem_iff.2 hx)
  obtain ⟨s, hs, hps⟩ := mem_allP.1 hp
  have hs2 := h.at_ s p hps
  rw [e] at hs2
  subst hs2
  obtain ⟨A, B, hAB⟩ := List.append_of_mem hps
  exact ⟨p, A, B, hAB, e, h.map.mem_iff.2 (List.mem_map.2 ⟨p, hp, by rw [e]⟩), hs, h.lt _ p hps⟩
theorem Wi.no (h : Wi most now S T L l fr xs) {k : ByteArray} (hk : k ∉ xs.map Prod.fst) : ∀ q ∈ l, q.1 ≠ k := fun q hq e => by
  obtain ⟨p, hp, rfl⟩ := List.mem_map.1 (h.map.mem_iff.1 hq)
  exact hk (List.mem_map.2 ⟨T p, h.mem hp, e⟩)
theorem nodup_of_map {α β : Type} (f : α → β) : ∀ (l : List α), (l.map f).Nodup → l.Nodup
  | [], _ => List.nodup_nil
  | x :: l, h => by
    rw [List.map_cons] at h
    obtain ⟨h1, h2⟩ := List.nodup_cons.1 h
    exact List.nodup_cons.2 ⟨fun hx => h1 (List.mem_map.2 ⟨x, hx, rfl⟩), nodup_of_map f l h2⟩
theorem uniq_split {α : Type} : ∀ {l1 l3 : List α} {x : α} {l2 l4 : List α}, l1 ++ x :: l2 = l3 ++ x :: l4 → x ∉ l1 → x ∉ l3 → l1 = l3 ∧ l2 = l4
  | [], [], x, l2, l4, e, _, _ => ⟨rfl, (List.cons.inj e).2⟩
  | [], y :: l3, x, l2, l4, e, _, h => absurd (List.cons.inj e).1 (fun e => h (e ▸ List.mem_cons_self ..))
  | y :: l1, [], x, l2, l4, e, h, _ => absurd (List.cons.inj e).1.symm (fun e => h (e ▸ List.mem_cons_self ..))
  | y :: l1, z :: l3, x, l2, l4, e, h, h' => by
    obtain ⟨e1, e2⟩ := List.cons.inj e
    obtain ⟨f1, f2⟩ := uniq_split e2 (fun m => h (List.mem_cons_of_mem _ m)) (fun m => h' (List.mem_cons_of_mem _ m))
    exact ⟨by rw [e1, f1], f2⟩
theorem Wi.stop (h : Wi most now S T L l fr xs) {k p : Nat} {x : Tm} {A B : List Nat} {l' : List (ByteArray × Nat)} (hx : xs[k]? = some x) (e : S (slot now (tm x.2)) = A ++ p :: B) (hT : T p = x) (hl : l.Perm ((x.1, p) :: l')) :
    Wi most now (upd S (slot now (tm x.2)) (A ++ B)) (upd T p d0) (L.leave (slot now (tm x.2)) p) l' (fr ++ [p]) (xs.eraseIdx k) := by
  have hpS : p ∈ S (slot now (tm x.2)) := mid_mem e
  have hs := h.slot_lt hpS
  have hal := allP_leave hs e
  have hnd : (p :: allP (upd S (slot now (tm x.2)) (A ++ B))).Nodup := hal.nodup_iff.1 (List.nodup_append.1 h.nodup).1
  have hpn := (List.nodup_cons.1 hnd).1
  have hTe : ∀ q ∈ allP (upd S (slot now (tm x.2)) (A ++ B)), upd T p d0 q = T q := fun q hq => upd_other _ (fun e => hpn (e ▸ hq))
  have hxm : x ∈ xs := List.mem_of_getElem? hx
  have hpe := perm_erase hx
  have sub : ∀ y ∈ xs.eraseIdx k, y ∈ xs := fun y hy => List.mem_of_mem_eraseIdx hy
  have inS : ∀ s q, q ∈ upd S (slot now (tm x.2)) (A ++ B) s → q ∈ S s ∧ q ≠ p := fun s q hq => by
    by_cases c : s = slot now (tm x.2)
    · subst c
      rw [upd_same] at hq
      obtain ⟨pA, pB, _⟩ := nodup_mid (e ▸ h.lk.nodup _)
      refine ⟨by rw [e]; rcases List.mem_append.1 hq with h | h <;> simp [h], fun e => ?_⟩
      subst e
      rcases List.mem_append.1 hq with h | h
      · exact pA h
      · exact pB h
    · rw [upd_other _ c] at hq
      exact ⟨hq, fun e => c (h.lk.disj s _ q hq (e ▸ hpS))⟩
  refine ⟨h.lk.leave e, fun s hs2 => ?_, ?_, ?_, ?_, fun s q hq => ?_, fun y hy => h.time y (sub y hy), fun t => ?_, ?_, h.nowle⟩
  · rw [upd_other _ (by omega)]; exact h.top s hs2
  · refine List.Perm.trans ?_ h.all
    refine List.Perm.trans ?_ (hal.symm.append_right fr)
    rw [← List.append_assoc, List.cons_append]
    exact List.perm_append_comm (l₂ := [p])
  · have h1 := hl.symm.trans (h.map.trans (hal.map _))
    rw [List.map_cons, hT] at h1
    have h2 := h1.cons_inv
    rwa [List.map_congr_left (fun q hq => by rw [hTe q hq])]
  · have h1 := (hal.map T).symm.trans (h.tms.trans hpe)
    rw [List.map_cons, hT] at h1
    have h2 := h1.cons_inv
    rwa [List.map_congr_left (fun q hq => hTe q hq)]
  · obtain ⟨h1, h2⟩ := inS s q hq
    rw [upd_other _ h2]; exact h.at_ s q h1
  · have hmap : (upd S (slot now (tm x.2)) (A ++ B) (slot now (tm t))).map (upd T p d0) = (upd S (slot now (tm x.2)) (A ++ B) (slot now (tm t))).map T := List.map_congr_left (fun q hq => upd_other _ (inS _ q hq).2)
    rw [hmap]
    have ho := h.ord t
    have hsplit : xs = xs.take k ++ x :: xs.drop (k + 1) := by
      obtain ⟨hk, e2⟩ := List.getElem?_eq_some_iff.1 hx
      subst e2
      conv => lhs; rw [← List.take_append_drop k xs, List.drop_eq_getElem_cons hk]
    have e1 : ft t (xs.eraseIdx k) = ft t (xs.take k) ++ ft t (xs.drop (k + 1)) := by rw [List.eraseIdx_eq_take_drop_succ, ft_app]
    have e2 : ft t xs = ft t (xs.take k) ++ ft t (x :: xs.drop (k + 1)) := by conv => lhs; rw [hsplit, ft_app]
    by_cases c : x.2 = t
    · subst c
      rw [upd_same, List.map_append, ft_app]
      rw [e, List.map_append, List.map_cons, hT, ft_app, ft_cons_eq rfl, e2, ft_cons_eq rfl] at ho
      have hkk := h.keys
      rw [hsplit, List.map_append, List.map_cons] at hkk
      obtain ⟨g1, g2, g3⟩ := List.nodup_append.1 hkk
      have nx1 : x ∉ ft x.2 (xs.take k) := fun m => g3 x.1 (List.mem_map.2 ⟨x, (ft_mem.1 m).1, rfl⟩) x.1 (List.mem_cons_self ..) rfl
      have nx2 : x ∉ ft x.2 (A.map T) := fun m => by
        obtain ⟨q, hq, e3⟩ := List.mem_map.1 (ft_mem.1 m).1
        have hqs : q ∈ S (slot now (tm x.2)) := by rw [e]; simp [hq]
        obtain ⟨pA, _, _⟩ := nodup_mid (e ▸ h.lk.nodup _)
        have hqp : q ≠ p := fun e => pA (e ▸ hq)
        have hnd2 : ((allP S).map T).Nodup := by
          have : (((allP S).map T).map Prod.fst).Nodup := ((h.tms.map Prod.fst).nodup_iff).2 h.keys
          exact nodup_of_map Prod.fst _ this
        have hq' : T q ∈ (allP (upd S (slot now (tm x.2)) (A ++ B))).map T := List.mem_map.2 ⟨q, mem_allP.2 ⟨_, hs, by rw [upd_same]; exact List.mem_append_left _ hq⟩, rfl⟩
        have hnd3 := ((hal.map T).nodup_iff).1 hnd2
        rw [List.map_cons] at hnd3
        rw [e3] at hq'
        exact (List.nodup_cons.1 hnd3).1 (by rw [hT]; exact hq')
      obtain ⟨f1, f2⟩ := uniq_split ho nx2 nx1
      rw [f1, f2, e1]
    · rw [e1]
      rw [ft_cons_ne c] at e2
      rw [← e2, ← ho]
      by_cases c2 : slot now (tm t) = slot now (tm x.2)
      · rw [c2, upd_same, e, List.map_append, List.map_append, ft_app, ft_app, List.map_cons, hT, ft_cons_ne c]
      · rw [upd_other _ c2]
  · have := (hpe.map Prod.fst).nodup_iff.1 h.keys
    exact (List.nodup_cons.1 this).2
theorem Wi.set {p : Nat} (h : Wi most now S T L l (p :: fr) xs) {key : ByteArray} {t : Int} (hk : key ∉ xs.map Prod.fst) (ht : (now : Int) < t) (ht2 : t ≤ 17592186044416) :
    Wi most now (upd S (slot now (tm t)) (S (slot now (tm t)) ++ [p])) (upd T p (key, t)) (L.join (slot now (tm t)) p) (l ++ [(key, p)]) fr (xs ++ [(key, t)]) := by
  have hs : slot now (tm t) < 288 := slot_bound h.nowle (by unfold tm; omega)
  have hpn : p ∉ allP S := fun hp => (List.nodup_append.1 h.nodup).2.2 p hp p (List.mem_cons_self ..) rfl
  have hpS : ∀ s, p ∉ S s := fun s hp => hpn (mem_allP.2 ⟨s, h.slot_lt hp, hp⟩)
  have hal := allP_join (S := S) p hs
  have hTe : ∀ q ∈ allP S, upd T p (key, t) q = T q := fun q hq => upd_other _ (fun e => hpn (e ▸ hq))
  refine ⟨h.lk.join _ p hpS, fun s hs2 => ?_, ?_, ?_, ?_, fun s q hq => ?_, fun y hy => ?_, fun u => ?_, ?_, h.nowle⟩
  · rw [upd_other _ (by omega)]; exact h.top s hs2
  · refine List.Perm.trans ((hal.append_right fr)) (List.Perm.trans ?_ h.all)
    rw [List.cons_append]
    exact List.perm_middle.symm
  · refine List.Perm.trans ?_ (hal.map _).symm
    rw [List.map_cons, upd_same]
    refine List.Perm.trans (List.perm_append_comm (l₂ := [(key, p)])) ?_
    refine List.Perm.cons _ (h.map.trans ?_)
    rw [List.map_congr_left (f := fun p_1 => ((upd T p (key, t) p_1).fst, p_1)) (g := fun q => ((T q).1, q)) (fun q hq => by rw [hTe q hq])]
  · refine List.Perm.trans (hal.map _) ?_
    rw [List.map_cons, upd_same, List.map_congr_left (fun q hq => hTe q hq)]
    exact (h.tms.cons _).trans (List.perm_append_comm (l₁ := [(key, t)]))
  · by_cases c : s = slot now (tm t)
    · subst c
      rw [upd_same] at hq
      rcases List.mem_append.1 hq with hq | hq
      · rw [upd_other _ (fun e => hpS _ (e ▸ hq))]; exact h.at_ _ q hq
      · rw [List.mem_singleton.1 hq, upd_same]
    · rw [upd_other _ c] at hq
      rw [upd_other _ (fun e => hpS _ (e ▸ hq))]; exact h.at_ _ q hq
  · rcases List.mem_append.1 hy with hy | hy
    · exact h.time y hy
    · rw [List.mem_singleton.1 hy]; exact ⟨ht, ht2⟩
  · have ho := h.ord u
    have hmap : (S (slot now (tm u))).map (upd T p (key, t)) = (S (slot now (tm u))).map T := List.map_congr_left (fun q hq => upd_other _ (fun e => hpS _ (e ▸ hq)))
    rw [ft_app, ← ho]
    by_cases c : slot now (tm u) = slot now (tm t)
    · rw [c, upd_same, List.map_append, ft_app, ← c, hmap]
      rw [List.map_cons, List.map_nil, upd_same]
    · rw [upd_other _ c, hmap]
      have : t ≠ u := fun e => c (by rw [e])
      rw [ft_cons_ne this, ft_nil, List.append_nil]
  · rw [List.map_append]
    refine List.nodup_append.2 ⟨h.keys, by simp, fun a ha b hb e => ?_⟩
    simp at hb
    exact hk (by rw [← hb, ← e]; exact ha)
end
end Go.Proofs.Ytkgcnmloojnblaa.wf

namespace Go.Proofs.Ytkgcnmloojnblaa.wf
open Go.Proofs.Ytkgcnmloojnblaa.wh
set_option linter.unusedVariables false

def Sq (S : Nat → List Nat) (sc : Nat) (B : List Nat) : Nat → List Nat := fun s => if s < sc then [] else if s = sc then B else S s
theorem Sq.at_ (S : Nat → List Nat) (sc : Nat) (B : List Nat) : Sq S sc B sc = B := by unfold Sq; rw [if_neg (Nat.lt_irrefl _), if_pos rfl]
theorem Sq.upd_ (S : Nat → List Nat) (sc : Nat) (B B' : List Nat) : upd (Sq S sc B) sc B' = Sq S sc B' := by
  funext s
  unfold upd Sq
  by_cases c : s = sc
  · subst c; simp
  · rw [if_neg c, if_neg c, if_neg c]
theorem Sq.next (S : Nat → List Nat) (sc : Nat) : Sq S sc [] = Sq S (sc + 1) (S (sc + 1)) := by
  funext s
  unfold Sq
  by_cases c : s < sc
  · rw [if_pos c, if_pos (by omega)]
  · rw [if_neg c]
    by_cases c2 : s = sc
    · rw [if_pos c2, if_pos (by omega)]
    · rw [if_neg c2, if_neg (by omega)]
      by_cases c3 : s = sc + 1
      · rw [if_pos c3, c3]
      · rw [if_neg c3]
theorem Sq.start (S : Nat → List Nat) : Sq S 0 (S 0) = S := by
  funext s
  unfold Sq
  rw [if_neg (Nat.not_lt_zero _)]
  by_cases c : s = 0
  · rw [if_pos c, c]
  · rw [if_neg c]
def bel (S : Nat → List Nat) (sc : Nat) : List Nat := (List.range sc).flatMap S
theorem bel_succ (S : Nat → List Nat) (sc : Nat) : bel S (sc + 1) = bel S sc ++ S sc := by unfold bel; rw [List.range_succ, List.flatMap_append]; simp
theorem mem_bel {S : Nat → List Nat} {sc p : Nat} : p ∈ bel S sc ↔ ∃ s, s < sc ∧ p ∈ S s := by
  unfold bel
  rw [List.mem_flatMap]
  exact ⟨fun ⟨s, h, hp⟩ => ⟨s, List.mem_range.1 h, hp⟩, fun ⟨s, h, hp⟩ => ⟨s, List.mem_range.2 h, hp⟩⟩
theorem bel_split (S : Nat → List Nat) (sc : Nat) : ∀ d, ∃ R, bel S (sc + d) = bel S sc ++ R
  | 0 => ⟨[], by simp⟩
  | d + 1 => by
    obtain ⟨R, h⟩ := bel_split S sc d
    exact ⟨R ++ S (sc + d), by rw [← Nat.add_assoc, bel_succ, h, List.append_assoc]⟩
theorem bel_len (S : Nat → List Nat) {sc : Nat} (h : sc ≤ 288) : (bel S sc).length ≤ (allP S).length := by
  obtain ⟨R, e⟩ := bel_split S sc (288 - sc)
  have : allP S = bel S (sc + (288 - sc)) := by unfold allP bel; rw [show sc + (288 - sc) = 288 by omega]
  rw [this, e, List.length_append]; omega
def Sr (S : Nat → List Nat) (z : Nat) : Nat → List Nat := fun s => if s ≤ z then [] else S s
theorem Sq.done (S : Nat → List Nat) (z : Nat) : Sq S z [] = Sr S z := by
  funext s
  unfold Sq Sr
  by_cases c : s < z
  · rw [if_pos c, if_pos (by omega)]
  · rw [if_neg c]
    by_cases c2 : s = z
    · rw [if_pos c2, if_pos (by omega)]
    · rw [if_neg c2, if_neg (by omega)]
theorem allP_bel (S : Nat → List Nat) {z : Nat} (h : z < 288) : (allP S).Perm (bel S (z + 1) ++ allP (Sr S z)) := by
  have key : ∀ d, z + 1 + d ≤ 288 → (bel S (z + 1 + d)).Perm (bel S (z + 1) ++ bel (Sr S z) (z + 1 + d)) := fun d => by
    induction d with
    | zero =>
      intro _
      have : bel (Sr S z) (z + 1 + 0) = [] := by
        refine List.eq_nil_iff_forall_not_mem.2 fun p hp => ?_
        obtain ⟨s, hs, hp⟩ := mem_bel.1 hp
        unfold Sr at hp
        rw [if_pos (by omega)] at hp
        cases hp
      rw [this, List.append_nil]
    | succ d ih =>
      intro hd
      rw [← Nat.add_assoc, bel_succ S (z + 1 + d), bel_succ (Sr S z) (z + 1 + d)]
      have e : Sr S z (z + 1 + d) = S (z + 1 + d) := by unfold Sr; rw [if_neg (by omega)]
      rw [e, ← List.append_assoc]
      exact (ih (by omega)).append_right _
  have := key (288 - (z + 1)) (by omega)
  rw [show z + 1 + (288 - (z + 1)) = 288 by omega] at this
  exact this
end Go.Proofs.Ytkgcnmloojnblaa.wf

namespace Go.Proofs.Ytkgcnmloojnblaa.wf
open Go.Proofs.Ytkgcnmloojnblaa.wh
set_option linter.unusedVariables false

def kp (T : Nat → Tm) (n : Nat) (p : Nat) : Bool := decide ((n : Int) < (T p).2)
def Sf (S : Nat → List Nat) (T : Nat → Tm) (z n : Nat) (dn : List Nat) : Nat → List Nat := fun s => Sr S z s ++ dn.filter (fun p => kp T n p && decide (slot n (tm (T p).2) = s))
section
variable {S : Nat → List Nat} {T : Nat → Tm} {z n : Nat} {dn : List Nat} {p : Nat}
theorem Sf_nil : Sf S T z n [] = Sr S z := by funext s; unfold Sf; simp
theorem Sf_drop (h : kp T n p = false) : Sf S T z n (dn ++ [p]) = Sf S T z n dn := by
  funext s; unfold Sf
  rw [List.filter_append, List.filter_cons_of_neg (by simp [h])]; simp
theorem Sf_keep (h : kp T n p = true) : Sf S T z n (dn ++ [p]) = upd (Sf S T z n dn) (slot n (tm (T p).2)) (Sf S T z n dn (slot n (tm (T p).2)) ++ [p]) := by
  funext s; unfold upd Sf
  by_cases c : s = slot n (tm (T p).2)
  · rw [if_pos c, ← c, List.filter_append, List.filter_cons_of_pos (by simp [h, c]), List.append_assoc]; rfl
  · have c' : ¬ slot n (tm (T p).2) = s := fun e => c e.symm
    rw [if_neg c, List.filter_append, List.filter_cons_of_neg (by simp [h, c'])]; simp
theorem Sf_all : ∀ (k : Nat) (dn : List Nat), dn.length = k → (∀ p ∈ dn, slot n (tm (T p).2) < 288) → (allP (Sf S T z n dn)).Perm (dn.filter (kp T n) ++ allP (Sr S z))
  | 0, dn, hk, _ => by
    obtain rfl := List.eq_nil_of_length_eq_zero hk
    rw [Sf_nil]; exact List.Perm.refl _
  | k + 1, dn, hk, h => by
    rcases List.eq_nil_or_concat dn with rfl | ⟨d, p, rfl⟩
    · cases hk
    rw [List.concat_eq_append] at hk h ⊢
    have ih := Sf_all k d (by simpa using hk) (fun q hq => h q (List.mem_append_left _ hq))
    cases hp : kp T n p
    · rw [Sf_drop hp, List.filter_append, List.filter_cons_of_neg (by simp [hp])]
      simpa using ih
    · rw [Sf_keep hp, List.filter_append, List.filter_cons_of_pos hp]
      refine (allP_join p (h p (by simp))).trans ((ih.cons p).trans ?_)
      rw [List.append_assoc]
      exact List.perm_middle.symm
end
section
variable {most u n : Nat} {S : Nat → List Nat} {T : Nat → Tm} {L : Lks} {l : List (ByteArray × Nat)} {fr : List Nat} {xs : List Tm}
theorem Wi.tnat (h : Wi most u S T L l fr xs) {s p : Nat} (hp : p ∈ S s) : (T p).2 = ((tm (T p).2 : Nat) : Int) ∧ u < tm (T p).2 ∧ tm (T p).2 ≤ 17592186044416 ∧ T p ∈ xs := by
  have hm := h.mem (mem_allP.2 ⟨s, h.slot_lt hp, hp⟩)
  have := h.time _ hm
  exact ⟨by unfold tm; omega, by unfold tm; omega, by unfold tm; omega, hm⟩
theorem Wi.far (h : Wi most u S T L l fr xs) (hn : u ≤ n) {s p : Nat} (hp : p ∈ Sr S (slot u n) s) : kp T n p = true ∧ p ∈ S s ∧ slot u n < s := by
  unfold Sr at hp
  split at hp
  · cases hp
  rename_i hs
  obtain ⟨e, h1, h2, _⟩ := h.tnat hp
  refine ⟨?_, hp, by omega⟩
  unfold kp
  refine decide_eq_true ?_
  have hs2 := h.at_ s p hp
  rcases Nat.lt_or_ge n (tm (T p).2) with g | g
  · omega
  · have := slot_mono (now := u) (Nat.le_of_lt h1) g
    omega
theorem Wi.ft_bel (h : Wi most u S T L l fr xs) (t : Int) : ∀ sc, ft t ((bel S sc).map T) = if slot u (tm t) < sc then ft t ((S (slot u (tm t))).map T) else []
  | 0 => by rw [if_neg (Nat.not_lt_zero _)]; rfl
  | sc + 1 => by
    rw [bel_succ, List.map_append, ft_app, h.ft_bel t sc]
    by_cases c : slot u (tm t) = sc
    · rw [if_neg (by omega), if_pos (by omega), c]; rfl
    · have : ft t ((S sc).map T) = [] := ft_none fun x hx e => by
        obtain ⟨p, hp, rfl⟩ := List.mem_map.1 hx
        have := h.at_ sc p hp
        rw [e] at this
        exact c this
      rw [this, List.append_nil]
      by_cases c2 : slot u (tm t) < sc
      · rw [if_pos c2, if_pos (by omega)]
      · rw [if_neg c2, if_neg (by omega)]
theorem ft_filter (t : Int) (q : Tm → Bool) (l : List Tm) : ft t (l.filter q) = (ft t l).filter q := by
  unfold ft; rw [List.filter_filter, List.filter_filter]; exact List.filter_congr fun x _ => Bool.and_comm ..
theorem ft_filter_all {t : Int} {q : Tm → Bool} {l : List Tm} (h : ∀ x ∈ l, x.2 = t → q x = true) : ft t (l.filter q) = ft t l := by
  rw [ft_filter]; exact List.filter_eq_self.2 fun x hx => h x (ft_mem.1 hx).1 (ft_mem.1 hx).2
theorem map_filter' (T : Nat → Tm) (q : Tm → Bool) (l : List Nat) : (l.filter (fun p => q (T p))).map T = (l.map T).filter q := by
  rw [List.filter_map]; rfl
theorem Wi.due (h : Wi most u S T L l fr xs) (hn : u ≤ n) (t : Int) : ft t (((bel S (slot u n + 1)).filter (fun p => !kp T n p)).map T) = ft t (xs.filter (fun x => decide (x.2 ≤ (n : Int)))) := by
  have e0 : (fun p => !kp T n p) = (fun p => (fun x : Tm => !decide ((n : Int) < x.2)) (T p)) := rfl
  rw [e0, map_filter' T (fun x : Tm => !decide ((n : Int) < x.2))]
  by_cases c : t ≤ (n : Int)
  · rw [ft_filter_all (fun x _ e => by simp; omega), ft_filter_all (fun x _ e => by simp; omega), h.ft_bel]
    by_cases c2 : (u : Int) < t
    · have := slot_mono (now := u) (t := tm t) (u := n) (by unfold tm; omega) (by unfold tm; omega)
      rw [if_pos (by omega), h.ord]
    · rw [show ft t xs = [] from ft_none fun x hx e => by have := h.time x hx; omega]
      split
      · rw [h.ord]; exact ft_none fun x hx e => by have := h.time x hx; omega
      · rfl
  · rw [ft_none (fun x hx e => by have := (List.mem_filter.1 hx).2; simp at this; omega), ft_none (fun x hx e => by have := (List.mem_filter.1 hx).2; simp at this; omega)]
theorem Wi.go (h : Wi most u S T L l fr xs) (hn : u ≤ n) (hn2 : n ≤ 17592186044416) {T' : Nat → Tm} {L' : Lks} {l' : List (ByteArray × Nat)} (hL : LinkOk (Sf S T (slot u n) n (bel S (slot u n + 1))) L')
    (hT : ∀ s, ∀ p ∈ Sf S T (slot u n) n (bel S (slot u n + 1)) s, T' p = T p) (hl : l'.Perm (((bel S (slot u n + 1)).filter (kp T n) ++ allP (Sr S (slot u n))).map fun p => ((T p).1, p))) :
    Wi most n (Sf S T (slot u n) n (bel S (slot u n + 1))) T' L' l' (fr ++ (bel S (slot u n + 1)).filter (fun p => !kp T n p)) (stay n xs) := by
  have hz : slot u n < 288 := slot_bound h.nowle hn2
  have inb : ∀ p ∈ bel S (slot u n + 1), ∃ s, s ≤ slot u n ∧ p ∈ S s := fun p hp => by
    obtain ⟨s, hs, hp⟩ := mem_bel.1 hp
    exact ⟨s, by omega, hp⟩
  have sl : ∀ p ∈ bel S (slot u n + 1), slot n (tm (T p).2) < 288 := fun p hp => by
    obtain ⟨s, _, hp⟩ := inb p hp
    exact slot_bound hn2 (h.tnat hp).2.2.1
  have hall := Sf_all (S := S) (T := T) (z := slot u n) (n := n) _ (bel S (slot u n + 1)) rfl sl
  have hb := allP_bel S hz
  have hfil := List.filter_append_perm (kp T n) (bel S (slot u n + 1))
  have hstay : stay n xs = xs.filter (fun x => decide ((n : Int) < x.2)) := (told_all _ xs n rfl).2.2.1
  have hTm : ∀ s, (Sf S T (slot u n) n (bel S (slot u n + 1)) s).map T' = (Sf S T (slot u n) n (bel S (slot u n + 1)) s).map T := fun s => List.map_congr_left (fun p hp => hT s p hp)
  have inSf : ∀ s p, p ∈ Sf S T (slot u n) n (bel S (slot u n + 1)) s → kp T n p = true ∧ slot n (tm (T p).2) = s ∧ ∃ s', p ∈ S s' := fun s p hp => by
    rcases List.mem_append.1 hp with hp | hp
    · obtain ⟨h1, h2, h3⟩ := h.far hn hp
      obtain ⟨e, h4, h5, _⟩ := h.tnat h2
      have h6 := h.at_ s p h2
      unfold kp at h1
      have h7 := of_decide_eq_true h1
      exact ⟨by unfold kp; exact h1, by rw [slot_stay hn (by omega) (by omega), h6], s, h2⟩
    · obtain ⟨h1, h2⟩ := List.mem_filter.1 hp
      simp at h2
      obtain ⟨s', _, h3⟩ := inb p h1
      exact ⟨h2.1, h2.2, s', h3⟩
  refine ⟨hL, fun s hs => ?_, ?_, ?_, ?_, fun s p hp => ?_, fun x hx => ?_, fun t => ?_, ?_, hn2⟩
  · refine List.eq_nil_iff_forall_not_mem.2 fun p hp => ?_
    obtain ⟨h1, h2, s', h3⟩ := inSf s p hp
    have := slot_bound (now := n) hn2 (h.tnat h3).2.2.1
    omega
  · refine List.Perm.trans ?_ h.all
    refine List.perm_iff_count.2 fun x => ?_
    have c1 := hall.count_eq x; have c2 := hb.count_eq x; have c3 := hfil.count_eq x
    simp only [List.count_append] at c1 c2 c3 ⊢
    omega
  · refine hl.trans ((hall.symm.map _).trans ?_)
    rw [List.map_congr_left]
    intro p hp
    obtain ⟨s, _, hp⟩ := mem_allP.1 hp
    rw [hT s p hp]
  · have e1 : (allP (Sf S T (slot u n) n (bel S (slot u n + 1)))).map T' = (allP (Sf S T (slot u n) n (bel S (slot u n + 1)))).map T := List.map_congr_left (fun p hp => by
      obtain ⟨s, _, hp⟩ := mem_allP.1 hp
      exact hT s p hp)
    rw [e1, hstay]
    refine (hall.map T).trans ?_
    have h1 := ((h.tms.symm.trans (hb.map T)).filter (fun x => decide ((n : Int) < x.2)))
    refine List.Perm.trans ?_ h1.symm
    rw [List.map_append, List.map_append, List.filter_append]
    have e2 : ((bel S (slot u n + 1)).filter (kp T n)).map T = ((bel S (slot u n + 1)).map T).filter (fun x => decide ((n : Int) < x.2)) := map_filter' T (fun x => decide ((n : Int) < x.2)) _
    have e3 : ((allP (Sr S (slot u n))).map T).filter (fun x => decide ((n : Int) < x.2)) = (allP (Sr S (slot u n))).map T := List.filter_eq_self.2 fun x hx => by
      obtain ⟨p, hp, rfl⟩ := List.mem_map.1 hx
      obtain ⟨s, _, hp⟩ := mem_allP.1 hp
      exact (h.far hn hp).1
    rw [e2, e3]
  · rw [hT s p hp]; exact (inSf s p hp).2.1
  · rw [hstay] at hx
    obtain ⟨h1, h2⟩ := List.mem_filter.1 hx
    exact ⟨of_decide_eq_true h2, (h.time x h1).2⟩
  · rw [hTm, hstay]
    by_cases c : (n : Int) < t
    · rw [ft_filter_all (fun x _ e => by simp; omega), ← h.ord t]
      unfold Sf
      rw [List.map_append, ft_app]
      have e0 : ∀ s, (fun p => kp T n p && decide (slot n (tm (T p).2) = s)) = (fun p => (fun x : Tm => decide ((n : Int) < x.2) && decide (slot n (tm x.2) = s)) (T p)) := fun s => rfl
      by_cases c2 : slot u n < slot u (tm t)
      · rw [slot_stay hn (by unfold tm; omega) c2]
        have e1 : Sr S (slot u n) (slot u (tm t)) = S (slot u (tm t)) := by unfold Sr; rw [if_neg (by omega)]
        rw [e1]
        have e2 : ft t (((bel S (slot u n + 1)).filter (fun p => kp T n p && decide (slot n (tm (T p).2) = slot u (tm t)))).map T) = [] := ft_none fun x hx e => by
          obtain ⟨p, hp, rfl⟩ := List.mem_map.1 hx
          obtain ⟨s, hs, hp⟩ := inb p (List.mem_filter.1 hp).1
          have := h.at_ s p hp
          rw [e] at this
          omega
        rw [e2, List.append_nil]
      · have e1 : ft t ((Sr S (slot u n) (slot n (tm t))).map T) = [] := ft_none fun x hx e => by
          obtain ⟨p, hp, rfl⟩ := List.mem_map.1 hx
          obtain ⟨_, h2, h3⟩ := h.far hn hp
          have := h.at_ _ p h2
          rw [e] at this
          omega
        rw [e1, List.nil_append, e0, map_filter' T (fun x : Tm => decide ((n : Int) < x.2) && decide (slot n (tm x.2) = slot n (tm t))), ft_filter_all (fun x _ e => by simp [e]; omega), h.ft_bel, if_pos (by omega)]
    · refine (ft_none fun x hx e => ?_).trans (ft_none (fun x hx e => by have := (List.mem_filter.1 hx).2; simp at this; omega)).symm
      obtain ⟨p, hp, rfl⟩ := List.mem_map.1 hx
      have := of_decide_eq_true (show decide ((n : Int) < (T p).2) = true from (inSf _ p hp).1)
      omega
  · rw [hstay]
    exact List.Pairwise.sublist ((List.filter_sublist ..).map Prod.fst) h.keys
end
end Go.Proofs.Ytkgcnmloojnblaa.wf

namespace Go.Proofs.Ytkgcnmloojnblaa.wf
open Go.Proofs.Ytkgcnmloojnblaa.wh
set_option linter.unusedVariables false

structure Gp (S : Nat → List Nat) (T : Nat → Tm) (z n : Nat) (ls dn rs : List Nat) (Tc : Nat → Tm) (Lc : Lks) (lc : List (ByteArray × Nat)) : Prop where
  lk : LinkOk (Sf S T z n dn) Lc
  all : ls = dn ++ rs
  t1 : ∀ q ∈ rs, Tc q = T q
  t2 : ∀ s, ∀ q ∈ Sf S T z n dn s, Tc q = T q
  lc : lc.Perm ((dn.filter (kp T n) ++ rs ++ allP (Sr S z)).map fun p => ((T p).1, p))
structure Ap (S : Nat → List Nat) (z : Nat) (ls : List Nat) : Prop where
  nd : (ls ++ allP (Sr S z)).Nodup
  top : ∀ s, 288 ≤ s → S s = []
section
variable {S : Nat → List Nat} {T : Nat → Tm} {z n p : Nat} {ls dn rs : List Nat} {Tc : Nat → Tm} {Lc : Lks} {lc : List (ByteArray × Nat)}
theorem Ap.far (h : Ap S z ls) {s : Nat} (hp : p ∈ Sr S z s) : p ∈ allP (Sr S z) := by
  refine mem_allP.2 ⟨s, ?_, hp⟩
  rcases Nat.lt_or_ge s 288 with h1 | h1
  · exact h1
  · unfold Sr at hp
    rw [h.top s h1] at hp
    split at hp <;> cases hp
theorem Gp.apart (g : Gp S T z n ls dn (p :: rs) Tc Lc lc) (h : Ap S z ls) : (∀ s, p ∉ Sf S T z n dn s) ∧ p ∉ rs ∧ p ∉ dn := by
  have nd := h.nd
  rw [g.all] at nd
  obtain ⟨n1, n2, n3⟩ := List.nodup_append.1 nd
  obtain ⟨m1, m2, m3⟩ := List.nodup_append.1 n1
  have hpd : p ∉ dn := fun hp => m3 p hp p (List.mem_cons_self ..) rfl
  refine ⟨fun s hp => ?_, (List.nodup_cons.1 m2).1, hpd⟩
  rcases List.mem_append.1 hp with hp | hp
  · exact n3 p (List.mem_append_right _ (List.mem_cons_self ..)) p (h.far hp) rfl
  · exact hpd (List.mem_filter.1 hp).1
theorem Gp.keep (g : Gp S T z n ls dn (p :: rs) Tc Lc lc) (h : Ap S z ls) (hp : kp T n p = true) : Gp S T z n ls (dn ++ [p]) rs Tc (Lc.join (slot n (tm (T p).2)) p) lc := by
  obtain ⟨a1, a2, a3⟩ := g.apart h
  refine ⟨by rw [Sf_keep hp]; exact g.lk.join _ p a1, by rw [g.all]; simp, fun q hq => g.t1 q (List.mem_cons_of_mem _ hq), fun s q hq => ?_, g.lc.trans ?_⟩
  · rw [Sf_keep hp] at hq
    by_cases c : s = slot n (tm (T p).2)
    · subst c
      rw [upd_same] at hq
      rcases List.mem_append.1 hq with hq | hq
      · exact g.t2 _ q hq
      · rw [List.mem_singleton.1 hq]; exact g.t1 p (List.mem_cons_self ..)
    · rw [upd_other _ c] at hq; exact g.t2 s q hq
  · rw [List.filter_append, List.filter_cons_of_pos hp, List.filter_nil]
    rw [show dn.filter (kp T n) ++ [p] ++ rs = dn.filter (kp T n) ++ p :: rs by simp]
theorem Gp.drop (g : Gp S T z n ls dn (p :: rs) Tc Lc lc) (h : Ap S z ls) (hp : kp T n p = false) {l' : List (ByteArray × Nat)} (hl : lc.Perm (((T p).1, p) :: l')) : Gp S T z n ls (dn ++ [p]) rs (upd Tc p d0) Lc l' := by
  obtain ⟨a1, a2, a3⟩ := g.apart h
  refine ⟨by rw [Sf_drop hp]; exact g.lk, by rw [g.all]; simp, fun q hq => ?_, fun s q hq => ?_, ?_⟩
  · rw [upd_other _ (fun e => a2 (by rw [← e]; exact hq))]; exact g.t1 q (List.mem_cons_of_mem _ hq)
  · rw [Sf_drop hp] at hq
    rw [upd_other _ (fun e => a1 s (by rw [← e]; exact hq))]; exact g.t2 s q hq
  · rw [List.filter_append, List.filter_cons_of_neg (by simp [hp]), List.filter_nil, List.append_nil]
    have h1 := hl.symm.trans g.lc
    have h2 : (dn.filter (kp T n) ++ p :: rs ++ allP (Sr S z)).Perm (p :: (dn.filter (kp T n) ++ rs ++ allP (Sr S z))) := by
      rw [List.append_assoc, List.append_assoc, List.cons_append]; exact List.perm_middle
    exact (h1.trans (h2.map _)).cons_inv
theorem Gp.has (g : Gp S T z n ls dn (p :: rs) Tc Lc lc) : ((T p).1, p) ∈ lc := g.lc.mem_iff.2 (List.mem_map.2 ⟨p, by simp, rfl⟩)
end
section
variable {most u n : Nat} {S : Nat → List Nat} {T : Nat → Tm} {L : Lks} {l : List (ByteArray × Nat)} {fr : List Nat} {xs : List Tm}
theorem Wi.ap (h : Wi most u S T L l fr xs) (hn2 : n ≤ 17592186044416) : Ap S (slot u n) (bel S (slot u n + 1)) :=
  ⟨(allP_bel S (slot_bound h.nowle hn2)).nodup_iff.1 (List.nodup_append.1 h.nodup).1, h.top⟩
theorem Wi.gp (h : Wi most u S T L l fr xs) (hn2 : n ≤ 17592186044416) {Lc : Lks} (hL : LinkOk (Sr S (slot u n)) Lc) : Gp S T (slot u n) n (bel S (slot u n + 1)) [] (bel S (slot u n + 1)) T Lc l :=
  ⟨by rw [Sf_nil]; exact hL, rfl, fun _ _ => rfl, fun _ _ _ => rfl, h.map.trans ((allP_bel S (slot_bound h.nowle hn2)).map _)⟩
theorem Gp.wi (h : Wi most u S T L l fr xs) (hn : u ≤ n) (hn2 : n ≤ 17592186044416) {dn : List Nat} {Tc : Nat → Tm} {Lc : Lks} {lc : List (ByteArray × Nat)} (g : Gp S T (slot u n) n (bel S (slot u n + 1)) dn [] Tc Lc lc) :
    Wi most n (Sf S T (slot u n) n dn) Tc Lc lc (fr ++ dn.filter (fun p => !kp T n p)) (stay n xs) ∧ ∀ t, ft t ((dn.filter (fun p => !kp T n p)).map T) = ft t (xs.filter (fun x => decide (x.2 ≤ (n : Int)))) := by
  have e : dn = bel S (slot u n + 1) := by have := g.all; rw [List.append_nil] at this; exact this.symm
  subst e
  refine ⟨h.go hn hn2 g.lk g.t2 ?_, h.due hn⟩
  have := g.lc
  rwa [List.append_nil] at this
theorem Wi.lens (h : Wi most u S T L l fr xs) (hn2 : n ≤ 17592186044416) : (bel S (slot u n + 1)).length ≤ xs.length := by
  have := (allP_bel S (slot_bound h.nowle hn2)).length_eq
  rw [h.len, List.length_append] at this; omega
theorem stay_count (h : Wi most u S T L l fr xs) (hn : u ≤ n) (hn2 : n ≤ 17592186044416) {dn : List Nat} {Tc : Nat → Tm} {Lc : Lks} {lc : List (ByteArray × Nat)} (g : Gp S T (slot u n) n (bel S (slot u n + 1)) dn [] Tc Lc lc) :
    (stay n xs).length + (dn.filter (fun p => !kp T n p)).length = xs.length := by
  have h1 := ((g.wi h hn hn2).1).len2
  have h2 := h.len2
  rw [List.length_append] at h1
  omega
end
end Go.Proofs.Ytkgcnmloojnblaa.wf

namespace Go.Proofs.Ytkgcnmloojnblaa.wf
open Go.Proofs.Ytkgcnmloojnblaa.wh Go.Proofs.Ytkgcnmloojnblaa.ck
set_option linter.unusedVariables false

theorem Wi.next {most u : Nat} {S : Nat → List Nat} {T : Nat → Tm} {L : Lks} {l : List (ByteArray × Nat)} {fr : List Nat} {xs : List Tm} (h : Wi most u S T L l fr xs) {sc : Nat} (hb : ∀ s, s < sc → S s = []) {lv : Int} (h1 : ∀ p ∈ S sc, lv ≤ (T p).2) (h2 : ∃ p ∈ S sc, (T p).2 = lv) : nextV xs = (lv, true) := by
  obtain ⟨p, hp, e⟩ := h2
  have hm := h.mem (mem_allP.2 ⟨sc, h.slot_lt hp, hp⟩)
  have htime := h.time _ hm
  obtain ⟨i, hi, ei⟩ := List.mem_iff_getElem.1 hm
  rcases preZ_spec xs 17592186044416 xs.length with ⟨_, h4⟩ | ⟨k, hk, hz, h4, h5, _⟩
  · have := h4 i hi
    rw [tmAt_get hi, ei] at this
    omega
  · have hz' : firstZ xs 17592186044416 = k := hz
    have en : nextV xs = (tmAt xs k, true) := by unfold nextV; rw [hz', if_pos (by omega), Int.toNat_natCast]
    rw [en]
    have a1 := h5 i hi (by rw [tmAt_get hi, ei]; omega)
    rw [tmAt_get hi, ei, e] at a1
    have hx : xs[k] ∈ xs := List.getElem_mem hk
    obtain ⟨p', A, B, q1, q2, q3, q4, q5⟩ := h.find hx
    have hps : p' ∈ S (slot u (tm (xs[k]).2)) := mid_mem q1
    have a2 : lv ≤ (xs[k]).2 := by
      rcases Nat.lt_trichotomy (slot u (tm (xs[k]).2)) sc with c | c | c
      · rw [hb _ c] at hps; cases hps
      · rw [c] at hps
        have := h1 p' hps
        rwa [q2] at this
      · have htx := h.time _ hx
        rcases Int.lt_or_le (xs[k]).2 lv with g | g
        · have hs := h.at_ sc p hp
          have := slot_mono (now := u) (t := tm (xs[k]).2) (u := tm (T p).2) (by unfold tm; omega) (by unfold tm; omega)
          omega
        · exact g
    rw [← tmAt_get hk] at a2
    have : tmAt xs k = lv := Int.le_antisymm a1 a2
    rw [this]
theorem least2 {a b : Int} (ha : 0 ≤ a ∧ a ≤ 17592186044416) (hb : 0 ≤ b ∧ b ≤ 17592186044416) : leastV [a, b] = if b < a then b else a := by
  have e1 : lessOf 17592186044416 a = a := by
    unfold lessOf
    by_cases c : a < 17592186044416
    · rw [if_pos ⟨mayB_t ha, c⟩]
    · rw [if_neg (fun h => c h.2)]; omega
  show lessOf (lessOf 17592186044416 a) b = _
  rw [e1]
  unfold lessOf
  by_cases c : b < a
  · rw [if_pos ⟨mayB_t hb, c⟩, if_pos c]
  · rw [if_neg (fun h => c h.2), if_neg c]
theorem stops_snoc : ∀ (ks : List ByteArray) (xs : List Tm) (k : ByteArray), stopsC xs (ks ++ [k]) = stopsC xs ks + stopC (stopsL xs ks) k ∧ stopsL xs (ks ++ [k]) = stopL (stopsL xs ks) k
  | [], xs, k => by simp [stopsC, stopsL]
  | a :: r, xs, k => by
    obtain ⟨h1, h2⟩ := stops_snoc r (stopL xs a) k
    refine ⟨?_, h2⟩
    show stopC xs a + stopsC (stopL xs a) (r ++ [k]) = stopC xs a + stopsC (stopL xs a) r + _
    rw [h1, Int.add_assoc]; rfl
end Go.Proofs.Ytkgcnmloojnblaa.wf
