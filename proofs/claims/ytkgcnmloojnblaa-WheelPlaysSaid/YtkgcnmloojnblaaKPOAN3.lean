/- P O A N: contracts, part 3. Condition: as each says. -/
import Derived.Test.YtkgcnmloojnblaaKPOAN2
set_option linter.unusedVariables false
set_option linter.unusedSimpArgs false
namespace Go.Proofs.Ytkgcnmloojnblaa.wf
open Go.Proofs.Ytkgcnmloojnblaa.wh
set_option linter.unusedVariables false

def ft (t : Int) (l : List Tm) : List Tm := l.filter (fun x => decide (x.2 = t))
def Up2 (l : List Tm) : Prop := l.Pairwise (fun a b => a.2 ≤ b.2)
def St (r l : List Tm) : Prop := Up2 r ∧ ∀ t, ft t r = ft t l
theorem ft_nil (t : Int) : ft t [] = [] := rfl
theorem ft_app (t : Int) (a b : List Tm) : ft t (a ++ b) = ft t a ++ ft t b := List.filter_append ..
theorem ft_cons_eq {t : Int} {x : Tm} (h : x.2 = t) (l : List Tm) : ft t (x :: l) = x :: ft t l := List.filter_cons_of_pos (by simpa using h)
theorem ft_cons_ne {t : Int} {x : Tm} (h : x.2 ≠ t) (l : List Tm) : ft t (x :: l) = ft t l := List.filter_cons_of_neg (by simpa using h)
theorem ft_none {t : Int} {l : List Tm} (h : ∀ x ∈ l, x.2 ≠ t) : ft t l = [] := List.filter_eq_nil_iff.2 (fun x hx => by simpa using h x hx)
theorem ft_mem {t : Int} {l : List Tm} {x : Tm} : x ∈ ft t l ↔ x ∈ l ∧ x.2 = t := by unfold ft; rw [List.mem_filter]; simp
theorem St.mem {r l : List Tm} (h : St r l) {x : Tm} : x ∈ r ↔ x ∈ l := by
  have := h.2 x.2
  have e1 : x ∈ ft x.2 r ↔ x ∈ r := by rw [ft_mem]; simp
  have e2 : x ∈ ft x.2 l ↔ x ∈ l := by rw [ft_mem]; simp
  rw [← e1, ← e2, this]
theorem up2_same : ∀ {r s : List Tm}, Up2 r → Up2 s → (∀ t, ft t r = ft t s) → r = s
  | [], [], _, _, _ => rfl
  | [], y :: s, _, _, h => by have := h y.2; rw [ft_nil, ft_cons_eq rfl] at this; cases this
  | x :: r, [], _, _, h => by have := h x.2; rw [ft_nil, ft_cons_eq rfl] at this; cases this
  | x :: r, y :: s, hr, hs, h => by
    have hr' := List.pairwise_cons.1 hr; have hs' := List.pairwise_cons.1 hs
    have e : x.2 = y.2 := by
      have h1 : x ∈ ft x.2 (y :: s) := by rw [← h x.2, ft_cons_eq rfl]; exact List.mem_cons_self ..
      have h2 : y ∈ ft y.2 (x :: r) := by rw [h y.2, ft_cons_eq rfl]; exact List.mem_cons_self ..
      have a1 : y.2 ≤ x.2 := by
        rcases List.mem_cons.1 (ft_mem.1 h1).1 with e | m
        · rw [e]; exact Int.le_refl _
        · exact hs'.1 x m
      have a2 : x.2 ≤ y.2 := by
        rcases List.mem_cons.1 (ft_mem.1 h2).1 with e | m
        · rw [e]; exact Int.le_refl _
        · exact hr'.1 y m
      omega
    have h0 := h x.2
    rw [ft_cons_eq rfl, ft_cons_eq e.symm] at h0
    obtain rfl := (List.cons.inj h0).1
    rw [up2_same hr'.2 hs'.2 (fun t => by
      have ht := h t
      by_cases c : x.2 = t
      · rw [ft_cons_eq c, ft_cons_eq c] at ht; exact (List.cons.inj ht).2
      · rwa [ft_cons_ne c, ft_cons_ne c] at ht)]
theorem St.one {r s l : List Tm} (h : St r l) (h' : St s l) : r = s := up2_same h.1 h'.1 (fun t => (h.2 t).trans (h'.2 t).symm)
theorem St.refl {l : List Tm} (h : Up2 l) : St l l := ⟨h, fun _ => rfl⟩
theorem perm_of {α : Type} [DecidableEq α] (f : α → Int) {r l : List α} (h : ∀ t, r.filter (fun x => decide (f x = t)) = l.filter (fun x => decide (f x = t))) : r.Perm l := by
  refine List.perm_iff_count.2 fun x => ?_
  have e : ∀ m : List α, m.count x = (m.filter (fun y => decide (f y = f x))).count x := fun m => by
    rw [List.count_filter (by simp)]
  rw [e r, e l, h]
theorem St.perm {r l : List Tm} (h : ∀ t, ft t r = ft t l) : r.Perm l := @perm_of Tm (fun a b => Classical.propDecidable (a = b)) Prod.snd r l h
theorem St.len {r l : List Tm} (h : St r l) : r.length = l.length := (St.perm h.2).length_eq
theorem up2_app {a b : List Tm} : Up2 (a ++ b) ↔ Up2 a ∧ Up2 b ∧ ∀ x ∈ a, ∀ y ∈ b, x.2 ≤ y.2 := List.pairwise_append
theorem merge_halves {A B C D L R : List Tm} (hAB : Up2 (A ++ B)) (hCD : Up2 (C ++ D)) (hCB : ∀ x ∈ C, ∀ y ∈ B, x.2 < y.2) (hAD : ∀ x ∈ A, ∀ y ∈ D, x.2 ≤ y.2) (hL : St L (A ++ C)) (hR : St R (B ++ D)) : St (L ++ R) ((A ++ B) ++ (C ++ D)) := by
  obtain ⟨a1, a2, a3⟩ := up2_app.1 hAB
  obtain ⟨c1, c2, c3⟩ := up2_app.1 hCD
  refine ⟨up2_app.2 ⟨hL.1, hR.1, fun x hx y hy => ?_⟩, fun t => ?_⟩
  · rcases List.mem_append.1 (hL.mem.1 hx) with hx | hx <;> rcases List.mem_append.1 (hR.mem.1 hy) with hy | hy
    · exact a3 x hx y hy
    · exact hAD x hx y hy
    · exact Int.le_of_lt (hCB x hx y hy)
    · exact c3 x hx y hy
  · rw [ft_app, hL.2 t, hR.2 t]
    simp only [ft_app]
    have : ft t B = [] ∨ ft t C = [] := by
      by_cases hB : ft t B = []
      · exact .inl hB
      · refine .inr (ft_none fun x hx e => ?_)
        obtain ⟨y, hy⟩ := List.exists_mem_of_ne_nil _ hB
        have h1 := ft_mem.1 hy
        have := hCB x hx y h1.1
        omega
    rcases this with e | e <;> rw [e] <;> simp
theorem put_left {x : Tm} {C D : List Tm} (h : Up2 (C ++ D)) (hC : ∀ y ∈ C, y.2 < x.2) (hD : ∀ y ∈ D, ¬ y.2 < x.2) : St (C ++ x :: D) (x :: (C ++ D)) := by
  obtain ⟨c1, c2, c3⟩ := up2_app.1 h
  refine ⟨up2_app.2 ⟨c1, List.pairwise_cons.2 ⟨fun y hy => by have := hD y hy; omega, c2⟩, fun y hy z hz => ?_⟩, fun t => ?_⟩
  · rcases List.mem_cons.1 hz with rfl | hz
    · exact Int.le_of_lt (hC y hy)
    · exact c3 y hy z hz
  · rw [ft_app]
    by_cases c : x.2 = t
    · have e0 : ft t C = [] := ft_none fun y hy => by have := hC y hy; omega
      rw [ft_cons_eq c, ft_cons_eq c, ft_app, e0]; rfl
    · rw [ft_cons_ne c, ft_cons_ne c, ft_app]
theorem put_right {x : Tm} {C D : List Tm} (h : Up2 (C ++ D)) (hC : ∀ y ∈ C, ¬ x.2 < y.2) (hD : ∀ y ∈ D, x.2 < y.2) : St (C ++ x :: D) ((C ++ D) ++ [x]) := by
  obtain ⟨c1, c2, c3⟩ := up2_app.1 h
  refine ⟨up2_app.2 ⟨c1, List.pairwise_cons.2 ⟨fun y hy => by have := hD y hy; omega, c2⟩, fun y hy z hz => ?_⟩, fun t => ?_⟩
  · rcases List.mem_cons.1 hz with rfl | hz
    · have := hC y hy; omega
    · exact c3 y hy z hz
  · simp only [ft_app]
    by_cases c : x.2 = t
    · have e0 : ft t D = [] := ft_none fun y hy => by have := hD y hy; omega
      rw [ft_cons_eq c, ft_cons_eq c, e0]; simp [ft_nil]
    · rw [ft_cons_ne c, ft_cons_ne c]; simp [ft_nil]
theorem St.trans {r s l : List Tm} (h : St r s) (h' : ∀ t, ft t s = ft t l) : St r l := ⟨h.1, fun t => (h.2 t).trans (h' t)⟩
theorem up2_one (x : Tm) : Up2 [x] := List.pairwise_singleton ..
theorem up2_nil : Up2 [] := List.Pairwise.nil
theorem up2_lt {l : List Tm} (h : Up2 l) {i j : Nat} {x y : Tm} (hi : l[i]? = some x) (hj : l[j]? = some y) (hij : i ≤ j) : x.2 ≤ y.2 := by
  obtain ⟨h1, rfl⟩ := List.getElem?_eq_some_iff.1 hi
  obtain ⟨h2, rfl⟩ := List.getElem?_eq_some_iff.1 hj
  rcases Nat.lt_or_eq_of_le hij with h3 | rfl
  · exact List.pairwise_iff_getElem.1 h i j h1 h2 h3
  · exact Int.le_refl _

/-! ### two that change places -/
def swp (l : List Tm) (i j : Nat) : List Tm := (l.set i (l.getD j d0)).set j (l.getD i d0)
theorem getD_mid (A : List Tm) (x : Tm) (B : List Tm) : (A ++ x :: B).getD A.length d0 = x := by
  rw [List.getD_eq_getElem?_getD, List.getElem?_append_right (Nat.le_refl _), Nat.sub_self]; rfl
theorem set_mid (A : List Tm) (x y : Tm) (B : List Tm) : (A ++ x :: B).set A.length y = A ++ y :: B := by
  rw [List.set_append_right _ _ (Nat.le_refl _), Nat.sub_self]; rfl
theorem swp_at (A : List Tm) (x : Tm) (B : List Tm) (y : Tm) (C : List Tm) : swp (A ++ x :: (B ++ y :: C)) A.length (A ++ x :: B).length = A ++ y :: (B ++ x :: C) ∧ swp (A ++ x :: (B ++ y :: C)) (A ++ x :: B).length A.length = A ++ y :: (B ++ x :: C) := by
  have e1 : (A ++ x :: (B ++ y :: C)).getD (A ++ x :: B).length d0 = y := by
    have := getD_mid (A ++ x :: B) y C
    rwa [List.append_assoc, List.cons_append] at this
  have e2 : (A ++ x :: (B ++ y :: C)).getD A.length d0 = x := getD_mid A x _
  have f1 : (A ++ y :: (B ++ y :: C)).set (A ++ x :: B).length x = A ++ y :: (B ++ x :: C) := by
    have := set_mid (A ++ y :: B) y x C
    rw [List.append_assoc, List.cons_append, List.append_assoc, List.cons_append] at this
    rw [← this]; simp
  have f2 : (A ++ x :: (B ++ y :: C)).set (A ++ x :: B).length x = A ++ x :: (B ++ x :: C) := by
    have := set_mid (A ++ x :: B) y x C
    rw [List.append_assoc, List.cons_append, List.append_assoc, List.cons_append] at this
    exact this
  unfold swp
  rw [e1, e2]
  refine ⟨?_, ?_⟩
  · rw [set_mid, f1]
  · rw [f2, set_mid]

/-! ### what is told is what is due, sorted -/
theorem told_st : ∀ (n : Nat) (xs : List Tm) (t : Int), xs.length = n → St (told t xs) (xs.filter (fun x => decide (x.2 ≤ t)))
  | n, xs, t, hn => by
    refine ⟨(told_all n xs t hn).2.1, fun u => ?_⟩
    have hff : ∀ l : List Tm, ft u (l.filter (fun x => decide (x.2 ≤ t))) = if u ≤ t then ft u l else [] := fun l => by
      unfold ft
      rw [List.filter_filter]
      split
      · rename_i h; refine List.filter_congr fun x _ => ?_
        by_cases c : x.2 = u
        · simp [c, h]
        · simp [c]
      · rename_i h; refine List.filter_eq_nil_iff.2 fun x _ => ?_
        by_cases c : x.2 = u
        · simp [c]; omega
        · simp [c]
    rw [hff]
    rcases firstZ_bd xs t with hz | ⟨k, hz, hk⟩
    · rw [(told_no hz).1, ft_nil]
      split
      · rename_i h
        refine (ft_none fun x hx e => ?_).symm
        have := first_no hz x hx
        omega
      · rfl
    · have hx := List.getElem?_eq_getElem hk
      obtain ⟨f1, f2⟩ := first_at hz hx
      have hl : (xs.eraseIdx k).length = n - 1 := by rw [List.length_eraseIdx, if_pos hk, hn]
      have ih := (told_st (n - 1) (xs.eraseIdx k) t hl).2 u
      have hff2 : ft u ((xs.eraseIdx k).filter (fun x => decide (x.2 ≤ t))) = if u ≤ t then ft u (xs.eraseIdx k) else [] := by
        unfold ft
        rw [List.filter_filter]
        split
        · rename_i h; refine List.filter_congr fun x _ => ?_
          by_cases c : x.2 = u
          · simp [c, h]
          · simp [c]
        · rename_i h; refine List.filter_eq_nil_iff.2 fun x _ => ?_
          by_cases c : x.2 = u
          · simp [c]; omega
          · simp [c]
      rw [hff2] at ih
      rw [(told_one hz hx).1]
      have hsplit : xs = xs.take k ++ xs[k] :: xs.drop (k + 1) := by
        conv => lhs; rw [← List.take_append_drop k xs, List.drop_eq_getElem_cons hk]
      have e1 : ft u (xs.eraseIdx k) = ft u (xs.take k) ++ ft u (xs.drop (k + 1)) := by rw [List.eraseIdx_eq_take_drop_succ, ft_app]
      have e2 : ft u xs = ft u (xs.take k) ++ ft u (xs[k] :: xs.drop (k + 1)) := by conv => lhs; rw [hsplit, ft_app]
      by_cases c : xs[k].2 = u
      · rw [ft_cons_eq c, ih, if_pos (by omega), if_pos (by omega), e1, e2, ft_cons_eq c]
        have : ft u (xs.take k) = [] := ft_none fun x hx' e => by
          obtain ⟨i, hi, rfl⟩ := List.mem_iff_getElem.1 hx'
          rw [List.length_take] at hi
          rcases preZ_spec xs t xs.length with ⟨h1, _⟩ | ⟨k', _, hz', _, _, h3⟩
          · have : firstZ xs t = -1 := h1
            omega
          · have h4 : firstZ xs t = k' := hz'
            obtain rfl : k = k' := by omega
            have h5 := h3 i (by omega)
            rw [tmAt_get (show i < xs.length by omega), tmAt_get hk] at h5
            rw [List.getElem_take] at e
            have := h5 (by omega)
            omega
        rw [this]; rfl
      · rw [ft_cons_ne c, ih, e1, e2, ft_cons_ne c]
  termination_by n => n
  decreasing_by omega
end Go.Proofs.Ytkgcnmloojnblaa.wf

namespace Go.Proofs.Ytkgcnmloojnblaa.wlS
open Go.RowKit Go.Shelf Go.Lib Go.Proofs.Ytkgcnmloojnblaa.nb Go.Proofs.Ytkgcnmloojnblaa.wh Go.Proofs.Ytkgcnmloojnblaa.wf
set_option linter.unusedVariables false

def pv (pb : Nat) (o : Option Nat) : Value := .pointer (o.map fun p => ⟨pb, p * 4, none⟩)
def wc (now n : Int) (cb mb pb : Nat) (L : Lks) (j : Nat) : Value :=
  if j = 0 then .int .i64 now else if j = 1 then .int .i64 n else if j = 2 then .chan (some cb) else if j = 3 then .map (some mb) else
  if j % 2 = 0 then pv pb (L.fi ((j - 4) / 2)) else pv pb (L.la ((j - 4) / 2))
def pc (pb : Nat) (T : Nat → Tm) (L : Lks) (j : Nat) : Value :=
  if j % 4 = 0 then .string ((T (j / 4)).1) else if j % 4 = 1 then .int .i64 (T (j / 4)).2 else if j % 4 = 2 then pv pb (L.ah (j / 4)) else pv pb (L.nx (j / 4))
section
variable {now n : Int} {cb mb pb : Nat} {L : Lks} {T : Nat → Tm}
theorem wc_fi (s : Nat) : wc now n cb mb pb L (s * 2 + 4) = pv pb (L.fi s) := by
  unfold wc
  rw [if_neg (by omega), if_neg (by omega), if_neg (by omega), if_neg (by omega), if_pos (by omega), show (s * 2 + 4 - 4) / 2 = s by omega]
theorem wc_la (s : Nat) : wc now n cb mb pb L (s * 2 + 4 + 1) = pv pb (L.la s) := by
  unfold wc
  rw [if_neg (by omega), if_neg (by omega), if_neg (by omega), if_neg (by omega), if_neg (by omega), show (s * 2 + 4 + 1 - 4) / 2 = s by omega]
theorem pc_k (p : Nat) : pc pb T L (p * 4) = .string ((T p).1) := by unfold pc; rw [if_pos (by omega), show p * 4 / 4 = p by omega]
theorem pc_t (p : Nat) : pc pb T L (p * 4 + 1) = .int .i64 (T p).2 := by unfold pc; rw [if_neg (by omega), if_pos (by omega), show (p * 4 + 1) / 4 = p by omega]
theorem pc_ah (p : Nat) : pc pb T L (p * 4 + 2) = pv pb (L.ah p) := by unfold pc; rw [if_neg (by omega), if_neg (by omega), if_pos (by omega), show (p * 4 + 2) / 4 = p by omega]
theorem pc_nx (p : Nat) : pc pb T L (p * 4 + 3) = pv pb (L.nx p) := by unfold pc; rw [if_neg (by omega), if_neg (by omega), if_neg (by omega), show (p * 4 + 3) / 4 = p by omega]
theorem wc_tl {j : Nat} (h : 4 ≤ j) : wc now n cb mb pb L j = if j % 2 = 0 then pv pb (L.fi ((j - 4) / 2)) else pv pb (L.la ((j - 4) / 2)) := by
  unfold wc
  rw [if_neg (by omega), if_neg (by omega), if_neg (by omega), if_neg (by omega)]
theorem wc_hd {j : Nat} (h : j < 4) (L' : Lks) : wc now n cb mb pb L j = wc now n cb mb pb L' j := by
  unfold wc
  rcases (show j = 0 ∨ j = 1 ∨ j = 2 ∨ j = 3 by omega) with h | h | h | h <;> simp [h]
theorem wc_set_fi (s : Nat) (v : Option Nat) (j : Nat) : upd (wc now n cb mb pb L) (s * 2 + 4) (pv pb v) j = wc now n cb mb pb ⟨upd L.fi s v, L.la, L.ah, L.nx⟩ j := by
  by_cases e : j = s * 2 + 4
  · subst e; rw [upd_same, wc_fi]; show _ = pv pb (upd L.fi s v s); rw [upd_same]
  rw [upd_other _ e]
  rcases Nat.lt_or_ge j 4 with h | h
  · exact wc_hd h _
  rw [wc_tl h, wc_tl h]
  by_cases h2 : j % 2 = 0
  · rw [if_pos h2, if_pos h2]; show _ = pv pb (upd L.fi s v _); rw [upd_other _ (by omega)]
  · rw [if_neg h2, if_neg h2]
theorem wc_set_la (s : Nat) (v : Option Nat) (j : Nat) : upd (wc now n cb mb pb L) (s * 2 + 4 + 1) (pv pb v) j = wc now n cb mb pb ⟨L.fi, upd L.la s v, L.ah, L.nx⟩ j := by
  by_cases e : j = s * 2 + 4 + 1
  · subst e; rw [upd_same, wc_la]; show _ = pv pb (upd L.la s v s); rw [upd_same]
  rw [upd_other _ e]
  rcases Nat.lt_or_ge j 4 with h | h
  · exact wc_hd h _
  rw [wc_tl h, wc_tl h]
  by_cases h2 : j % 2 = 0
  · rw [if_pos h2, if_pos h2]
  · rw [if_neg h2, if_neg h2]; show _ = pv pb (upd L.la s v _); rw [upd_other _ (by omega)]
theorem wc_set_now (v : Int) (j : Nat) : upd (wc now n cb mb pb L) 0 (.int .i64 v) j = wc v n cb mb pb L j := by
  unfold upd wc
  by_cases e : j = 0
  · rw [if_pos e, if_pos e]
  · rw [if_neg e, if_neg e, if_neg e]
theorem wc_set_n (v : Int) (j : Nat) : upd (wc now n cb mb pb L) 1 (.int .i64 v) j = wc now v cb mb pb L j := by
  unfold upd wc
  by_cases e : j = 1
  · rw [if_pos e, if_neg (by omega), if_pos e]
  · rw [if_neg e, if_neg e, if_neg e]
theorem pc_set_ah (p : Nat) (v : Option Nat) (j : Nat) : upd (pc pb T L) (p * 4 + 2) (pv pb v) j = pc pb T ⟨L.fi, L.la, upd L.ah p v, L.nx⟩ j := by
  by_cases e : j = p * 4 + 2
  · subst e; rw [upd_same, pc_ah]; show _ = pv pb (upd L.ah p v p); rw [upd_same]
  rw [upd_other _ e]
  unfold pc
  by_cases h0 : j % 4 = 0
  · rw [if_pos h0, if_pos h0]
  by_cases h1 : j % 4 = 1
  · rw [if_neg h0, if_pos h1, if_neg h0, if_pos h1]
  rw [if_neg h0, if_neg h1, if_neg h0, if_neg h1]
  by_cases h2 : j % 4 = 2
  · rw [if_pos h2, if_pos h2]; show _ = pv pb (upd L.ah p v _); rw [upd_other _ (by omega)]
  · rw [if_neg h2, if_neg h2]
theorem pc_set_nx (p : Nat) (v : Option Nat) (j : Nat) : upd (pc pb T L) (p * 4 + 3) (pv pb v) j = pc pb T ⟨L.fi, L.la, L.ah, upd L.nx p v⟩ j := by
  by_cases e : j = p * 4 + 3
  · subst e; rw [upd_same, pc_nx]; show _ = pv pb (upd L.nx p v p); rw [upd_same]
  rw [upd_other _ e]
  unfold pc
  by_cases h0 : j % 4 = 0
  · rw [if_pos h0, if_pos h0]
  by_cases h1 : j % 4 = 1
  · rw [if_neg h0, if_pos h1, if_neg h0, if_pos h1]
  rw [if_neg h0, if_neg h1, if_neg h0, if_neg h1]
  by_cases h2 : j % 4 = 2
  · rw [if_pos h2, if_pos h2]
  · rw [if_neg h2, if_neg h2]; show _ = pv pb (upd L.nx p v _); rw [upd_other _ (by omega)]
theorem pc_set_due (p : Nat) (x : Tm) (j : Nat) : upd (upd (pc pb T L) (p * 4) (.string (x.1))) (p * 4 + 1) (.int .i64 x.2) j = pc pb (upd T p x) L j := by
  by_cases e : j = p * 4 + 1
  · subst e; rw [upd_same, pc_t, upd_same]
  rw [upd_other _ e]
  by_cases e2 : j = p * 4
  · subst e2; rw [upd_same, pc_k, upd_same]
  rw [upd_other _ e2]
  unfold pc
  by_cases h0 : j % 4 = 0
  · rw [if_pos h0, if_pos h0, upd_other _ (show j / 4 ≠ p by omega)]
  by_cases h1 : j % 4 = 1
  · rw [if_neg h0, if_pos h1, if_neg h0, if_pos h1, upd_other _ (show j / 4 ≠ p by omega)]
  rw [if_neg h0, if_neg h1, if_neg h0, if_neg h1]
end
structure Mem (w : World) (b pb cb mb most : Nat) (now n : Int) (T : Nat → Tm) (L : Lks) : Prop where
  wb : BoxF w b 580 (wc now n cb mb pb L)
  pb_ : BoxF w pb (most * 4) (pc pb T L)
  ne : b ≠ pb
section
variable {w w' : World} {b pb cb mb most : Nat} {now n : Int} {T : Nat → Tm} {L : Lks}
theorem Mem.only {F : Nat → Prop} (h : Mem w b pb cb mb most now n T L) (o : Only F w w') (h1 : ¬ F b) (h2 : ¬ F pb) : Mem w' b pb cb mb most now n T L := ⟨h.wb.only o h1, h.pb_.only o h2, h.ne⟩
theorem Mem.up (h : Mem w b pb cb mb most now n T L) (u : Up w w') : Mem w' b pb cb mb most now n T L := h.only (Only.up (F := fun _ => False) u) id id
theorem Mem.set_fi (h : Mem w b pb cb mb most now n T L) (s : Nat) (v : Option Nat) : Mem (w.setCell ⟨b, s * 2 + 4, none⟩ (pv pb v)) b pb cb mb most now n T ⟨upd L.fi s v, L.la, L.ah, L.nx⟩ :=
  ⟨(h.wb.set _ _).congr (fun j _ => wc_set_fi s v j), h.pb_.far h.ne _, h.ne⟩
theorem Mem.set_la (h : Mem w b pb cb mb most now n T L) (s : Nat) (v : Option Nat) : Mem (w.setCell ⟨b, s * 2 + 4 + 1, none⟩ (pv pb v)) b pb cb mb most now n T ⟨L.fi, upd L.la s v, L.ah, L.nx⟩ :=
  ⟨(h.wb.set _ _).congr (fun j _ => wc_set_la s v j), h.pb_.far h.ne _, h.ne⟩
theorem Mem.set_now (h : Mem w b pb cb mb most now n T L) (v : Int) : Mem (w.setCell ⟨b, 0, none⟩ (.int .i64 v)) b pb cb mb most v n T L :=
  ⟨(h.wb.set _ _).congr (fun j _ => wc_set_now v j), h.pb_.far h.ne _, h.ne⟩
theorem Mem.set_n (h : Mem w b pb cb mb most now n T L) (v : Int) : Mem (w.setCell ⟨b, 1, none⟩ (.int .i64 v)) b pb cb mb most now v T L :=
  ⟨(h.wb.set _ _).congr (fun j _ => wc_set_n v j), h.pb_.far h.ne _, h.ne⟩
theorem Mem.set_ah (h : Mem w b pb cb mb most now n T L) (p : Nat) (v : Option Nat) : Mem (w.setCell ⟨pb, p * 4 + 2, none⟩ (pv pb v)) b pb cb mb most now n T ⟨L.fi, L.la, upd L.ah p v, L.nx⟩ :=
  ⟨h.wb.far h.ne.symm _, (h.pb_.set _ _).congr (fun j _ => pc_set_ah p v j), h.ne⟩
theorem Mem.set_nx (h : Mem w b pb cb mb most now n T L) (p : Nat) (v : Option Nat) : Mem (w.setCell ⟨pb, p * 4 + 3, none⟩ (pv pb v)) b pb cb mb most now n T ⟨L.fi, L.la, L.ah, upd L.nx p v⟩ :=
  ⟨h.wb.far h.ne.symm _, (h.pb_.set _ _).congr (fun j _ => pc_set_nx p v j), h.ne⟩
theorem Mem.set_due (h : Mem w b pb cb mb most now n T L) (p : Nat) (x : Tm) : Mem ((w.setCell ⟨pb, p * 4, none⟩ (.string (x.1))).setCell ⟨pb, p * 4 + 1, none⟩ (.int .i64 x.2)) b pb cb mb most now n (upd T p x) L :=
  ⟨(h.wb.far h.ne.symm _).far h.ne.symm _, ((h.pb_.set _ _).set _ _).congr (fun j _ => pc_set_due p x j), h.ne⟩
theorem Mem.c_now (h : Mem w b pb cb mb most now n T L) : w.cell? ⟨b, 0, none⟩ = some (.int .i64 now) := h.wb.at_ 0 (by omega)
theorem Mem.c_n (h : Mem w b pb cb mb most now n T L) : w.cell? ⟨b, 1, none⟩ = some (.int .i64 n) := h.wb.at_ 1 (by omega)
theorem Mem.c_ch (h : Mem w b pb cb mb most now n T L) : w.cell? ⟨b, 2, none⟩ = some (.chan (some cb)) := h.wb.at_ 2 (by omega)
theorem Mem.c_mp (h : Mem w b pb cb mb most now n T L) : w.cell? ⟨b, 3, none⟩ = some (.map (some mb)) := h.wb.at_ 3 (by omega)
theorem Mem.c_fi (h : Mem w b pb cb mb most now n T L) {s : Nat} (hs : s < 288) : w.cell? ⟨b, s * 2 + 4, none⟩ = some (pv pb (L.fi s)) := (h.wb.at_ _ (by omega)).trans (by rw [wc_fi])
theorem Mem.c_la (h : Mem w b pb cb mb most now n T L) {s : Nat} (hs : s < 288) : w.cell? ⟨b, s * 2 + 4 + 1, none⟩ = some (pv pb (L.la s)) := (h.wb.at_ _ (by omega)).trans (by rw [wc_la])
theorem Mem.c_k (h : Mem w b pb cb mb most now n T L) {p : Nat} (hp : p < most) : w.cell? ⟨pb, p * 4, none⟩ = some (.string ((T p).1)) := (h.pb_.at_ _ (by omega)).trans (by rw [pc_k])
theorem Mem.c_t (h : Mem w b pb cb mb most now n T L) {p : Nat} (hp : p < most) : w.cell? ⟨pb, p * 4 + 1, none⟩ = some (.int .i64 (T p).2) := (h.pb_.at_ _ (by omega)).trans (by rw [pc_t])
theorem Mem.c_ah (h : Mem w b pb cb mb most now n T L) {p : Nat} (hp : p < most) : w.cell? ⟨pb, p * 4 + 2, none⟩ = some (pv pb (L.ah p)) := (h.pb_.at_ _ (by omega)).trans (by rw [pc_ah])
theorem Mem.c_nx (h : Mem w b pb cb mb most now n T L) {p : Nat} (hp : p < most) : w.cell? ⟨pb, p * 4 + 3, none⟩ = some (pv pb (L.nx p)) := (h.pb_.at_ _ (by omega)).trans (by rw [pc_nx])
theorem Mem.f_w (h : Mem w b pb cb mb most now n T L) {j : Nat} (hj : j < 580) : w.frozen? ⟨b, j, none⟩ = false := h.wb.fr j hj
theorem Mem.f_p (h : Mem w b pb cb mb most now n T L) {j : Nat} (hj : j < most * 4) : w.frozen? ⟨pb, j, none⟩ = false := h.pb_.fr j hj
end
def WF (b pb : Nat) : Nat → Prop := fun k => k = b ∨ k = pb
end Go.Proofs.Ytkgcnmloojnblaa.wlS

namespace Go.Proofs.Ytkgcnmloojnblaa.wlS
open Go.RowKit Go.Shelf Go.Lib Go.Proofs.Ytkgcnmloojnblaa.nb Go.Proofs.Ytkgcnmloojnblaa.wh Go.Proofs.Ytkgcnmloojnblaa.wf
set_option linter.unusedVariables false

theorem pv_ptr (pb : Nat) (o : Option Nat) : ∃ v, pv pb o = .pointer v := ⟨_, rfl⟩
set_option maxHeartbeats 4000000 in
theorem joinC {b pb cb mb most : Nat} {now n : Int} {T : Nat → Tm} {L : Lks} {w : World} (s p : Nat) (h : Mem w b pb cb mb most now n T L) (hs : s < 288) (hp : p < most) (hq : ∀ q, L.la s = some q → q < most) :
    Calls Try.prog 31 #[.pointer (some ⟨b, s * 2 + 4, none⟩), .pointer (some ⟨pb, p * 4, none⟩)] w fun e w' => e = .returned (.tuple #[]) ∧ Mem w' b pb cb mb most now n T (L.join s p) ∧ Only (WF b pb) w w' := by
  have n1 : ¬ b = pb := h.ne
  have n2 : ¬ pb = b := fun e => n1 e.symm
  have c1 := h.c_la hs; have c2 := h.c_ah hp; have c3 := h.c_fi hs
  have f1 := h.f_w (j := s * 2 + 4 + 1) (by omega); have f2 := h.f_p (j := p * 4 + 2) (by omega); have f3 := h.f_w (j := s * 2 + 4) (by omega)
  have o0 : Only (WF b pb) w w := Only.refl _ _
  obtain ⟨va, ea⟩ := pv_ptr pb (L.ah p)
  obtain ⟨vf, ef⟩ := pv_ptr pb (L.fi s)
  rw [ea] at c2; rw [ef] at c3
  cases hl : L.la s with
  | none =>
    have M1 := ((h.set_ah p (L.la s)).set_fi s (some p)).set_la s (some p)
    have O1 := ((o0.set (p := ⟨pb, p * 4 + 2, none⟩) (.inl (.inr rfl)) (pv pb (L.la s))).set (p := ⟨b, s * 2 + 4, none⟩) (.inl (.inl rfl)) (pv pb (some p))).set (p := ⟨b, s * 2 + 4 + 1, none⟩) (.inl (.inl rfl)) (pv pb (some p))
    have e1 : L.join s p = ⟨upd L.fi s (some p), upd L.la s (some p), upd L.ah p none, L.nx⟩ := by unfold Lks.join; rw [hl]; rfl
    rw [e1]
    rw [hl] at c1 M1 O1
    have MM := Lib.hid M1; have OO := Lib.hid O1
    replace c1 : w.cell? ⟨b, s * 2 + 4 + 1, none⟩ = some (.pointer none) := c1
    clear h M1 O1 e1 hl ea ef hq o0
    generalize ho : s * 2 + 4 = o at *
    generalize hr : p * 4 = r at *
    have hop : pv pb (some p) = .pointer (some ⟨pb, r, none⟩) := by unfold pv; rw [← hr]; rfl
    have HOP := Lib.hid hop
    clear ho hr hop hs hp
    go_enter Try.func31, Try.ntmps31
    go_wp2
    go_end0
    refine ⟨rfl, ?_, ?_⟩
    · have := MM.out; rw [HOP.out] at this; exact this
    · have := OO.out; rw [HOP.out] at this; exact this
  | some q =>
    have hqm := hq q hl
    have c4 := h.c_nx hqm; have f4 := h.f_p (j := q * 4 + 3) (by omega)
    obtain ⟨vn, en⟩ := pv_ptr pb (L.nx q)
    rw [en] at c4
    have M1 := ((h.set_ah p (L.la s)).set_nx q (some p)).set_la s (some p)
    have O1 := ((o0.set (p := ⟨pb, p * 4 + 2, none⟩) (.inl (.inr rfl)) (pv pb (L.la s))).set (p := ⟨pb, q * 4 + 3, none⟩) (.inl (.inr rfl)) (pv pb (some p))).set (p := ⟨b, s * 2 + 4 + 1, none⟩) (.inl (.inl rfl)) (pv pb (some p))
    have e1 : L.join s p = ⟨L.fi, upd L.la s (some p), upd L.ah p (some q), upd L.nx q (some p)⟩ := by unfold Lks.join; rw [hl]; rfl
    rw [e1]
    rw [hl] at c1 M1 O1
    have MM := Lib.hid M1; have OO := Lib.hid O1
    replace c1 : w.cell? ⟨b, s * 2 + 4 + 1, none⟩ = some (.pointer (some ⟨pb, q * 4, none⟩)) := c1
    have hne : ¬ p * 4 + 2 = q * 4 + 3 := by omega
    have hne' : ¬ q * 4 + 3 = p * 4 + 2 := by omega
    have hqq : pv pb (some q) = .pointer (some ⟨pb, q * 4, none⟩) := rfl
    clear h M1 O1 e1 hl ea ef en hq o0
    generalize ho : s * 2 + 4 = o at *
    generalize hr : p * 4 = r at *
    generalize hr2 : q * 4 = r2 at *
    have hop : pv pb (some p) = .pointer (some ⟨pb, r, none⟩) := by unfold pv; rw [← hr]; rfl
    have HOP := Lib.hid hop
    have HOQ := Lib.hid hqq
    clear ho hr hr2 hop hqq hs hp hqm
    go_enter Try.func31, Try.ntmps31
    go_wp2
    go_end0
    refine ⟨rfl, ?_, ?_⟩
    · have := MM.out; rw [HOP.out, HOQ.out] at this; exact this
    · have := OO.out; rw [HOP.out, HOQ.out] at this; exact this
end Go.Proofs.Ytkgcnmloojnblaa.wlS

namespace Go.Proofs.Ytkgcnmloojnblaa.wlS
open Go.RowKit Go.Shelf Go.Lib Go.Proofs.Ytkgcnmloojnblaa.nb Go.Proofs.Ytkgcnmloojnblaa.wh Go.Proofs.Ytkgcnmloojnblaa.wf
set_option linter.unusedVariables false

set_option maxHeartbeats 8000000 in
theorem leave00 {b pb cb mb most : Nat} {now n : Int} {T : Nat → Tm} {L : Lks} {w : World} (s p : Nat) (ha : L.ah p = none) (hx : L.nx p = none) (h : Mem w b pb cb mb most now n T L) (hs : s < 288) (hp : p < most) :
    Calls Try.prog 53 #[.pointer (some ⟨b, s * 2 + 4, none⟩), .pointer (some ⟨pb, p * 4, none⟩)] w fun e w' => e = .returned (.tuple #[]) ∧ Mem w' b pb cb mb most now n T (L.leave s p) ∧ Only (WF b pb) w w' := by
  have n1 : ¬ b = pb := h.ne
  have n2 : ¬ pb = b := fun e => n1 e.symm
  have c1 := h.c_ah hp; have c2 := h.c_nx hp
  have f1 := h.f_p (j := p * 4 + 2) (by omega); have f2 := h.f_p (j := p * 4 + 3) (by omega)
  rw [ha] at c1; rw [hx] at c2
  replace c1 : w.cell? ⟨pb, p * 4 + 2, none⟩ = some (.pointer none) := c1
  replace c2 : w.cell? ⟨pb, p * 4 + 3, none⟩ = some (.pointer none) := c2
  have o0 : Only (WF b pb) w w := Only.refl _ _
  have c3 := h.c_fi hs; have f3 := h.f_w (j := s * 2 + 4) (by omega)
  obtain ⟨v3, e3⟩ := pv_ptr pb (L.fi s)
  rw [e3] at c3
  have c4 := h.c_la hs; have f4 := h.f_w (j := s * 2 + 4 + 1) (by omega)
  obtain ⟨v4, e4⟩ := pv_ptr pb (L.la s)
  rw [e4] at c4
  have M1 := (((h.set_fi s (none)).set_la s (none)).set_ah p none).set_nx p none
  have O1 := (((o0.set (p := ⟨b, s * 2 + 4, none⟩) (.inl (.inl rfl)) (pv pb (none))).set (p := ⟨b, s * 2 + 4 + 1, none⟩) (.inl (.inl rfl)) (pv pb (none))).set (p := ⟨pb, p * 4 + 2, none⟩) (.inl (.inr rfl)) (pv pb none)).set (p := ⟨pb, p * 4 + 3, none⟩) (.inl (.inr rfl)) (pv pb none)
  have e1 : L.leave s p = ⟨upd L.fi s (none), upd L.la s (none), upd L.ah p none, upd L.nx p none⟩ := by unfold Lks.leave; rw [ha, hx]; rfl
  rw [e1]
  have MM := Lib.hid M1; have OO := Lib.hid O1
  have x0 : ¬ p * 4 + 2 = p * 4 + 3 := by omega
  have x0' : ¬ p * 4 + 3 = p * 4 + 2 := by omega
  have P0 : pv pb none = .pointer none := rfl
  clear h M1 O1 e1 e3 e4 ha hx o0
  generalize s * 2 + 4 = o at *
  generalize p * 4 = k at *
  have P0' := Lib.hid P0
  clear P0 hs hp
  go_enter Try.func53, Try.ntmps53
  go_wp2
  go_end0
  have R1 := MM.out; have R2 := OO.out
  simp only [P0'.out] at R1 R2
  refine ⟨rfl, ?_, ?_⟩
  · exact R1
  · exact R2
set_option maxHeartbeats 8000000 in
theorem leave01 {b pb cb mb most : Nat} {now n : Int} {T : Nat → Tm} {L : Lks} {w : World} (s p : Nat) (r : Nat) (hr : r < most) (hrp : r ≠ p) (ha : L.ah p = none) (hx : L.nx p = some r) (h : Mem w b pb cb mb most now n T L) (hs : s < 288) (hp : p < most) :
    Calls Try.prog 53 #[.pointer (some ⟨b, s * 2 + 4, none⟩), .pointer (some ⟨pb, p * 4, none⟩)] w fun e w' => e = .returned (.tuple #[]) ∧ Mem w' b pb cb mb most now n T (L.leave s p) ∧ Only (WF b pb) w w' := by
  have n1 : ¬ b = pb := h.ne
  have n2 : ¬ pb = b := fun e => n1 e.symm
  have c1 := h.c_ah hp; have c2 := h.c_nx hp
  have f1 := h.f_p (j := p * 4 + 2) (by omega); have f2 := h.f_p (j := p * 4 + 3) (by omega)
  rw [ha] at c1; rw [hx] at c2
  replace c1 : w.cell? ⟨pb, p * 4 + 2, none⟩ = some (.pointer none) := c1
  replace c2 : w.cell? ⟨pb, p * 4 + 3, none⟩ = some (.pointer (some ⟨pb, r * 4, none⟩)) := c2
  have o0 : Only (WF b pb) w w := Only.refl _ _
  have c3 := h.c_fi hs; have f3 := h.f_w (j := s * 2 + 4) (by omega)
  obtain ⟨v3, e3⟩ := pv_ptr pb (L.fi s)
  rw [e3] at c3
  have c4 := h.c_ah hr; have f4 := h.f_p (j := r * 4 + 2) (by omega)
  obtain ⟨v4, e4⟩ := pv_ptr pb (L.ah r)
  rw [e4] at c4
  have M1 := (((h.set_fi s (some r)).set_ah r (none)).set_ah p none).set_nx p none
  have O1 := (((o0.set (p := ⟨b, s * 2 + 4, none⟩) (.inl (.inl rfl)) (pv pb (some r))).set (p := ⟨pb, r * 4 + 2, none⟩) (.inl (.inr rfl)) (pv pb (none))).set (p := ⟨pb, p * 4 + 2, none⟩) (.inl (.inr rfl)) (pv pb none)).set (p := ⟨pb, p * 4 + 3, none⟩) (.inl (.inr rfl)) (pv pb none)
  have e1 : L.leave s p = ⟨upd L.fi s (some r), L.la, upd (upd L.ah r (none)) p none, upd L.nx p none⟩ := by unfold Lks.leave; rw [ha, hx]; rfl
  rw [e1]
  have MM := Lib.hid M1; have OO := Lib.hid O1
  have x0 : ¬ p * 4 + 2 = p * 4 + 3 := by omega
  have x0' : ¬ p * 4 + 3 = p * 4 + 2 := by omega
  have y1 : ¬ p * 4 + 2 = r * 4 + 2 := by omega
  have y2 : ¬ r * 4 + 2 = p * 4 + 2 := by omega
  have y3 : ¬ p * 4 + 3 = r * 4 + 2 := by omega
  have y4 : ¬ r * 4 + 2 = p * 4 + 3 := by omega
  have P0 : pv pb none = .pointer none := rfl
  have PR : pv pb (some r) = .pointer (some ⟨pb, r * 4, none⟩) := rfl
  clear h M1 O1 e1 e3 e4 ha hx o0
  generalize s * 2 + 4 = o at *
  generalize p * 4 = k at *
  generalize r * 4 = k2 at *
  have P0' := Lib.hid P0
  have PR' := Lib.hid PR
  clear P0 hs hp PR hr hrp
  go_enter Try.func53, Try.ntmps53
  go_upto_region 5 with fail
  go_region
  go_wp2
  go_end0
  have R1 := MM.out; have R2 := OO.out
  simp only [P0'.out, PR'.out] at R1 R2
  refine ⟨rfl, ?_, ?_⟩
  · exact R1.up (up_dr (Below.refl _ _))
  · exact R2.drew
set_option maxHeartbeats 8000000 in
theorem leave10 {b pb cb mb most : Nat} {now n : Int} {T : Nat → Tm} {L : Lks} {w : World} (s p : Nat) (q : Nat) (hq : q < most) (hqp : q ≠ p) (ha : L.ah p = some q) (hx : L.nx p = none) (h : Mem w b pb cb mb most now n T L) (hs : s < 288) (hp : p < most) :
    Calls Try.prog 53 #[.pointer (some ⟨b, s * 2 + 4, none⟩), .pointer (some ⟨pb, p * 4, none⟩)] w fun e w' => e = .returned (.tuple #[]) ∧ Mem w' b pb cb mb most now n T (L.leave s p) ∧ Only (WF b pb) w w' := by
  have n1 : ¬ b = pb := h.ne
  have n2 : ¬ pb = b := fun e => n1 e.symm
  have c1 := h.c_ah hp; have c2 := h.c_nx hp
  have f1 := h.f_p (j := p * 4 + 2) (by omega); have f2 := h.f_p (j := p * 4 + 3) (by omega)
  rw [ha] at c1; rw [hx] at c2
  replace c1 : w.cell? ⟨pb, p * 4 + 2, none⟩ = some (.pointer (some ⟨pb, q * 4, none⟩)) := c1
  replace c2 : w.cell? ⟨pb, p * 4 + 3, none⟩ = some (.pointer none) := c2
  have o0 : Only (WF b pb) w w := Only.refl _ _
  have c3 := h.c_nx hq; have f3 := h.f_p (j := q * 4 + 3) (by omega)
  obtain ⟨v3, e3⟩ := pv_ptr pb (L.nx q)
  rw [e3] at c3
  have c4 := h.c_la hs; have f4 := h.f_w (j := s * 2 + 4 + 1) (by omega)
  obtain ⟨v4, e4⟩ := pv_ptr pb (L.la s)
  rw [e4] at c4
  have M1 := (((h.set_nx q (none)).set_la s (some q)).set_ah p none).set_nx p none
  have O1 := (((o0.set (p := ⟨pb, q * 4 + 3, none⟩) (.inl (.inr rfl)) (pv pb (none))).set (p := ⟨b, s * 2 + 4 + 1, none⟩) (.inl (.inl rfl)) (pv pb (some q))).set (p := ⟨pb, p * 4 + 2, none⟩) (.inl (.inr rfl)) (pv pb none)).set (p := ⟨pb, p * 4 + 3, none⟩) (.inl (.inr rfl)) (pv pb none)
  have e1 : L.leave s p = ⟨L.fi, upd L.la s (some q), upd L.ah p none, upd (upd L.nx q (none)) p none⟩ := by unfold Lks.leave; rw [ha, hx]; rfl
  rw [e1]
  have MM := Lib.hid M1; have OO := Lib.hid O1
  have x0 : ¬ p * 4 + 2 = p * 4 + 3 := by omega
  have x0' : ¬ p * 4 + 3 = p * 4 + 2 := by omega
  have x1 : ¬ p * 4 + 2 = q * 4 + 3 := by omega
  have x2 : ¬ q * 4 + 3 = p * 4 + 2 := by omega
  have x3 : ¬ p * 4 + 3 = q * 4 + 3 := by omega
  have x4 : ¬ q * 4 + 3 = p * 4 + 3 := by omega
  have P0 : pv pb none = .pointer none := rfl
  have PQ : pv pb (some q) = .pointer (some ⟨pb, q * 4, none⟩) := rfl
  clear h M1 O1 e1 e3 e4 ha hx o0
  generalize s * 2 + 4 = o at *
  generalize p * 4 = k at *
  generalize q * 4 = k1 at *
  have P0' := Lib.hid P0
  have PQ' := Lib.hid PQ
  clear P0 hs hp PQ hq hqp
  go_enter Try.func53, Try.ntmps53
  go_upto_region 2 with fail
  go_region
  go_wp2
  go_end0
  have R1 := MM.out; have R2 := OO.out
  simp only [P0'.out, PQ'.out] at R1 R2
  refine ⟨rfl, ?_, ?_⟩
  · exact R1.up (up_dr (Below.refl _ _))
  · exact R2.drew
set_option maxHeartbeats 8000000 in
theorem leave11 {b pb cb mb most : Nat} {now n : Int} {T : Nat → Tm} {L : Lks} {w : World} (s p : Nat) (q : Nat) (hq : q < most) (hqp : q ≠ p) (r : Nat) (hr : r < most) (hrp : r ≠ p) (ha : L.ah p = some q) (hx : L.nx p = some r) (h : Mem w b pb cb mb most now n T L) (hs : s < 288) (hp : p < most) :
    Calls Try.prog 53 #[.pointer (some ⟨b, s * 2 + 4, none⟩), .pointer (some ⟨pb, p * 4, none⟩)] w fun e w' => e = .returned (.tuple #[]) ∧ Mem w' b pb cb mb most now n T (L.leave s p) ∧ Only (WF b pb) w w' := by
  have n1 : ¬ b = pb := h.ne
  have n2 : ¬ pb = b := fun e => n1 e.symm
  have c1 := h.c_ah hp; have c2 := h.c_nx hp
  have f1 := h.f_p (j := p * 4 + 2) (by omega); have f2 := h.f_p (j := p * 4 + 3) (by omega)
  rw [ha] at c1; rw [hx] at c2
  replace c1 : w.cell? ⟨pb, p * 4 + 2, none⟩ = some (.pointer (some ⟨pb, q * 4, none⟩)) := c1
  replace c2 : w.cell? ⟨pb, p * 4 + 3, none⟩ = some (.pointer (some ⟨pb, r * 4, none⟩)) := c2
  have o0 : Only (WF b pb) w w := Only.refl _ _
  have c3 := h.c_nx hq; have f3 := h.f_p (j := q * 4 + 3) (by omega)
  obtain ⟨v3, e3⟩ := pv_ptr pb (L.nx q)
  rw [e3] at c3
  have c4 := h.c_ah hr; have f4 := h.f_p (j := r * 4 + 2) (by omega)
  obtain ⟨v4, e4⟩ := pv_ptr pb (L.ah r)
  rw [e4] at c4
  have M1 := (((h.set_nx q (some r)).set_ah r (some q)).set_ah p none).set_nx p none
  have O1 := (((o0.set (p := ⟨pb, q * 4 + 3, none⟩) (.inl (.inr rfl)) (pv pb (some r))).set (p := ⟨pb, r * 4 + 2, none⟩) (.inl (.inr rfl)) (pv pb (some q))).set (p := ⟨pb, p * 4 + 2, none⟩) (.inl (.inr rfl)) (pv pb none)).set (p := ⟨pb, p * 4 + 3, none⟩) (.inl (.inr rfl)) (pv pb none)
  have e1 : L.leave s p = ⟨L.fi, L.la, upd (upd L.ah r (some q)) p none, upd (upd L.nx q (some r)) p none⟩ := by unfold Lks.leave; rw [ha, hx]; rfl
  rw [e1]
  have MM := Lib.hid M1; have OO := Lib.hid O1
  have x0 : ¬ p * 4 + 2 = p * 4 + 3 := by omega
  have x0' : ¬ p * 4 + 3 = p * 4 + 2 := by omega
  have x1 : ¬ p * 4 + 2 = q * 4 + 3 := by omega
  have x2 : ¬ q * 4 + 3 = p * 4 + 2 := by omega
  have x3 : ¬ p * 4 + 3 = q * 4 + 3 := by omega
  have x4 : ¬ q * 4 + 3 = p * 4 + 3 := by omega
  have y1 : ¬ p * 4 + 2 = r * 4 + 2 := by omega
  have y2 : ¬ r * 4 + 2 = p * 4 + 2 := by omega
  have y3 : ¬ p * 4 + 3 = r * 4 + 2 := by omega
  have y4 : ¬ r * 4 + 2 = p * 4 + 3 := by omega
  have z1 : ¬ q * 4 + 3 = r * 4 + 2 := by omega
  have z2 : ¬ r * 4 + 2 = q * 4 + 3 := by omega
  have P0 : pv pb none = .pointer none := rfl
  have PQ : pv pb (some q) = .pointer (some ⟨pb, q * 4, none⟩) := rfl
  have PR : pv pb (some r) = .pointer (some ⟨pb, r * 4, none⟩) := rfl
  clear h M1 O1 e1 e3 e4 ha hx o0
  generalize s * 2 + 4 = o at *
  generalize p * 4 = k at *
  generalize q * 4 = k1 at *
  generalize r * 4 = k2 at *
  have P0' := Lib.hid P0
  have PQ' := Lib.hid PQ
  have PR' := Lib.hid PR
  clear P0 hs hp PQ hq hqp PR hr hrp
  go_enter Try.func53, Try.ntmps53
  go_upto_region 2 with fail
  go_region
  go_upto_region 5 with fail
  go_region
  go_wp2
  go_end0
  have R1 := MM.out; have R2 := OO.out
  simp only [P0'.out, PQ'.out, PR'.out] at R1 R2
  refine ⟨rfl, ?_, ?_⟩
  · exact R1.up (up_dr (up_dr (Below.refl _ _)))
  · exact R2.drew.drew
theorem leaveC {b pb cb mb most : Nat} {now n : Int} {T : Nat → Tm} {L : Lks} {w : World} {S : Nat → List Nat} {s p : Nat} {A B : List Nat} (h : Mem w b pb cb mb most now n T L) (hL : LinkOk S L) (hm : ∀ s x, x ∈ S s → x < most) (hs : s < 288) (e : S s = A ++ p :: B) :
    Calls Try.prog 53 #[.pointer (some ⟨b, s * 2 + 4, none⟩), .pointer (some ⟨pb, p * 4, none⟩)] w fun e w' => e = .returned (.tuple #[]) ∧ Mem w' b pb cb mb most now n T (L.leave s p) ∧ Only (WF b pb) w w' := by
  obtain ⟨ea, ex⟩ := hL.at_ s A p B e
  obtain ⟨pA, pB, _⟩ := nodup_mid (e ▸ hL.nodup s)
  have hp : p < most := hm s p (mid_mem e)
  have inA : ∀ q, q ∈ A → q < most := fun q hq => hm s q (by rw [e]; simp [hq])
  have inB : ∀ q, q ∈ B → q < most := fun q hq => hm s q (by rw [e]; simp [hq])
  cases ha : A.getLast? with
  | none =>
    cases hx : B.head? with
    | none => exact leave00 s p (ea.trans ha) (ex.trans hx) h hs hp
    | some r => exact leave01 s p r (inB r (List.mem_of_head? hx)) (fun e => pB (e ▸ List.mem_of_head? hx)) (ea.trans ha) (ex.trans hx) h hs hp
  | some q =>
    cases hx : B.head? with
    | none => exact leave10 s p q (inA q (last_mem ha)) (fun e => pA (e ▸ last_mem ha)) (ea.trans ha) (ex.trans hx) h hs hp
    | some r => exact leave11 s p q (inA q (last_mem ha)) (fun e => pA (e ▸ last_mem ha)) r (inB r (List.mem_of_head? hx)) (fun e => pB (e ▸ List.mem_of_head? hx)) (ea.trans ha) (ex.trans hx) h hs hp
end Go.Proofs.Ytkgcnmloojnblaa.wlS

namespace Go.Proofs.Ytkgcnmloojnblaa.wf
open Go.Proofs.Ytkgcnmloojnblaa.wh
set_option linter.unusedVariables false

def tAt (ds : List Tm) (k : Nat) : Int := (ds.getD k d0).2
theorem getD_app_l {A B : List Tm} {k : Nat} (h : k < A.length) : (A ++ B).getD k d0 = A.getD k d0 := by
  rw [List.getD_eq_getElem?_getD, List.getD_eq_getElem?_getD, List.getElem?_append_left h]
theorem getD_app_r {A B : List Tm} {k : Nat} (h : A.length ≤ k) : (A ++ B).getD k d0 = B.getD (k - A.length) d0 := by
  rw [List.getD_eq_getElem?_getD, List.getD_eq_getElem?_getD, List.getElem?_append_right h]
section
variable {P L R S : List Tm} {a m b : Nat}
theorem tAt_L (ha : a = P.length) (hm : m = a + L.length) {k : Nat} (h1 : a ≤ k) (h2 : k < m) : tAt (P ++ (L ++ (R ++ S))) k = tAt L (k - a) := by
  unfold tAt
  rw [getD_app_r (by omega), getD_app_l (by omega), ← ha]
theorem tAt_R (ha : a = P.length) (hm : m = a + L.length) (hb : b = m + R.length) {k : Nat} (h1 : m ≤ k) (h2 : k < b) : tAt (P ++ (L ++ (R ++ S))) k = tAt R (k - m) := by
  unfold tAt
  rw [getD_app_r (by omega), getD_app_r (by omega), getD_app_l (by omega), ← ha, show k - a - L.length = k - m by omega]
theorem tAt_up {L : List Tm} (h : Up2 L) {i j : Nat} (hij : i ≤ j) (hj : j < L.length) : tAt L i ≤ tAt L j := by
  unfold tAt
  rw [List.getD_eq_getElem?_getD, List.getD_eq_getElem?_getD, List.getElem?_eq_getElem hj, List.getElem?_eq_getElem (show i < L.length by omega)]
  exact up2_lt h (List.getElem?_eq_getElem (by omega)) (List.getElem?_eq_getElem hj) hij
theorem mem_tAt {L : List Tm} {x : Tm} (h : x ∈ L) : ∃ i, i < L.length ∧ tAt L i = x.2 := by
  obtain ⟨i, hi, rfl⟩ := List.mem_iff_getElem.1 h
  exact ⟨i, hi, by unfold tAt; rw [List.getD_eq_getElem?_getD, List.getElem?_eq_getElem hi]; rfl⟩
theorem mem_take_tAt {L : List Tm} {x : Tm} {n : Nat} (h : x ∈ L.take n) : ∃ i, i < L.length ∧ i < n ∧ tAt L i = x.2 := by
  obtain ⟨i, hi, e⟩ := mem_tAt h
  rw [List.length_take] at hi
  refine ⟨i, by omega, by omega, ?_⟩
  rw [← e]; unfold tAt
  rw [List.getD_eq_getElem?_getD, List.getD_eq_getElem?_getD, List.getElem?_take_of_lt (by omega)]
theorem mem_drop_tAt {L : List Tm} {x : Tm} {n : Nat} (h : x ∈ L.drop n) : ∃ i, i < L.length ∧ n ≤ i ∧ tAt L i = x.2 := by
  obtain ⟨i, hi, e⟩ := mem_tAt h
  rw [List.length_drop] at hi
  refine ⟨n + i, by omega, by omega, ?_⟩
  rw [← e]; unfold tAt
  rw [List.getD_eq_getElem?_getD, List.getD_eq_getElem?_getD, List.getElem?_drop]
theorem split_good {mid s e : Nat} (ha : a = P.length) (hm : m = a + L.length) (hb : b = m + R.length) (uL : Up2 L) (uR : Up2 R) (h1 : a ≤ s) (h2 : s ≤ m) (h3 : s ≤ mid) (he : e = mid + m - s) (h4 : e ≤ b)
    (hlt : s < m → s < mid → tAt (P ++ (L ++ (R ++ S))) (e - 1) < tAt (P ++ (L ++ (R ++ S))) s) (hle : a < s → e < b → tAt (P ++ (L ++ (R ++ S))) (s - 1) ≤ tAt (P ++ (L ++ (R ++ S))) e) :
    (∀ x ∈ R.take (e - m), ∀ y ∈ L.drop (s - a), x.2 < y.2) ∧ ∀ x ∈ L.take (s - a), ∀ y ∈ R.drop (e - m), x.2 ≤ y.2 := by
  refine ⟨fun x hx y hy => ?_, fun x hx y hy => ?_⟩
  · obtain ⟨i, i1, i2, i3⟩ := mem_take_tAt hx
    obtain ⟨j, j1, j2, j3⟩ := mem_drop_tAt hy
    have h := hlt (by omega) (by omega)
    rw [tAt_R ha hm hb (by omega) (by omega), tAt_L ha hm (by omega) (by omega)] at h
    have q1 := tAt_up uR (show i ≤ e - 1 - m by omega) (by omega)
    have q2 := tAt_up uL (show s - a ≤ j by omega) (by omega)
    omega
  · obtain ⟨i, i1, i2, i3⟩ := mem_take_tAt hx
    obtain ⟨j, j1, j2, j3⟩ := mem_drop_tAt hy
    have h := hle (by omega) (by omega)
    rw [tAt_L ha hm (by omega) (by omega), tAt_R ha hm hb (by omega) (by omega)] at h
    have q1 := tAt_up uL (show i ≤ s - 1 - a by omega) (by omega)
    have q2 := tAt_up uR (show e - m ≤ j by omega) (by omega)
    omega
theorem less_on {p c c' : Nat} (ha : a = P.length) (hm : m = a + L.length) (hb : b = m + R.length) (uL : Up2 L) (uR : Up2 R) (h1 : a ≤ c) (h2 : c ≤ c') (h3 : c' < m) (h4 : m ≤ p - c') (h5 : p - c < b)
    (h : tAt (P ++ (L ++ (R ++ S))) (p - c) < tAt (P ++ (L ++ (R ++ S))) c) : tAt (P ++ (L ++ (R ++ S))) (p - c') < tAt (P ++ (L ++ (R ++ S))) c' := by
  rw [tAt_R ha hm hb (by omega) (by omega), tAt_L ha hm (by omega) (by omega)] at h ⊢
  have q1 := tAt_up uL (show c - a ≤ c' - a by omega) (by omega)
  have q2 := tAt_up uR (show p - c' - m ≤ p - c - m by omega) (by omega)
  omega
theorem up2_take {L : List Tm} (h : Up2 L) (n : Nat) : Up2 (L.take n) := List.Pairwise.sublist (List.take_sublist ..) h
theorem up2_drop {L : List Tm} (h : Up2 L) (n : Nat) : Up2 (L.drop n) := List.Pairwise.sublist (List.drop_sublist ..) h
end
end Go.Proofs.Ytkgcnmloojnblaa.wf

namespace Go.Proofs.Ytkgcnmloojnblaa.wf
open Go.Proofs.Ytkgcnmloojnblaa.wh
set_option linter.unusedVariables false

def Bks (k : Nat) (cs : List (List Tm)) : Prop := ∀ c ∈ cs, Up2 c ∧ c.length = k
theorem Bks.nil_ (k : Nat) : Bks k [] := fun c h => absurd h List.not_mem_nil
theorem Bks.snoc {k : Nat} {cs : List (List Tm)} {c : List Tm} (h : Bks k cs) (hc : Up2 c) (hl : c.length = k) : Bks k (cs ++ [c]) := fun x hx => by
  rcases List.mem_append.1 hx with hx | hx
  · exact h x hx
  · rw [List.mem_singleton.1 hx]; exact ⟨hc, hl⟩
theorem Bks.tl {k : Nat} {c : List Tm} {cs : List (List Tm)} (h : Bks k (c :: cs)) : Bks k cs := fun x hx => h x (List.mem_cons_of_mem _ hx)
theorem Bks.hd {k : Nat} {c : List Tm} {cs : List (List Tm)} (h : Bks k (c :: cs)) : Up2 c ∧ c.length = k := h c (List.mem_cons_self ..)
theorem Bks.len {k : Nat} : ∀ {cs : List (List Tm)}, Bks k cs → cs.flatten.length = k * cs.length
  | [], _ => by simp
  | c :: cs, h => by rw [List.flatten_cons, List.length_append, h.tl.len, h.hd.2, List.length_cons, Nat.mul_succ]; omega
theorem flat_snoc (cs : List (List Tm)) (c : List Tm) : (cs ++ [c]).flatten = cs.flatten ++ c := by simp
structure Lay (k : Nat) (ds ds0 : List Tm) (cs : List (List Tm)) (tl : List Tm) : Prop where
  all : ds = cs.flatten ++ tl
  bk : Bks k cs
  up : Up2 tl
  lt : tl.length < k
  ft : ∀ t, ft t ds = ft t ds0
theorem Lay.done {k : Nat} {ds ds0 : List Tm} {cs : List (List Tm)} {tl : List Tm} (h : Lay k ds ds0 cs tl) (hk : ds.length ≤ k) : St ds ds0 := by
  refine ⟨?_, h.ft⟩
  have e := h.all
  rcases cs with _ | ⟨c, cs⟩
  · rw [e]; simpa using h.up
  · have l := congrArg List.length e
    have hc := h.bk.hd
    rw [List.flatten_cons, List.length_append, List.length_append] at l
    have h1 : cs.flatten.length = 0 := by omega
    have h2 : tl.length = 0 := by omega
    rw [e, List.flatten_cons, List.eq_nil_of_length_eq_zero h1, List.eq_nil_of_length_eq_zero h2]
    simpa using hc.1
structure Mid (k : Nat) (ds ds0 : List Tm) (es cs : List (List Tm)) (tl : List Tm) : Prop where
  all : ds = es.flatten ++ (cs.flatten ++ tl)
  be : Bks (2 * k) es
  bk : Bks k cs
  up : Up2 tl
  lt : tl.length < k
  ft : ∀ t, ft t ds = ft t ds0
theorem Lay.mid {k : Nat} {ds ds0 : List Tm} {cs : List (List Tm)} {tl : List Tm} (h : Lay k ds ds0 cs tl) : Mid k ds ds0 [] cs tl := ⟨by simpa using h.all, Bks.nil_ _, h.bk, h.up, h.lt, h.ft⟩
theorem Mid.step {k : Nat} {ds ds0 : List Tm} {es cs : List (List Tm)} {tl L R M : List Tm} (h : Mid k ds ds0 es (L :: R :: cs) tl) (hM : St M (L ++ R)) : Mid k (es.flatten ++ (M ++ (cs.flatten ++ tl))) ds0 (es ++ [M]) cs tl := by
  have h1 := h.bk.hd; have h2 := h.bk.tl.hd
  refine ⟨by rw [flat_snoc]; simp, h.be.snoc hM.1 (by rw [hM.len]; simp; omega), h.bk.tl.tl, h.up, h.lt, fun t => ?_⟩
  rw [← h.ft t, h.all]
  simp only [ft_app, List.flatten_cons, hM.2 t, List.append_assoc]
theorem Mid.last {k : Nat} {ds ds0 : List Tm} {es : List (List Tm)} {tl L M : List Tm} (h : Mid k ds ds0 es [L] tl) (hM : St M (L ++ tl)) : Lay (2 * k) (es.flatten ++ M) ds0 es M := by
  have h1 := h.bk.hd
  have hl := h.lt
  refine ⟨rfl, h.be, hM.1, by rw [hM.len]; simp; omega, fun t => ?_⟩
  rw [← h.ft t, h.all]
  simp only [ft_app, List.flatten_cons, List.flatten_nil, List.append_nil, hM.2 t]
theorem Mid.end_ {k : Nat} {ds ds0 : List Tm} {es cs : List (List Tm)} {tl : List Tm} (h : Mid k ds ds0 es cs tl) (hk : (cs.flatten ++ tl).length ≤ k) (h0 : 0 < k) : Lay (2 * k) ds ds0 es (cs.flatten ++ tl) := by
  have hl := h.lt
  refine ⟨h.all, h.be, ?_, by omega, h.ft⟩
  rcases cs with _ | ⟨c, cs⟩
  · simpa using h.up
  · have hc := h.bk.hd
    rw [List.flatten_cons, List.length_append, List.length_append] at hk
    have h1 : cs.flatten.length = 0 := by omega
    have h2 : tl.length = 0 := by omega
    rw [List.flatten_cons, List.eq_nil_of_length_eq_zero h1, List.eq_nil_of_length_eq_zero h2]
    simpa using hc.1
end Go.Proofs.Ytkgcnmloojnblaa.wf
