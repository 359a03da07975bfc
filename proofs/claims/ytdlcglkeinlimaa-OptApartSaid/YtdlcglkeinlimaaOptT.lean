/- The options of segments: mathematics: what is turned is read as what was there, turned; turned back, it is what it was. Condition: none. -/
import Derived.Test.YtdlcglkeinlimaaOptM
namespace Go.Proofs.Ytdlcglkeinlimaa.om
open Go.Proofs.Ytdlcglkeinlimaa.sm Go.Proofs.Ytdlcglkeinlimaa.nb
set_option linter.unusedVariables false

/-- bytes that are options, and which -/
inductive Ps : List UInt8 → List Item → Prop
  | nil : Ps [] []
  | stop (k : UInt8) (t : List UInt8) : k.toNat = 0 → Ps (k :: t) []
  | pad (k : UInt8) (t : List UInt8) (its : List Item) : k.toNat = 1 → Ps t its → Ps (k :: t) its
  | item (k n : UInt8) (p t : List UInt8) (its : List Item) : 2 ≤ k.toNat → lenOk k.toNat n.toNat = true → n.toNat = p.length + 2 → Ps t its → Ps (k :: n :: (p ++ t)) ((k.toNat, p) :: its)
theorem parse_of {l : List UInt8} {its : List Item} (h : Ps l its) : parse l = some its := by
  induction h with
  | nil => exact parse_nil
  | stop k t h => exact parse_0 k t h
  | pad k t its h _ ih => rw [parse_1 k t h, ih]
  | item k n p t its h1 h2 h3 _ ih => rw [parse_item k n p t h1 h2 h3, ih]; rfl
theorem ps_of : ∀ (m : Nat) (l : List UInt8) (its : List Item), l.length ≤ m → parse l = some its → Ps l its
  | _, [], its, _, h => by rw [parse_nil] at h; cases h; exact .nil
  | 0, k :: t, its, hm, h => by simp at hm
  | m + 1, k :: t, its, hm, h => by
    by_cases h0 : k.toNat = 0
    · rw [parse_0 k t h0] at h; cases h; exact .stop k t h0
    by_cases h1 : k.toNat = 1
    · rw [parse_1 k t h1] at h; exact .pad k t its h1 (ps_of m t its (by simp at hm; omega) h)
    cases t with
    | nil => rw [parse_one k h0 h1] at h; cases h
    | cons n u =>
      by_cases h2 : lenOk k.toNat n.toNat = true ∧ n.toNat ≤ u.length + 2
      · rw [parse_yes k n u h0 h1 h2.1 h2.2] at h
        have h22 := lenOk_two h2.1
        have hl : n.toNat = (u.take (n.toNat - 2)).length + 2 := by rw [List.length_take]; omega
        cases hp : parse (u.drop (n.toNat - 2)) with
        | none => rw [hp] at h; cases h
        | some r =>
          rw [hp] at h; cases h
          have := ps_of m (u.drop (n.toNat - 2)) r (by rw [List.length_drop]; simp at hm; omega) hp
          have e := Ps.item k n _ _ r (by omega) h2.1 hl this
          rw [List.take_append_drop] at e
          exact e
      · rw [parse_no k n u h0 h1 h2] at h; cases h
theorem ps_iff {l : List UInt8} {its : List Item} : parse l = some its ↔ Ps l its := ⟨fun h => ps_of _ l its (Nat.le_refl _) h, parse_of⟩

def addM (a b : Nat) : Nat := (a + b) % M32
theorem addM_lt (a b : Nat) : addM a b < M32 := Nat.mod_lt _ (by decide)
/-- what becomes of an option's bytes -/
def tpay (b v e k : Nat) (p : List UInt8) : List UInt8 :=
  if k = 8 then B32 (addM (qd p 0).toNat v) ++ B32 (addM (qd p 4).toNat e)
  else if k = 5 then flat ((blocks p).map fun x => (addM x.1 b, addM x.2 b)) else p
abbrev tit (b v e : Nat) (x : Item) : Item := (x.1, tpay b v e x.1 x.2)
def turnL (b v e : Nat) : List UInt8 → List UInt8
  | [] => []
  | k :: t =>
    if k.toNat = 0 then k :: t else if k.toNat = 1 then k :: turnL b v e t else
    match t with
    | [] => [k]
    | n :: u => if 2 ≤ n.toNat then k :: n :: (tpay b v e k.toNat (u.take (n.toNat - 2)) ++ turnL b v e (u.drop (n.toNat - 2))) else k :: n :: u
termination_by l => l.length
decreasing_by
  all_goals (simp; try omega)
section
variable {b v e : Nat}
theorem turn_nil : turnL b v e [] = [] := by rw [turnL]
theorem turn_0 (k : UInt8) (t : List UInt8) (h : k.toNat = 0) : turnL b v e (k :: t) = k :: t := by cases t <;> (conv => lhs; rw [turnL, if_pos h])
theorem turn_1 (k : UInt8) (t : List UInt8) (h : k.toNat = 1) : turnL b v e (k :: t) = k :: turnL b v e t := by cases t <;> (conv => lhs; rw [turnL, if_neg (by omega), if_pos h])
theorem turn_item (k n : UInt8) (p t : List UInt8) (h : 2 ≤ k.toNat) (h3 : n.toNat = p.length + 2) : turnL b v e (k :: n :: (p ++ t)) = k :: n :: (tpay b v e k.toNat p ++ turnL b v e t) := by
  rw [turnL, if_neg (by omega), if_neg (by omega), if_pos (by omega), h3, Nat.add_sub_cancel, List.drop_left, List.take_left]
end
theorem len5 {n : Nat} (h : lenOk 5 n = true) : n = 10 ∨ n = 18 ∨ n = 26 ∨ n = 34 := by
  unfold lenOk at h; simp at h; omega
theorem len8 {n : Nat} (h : lenOk 8 n = true) : n = 10 := by
  unfold lenOk at h; simp at h; omega
theorem blocks_len (p : List UInt8) : (blocks p).length = p.length / 8 := by simp [blocks]
theorem tpay_len {b v e k n : Nat} {p : List UInt8} (h : lenOk k n = true) (hn : n = p.length + 2) : (tpay b v e k p).length = p.length := by
  unfold tpay
  split
  · rename_i hk; subst hk
    have := len8 h
    simp [B32]; omega
  · split
    · rename_i hk; subst hk
      have := len5 h
      rw [flat_len, List.length_map, blocks_len]; omega
    · rfl
theorem four (a b c d : UInt8) (t : List UInt8) : B32 (qd (a :: b :: c :: d :: t) 0).toNat = [a, b, c, d] := by
  have ha := c_lt a; have hb := c_lt b; have hc := c_lt c; have hd := c_lt d
  have e : qd (a :: b :: c :: d :: t) 0 = ((a.toNat * 16777216 + b.toNat * 65536 + c.toNat * 256 + d.toNat : Nat) : Int) := by
    show (((a.toNat : Int)) * 256 + (b.toNat : Int)) * 65536 + (((c.toNat : Int)) * 256 + (d.toNat : Int)) = _
    omega
  rw [e, Int.toNat_natCast]
  unfold B32 q3 q2 q1 q0
  rw [show (a.toNat * 16777216 + b.toNat * 65536 + c.toNat * 256 + d.toNat) / 16777216 = a.toNat by omega,
    show (a.toNat * 16777216 + b.toNat * 65536 + c.toNat * 256 + d.toNat) / 65536 % 256 = b.toNat by omega,
    show (a.toNat * 16777216 + b.toNat * 65536 + c.toNat * 256 + d.toNat) / 256 % 256 = c.toNat by omega,
    show (a.toNat * 16777216 + b.toNat * 65536 + c.toNat * 256 + d.toNat) % 256 = d.toNat by omega,
    oct_of, oct_of, oct_of, oct_of]
theorem qd_lt (p : List UInt8) (k : Nat) : (qd p k).toNat < M32 := by have := qd_bd p k; unfold M32; omega
theorem qd_four (p : List UInt8) (a b c d : UInt8) (t : List UInt8) (h : p = a :: b :: c :: d :: t) (k : Nat) : qd p (4 + k) = qd t k := by
  subst h; rw [← qd_drop]; rfl
theorem eight_split (p : List UInt8) (h : 8 ≤ p.length) : ∃ t, p = B32 (qd p 0).toNat ++ (B32 (qd p 4).toNat ++ t) := by
  match p, h with
  | a :: b :: c :: d :: a' :: b' :: c' :: d' :: t, _ =>
    refine ⟨t, ?_⟩
    have e := qd_four _ a b c d (a' :: b' :: c' :: d' :: t) rfl 0
    rw [show 4 + 0 = 4 from rfl] at e
    rw [e, four, four]; rfl
theorem flat_blocks : ∀ (n : Nat) (p : List UInt8), p.length = 8 * n → flat (blocks p) = p
  | 0, p, h => by
    have : p = [] := List.length_eq_zero_iff.1 (by omega)
    subst this; rfl
  | n + 1, p, h => by
    obtain ⟨t, ht⟩ := eight_split p (by omega)
    have hb := blocks_cons ((qd p 0).toNat, (qd p 4).toNat) t ⟨qd_lt _ _, qd_lt _ _⟩
    dsimp only at hb
    rw [← ht] at hb
    have hl : t.length = 8 * n := by
      have := congrArg List.length ht
      simp [B32] at this; omega
    rw [hb]
    show B32 _ ++ (B32 _ ++ flat (blocks t)) = p
    rw [flat_blocks n t hl]
    exact ht.symm
def negM (a : Nat) : Nat := (M32 - a) % M32
theorem add_neg (x a : Nat) (hx : x < M32) (ha : a < M32) : addM (addM x a) (negM a) = x := by
  unfold addM negM M32 at *; omega
theorem map_lt (l : List (Nat × Nat)) (b : Nat) : ∀ x ∈ l.map (fun x : Nat × Nat => (addM x.1 b, addM x.2 b)), x.1 < M32 ∧ x.2 < M32 := by
  intro x hx
  obtain ⟨y, _, rfl⟩ := List.mem_map.1 hx
  exact ⟨addM_lt _ _, addM_lt _ _⟩
theorem blocks_lt (p : List UInt8) : ∀ x ∈ blocks p, x.1 < M32 ∧ x.2 < M32 := by
  intro x hx
  unfold blocks at hx
  obtain ⟨y, _, rfl⟩ := List.mem_map.1 hx
  exact ⟨qd_lt _ _, qd_lt _ _⟩
theorem tpay_back {b v e k n : Nat} {p : List UInt8} (hb : b < M32) (hv : v < M32) (he : e < M32) (h : lenOk k n = true) (hn : n = p.length + 2) :
    tpay (negM b) (negM v) (negM e) k (tpay b v e k p) = p := by
  unfold tpay
  by_cases h8 : k = 8
  · subst h8
    have := len8 h
    simp only [if_true]
    have f2 := qd_B32' (addM (qd p 0).toNat v) (addM (qd p 4).toNat e) (addM_lt _ _) []
    rw [List.append_nil] at f2
    rw [qd_B32 _ (addM_lt _ _), f2, Int.toNat_natCast, Int.toNat_natCast, add_neg _ _ (qd_lt _ _) hv, add_neg _ _ (qd_lt _ _) he]
    obtain ⟨t, ht⟩ := eight_split p (by omega)
    have hl : t = [] := by
      have := congrArg List.length ht
      simp [B32] at this
      exact List.length_eq_zero_iff.1 (by omega)
    subst hl
    rw [List.append_nil] at ht
    exact ht.symm
  · rw [if_neg h8, if_neg h8]
    by_cases h5 : k = 5
    · subst h5
      have := len5 h
      rw [if_pos rfl, if_pos rfl, blocks_flat _ (map_lt _ _), List.map_map]
      rw [show (blocks p).map ((fun x : Nat × Nat => (addM x.1 (negM b), addM x.2 (negM b))) ∘ fun x => (addM x.1 b, addM x.2 b)) = blocks p from by
        conv => rhs; rw [← List.map_id (blocks p)]
        apply List.map_congr_left
        intro x hx
        have := blocks_lt p x hx
        simp [add_neg _ _ this.1 hb, add_neg _ _ this.2 hb]]
      exact flat_blocks (p.length / 8) p (by omega)
    · rw [if_neg h5, if_neg h5]
theorem ps_turn {b v e : Nat} {l : List UInt8} {its : List Item} (h : Ps l its) : Ps (turnL b v e l) (its.map (tit b v e)) := by
  induction h with
  | nil => rw [turn_nil]; exact .nil
  | stop k t h => rw [turn_0 k t h]; exact .stop k t h
  | pad k t its h _ ih => rw [turn_1 k t h]; exact .pad k _ _ h ih
  | item k n p t its h1 h2 h3 _ ih =>
    rw [turn_item k n p t h1 h3]
    exact .item k n _ _ _ h1 h2 (by rw [tpay_len h2 h3]; exact h3) ih
theorem turn_len {b v e : Nat} {l : List UInt8} {its : List Item} (h : Ps l its) : (turnL b v e l).length = l.length := by
  induction h with
  | nil => rw [turn_nil]
  | stop k t h => rw [turn_0 k t h]
  | pad k t its h _ ih => rw [turn_1 k t h, List.length_cons, ih, List.length_cons]
  | item k n p t its h1 h2 h3 _ ih =>
    rw [turn_item k n p t h1 h3]
    simp only [List.length_cons, List.length_append, ih, tpay_len h2 h3]
theorem turn_back {b v e : Nat} (hb : b < M32) (hv : v < M32) (he : e < M32) {l : List UInt8} {its : List Item} (h : Ps l its) : turnL (negM b) (negM v) (negM e) (turnL b v e l) = l := by
  induction h with
  | nil => rw [turn_nil, turn_nil]
  | stop k t h => rw [turn_0 k t h, turn_0 k t h]
  | pad k t its h _ ih => rw [turn_1 k t h, turn_1 k _ h, ih]
  | item k n p t its h1 h2 h3 _ ih =>
    rw [turn_item k n p t h1 h3, turn_item k n _ _ h1 (by rw [tpay_len h2 h3]; exact h3), ih, tpay_back hb hv he h2 h3]
/-- options, turned -/
def tOp (b v e : Nat) (o : Opz) : Opz := { o with bl := o.bl.map fun x => (addM x.1 b, addM x.2 b), va := if o.tm then addM o.va v else o.va, ec := if o.tm then addM o.ec e else o.ec }
theorem put_turn (b v e : Nat) (o : Opz) (x : Item) : put (tOp b v e o) (tit b v e x) = tOp b v e (put o x) := by
  obtain ⟨k, p⟩ := x
  unfold put tit tpay tOp
  by_cases h2 : k = 2
  · subst h2; rfl
  by_cases h3 : k = 3
  · subst h3; rfl
  by_cases h4 : k = 4
  · subst h4; rfl
  by_cases h5 : k = 5
  · subst h5
    simp [blocks_flat _ (map_lt _ _)]
  by_cases h8 : k = 8
  · subst h8
    have f2 := qd_B32' (addM (qd p 0).toNat v) (addM (qd p 4).toNat e) (addM_lt _ _) []
    rw [List.append_nil] at f2
    simp [qd_B32 _ (addM_lt _ _), f2]
  simp [h2, h3, h4, h5, h8]
theorem fold_turn (b v e : Nat) : ∀ (its : List Item) (o : Opz), (its.map (tit b v e)).foldl put (tOp b v e o) = tOp b v e (its.foldl put o)
  | [], _ => rfl
  | x :: t, o => by
    rw [List.map_cons, List.foldl_cons, List.foldl_cons, put_turn, fold_turn b v e t]
theorem fine_turn {b v e : Nat} {its : List Item} (h : Fine its) : Fine (its.map (tit b v e)) := by
  refine ⟨?_, ?_⟩
  · rw [List.pairwise_map]; exact h.1
  · intro x hx
    obtain ⟨y, hy, rfl⟩ := List.mem_map.1 hx
    rintro ⟨h1, h2⟩
    refine h.2 y hy ⟨h1, ?_⟩
    dsimp only at h1 h2
    unfold tpay at h2
    rw [if_neg (by omega), if_neg (by omega)] at h2
    exact h2
theorem turn_dec {b v e : Nat} {l : List UInt8} {o : Opz} (h : dec l = some o) : dec (turnL b v e l) = some (tOp b v e o) ∧ (turnL b v e l).length = l.length := by
  obtain ⟨its, hp, hf, rfl⟩ := dec_is h
  have hs := ps_iff.1 hp
  refine ⟨?_, turn_len hs⟩
  rw [dec_some (parse_of (ps_turn hs)) (fine_turn hf)]
  exact congrArg some (fold_turn b v e its none_)
theorem turn_err {b v e : Nat} {l : List UInt8} (h : err l = 0) : err (turnL b v e l) = 0 ∧ decO (turnL b v e l) = tOp b v e (decO l) ∧ (turnL b v e l).length = l.length := by
  obtain ⟨hl, o, hd, ho⟩ := err_is0 h
  obtain ⟨h1, h2⟩ := turn_dec (b := b) (v := v) (e := e) hd
  obtain ⟨h3, h4⟩ := err_0 h1 (by omega)
  exact ⟨h3, by rw [h4, ho], h2⟩
theorem turn_undo {b v e : Nat} (hb : b < M32) (hv : v < M32) (he : e < M32) {l : List UInt8} (h : err l = 0) : turnL (negM b) (negM v) (negM e) (turnL b v e l) = l := by
  obtain ⟨hl, o, hd, ho⟩ := err_is0 h
  obtain ⟨its, hp, _, _⟩ := dec_is hd
  exact turn_back hb hv he (ps_iff.1 hp)
end Go.Proofs.Ytdlcglkeinlimaa.om
