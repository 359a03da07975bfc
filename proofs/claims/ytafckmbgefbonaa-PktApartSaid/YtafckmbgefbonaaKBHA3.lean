/- B H A: contracts, part 3. Condition: as each says. -/
import Derived.Test.YtafckmbgefbonaaKBHA2
set_option linter.unusedVariables false
set_option linter.unusedSimpArgs false
namespace Go.Proofs.Ytafckmbgefbonaa.om
open Go.Proofs.Ytafckmbgefbonaa.sm Go.Proofs.Ytafckmbgefbonaa.nb
set_option linter.unusedVariables false

inductive Ps : List UInt8 → List Item → Prop
  | nil : Ps [] []
  | stop (k : UInt8) (t : List UInt8) : k.toNat = 0 → Ps (k :: t) []
  | pad (k : UInt8) (t : List UInt8) (its : List Item) : k.toNat = 1 → Ps t its → Ps (k :: t) its
  | item (k n : UInt8) (p t : List UInt8) (its : List Item) : 2 ≤ k.toNat → lenOk k.toNat n.toNat = true → n.toNat = p.length + 2 → Ps t its → Ps (k :: n :: (p ++ t)) ((k.toNat, p) :: its)
theorem parse_of {l : List UInt8} {its : List Item} (h : Ps l its) : parse l = some its := by
  induction h with
  | nil => exact parse_nil
  | stop k t h => exact parse_0 k t h
  | pad k t its h _ ih => rw [parse_1 k t h, ih]
  | item k n p t its h1 h2 h3 _ ih => rw [parse_item k n p t h1 h2 h3, ih]; rfl
theorem ps_of : ∀ (m : Nat) (l : List UInt8) (its : List Item), l.length ≤ m → parse l = some its → Ps l its
  | _, [], its, _, h => by rw [parse_nil] at h; cases h; exact .nil
  | 0, k :: t, its, hm, h => by simp at hm
  | m + 1, k :: t, its, hm, h => by
    by_cases h0 : k.toNat = 0
    · rw [parse_0 k t h0] at h; cases h; exact .stop k t h0
    by_cases h1 : k.toNat = 1
    · rw [parse_1 k t h1] at h; exact .pad k t its h1 (ps_of m t its (by simp at hm; omega) h)
    cases t with
    | nil => rw [parse_one k h0 h1] at h; cases h
    | cons n u =>
      by_cases h2 : lenOk k.toNat n.toNat = true ∧ n.toNat ≤ u.length + 2
      · rw [parse_yes k n u h0 h1 h2.1 h2.2] at h
        have h22 := lenOk_two h2.1
        have hl : n.toNat = (u.take (n.toNat - 2)).length + 2 := by rw [List.length_take]; omega
        cases hp : parse (u.drop (n.toNat - 2)) with
        | none => rw [hp] at h; cases h
        | some r =>
          rw [hp] at h; cases h
          have := ps_of m (u.drop (n.toNat - 2)) r (by rw [List.length_drop]; simp at hm; omega) hp
          have e := Ps.item k n _ _ r (by omega) h2.1 hl this
          rw [List.take_append_drop] at e
          exact e
      · rw [parse_no k n u h0 h1 h2] at h; cases h
theorem ps_iff {l : List UInt8} {its : List Item} : parse l = some its ↔ Ps l its := ⟨fun h => ps_of _ l its (Nat.le_refl _) h, parse_of⟩

def addM (a b : Nat) : Nat := (a + b) % M32
theorem addM_lt (a b : Nat) : addM a b < M32 := Nat.mod_lt _ (by decide)
def tpay (b v e k : Nat) (p : List UInt8) : List UInt8 :=
  if k = 8 then B32 (addM (qd p 0).toNat v) ++ B32 (addM (qd p 4).toNat e)
  else if k = 5 then flat ((blocks p).map fun x => (addM x.1 b, addM x.2 b)) else p
abbrev tit (b v e : Nat) (x : Item) : Item := (x.1, tpay b v e x.1 x.2)
def turnL (b v e : Nat) : List UInt8 → List UInt8
  | [] => []
  | k :: t =>
    if k.toNat = 0 then k :: t else if k.toNat = 1 then k :: turnL b v e t else
    match t with
    | [] => [k]
    | n :: u => if 2 ≤ n.toNat then k :: n :: (tpay b v e k.toNat (u.take (n.toNat - 2)) ++ turnL b v e (u.drop (n.toNat - 2))) else k :: n :: u
termination_by l => l.length
decreasing_by
  all_goals (simp; try omega)
section
variable {b v e : Nat}
theorem turn_nil : turnL b v e [] = [] := by rw [turnL]
theorem turn_0 (k : UInt8) (t : List UInt8) (h : k.toNat = 0) : turnL b v e (k :: t) = k :: t := by cases t <;> (conv => lhs; rw [turnL, if_pos h])
theorem turn_1 (k : UInt8) (t : List UInt8) (h : k.toNat = 1) : turnL b v e (k :: t) = k :: turnL b v e t := by cases t <;> (conv => lhs; rw [turnL, if_neg (by omega), if_pos h])
theorem turn_item (k n : UInt8) (p t : List UInt8) (h : 2 ≤ k.toNat) (h3 : n.toNat = p.length + 2) : turnL b v e (k :: n :: (p ++ t)) = k :: n :: (tpay b v e k.toNat p ++ turnL b v e t) := by
  rw [turnL, if_neg (by omega), if_neg (by omega), if_pos (by omega), h3, Nat.add_sub_cancel, List.drop_left, List.take_left]
end
theorem len5 {n : Nat} (h : lenOk 5 n = true) : n = 10 ∨ n = 18 ∨ n = 26 ∨ n = 34 := by
  unfold lenOk at h; simp at h; omega
theorem len8 {n : Nat} (h : lenOk 8 n = true) : n = 10 := by
  unfold lenOk at h; simp at h; omega
theorem blocks_len (p : List UInt8) : (blocks p).length = p.length / 8 := by simp [blocks]
theorem tpay_len {b v e k n : Nat} {p : List UInt8} (h : lenOk k n = true) (hn : n = p.length + 2) : (tpay b v e k p).length = p.length := by
  unfold tpay
  split
  · rename_i hk; subst hk
    have := len8 h
    simp [B32]; omega
  · split
    · rename_i hk; subst hk
      have := len5 h
      rw [flat_len, List.length_map, blocks_len]; omega
    · rfl
theorem four (a b c d : UInt8) (t : List UInt8) : B32 (qd (a :: b :: c :: d :: t) 0).toNat = [a, b, c, d] := by
  have ha := c_lt a; have hb := c_lt b; have hc := c_lt c; have hd := c_lt d
  have e : qd (a :: b :: c :: d :: t) 0 = ((a.toNat * 16777216 + b.toNat * 65536 + c.toNat * 256 + d.toNat : Nat) : Int) := by
    show (((a.toNat : Int)) * 256 + (b.toNat : Int)) * 65536 + (((c.toNat : Int)) * 256 + (d.toNat : Int)) = _
    omega
  rw [e, Int.toNat_natCast]
  unfold B32 q3 q2 q1 q0
  rw [show (a.toNat * 16777216 + b.toNat * 65536 + c.toNat * 256 + d.toNat) / 16777216 = a.toNat by omega,
    show (a.toNat * 16777216 + b.toNat * 65536 + c.toNat * 256 + d.toNat) / 65536 % 256 = b.toNat by omega,
    show (a.toNat * 16777216 + b.toNat * 65536 + c.toNat * 256 + d.toNat) / 256 % 256 = c.toNat by omega,
    show (a.toNat * 16777216 + b.toNat * 65536 + c.toNat * 256 + d.toNat) % 256 = d.toNat by omega,
    oct_of, oct_of, oct_of, oct_of]
theorem qd_lt (p : List UInt8) (k : Nat) : (qd p k).toNat < M32 := by have := qd_bd p k; unfold M32; omega
theorem qd_four (p : List UInt8) (a b c d : UInt8) (t : List UInt8) (h : p = a :: b :: c :: d :: t) (k : Nat) : qd p (4 + k) = qd t k := by
  subst h; rw [← qd_drop]; rfl
theorem eight_split (p : List UInt8) (h : 8 ≤ p.length) : ∃ t, p = B32 (qd p 0).toNat ++ (B32 (qd p 4).toNat ++ t) := by
  match p, h with
  | a :: b :: c :: d :: a' :: b' :: c' :: d' :: t, _ =>
    refine ⟨t, ?_⟩
    have e := qd_four _ a b c d (a' :: b' :: c' :: d' :: t) rfl 0
    rw [show 4 + 0 = 4 from rfl] at e
    rw [e, four, four]; rfl
theorem map_lt (l : List (Nat × Nat)) (b : Nat) : ∀ x ∈ l.map (fun x : Nat × Nat => (addM x.1 b, addM x.2 b)), x.1 < M32 ∧ x.2 < M32 := by
  intro x hx
  obtain ⟨y, _, rfl⟩ := List.mem_map.1 hx
  exact ⟨addM_lt _ _, addM_lt _ _⟩
theorem blocks_lt (p : List UInt8) : ∀ x ∈ blocks p, x.1 < M32 ∧ x.2 < M32 := by
  intro x hx
  unfold blocks at hx
  obtain ⟨y, _, rfl⟩ := List.mem_map.1 hx
  exact ⟨qd_lt _ _, qd_lt _ _⟩
theorem ps_turn {b v e : Nat} {l : List UInt8} {its : List Item} (h : Ps l its) : Ps (turnL b v e l) (its.map (tit b v e)) := by
  induction h with
  | nil => rw [turn_nil]; exact .nil
  | stop k t h => rw [turn_0 k t h]; exact .stop k t h
  | pad k t its h _ ih => rw [turn_1 k t h]; exact .pad k _ _ h ih
  | item k n p t its h1 h2 h3 _ ih =>
    rw [turn_item k n p t h1 h3]
    exact .item k n _ _ _ h1 h2 (by rw [tpay_len h2 h3]; exact h3) ih
theorem turn_len {b v e : Nat} {l : List UInt8} {its : List Item} (h : Ps l its) : (turnL b v e l).length = l.length := by
  induction h with
  | nil => rw [turn_nil]
  | stop k t h => rw [turn_0 k t h]
  | pad k t its h _ ih => rw [turn_1 k t h, List.length_cons, ih, List.length_cons]
  | item k n p t its h1 h2 h3 _ ih =>
    rw [turn_item k n p t h1 h3]
    simp only [List.length_cons, List.length_append, ih, tpay_len h2 h3]
def tOp (b v e : Nat) (o : Opz) : Opz := { o with bl := o.bl.map fun x => (addM x.1 b, addM x.2 b), va := if o.tm then addM o.va v else o.va, ec := if o.tm then addM o.ec e else o.ec }
theorem put_turn (b v e : Nat) (o : Opz) (x : Item) : put (tOp b v e o) (tit b v e x) = tOp b v e (put o x) := by
  obtain ⟨k, p⟩ := x
  unfold put tit tpay tOp
  by_cases h2 : k = 2
  · subst h2; rfl
  by_cases h3 : k = 3
  · subst h3; rfl
  by_cases h4 : k = 4
  · subst h4; rfl
  by_cases h5 : k = 5
  · subst h5
    simp [blocks_flat _ (map_lt _ _)]
  by_cases h8 : k = 8
  · subst h8
    have f2 := qd_B32' (addM (qd p 0).toNat v) (addM (qd p 4).toNat e) (addM_lt _ _) []
    rw [List.append_nil] at f2
    simp [qd_B32 _ (addM_lt _ _), f2]
  simp [h2, h3, h4, h5, h8]
theorem fold_turn (b v e : Nat) : ∀ (its : List Item) (o : Opz), (its.map (tit b v e)).foldl put (tOp b v e o) = tOp b v e (its.foldl put o)
  | [], _ => rfl
  | x :: t, o => by
    rw [List.map_cons, List.foldl_cons, List.foldl_cons, put_turn, fold_turn b v e t]
theorem fine_turn {b v e : Nat} {its : List Item} (h : Fine its) : Fine (its.map (tit b v e)) := by
  refine ⟨?_, ?_⟩
  · rw [List.pairwise_map]; exact h.1
  · intro x hx
    obtain ⟨y, hy, rfl⟩ := List.mem_map.1 hx
    rintro ⟨h1, h2⟩
    refine h.2 y hy ⟨h1, ?_⟩
    dsimp only at h1 h2
    unfold tpay at h2
    rw [if_neg (by omega), if_neg (by omega)] at h2
    exact h2
theorem turn_dec {b v e : Nat} {l : List UInt8} {o : Opz} (h : dec l = some o) : dec (turnL b v e l) = some (tOp b v e o) ∧ (turnL b v e l).length = l.length := by
  obtain ⟨its, hp, hf, rfl⟩ := dec_is h
  have hs := ps_iff.1 hp
  refine ⟨?_, turn_len hs⟩
  rw [dec_some (parse_of (ps_turn hs)) (fine_turn hf)]
  exact congrArg some (fold_turn b v e its none_)
theorem turn_err {b v e : Nat} {l : List UInt8} (h : err l = 0) : err (turnL b v e l) = 0 ∧ decO (turnL b v e l) = tOp b v e (decO l) ∧ (turnL b v e l).length = l.length := by
  obtain ⟨hl, o, hd, ho⟩ := err_is0 h
  obtain ⟨h1, h2⟩ := turn_dec (b := b) (v := v) (e := e) hd
  obtain ⟨h3, h4⟩ := err_0 h1 (by omega)
  exact ⟨h3, by rw [h4, ho], h2⟩
end Go.Proofs.Ytafckmbgefbonaa.om

namespace Go.Proofs.Ytafckmbgefbonaa.om
open Go.Proofs.Ytafckmbgefbonaa.sm Go.Proofs.Ytafckmbgefbonaa.nb
set_option linter.unusedVariables false

def Rdn (o : Opz) : Prop := Wf o ∧ -1 ≤ o.sc ∧ o.sc ≤ 14
theorem put_rdn {o : Opz} (h : Rdn o) (x : Item) : Rdn (put o x) := by
  obtain ⟨⟨h1, h2, h3, h4⟩, h5, h6⟩ := h
  have hw := wd_bd x.2 0
  have hb := bt_bd x.2 0
  unfold put
  by_cases c2 : x.1 = 2
  · rw [if_pos c2]; exact ⟨⟨by dsimp only; omega, h2, h3, h4⟩, h5, h6⟩
  rw [if_neg c2]
  by_cases c3 : x.1 = 3
  · rw [if_pos c3]; exact ⟨⟨h1, h2, h3, h4⟩, by dsimp only; omega, by dsimp only; omega⟩
  rw [if_neg c3]
  by_cases c4 : x.1 = 4
  · rw [if_pos c4]; exact ⟨⟨h1, h2, h3, h4⟩, h5, h6⟩
  rw [if_neg c4]
  by_cases c5 : x.1 = 5
  · rw [if_pos c5]
    refine ⟨⟨h1, ?_, h3, h4⟩, h5, h6⟩
    intro b hb
    rcases List.mem_append.1 hb with hb | hb
    · exact h2 b hb
    · exact blocks_lt x.2 b hb
  rw [if_neg c5]
  by_cases c8 : x.1 = 8
  · rw [if_pos c8]; exact ⟨⟨h1, h2, qd_lt _ _, qd_lt _ _⟩, h5, h6⟩
  rw [if_neg c8]; exact ⟨⟨h1, h2, h3, h4⟩, h5, h6⟩
theorem fold_rdn : ∀ (its : List Item) (o : Opz), Rdn o → Rdn (its.foldl put o)
  | [], _, h => h
  | x :: t, o, h => fold_rdn t _ (put_rdn h x)
theorem rdn_none : Rdn none_ := ⟨⟨by decide, (by intro b hb; cases hb), by decide, by decide⟩, by decide, by decide⟩
theorem rdn_zero : Rdn zero_ := ⟨⟨by decide, (by intro b hb; cases hb), by decide, by decide⟩, by decide, by decide⟩
theorem put_len (o : Opz) (k : Nat) (p : List UInt8) : (put o (k, p)).bl.length ≤ o.bl.length + p.length := by
  unfold put
  by_cases c5 : k = 5
  · subst c5
    simp only [show (5 : Nat) ≠ 2 by decide, show (5 : Nat) ≠ 3 by decide, show (5 : Nat) ≠ 4 by decide, if_true, if_false, List.length_append, blocks_len]; omega
  · dsimp only
    by_cases c2 : k = 2
    · rw [if_pos c2]; dsimp only; omega
    rw [if_neg c2]
    by_cases c3 : k = 3
    · rw [if_pos c3]; dsimp only; omega
    rw [if_neg c3]
    by_cases c4 : k = 4
    · rw [if_pos c4]; dsimp only; omega
    rw [if_neg c4, if_neg c5]
    by_cases c8 : k = 8
    · rw [if_pos c8]; dsimp only; omega
    rw [if_neg c8]; omega
theorem fold_len {l : List UInt8} {its : List Item} (h : Ps l its) : ∀ o : Opz, (its.foldl put o).bl.length ≤ o.bl.length + l.length := by
  induction h with
  | nil => intro o; simp
  | stop k t h => intro o; simp
  | pad k t its h _ ih => intro o; have := ih o; simp; omega
  | item k n p t its h1 h2 h3 _ ih =>
    intro o
    have h4 := ih (put o (k.toNat, p))
    have h5 := put_len o k.toNat p
    rw [List.foldl_cons]
    simp only [List.length_cons, List.length_append]; omega
theorem decO_rdn (l : List UInt8) : Rdn (decO l) ∧ (decO l).bl.length ≤ l.length := by
  by_cases h : 40 < l.length
  · rw [(err_4 h).2]; exact ⟨rdn_zero, Nat.zero_le _⟩
  · cases hd : dec l with
    | none => rw [(err_70 hd (by omega)).2]; exact ⟨rdn_zero, Nat.zero_le _⟩
    | some o =>
      rw [(err_0 hd (by omega)).2]
      obtain ⟨its, hp, _, rfl⟩ := dec_is hd
      exact ⟨fold_rdn _ _ rdn_none, by have := fold_len (ps_iff.1 hp) none_; simpa [none_] using this⟩
end Go.Proofs.Ytafckmbgefbonaa.om

namespace Go.Proofs.Ytafckmbgefbonaa.pm
open Go.Proofs.Ytafckmbgefbonaa.sm Go.Proofs.Ytafckmbgefbonaa.nb
set_option linter.unusedVariables false

def sg (sp dp sq ak : Nat) (F : List UInt8) (wi c2 : Nat) (R : List UInt8) : List UInt8 := B16 sp ++ (B16 dp ++ (B32 sq ++ (B32 ak ++ (F ++ (B16 wi ++ (B16 c2 ++ R))))))
def fm (P : List UInt8) (c1 sa da sp dp sq ak : Nat) (F : List UInt8) (wi c2 : Nat) (R : List UInt8) : List UInt8 := P ++ (B16 c1 ++ (B32 sa ++ (B32 da ++ sg sp dp sq ak F wi c2 R)))
abbrev hl32 (x : Nat) : Int := ((x / 65536 : Nat) : Int) + ((x % 65536 : Nat) : Int)
section
variable {P F R : List UInt8} {c1 sa da sp dp sq ak wi c2 : Nat}
theorem sg_len (hF : F.length = 2) : (sg sp dp sq ak F wi c2 R).length = 18 + R.length := by
  unfold sg; simp [B16, B32, hF]; omega
theorem fm_len (hP : P.length = 10) (hF : F.length = 2) : (fm P c1 sa da sp dp sq ak F wi c2 R).length = 38 + R.length := by
  unfold fm; rw [List.length_append, List.length_append, List.length_append, List.length_append, sg_len hF, hP]
  show 10 + (2 + (4 + (4 + _))) = _
  omega
theorem fm_drop (hP : P.length = 10) : (fm P c1 sa da sp dp sq ak F wi c2 R).drop 20 = sg sp dp sq ak F wi c2 R := by
  unfold fm
  rw [← List.append_assoc, ← List.append_assoc, ← List.append_assoc]
  exact List.drop_left' (by simp [hP, B16, B32])
theorem fm_take (hP : P.length = 10) : (fm P c1 sa da sp dp sq ak F wi c2 R).take 20 = P ++ (B16 c1 ++ (B32 sa ++ B32 da)) := by
  unfold fm
  rw [← List.append_assoc, ← List.append_assoc, ← List.append_assoc, List.take_left' (by simp [hP, B16, B32])]
  simp only [List.append_assoc]
theorem fm_bt (hP : P.length = 10) (k : Nat) (hk : k < 10) : bt (fm P c1 sa da sp dp sq ak F wi c2 R) k = bt P k := im.bt_app (by omega)
theorem fm_wd (hP : P.length = 10) (k : Nat) (hk : k + 1 < 10) : wd (fm P c1 sa da sp dp sq ak F wi c2 R) k = wd P k := im.wd_app (by omega)
theorem fm_sa (hP : P.length = 10) (h : sa ≤ 4294967295) : qd (fm P c1 sa da sp dp sq ak F wi c2 R) 12 = sa := by
  have e := om.qd_drop (fm P c1 sa da sp dp sq ak F wi c2 R) 12 0
  have d : (fm P c1 sa da sp dp sq ak F wi c2 R).drop 12 = B32 sa ++ (B32 da ++ sg sp dp sq ak F wi c2 R) := by
    unfold fm
    rw [← List.append_assoc]
    exact List.drop_left' (by simp [hP, B16])
  rw [← e, d, om.qd_B32 sa (by unfold om.M32; omega)]
theorem fm_da (hP : P.length = 10) (h : da ≤ 4294967295) : qd (fm P c1 sa da sp dp sq ak F wi c2 R) 16 = da := by
  have e := om.qd_drop (fm P c1 sa da sp dp sq ak F wi c2 R) 16 0
  have d : (fm P c1 sa da sp dp sq ak F wi c2 R).drop 16 = B32 da ++ sg sp dp sq ak F wi c2 R := by
    unfold fm
    rw [← List.append_assoc, ← List.append_assoc]
    exact List.drop_left' (by simp [hP, B16, B32])
  rw [← e, d, om.qd_B32 da (by unfold om.M32; omega)]
theorem head_sum (hP : P.length = 10) (h1 : c1 ≤ 65535) (hs : sa ≤ 4294967295) (hd : da ≤ 4294967295) : wsum (P ++ (B16 c1 ++ (B32 sa ++ B32 da))) = wsum P + (c1 : Int) + hl32 sa + hl32 da := by
  rw [wsum_append _ _ (by rw [hP]), cm.wsum_B16 c1 h1, wsum_append _ _ (by simp [B32]), cm.wsum_B32 sa hs, cm.wsum_B32 da hd]
  unfold hl32
  omega
theorem sg_sum (hF : F.length = 2) (hsp : sp ≤ 65535) (hdp : dp ≤ 65535) (hsq : sq ≤ 4294967295) (hak : ak ≤ 4294967295) (hwi : wi ≤ 65535) (h2 : c2 ≤ 65535) :
    wsum (sg sp dp sq ak F wi c2 R) = (sp : Int) + dp + hl32 sq + hl32 ak + wsum F + wi + c2 + wsum R := by
  unfold sg
  rw [cm.wsum_B16 sp hsp, cm.wsum_B16 dp hdp, wsum_append (B32 sq) _ (by simp [B32]), wsum_append (B32 ak) _ (by simp [B32]), wsum_append F _ (by rw [hF]), cm.wsum_B32 sq hsq, cm.wsum_B32 ak hak, cm.wsum_B16 wi hwi, cm.wsum_B16 c2 h2]
  unfold hl32
  omega
theorem sg_read (hF : F.length = 2) (hsp : sp ≤ 65535) (hdp : dp ≤ 65535) (hsq : sq ≤ 4294967295) (hak : ak ≤ 4294967295) (hwi : wi ≤ 65535) :
    wd (sg sp dp sq ak F wi c2 R) 0 = sp ∧ wd (sg sp dp sq ak F wi c2 R) 2 = dp ∧ qd (sg sp dp sq ak F wi c2 R) 4 = sq ∧ qd (sg sp dp sq ak F wi c2 R) 8 = ak
      ∧ bt (sg sp dp sq ak F wi c2 R) 12 = bt F 0 ∧ bt (sg sp dp sq ak F wi c2 R) 13 = bt F 1 ∧ wd (sg sp dp sq ak F wi c2 R) 14 = wi ∧ ∀ k, (sg sp dp sq ak F wi c2 R).drop (18 + k) = R.drop k := by
  match F, hF with
  | [f0, f1], _ =>
    have hs := om.qd_drop (sg sp dp sq ak [f0, f1] wi c2 R) 4 0
    have ha := om.qd_drop (sg sp dp sq ak [f0, f1] wi c2 R) 8 0
    have ds : (sg sp dp sq ak [f0, f1] wi c2 R).drop 4 = B32 sq ++ (B32 ak ++ ([f0, f1] ++ (B16 wi ++ (B16 c2 ++ R)))) := rfl
    have dak : (sg sp dp sq ak [f0, f1] wi c2 R).drop 8 = B32 ak ++ ([f0, f1] ++ (B16 wi ++ (B16 c2 ++ R))) := rfl
    refine ⟨om.wd_B16 sp hsp _, ?_, ?_, ?_, rfl, rfl, ?_, fun k => ?_⟩
    · rw [← wd_drop (sg sp dp sq ak [f0, f1] wi c2 R) 2 0]; exact om.wd_B16 dp hdp _
    · rw [← hs, ds]; exact om.qd_B32 sq (by unfold om.M32; omega) _
    · rw [← ha, dak]; exact om.qd_B32 ak (by unfold om.M32; omega) _
    · rw [← wd_drop (sg sp dp sq ak [f0, f1] wi c2 R) 14 0]; exact om.wd_B16 wi hwi _
    · rw [← List.drop_drop]; rfl
end
theorem two_B16 (a b : UInt8) (t : List UInt8) : B16 (wd (a :: b :: t) 0).toNat = [a, b] := by
  have ha := c_lt a; have hb := c_lt b
  have e : (wd (a :: b :: t) 0).toNat = a.toNat * 256 + b.toNat := by
    show ((a.toNat : Int) * 256 + (b.toNat : Int)).toNat = _; omega
  rw [e]
  show [oct ((a.toNat * 256 + b.toNat) / 256), oct ((a.toNat * 256 + b.toNat) % 256)] = _
  rw [cm.hi_of, cm.lo_of]
theorem take2_B16 (l : List UInt8) (k : Nat) (h : k + 2 ≤ l.length) : (l.drop k).take 2 = B16 (wd l k).toNat := by
  have hd : 2 ≤ (l.drop k).length := by rw [List.length_drop]; omega
  rw [show wd l k = wd (l.drop k) 0 by rw [wd_drop, Nat.add_zero]]
  match hl : l.drop k, hd with
  | a :: b :: t, _ => rw [two_B16]; rfl
theorem take4_B32 (l : List UInt8) (k : Nat) (h : k + 4 ≤ l.length) : (l.drop k).take 4 = B32 (qd l k).toNat := by
  have hd : 4 ≤ (l.drop k).length := by rw [List.length_drop]; omega
  rw [show qd l k = qd (l.drop k) 0 by rw [om.qd_drop, Nat.add_zero]]
  match hl : l.drop k, hd with
  | a :: b :: c :: d :: t, _ => rw [om.four]; rfl
theorem fm_of (l : List UInt8) (h : 38 ≤ l.length) : l = fm (l.take 10) (wd l 10).toNat (qd l 12).toNat (qd l 16).toNat (wd l 20).toNat (wd l 22).toNat (qd l 24).toNat (qd l 28).toNat ((l.drop 32).take 2) (wd l 34).toNat (wd l 36).toNat (l.drop 38) := by
  unfold fm sg
  rw [← take2_B16 l 10 (by omega), ← take4_B32 l 12 (by omega), ← take4_B32 l 16 (by omega), ← take2_B16 l 20 (by omega), ← take2_B16 l 22 (by omega), ← take4_B32 l 24 (by omega), ← take4_B32 l 28 (by omega), ← take2_B16 l 34 (by omega), ← take2_B16 l 36 (by omega)]
  have st : ∀ k n, l.drop k = (l.drop k).take n ++ l.drop (k + n) := fun k n => by rw [← List.drop_drop, List.take_append_drop]
  conv => lhs; rw [← List.take_append_drop 10 l, st 10 2, st 12 4, st 16 4, st 20 2, st 22 2, st 24 4, st 28 4, st 32 2, st 34 2, st 36 2]
end Go.Proofs.Ytafckmbgefbonaa.pm

namespace Go.Proofs.Ytafckmbgefbonaa.pm
open Go.Proofs.Ytafckmbgefbonaa.sm Go.Proofs.Ytafckmbgefbonaa.nb
set_option linter.unusedVariables false

structure Sg where
  sa : Nat
  da : Nat
  sp : Nat
  dp : Nat
  sq : Nat
  ak : Nat
  fl : Nat
  wi : Nat
  op : om.Opz
  dt : List UInt8
structure Sh where
  sa : Nat
  da : Nat
  sp : Nat
  dp : Nat
  sq : Nat
  ak : Nat
  va : Nat
  ec : Nat
  up : Int
  dn : Int
abbrev W32 (n : Nat) : Prop := n ≤ 4294967295
def WfS (s : Sg) : Prop := W32 s.sa ∧ W32 s.da ∧ s.sp ≤ 65535 ∧ s.dp ≤ 65535 ∧ W32 s.sq ∧ W32 s.ak ∧ s.fl ≤ 255 ∧ s.wi ≤ 65535 ∧ om.Wf s.op
def WfX (x : Sh) : Prop := W32 x.sa ∧ W32 x.da ∧ x.sp ≤ 65535 ∧ x.dp ≤ 65535 ∧ W32 x.sq ∧ W32 x.ak ∧ W32 x.va ∧ W32 x.ec
def flg (f : Nat) : Bool := decide (f < 32) && decide (f % 2 + f / 2 % 2 + f / 4 % 2 ≤ 1)
def MayS (s : Sg) : Prop := flg s.fl = true ∧ om.May s.op ∧ s.dt.length ≤ 1460
theorem flg_lt {f : Nat} (h : flg f = true) : f < 32 := by unfold flg at h; simp at h; exact h.1
def inner (s : Sg) : List UInt8 := cm.en s.sa s.da s.sp s.dp s.sq s.ak s.fl s.wi 0 (om.raw s.op) s.dt
def encS (s : Sg) : List UInt8 := im.en s.sa s.da 6 64 0 0 true (inner s)
def optsOf (g : List UInt8) : List UInt8 := (g.drop 20).take ((cm.hl g).toNat - 20)
def errG (x y : Nat) (g : List UInt8) : Nat :=
  if cm.dec x y g ≠ 0 then cm.dec x y g else if om.err (optsOf g) ≠ 0 then om.err (optsOf g) else if flg (bt g 13).toNat = false then 81 else if 1460 < (g.drop (cm.hl g).toNat).length then 4 else 0
def valG (x y : Nat) (g : List UInt8) : Sg := ⟨x, y, (wd g 0).toNat, (wd g 2).toNat, (qd g 4).toNat, (qd g 8).toNat, (bt g 13).toNat, (wd g 14).toNat, om.decO (optsOf g), g.drop (cm.hl g).toNat⟩
def errP (l : List UInt8) : Nat := if im.dec l ≠ 0 then im.dec l else if bt l 9 ≠ 6 then 80 else errG (qd l 12).toNat (qd l 16).toNat (l.drop 20)
def valP (l : List UInt8) : Sg := valG (qd l 12).toNat (qd l 16).toNat (l.drop 20)
theorem errP_ok {l : List UInt8} (h : im.dec l = 0) (h9 : bt l 9 = 6) : errP l = errG (qd l 12).toNat (qd l 16).toNat (l.drop 20) := by
  unfold errP; rw [if_neg (by omega), if_neg (by omega)]
theorem errG_ok {x y : Nat} {g : List UInt8} (h : cm.dec x y g = 0) (ho : om.err (optsOf g) = 0) (hf : flg (bt g 13).toNat = true) (hd : (g.drop (cm.hl g).toNat).length ≤ 1460) : errG x y g = 0 := by
  unfold errG; rw [if_neg (by omega), if_neg (by omega), if_neg (by rw [hf]; decide), if_neg (by omega)]
theorem errP_is0 {l : List UInt8} (h : errP l = 0) : im.dec l = 0 ∧ bt l 9 = 6 ∧ errG (qd l 12).toNat (qd l 16).toNat (l.drop 20) = 0 := by
  unfold errP at h
  split at h
  · omega
  · split at h
    · omega
    · rename_i h1 h2; exact ⟨by omega, by omega, h⟩
theorem errG_is0 {x y : Nat} {g : List UInt8} (h : errG x y g = 0) : cm.dec x y g = 0 ∧ om.err (optsOf g) = 0 ∧ flg (bt g 13).toNat = true ∧ (g.drop (cm.hl g).toNat).length ≤ 1460 := by
  unfold errG at h
  split at h
  · omega
  · split at h
    · omega
    · split at h
      · omega
      · split at h
        · omega
        · rename_i h1 h2 h3 h4; exact ⟨by omega, by omega, by simpa using h3, by omega⟩
section
variable {s : Sg}
theorem may_cm (hm : MayS s) : cm.May s.fl (om.raw s.op).length := by
  obtain ⟨h1, h2, h3⟩ := hm
  have h4 := om.rawLen_four s.op
  have h5 := h2.2.2.2.2
  rw [om.raw_len]
  exact ⟨h4, h5, by have := flg_lt h1; omega⟩
theorem raw40 (hm : MayS s) : (om.raw s.op).length ≤ 40 := by rw [om.raw_len]; exact hm.2.1.2.2.2.2
theorem inner_len (s : Sg) : (inner s).length = 20 + (om.raw s.op).length + s.dt.length := cm.en_len _ _ _ _ _ _ _ _ _ _ _
theorem inner_le (hm : MayS s) : (inner s).length ≤ 1520 := by rw [inner_len]; have := raw40 hm; have := hm.2.2; omega
theorem inner_opts (hm : MayS s) : optsOf (inner s) = om.raw s.op := by
  unfold optsOf inner
  rw [cm.en_hl (may_cm hm), Int.toNat_natCast, Nat.add_sub_cancel_left, cm.en_opts]
theorem inner_val (hm : MayS s) (hw : WfS s) : errG s.sa s.da (inner s) = 0 ∧ valG s.sa s.da (inner s) = s := by
  obtain ⟨w1, w2, w3, w4, w5, w6, w7, w8, w9⟩ := hw
  have hr := om.raw_dec hm.2.1 w9
  obtain ⟨he, ho⟩ := om.err_0 hr (raw40 hm)
  have hhl := cm.en_hl (x := s.sa) (y := s.da) (p := s.sp) (q := s.dp) (sq := s.sq) (ak := s.ak) (wi := s.wi) (ur := 0) (d := s.dt) (may_cm hm)
  have hdt : (inner s).drop (cm.hl (inner s)).toNat = s.dt := by
    unfold inner; rw [hhl, Int.toNat_natCast, cm.en_data]
  have h13 : bt (inner s) 13 = (s.fl : Int) := cm.en_13 w7
  refine ⟨errG_ok (cm.en_dec w1 w2 (may_cm hm) (by have := inner_le hm; rw [inner_len] at this; omega)) (by rw [inner_opts hm]; exact he) (by rw [h13, Int.toNat_natCast]; exact hm.1) (by rw [hdt]; exact hm.2.2), ?_⟩
  unfold valG
  rw [hdt, inner_opts hm, ho, h13]
  have e1 : wd (inner s) 0 = s.sp := cm.en_p w3
  have e2 : wd (inner s) 2 = s.dp := cm.en_q w4
  have e3 : qd (inner s) 4 = s.sq := cm.en_sq w5
  have e4 : qd (inner s) 8 = s.ak := cm.en_ak w6
  have e5 : wd (inner s) 14 = s.wi := cm.en_wi w8
  rw [e1, e2, e3, e4, e5]
  simp only [Int.toNat_natCast]
theorem ok_im (hw : WfS s) : im.Ok s.sa s.da 6 64 0 0 := ⟨hw.1, hw.2.1, by decide, by decide, by decide, by decide⟩
theorem enc_head (hm : MayS s) (hw : WfS s) : im.dec (encS s) = 0 ∧ bt (encS s) 9 = 6 ∧ qd (encS s) 12 = s.sa ∧ qd (encS s) 16 = s.da ∧ (encS s).drop 20 = inner s := by
  have hl : (inner s).length ≤ 65515 := Nat.le_trans (inner_le hm) (by decide)
  exact ⟨im.en_dec hl, im.en_proto (ok_im hw), im.en_src (ok_im hw), im.en_dst (ok_im hw), im.en_drop⟩
theorem enc_dec (hm : MayS s) (hw : WfS s) : errP (encS s) = 0 ∧ valP (encS s) = s := by
  obtain ⟨h1, h2, h3, h4, h5⟩ := enc_head hm hw
  obtain ⟨h6, h7⟩ := inner_val hm hw
  refine ⟨?_, ?_⟩
  · rw [errP_ok h1 h2, h3, h4, h5, Int.toNat_natCast, Int.toNat_natCast]; exact h6
  · unfold valP; rw [h3, h4, h5, Int.toNat_natCast, Int.toNat_natCast]; exact h7
theorem enc_len (s : Sg) : (encS s).length = 40 + (om.raw s.op).length + s.dt.length := by
  unfold encS; rw [im.en_len, inner_len]; omega
end
end Go.Proofs.Ytafckmbgefbonaa.pm

namespace Go.Proofs.Ytafckmbgefbonaa.pm
open Go.Proofs.Ytafckmbgefbonaa.sm Go.Proofs.Ytafckmbgefbonaa.nb
set_option linter.unusedVariables false

def clamp (v : Int) : Nat := if v < 0 then 0 else if 14 < v then 14 else v.toNat
theorem clamp_le (v : Int) : clamp v ≤ 14 := by unfold clamp; split <;> (try split) <;> omega
def winT (x : Sh) (w : Nat) : Nat := min 65535 (w * 2 ^ clamp x.up / 2 ^ clamp x.dn)
theorem winT_le (x : Sh) (w : Nat) : winT x w ≤ 65535 := Nat.min_le_left _ _
def acked (f : Nat) : Bool := f / 16 % 2 == 1
def tS (x : Sh) (s : Sg) : Sg :=
  ⟨x.sa, x.da, x.sp, x.dp, om.addM s.sq x.sq, if acked s.fl then om.addM s.ak x.ak else s.ak, s.fl, winT x s.wi, om.tOp x.ak x.va x.ec s.op, s.dt⟩
theorem addM_w (a b : Nat) : W32 (om.addM a b) := by have := om.addM_lt a b; unfold om.M32 at this; unfold W32; omega
theorem tS_wf {x : Sh} {s : Sg} (hx : WfX x) (hs : WfS s) : WfS (tS x s) := by
  obtain ⟨w1, w2, w3, w4, w5, w6, w7, w8⟩ := hx
  obtain ⟨s1, s2, s3, s4, s5, s6, s7, s8, o1, o2, o3, o4⟩ := hs
  refine ⟨w1, w2, w3, w4, addM_w _ _, ?_, s7, winT_le _ _, o1, om.map_lt _ _, ?_, ?_⟩
  · show W32 (if acked s.fl = true then _ else _)
    split
    · exact addM_w _ _
    · exact s6
  · show (if s.op.tm = true then om.addM s.op.va x.va else s.op.va) < om.M32
    split
    · exact om.addM_lt _ _
    · exact o3
  · show (if s.op.tm = true then om.addM s.op.ec x.ec else s.op.ec) < om.M32
    split
    · exact om.addM_lt _ _
    · exact o4

def pair32 (a b : Nat) : List (Int × Int) := [(((a / 65536 : Nat) : Int), ((b / 65536 : Nat) : Int)), (((a % 65536 : Nat) : Int), ((b % 65536 : Nat) : Int))]
def psH (s t : Sg) : List (Int × Int) := pair32 s.sa t.sa ++ pair32 s.da t.da
def psG (s t : Sg) (O O' : List UInt8) : List (Int × Int) :=
  psH s t ++ ((((s.sp : Int), (t.sp : Int)) :: ((s.dp : Int), (t.dp : Int)) :: (pair32 s.sq t.sq ++ (pair32 s.ak t.ak ++ [((s.wi : Int), (t.wi : Int))]))) ++ wp O O' (O.length / 2))
abbrev W16 (n : Nat) : Prop := n ≤ 65535
def WfN (s : Sg) : Prop := W32 s.sa ∧ W32 s.da ∧ W16 s.sp ∧ W16 s.dp ∧ W32 s.sq ∧ W32 s.ak ∧ W16 s.wi
theorem wfN {s : Sg} (h : WfS s) : WfN s := ⟨h.1, h.2.1, h.2.2.1, h.2.2.2.1, h.2.2.2.2.1, h.2.2.2.2.2.1, h.2.2.2.2.2.2.2.1⟩
theorem pair_words {a b : Nat} (ha : W32 a) (hb : W32 b) : Words (pair32 a b) := by
  intro p hp
  simp only [pair32, List.mem_cons, List.not_mem_nil, or_false] at hp
  rcases hp with rfl | rfl <;> (dsimp only; omega)
theorem words_app {p q : List (Int × Int)} (hp : Words p) (hq : Words q) : Words (p ++ q) := fun x hx => (List.mem_append.1 hx).elim (hp x) (hq x)
theorem words_one {a b : Nat} (ha : W16 a) (hb : W16 b) : Words [((a : Int), (b : Int))] := by
  intro p hp
  simp only [List.mem_cons, List.not_mem_nil, or_false] at hp
  subst hp
  dsimp only; omega
theorem psH_words {s t : Sg} (hs : WfN s) (ht : WfN t) : Words (psH s t) := words_app (pair_words hs.1 ht.1) (pair_words hs.2.1 ht.2.1)
theorem psG_words {s t : Sg} (O O' : List UInt8) (hs : WfN s) (ht : WfN t) : Words (psG s t O O') := by
  obtain ⟨s1, s2, s3, s4, s5, s6, s7⟩ := hs
  obtain ⟨t1, t2, t3, t4, t5, t6, t7⟩ := ht
  refine words_app (psH_words ⟨s1, s2, s3, s4, s5, s6, s7⟩ ⟨t1, t2, t3, t4, t5, t6, t7⟩) (words_app ?_ (wp_words _ _ _))
  exact words_app (words_one s3 t3) (words_app (words_one s4 t4) (words_app (pair_words s5 t5) (words_app (pair_words s6 t6) (words_one s7 t7))))
theorem was_app (p q : List (Int × Int)) : was (p ++ q) = was p + was q := by unfold was; rw [List.map_append, List.sum_append]
theorem now_app (p q : List (Int × Int)) : now (p ++ q) = now p + now q := by unfold now; rw [List.map_append, List.sum_append]
theorem was_cons (p : Int × Int) (q : List (Int × Int)) : was (p :: q) = p.1 + was q := by unfold was; rw [List.map_cons, List.sum_cons]
theorem now_cons (p : Int × Int) (q : List (Int × Int)) : now (p :: q) = p.2 + now q := by unfold now; rw [List.map_cons, List.sum_cons]
theorem was_nil : was [] = 0 := rfl
theorem now_nil : now [] = 0 := rfl
theorem was_pair (a b : Nat) : was (pair32 a b) = hl32 a := by unfold pair32 hl32; rw [was_cons, was_cons, was_nil]; omega
theorem now_pair (a b : Nat) : now (pair32 a b) = hl32 b := by unfold pair32 hl32; rw [now_cons, now_cons, now_nil]; omega
theorem was_H (s t : Sg) : was (psH s t) = hl32 s.sa + hl32 s.da := by unfold psH; rw [was_app, was_pair, was_pair]
theorem now_H (s t : Sg) : now (psH s t) = hl32 t.sa + hl32 t.da := by unfold psH; rw [now_app, now_pair, now_pair]
theorem was_G (s t : Sg) (O O' : List UInt8) (h : O.length % 2 = 0) : was (psG s t O O') = hl32 s.sa + hl32 s.da + s.sp + s.dp + hl32 s.sq + hl32 s.ak + s.wi + wsum O := by
  unfold psG
  rw [was_app, was_H, was_app, was_cons, was_cons, was_app, was_pair, was_app, was_pair, was_cons, was_nil, was_wp O O' _ (by omega)]
  dsimp only; omega
theorem now_G (s t : Sg) (O O' : List UInt8) (h : O.length % 2 = 0) (h' : O'.length = O.length) : now (psG s t O O') = hl32 t.sa + hl32 t.da + t.sp + t.dp + hl32 t.sq + hl32 t.ak + t.wi + wsum O' := by
  unfold psG
  rw [now_app, now_H, now_app, now_cons, now_cons, now_app, now_pair, now_app, now_pair, now_cons, now_nil, now_wp O O' _ (by omega)]
  dsimp only; omega

abbrev fms (P : List UInt8) (c1 : Nat) (s : Sg) (F : List UInt8) (c2 : Nat) (U O D : List UInt8) : List UInt8 := fm P c1 s.sa s.da s.sp s.dp s.sq s.ak F s.wi c2 (U ++ (O ++ D))
abbrev sgs (s : Sg) (F : List UInt8) (c2 : Nat) (U O D : List UInt8) : List UInt8 := sg s.sp s.dp s.sq s.ak F s.wi c2 (U ++ (O ++ D))
section
variable {P F U O D : List UInt8} {c1 c2 : Nat} {s : Sg}
theorem fms_len (hP : P.length = 10) (hF : F.length = 2) (hU : U.length = 2) : (fms P c1 s F c2 U O D).length = 40 + O.length + D.length := by
  rw [fm_len hP hF, List.length_append, List.length_append, hU]; omega
theorem sgs_len (hF : F.length = 2) (hU : U.length = 2) : (sgs s F c2 U O D).length = 20 + O.length + D.length := by
  rw [sg_len hF, List.length_append, List.length_append, hU]; omega
def HeadOk (P : List UInt8) (n : Nat) : Prop := bt P 0 / 16 = 4 ∧ bt P 0 % 16 = 5 ∧ wd P 2 = (n : Int) ∧ ¬ (wd P 6 ≠ 0 ∧ wd P 6 ≠ 16384)
theorem im_iff (hP : P.length = 10) (hF : F.length = 2) (hU : U.length = 2) (h1 : W16 c1) (hs : WfN s) :
    im.dec (fms P c1 s F c2 U O D) = 0 ↔ HeadOk P (40 + O.length + D.length) ∧ ck (wsum P + (c1 : Int) + hl32 s.sa + hl32 s.da) = 0 := by
  have e1 := head_sum (P := P) (c1 := c1) (sa := s.sa) (da := s.da) hP h1 hs.1 hs.2.1
  have e2 : (fms P c1 s F c2 U O D).take 20 = _ := fm_take hP
  have e3 := fms_len (P := P) (F := F) (U := U) (O := O) (D := D) (c1 := c1) (c2 := c2) (s := s) hP hF hU
  have b0 : bt (fms P c1 s F c2 U O D) 0 = bt P 0 := fm_bt hP 0 (by omega)
  have w2 : wd (fms P c1 s F c2 U O D) 2 = wd P 2 := fm_wd hP 2 (by omega)
  have w6 : wd (fms P c1 s F c2 U O D) 6 = wd P 6 := fm_wd hP 6 (by omega)
  unfold im.dec HeadOk
  rw [e2, e1, e3, b0, w2, w6]
  constructor
  · intro h
    (repeat' split at h) <;> first | omega | skip
  · rintro ⟨⟨h1, h2, h3, h4⟩, h5⟩
    rw [if_neg (by omega), if_neg (by omega), if_neg (by omega), if_neg (by omega), if_neg (by omega), if_neg h4]
def SegOk (F : List UInt8) (n m : Nat) : Prop := bt F 0 / 16 * 4 = ((20 + n : Nat) : Int) ∧ 20 + n + m ≤ 65515 ∧ ¬ (bt F 0 % 16 ≠ 0 ∨ 64 ≤ bt F 1)
theorem sgs_sum (hF : F.length = 2) (hU : U.length = 2) (hO : O.length % 2 = 0) (h2 : W16 c2) (hs : WfN s) (hl : 20 + O.length + D.length ≤ 65515) :
    cm.ts s.sa s.da (sgs s F c2 U O D) = 6 + ((20 + O.length + D.length : Nat) : Int) + wsum F + wsum U + wsum D + c2 + (hl32 s.sa + hl32 s.da + s.sp + s.dp + hl32 s.sq + hl32 s.ak + s.wi + wsum O) := by
  obtain ⟨s1, s2, s3, s4, s5, s6, s7⟩ := hs
  have e1 := sgs_len (F := F) (U := U) (O := O) (D := D) (c2 := c2) (s := s) hF hU
  rw [cm.ts_eq _ _ _ s1 s2 (by omega), e1, sg_sum hF s3 s4 s5 s6 s7 h2, wsum_append U _ (by rw [hU]), wsum_append O _ hO]
  unfold hl32
  omega
theorem sgs_12 (hF : F.length = 2) (hs : WfN s) : bt (sgs s F c2 U O D) 12 = bt F 0 ∧ bt (sgs s F c2 U O D) 13 = bt F 1 := by
  obtain ⟨s1, s2, s3, s4, s5, s6, s7⟩ := hs
  obtain ⟨r1, r2, r3, r4, r5, r6, r7, r8⟩ := sg_read (F := F) (c2 := c2) (R := U ++ (O ++ D)) hF s3 s4 s5 s6 s7
  exact ⟨r5, r6⟩
theorem sgs_dec (hF : F.length = 2) (hU : U.length = 2) (hs : WfN s) (x y : Nat) (ho : SegOk F O.length D.length) (hc : ck (cm.ts x y (sgs s F c2 U O D)) = 0) : cm.dec x y (sgs s F c2 U O D) = 0 := by
  have e1 := sgs_len (F := F) (U := U) (O := O) (D := D) (c2 := c2) (s := s) hF hU
  obtain ⟨r5, r6⟩ := sgs_12 (U := U) (O := O) (D := D) (c2 := c2) hF hs
  obtain ⟨h1, h2, h3⟩ := ho
  refine cm.dec_0 (by omega) (by omega) (by omega) ?_ (by rw [r5, r6]; exact h3)
  unfold cm.hl; rw [r5]; omega
theorem sgs_val (hF : F.length = 2) (hU : U.length = 2) (hs : WfN s) (x y : Nat) (ho : bt F 0 / 16 * 4 = ((20 + O.length : Nat) : Int)) :
    optsOf (sgs s F c2 U O D) = O ∧ (sgs s F c2 U O D).drop (cm.hl (sgs s F c2 U O D)).toNat = D ∧ valG x y (sgs s F c2 U O D) = ⟨x, y, s.sp, s.dp, s.sq, s.ak, (bt F 1).toNat, s.wi, om.decO O, D⟩ := by
  obtain ⟨s1, s2, s3, s4, s5, s6, s7⟩ := hs
  obtain ⟨r1, r2, r3, r4, r5, r6, r7, r8⟩ := sg_read (F := F) (c2 := c2) (R := U ++ (O ++ D)) hF s3 s4 s5 s6 s7
  have eh : (cm.hl (sgs s F c2 U O D)).toNat = 20 + O.length := by unfold cm.hl; rw [r5]; omega
  have d20 : (sgs s F c2 U O D).drop 20 = O ++ D := by
    rw [show 20 = 18 + 2 from rfl, r8 2, List.drop_left' hU]
  have e1 : optsOf (sgs s F c2 U O D) = O := by unfold optsOf; rw [eh, d20, Nat.add_sub_cancel_left, List.take_left]
  have e2 : (sgs s F c2 U O D).drop (cm.hl (sgs s F c2 U O D)).toNat = D := by
    rw [eh, ← List.drop_drop, d20, List.drop_left]
  refine ⟨e1, e2, ?_⟩
  unfold valG
  rw [e1, e2, r1, r2, r3, r4, r6, r7]
  simp only [Int.toNat_natCast]
end

def rwP (x : Sh) (l : List UInt8) : List UInt8 :=
  let s := valP l
  let t := tS x s
  let O := optsOf (l.drop 20)
  let O' := om.turnL x.ak x.va x.ec O
  fms (l.take 10) (foldT (wd l 10) (psH s t)).toNat t ((l.drop 32).take 2) (foldT (wd l 36) (psG s t O O')).toNat ((l.drop 38).take 2) O' s.dt
theorem fms_rw {x : Sh} {P F U O D : List UInt8} {c1 c2 : Nat} {s : Sg} (hx : WfX x) (hs : WfS s) (hP : P.length = 10) (hF : F.length = 2) (hU : U.length = 2) (hO : O.length % 2 = 0) (h1 : W16 c1) (h2 : W16 c2)
    (hl : bt F 0 / 16 * 4 = ((20 + O.length : Nat) : Int)) (hf : (bt F 1).toNat = s.fl) (ho : om.decO O = s.op) (hd : D = s.dt) (he : om.err O = 0) :
    valP (fms P c1 s F c2 U O D) = s ∧ rwP x (fms P c1 s F c2 U O D) = fms P (foldT c1 (psH s (tS x s))).toNat (tS x s) F (foldT c2 (psG s (tS x s) O (om.turnL x.ak x.va x.ec O))).toNat U (om.turnL x.ak x.va x.ec O) D := by
  have hn := wfN hs
  subst hd
  obtain ⟨s1, s2, s3, s4, s5, s6, s7⟩ := hn
  obtain ⟨g1, g2, g3⟩ := sgs_val (F := F) (U := U) (O := O) (D := s.dt) (c2 := c2) hF hU (wfN hs) s.sa s.da hl
  have d20 : (fms P c1 s F c2 U O s.dt).drop 20 = sgs s F c2 U O s.dt := fm_drop hP
  have q1 : qd (fms P c1 s F c2 U O s.dt) 12 = s.sa := fm_sa hP s1
  have q2 : qd (fms P c1 s F c2 U O s.dt) 16 = s.da := fm_da hP s2
  have hv : valP (fms P c1 s F c2 U O s.dt) = s := by
    unfold valP
    rw [d20, q1, q2, Int.toNat_natCast, Int.toNat_natCast, g3, hf, ho]
  have k10 : (fms P c1 s F c2 U O s.dt).take 10 = P := List.take_left' hP
  have w10 : wd (fms P c1 s F c2 U O s.dt) 10 = c1 := by
    rw [← Nat.add_zero 10, ← wd_drop, show (fms P c1 s F c2 U O s.dt).drop 10 = _ from List.drop_left' hP]
    exact om.wd_B16 c1 h1 _
  have d32 : ∀ k, (fms P c1 s F c2 U O s.dt).drop (20 + k) = (sgs s F c2 U O s.dt).drop k := fun k => by rw [← List.drop_drop, d20]
  have e12 : (sgs s F c2 U O s.dt).drop 12 = F ++ (B16 s.wi ++ (B16 c2 ++ (U ++ (O ++ s.dt)))) := by
    show (sg _ _ _ _ _ _ _ _).drop 12 = _
    unfold sg
    rw [← List.append_assoc, ← List.append_assoc, ← List.append_assoc]
    exact List.drop_left' (by simp [B16, B32])
  have e16 : (sgs s F c2 U O s.dt).drop 16 = B16 c2 ++ (U ++ (O ++ s.dt)) := by
    rw [show 16 = 12 + 4 from rfl, ← List.drop_drop, e12, ← List.append_assoc]
    exact List.drop_left' (by simp [hF, B16])
  have e18 : (sgs s F c2 U O s.dt).drop 18 = U ++ (O ++ s.dt) := by
    rw [show 18 = 16 + 2 from rfl, ← List.drop_drop, e16]; exact List.drop_left' rfl
  have k32 : ((fms P c1 s F c2 U O s.dt).drop 32).take 2 = F := by rw [d32 12, e12, List.take_left' hF]
  have w36 : wd (fms P c1 s F c2 U O s.dt) 36 = c2 := by
    rw [← Nat.add_zero 36, ← wd_drop, d32 16, e16]
    exact om.wd_B16 c2 h2 _
  have k38 : ((fms P c1 s F c2 U O s.dt).drop 38).take 2 = U := by rw [d32 18, e18, List.take_left' hU]
  refine ⟨hv, ?_⟩
  unfold rwP
  rw [hv, k10, w10, k32, w36, k38, d20, g1]
end Go.Proofs.Ytafckmbgefbonaa.pm

namespace Go.Proofs.Ytafckmbgefbonaa.pm
open Go.Proofs.Ytafckmbgefbonaa.sm Go.Proofs.Ytafckmbgefbonaa.nb
set_option linter.unusedVariables false

structure Parts (l P F U O : List UInt8) (c1 c2 : Nat) (s : Sg) : Prop where
  hl : l = fms P c1 s F c2 U O s.dt
  hs : WfS s
  hP : P.length = 10
  hF : F.length = 2
  hU : U.length = 2
  hO : O.length % 2 = 0
  h1 : W16 c1
  h2 : W16 c2
  hn : bt F 0 / 16 * 4 = ((20 + O.length : Nat) : Int)
  hf : (bt F 1).toNat = s.fl
  ho : om.decO O = s.op
  he : om.err O = 0
  hh : HeadOk P (40 + O.length + s.dt.length)
  hp : bt P 9 = 6
  hk : ck (wsum P + (c1 : Int) + hl32 s.sa + hl32 s.da) = 0
  hg : SegOk F O.length s.dt.length
  hc : ck (cm.ts s.sa s.da (sgs s F c2 U O s.dt)) = 0
  hm : flg s.fl = true
  hd : s.dt.length ≤ 1460
theorem valP_wf (l : List UInt8) : WfS (valP l) := by
  have q := fun k => qd_bd l k
  have q' := fun k => qd_bd (l.drop 20) k
  have w := fun k => wd_bd (l.drop 20) k
  have b := bt_bd (l.drop 20) 13
  have q1 := q 12; have q2 := q 16; have q3 := q' 4; have q4 := q' 8; have w1 := w 0; have w2 := w 2; have w3 := w 14
  exact ⟨show (qd l 12).toNat ≤ _ by omega, show (qd l 16).toNat ≤ _ by omega, show (wd _ 0).toNat ≤ _ by omega, show (wd _ 2).toNat ≤ _ by omega, show (qd _ 4).toNat ≤ _ by omega, show (qd _ 8).toNat ≤ _ by omega,
    show (bt _ 13).toNat ≤ _ by omega, show (wd _ 14).toNat ≤ _ by omega, (om.decO_rdn _).1.1⟩
theorem split_R (l : List UInt8) (n : Nat) (hn : 20 ≤ n) : l.drop 38 = (l.drop 38).take 2 ++ ((((l.drop 20).drop 20).take (n - 20)) ++ (l.drop 20).drop n) := by
  have e1 : (l.drop 38).drop 2 = (l.drop 20).drop 20 := by rw [List.drop_drop, List.drop_drop]
  have e2 : ((l.drop 20).drop 20).drop (n - 20) = (l.drop 20).drop n := by rw [List.drop_drop (l := l.drop 20), show 20 + (n - 20) = n by omega]
  rw [← e2, List.take_append_drop, ← e1, List.take_append_drop]
theorem bt_F (l : List UInt8) (k : Nat) (hk : k < 2) (h : 34 ≤ l.length) : bt ((l.drop 32).take 2) k = bt (l.drop 20) (12 + k) := by
  have hF : ((l.drop 32).take 2).length = 2 := by rw [List.length_take, List.length_drop]; omega
  rw [bt_drop, show 20 + (12 + k) = 32 + k by omega, ← bt_drop]
  conv => rhs; rw [← List.take_append_drop 2 (l.drop 32)]
  rw [im.bt_app (by omega)]
theorem fms_of (l : List UInt8) (h40 : 40 ≤ l.length) (hn : 20 ≤ (cm.hl (l.drop 20)).toNat) :
    l = fms (l.take 10) (wd l 10).toNat (valP l) ((l.drop 32).take 2) (wd l 36).toNat ((l.drop 38).take 2) (optsOf (l.drop 20)) (valP l).dt := by
  have hR := split_R l _ hn
  have hfm := fm_of l (by omega)
  have e20 : (wd l 20).toNat = (valP l).sp := by show _ = (wd (l.drop 20) 0).toNat; rw [wd_drop]
  have e22 : (wd l 22).toNat = (valP l).dp := by show _ = (wd (l.drop 20) 2).toNat; rw [wd_drop]
  have e24 : (qd l 24).toNat = (valP l).sq := by show _ = (qd (l.drop 20) 4).toNat; rw [om.qd_drop]
  have e28 : (qd l 28).toNat = (valP l).ak := by show _ = (qd (l.drop 20) 8).toNat; rw [om.qd_drop]
  have e34 : (wd l 34).toNat = (valP l).wi := by show _ = (wd (l.drop 20) 14).toNat; rw [wd_drop]
  rw [e20, e22, e24, e28, e34, hR] at hfm
  exact hfm
theorem parts_of {l : List UInt8} (h : errP l = 0) : ∃ P F U O c1 c2, Parts l P F U O c1 c2 (valP l) := by
  obtain ⟨i1, i2, i3⟩ := errP_is0 h
  obtain ⟨g1, g2, g3, g4⟩ := errG_is0 i3
  obtain ⟨k1, k2, k3, k4, k5⟩ := cm.dec_is0 g1
  have hlen : (l.drop 20).length = l.length - 20 := List.length_drop
  have hb12 := bt_bd (l.drop 20) 12
  have hg : ∃ n : Nat, cm.hl (l.drop 20) = (n : Int) ∧ 20 ≤ n ∧ n ≤ l.length - 20 ∧ n % 4 = 0 := by
    refine ⟨(cm.hl (l.drop 20)).toNat, ?_⟩
    unfold cm.hl at *
    omega
  obtain ⟨n, n1, n2, n3, n4⟩ := hg
  have nn : (cm.hl (l.drop 20)).toNat = n := by omega
  have hO : (optsOf (l.drop 20)).length = n - 20 := by unfold optsOf; rw [nn, List.length_take, List.length_drop, hlen]; omega
  have hdt : (valP l).dt = (l.drop 20).drop n := by show (l.drop 20).drop _ = _; rw [nn]
  have hDl : (valP l).dt.length = l.length - 20 - n := by rw [hdt, List.length_drop, hlen]
  have wf := valP_wf l
  have b10 := wd_bd l 10; have b36 := wd_bd l 36
  have h40 : 40 ≤ l.length := by omega
  have hP : (l.take 10).length = 10 := by rw [List.length_take]; omega
  have hF : ((l.drop 32).take 2).length = 2 := by rw [List.length_take, List.length_drop]; omega
  have hU : ((l.drop 38).take 2).length = 2 := by rw [List.length_take, List.length_drop]; omega
  have hfm := fms_of l h40 (by omega)
  have hbF := bt_F l
  have f0 := hbF 0 (by omega) (by omega); have f1 := hbF 1 (by omega) (by omega)
  have w1 : W16 (wd l 10).toNat := by unfold W16; omega
  have w2 : W16 (wd l 36).toNat := by unfold W16; omega
  have n5 : bt ((l.drop 32).take 2) 0 / 16 * 4 = ((20 + (optsOf (l.drop 20)).length : Nat) : Int) := by
    rw [f0, hO]; unfold cm.hl at n1; rw [Nat.add_zero]; omega
  obtain ⟨hh, hk⟩ := (im_iff (P := l.take 10) (F := (l.drop 32).take 2) (U := (l.drop 38).take 2) (O := optsOf (l.drop 20)) (D := (valP l).dt) (c1 := (wd l 10).toNat) (c2 := (wd l 36).toNat) (s := valP l) hP hF hU w1 (wfN wf)).1 (by rw [← hfm]; exact i1)
  have hds : l.drop 20 = sgs (valP l) ((l.drop 32).take 2) (wd l 36).toNat ((l.drop 38).take 2) (optsOf (l.drop 20)) (valP l).dt := by
    conv => lhs; rw [hfm]
    exact fm_drop hP
  refine ⟨l.take 10, (l.drop 32).take 2, (l.drop 38).take 2, optsOf (l.drop 20), (wd l 10).toNat, (wd l 36).toNat, ⟨hfm, wf, hP, hF, hU, by omega, w1, w2, n5, by rw [f1]; rfl, rfl, g2, hh, ?_, hk, ⟨n5, by omega, by rw [f0, f1]; exact k5⟩, ?_, g3, ?_⟩⟩
  · rw [← i2, ← fm_bt hP 9 (by omega)]
    exact congrArg (fun t => bt t 9) hfm.symm
  · rw [← hds]; exact k3
  · rw [hdt, ← nn]; exact g4
theorem parts_back {l P F U O : List UInt8} {c1 c2 : Nat} {s : Sg} (p : Parts l P F U O c1 c2 s) : errP l = 0 ∧ valP l = s := by
  obtain ⟨g1, g2, g3⟩ := sgs_val (F := F) (U := U) (O := O) (D := s.dt) (c2 := c2) p.hF p.hU (wfN p.hs) s.sa s.da p.hn
  have hn := wfN p.hs
  have d20 : l.drop 20 = sgs s F c2 U O s.dt := by rw [p.hl]; exact fm_drop p.hP
  have q1 : qd l 12 = s.sa := by rw [p.hl]; exact fm_sa p.hP hn.1
  have q2 : qd l 16 = s.da := by rw [p.hl]; exact fm_da p.hP hn.2.1
  have b9 : bt l 9 = 6 := by rw [p.hl, fm_bt p.hP 9 (by omega)]; exact p.hp
  have hi : im.dec l = 0 := by rw [p.hl]; exact (im_iff p.hP p.hF p.hU p.h1 hn).2 ⟨p.hh, p.hk⟩
  refine ⟨?_, ?_⟩
  · rw [errP_ok hi b9, d20, q1, q2, Int.toNat_natCast, Int.toNat_natCast]
    refine errG_ok (sgs_dec p.hF p.hU hn _ _ p.hg p.hc) (by rw [g1]; exact p.he) ?_ (by rw [g2]; exact p.hd)
    rw [(sgs_12 p.hF hn).2, p.hf]; exact p.hm
  · unfold valP
    rw [d20, q1, q2, Int.toNat_natCast, Int.toNat_natCast, g3, p.hf, p.ho]
theorem parts_turn {l P F U O : List UInt8} {c1 c2 : Nat} {s : Sg} {x : Sh} (hx : WfX x) (p : Parts l P F U O c1 c2 s) :
    Parts (rwP x l) P F U (om.turnL x.ak x.va x.ec O) (foldT c1 (psH s (tS x s))).toNat (foldT c2 (psG s (tS x s) O (om.turnL x.ak x.va x.ec O))).toNat (tS x s) ∧ (om.turnL x.ak x.va x.ec O).length = O.length := by
  obtain ⟨t1, t2, t3⟩ := om.turn_err (b := x.ak) (v := x.va) (e := x.ec) p.he
  have hs := p.hs; have hn := wfN hs
  have ht := tS_wf hx hs; have hm := wfN ht
  have e := (fms_rw hx hs p.hP p.hF p.hU p.hO p.h1 p.h2 p.hn p.hf p.ho rfl p.he).2
  rw [← p.hl] at e
  have wH := psH_words hn hm
  have wG := psG_words O (om.turnL x.ak x.va x.ec O) hn hm
  obtain ⟨a1, a2, _⟩ := foldT_mod _ (c1 : Int) ⟨by omega, by have := p.h1; unfold W16 at this; omega⟩ wH
  obtain ⟨b1, b2, _⟩ := foldT_mod _ (c2 : Int) ⟨by omega, by have := p.h2; unfold W16 at this; omega⟩ wG
  have n1 : W16 (foldT c1 (psH s (tS x s))).toNat := by unfold W16; omega
  have n2 : W16 (foldT c2 (psG s (tS x s) O (om.turnL x.ak x.va x.ec O))).toNat := by unfold W16; omega
  have hlen : 20 + O.length + s.dt.length ≤ 65515 := p.hg.2.1
  have nn : ∀ a : Nat, 0 ≤ hl32 a := fun a => by unfold hl32; omega
  refine ⟨⟨e, ht, p.hP, p.hF, p.hU, by rw [t3]; exact p.hO, n1, n2, by rw [t3]; exact p.hn, p.hf, by rw [t2, p.ho]; rfl, t1, by rw [t3]; exact p.hh, p.hp, ?_, by rw [t3]; exact p.hg, ?_, p.hm, p.hd⟩, t3⟩
  · have wp0 := wsum_bd P
    have hpos : 0 < wsum P := by
      rw [wsum_cons P (by rw [p.hP]; decide)]
      have := p.hh.1
      have b0 := bt_bd P 0; have b1 := bt_bd P 1; have wb := (wsum_bd (P.drop 2)).1
      unfold wd; rw [Nat.zero_add]; omega
    have k := p.hk
    rw [Int.add_assoc, ← was_H s (tS x s)] at k
    have r := still_right (wsum P) c1 (psH s (tS x s)) ⟨by omega, by have := p.h1; unfold W16 at this; omega⟩ wH (by rw [was_H]; have := nn s.sa; have := nn s.da; omega) k (by rw [now_H]; have := nn (tS x s).sa; have := nn (tS x s).da; omega)
    rw [now_H, ← Int.add_assoc] at r
    rw [Int.toNat_of_nonneg a1.1]; exact r
  · have c := p.hc
    rw [sgs_sum p.hF p.hU p.hO p.h2 hn hlen, ← was_G s (tS x s) O (om.turnL x.ak x.va x.ec O) p.hO] at c
    have wF := (wsum_bd F).1; have wU := (wsum_bd U).1; have wD := (wsum_bd s.dt).1; have wO := (wsum_bd O).1; have wO' := (wsum_bd (om.turnL x.ak x.va x.ec O)).1
    have r := still_right _ c2 (psG s (tS x s) O (om.turnL x.ak x.va x.ec O)) ⟨by omega, by have := p.h2; unfold W16 at this; omega⟩ wG
      (by rw [was_G _ _ _ _ p.hO]; have := nn s.sa; have := nn s.da; have := nn s.sq; have := nn s.ak; omega) c
      (by rw [now_G _ _ _ _ p.hO t3]; have := nn (tS x s).sa; have := nn (tS x s).da; have := nn (tS x s).sq; have := nn (tS x s).ak; omega)
    rw [now_G _ _ _ _ p.hO t3] at r
    change ck (cm.ts (tS x s).sa (tS x s).da (sgs (tS x s) F _ U _ (tS x s).dt)) = 0
    rw [sgs_sum p.hF p.hU (by rw [t3]; exact p.hO) n2 hm (by rw [t3]; exact hlen), t3, Int.toNat_of_nonneg b1.1]
    exact r
theorem turned {l : List UInt8} {x : Sh} (hx : WfX x) (h : errP l = 0) : errP (rwP x l) = 0 ∧ valP (rwP x l) = tS x (valP l) ∧ (rwP x l).length = l.length := by
  obtain ⟨P, F, U, O, c1, c2, p⟩ := parts_of h
  obtain ⟨q, t3⟩ := parts_turn hx p
  obtain ⟨e1, e2⟩ := parts_back q
  refine ⟨e1, e2, ?_⟩
  rw [q.hl, p.hl, fms_len q.hP q.hF q.hU, fms_len p.hP p.hF p.hU, t3]
  rw [← p.hl]; rfl
end Go.Proofs.Ytafckmbgefbonaa.pm

namespace Go.Proofs.Ytafckmbgefbonaa.om
open Go.Proofs.Ytafckmbgefbonaa.sm Go.Proofs.Ytafckmbgefbonaa.nb
set_option linter.unusedVariables false

def addAt (s : List UInt8) (k b : Nat) : List UInt8 := s.take k ++ (B32 (addM (qd s k).toNat b) ++ s.drop (k + 4))
theorem B32_len (x : Nat) : (B32 x).length = 4 := rfl
theorem addAt_len (s : List UInt8) (k b : Nat) (h : k + 4 ≤ s.length) : (addAt s k b).length = s.length := by
  unfold addAt; simp [B32_len]; omega
theorem addAt_left (A t : List UInt8) (k b : Nat) : addAt (A ++ t) (A.length + k) b = A ++ addAt t k b := by
  unfold addAt
  have e : qd (A ++ t) (A.length + k) = qd t k := by rw [← qd_drop, List.drop_left]
  rw [e, List.take_length_add_append, show A.length + k + 4 = A.length + (k + 4) by omega, List.drop_length_add_append, List.append_assoc]
theorem bt_left (X R : List UInt8) (k : Nat) (h : k < X.length) : bt (X ++ R) k = bt X k := by
  unfold bt; simp [List.getD, List.getElem?_append_left h]
theorem qd_left (X R : List UInt8) (k : Nat) (h : k + 4 ≤ X.length) : qd (X ++ R) k = qd X k := by
  unfold qd wd; rw [bt_left X R k (by omega), bt_left X R (k + 1) (by omega), bt_left X R (k + 2) (by omega), bt_left X R (k + 2 + 1) (by omega)]
theorem addAt_right (X R : List UInt8) (k b : Nat) (h : k + 4 ≤ X.length) : addAt (X ++ R) k b = addAt X k b ++ R := by
  unfold addAt
  rw [qd_left X R k h, List.take_append_of_le_length (by omega), List.drop_append_of_le_length h]
  simp only [List.append_assoc]
theorem addAt_0 (x b : Nat) (hx : x < M32) (t : List UInt8) : addAt (B32 x ++ t) 0 b = B32 (addM x b) ++ t := by
  unfold addAt
  rw [qd_B32 x hx, Int.toNat_natCast]; rfl
def wt (b : Nat) (p : List UInt8) : Nat → List UInt8
  | 0 => p
  | n + 1 => addAt (wt b p n) (4 * n) b
theorem wt_len (b : Nat) (p : List UInt8) : ∀ n, 4 * n ≤ p.length → (wt b p n).length = p.length
  | 0, _ => rfl
  | n + 1, h => by
    show (addAt (wt b p n) (4 * n) b).length = _
    rw [addAt_len _ _ _ (by rw [wt_len b p n (by omega)]; omega), wt_len b p n (by omega)]
theorem wt_8 (b x y : Nat) (hx : x < M32) (hy : y < M32) (t : List UInt8) : ∀ n, wt b (B32 x ++ (B32 y ++ t)) (n + 2) = B32 (addM x b) ++ (B32 (addM y b) ++ wt b t n)
  | 0 => by
    show addAt (addAt (B32 x ++ (B32 y ++ t)) 0 b) 4 b = _
    rw [addAt_0 x b hx]
    have e := addAt_left (B32 (addM x b)) (B32 y ++ t) 0 b
    rw [B32_len, Nat.add_zero] at e
    rw [e, addAt_0 y b hy]; rfl
  | n + 1 => by
    show addAt (wt b (B32 x ++ (B32 y ++ t)) (n + 2)) (4 * (n + 2)) b = B32 (addM x b) ++ (B32 (addM y b) ++ addAt (wt b t n) (4 * n) b)
    rw [wt_8 b x y hx hy t n]
    have e := addAt_left (B32 (addM x b) ++ B32 (addM y b)) (wt b t n) (4 * n) b
    rw [List.append_assoc, show (B32 (addM x b) ++ B32 (addM y b)).length + 4 * n = 4 * (n + 2) by simp [B32_len]; omega] at e
    rw [e, List.append_assoc]
theorem wt_flat (b : Nat) : ∀ (q : Nat) (p : List UInt8), p.length = 8 * q → wt b p (2 * q) = flat ((blocks p).map fun x => (addM x.1 b, addM x.2 b))
  | 0, p, h => by
    have : p = [] := List.length_eq_zero_iff.1 (by omega)
    subst this; rfl
  | q + 1, p, h => by
    obtain ⟨t, ht⟩ := eight_split p (by omega)
    have hl : t.length = 8 * q := by
      have := congrArg List.length ht
      simp [B32] at this; omega
    have hb := blocks_cons ((qd p 0).toNat, (qd p 4).toNat) t ⟨qd_lt _ _, qd_lt _ _⟩
    dsimp only at hb
    rw [← ht] at hb
    rw [hb]
    have e := wt_8 b (qd p 0).toNat (qd p 4).toNat (qd_lt _ _) (qd_lt _ _) t (2 * q)
    rw [← ht] at e
    rw [show 2 * (q + 1) = 2 * q + 2 by omega, e, wt_flat b q t hl]
    rfl
theorem tpay_5 (b v e q : Nat) (p : List UInt8) (h : p.length = 8 * q) : tpay b v e 5 p = wt b p (2 * q) := by
  rw [wt_flat b q p h]; rfl
theorem tpay_8 (b v e : Nat) (p : List UInt8) (h : p.length = 8) : tpay b v e 8 p = addAt (addAt p 0 v) 4 e := by
  obtain ⟨t, ht⟩ := eight_split p (by omega)
  have hl : t = [] := by
    have := congrArg List.length ht
    simp [B32] at this
    exact List.length_eq_zero_iff.1 (by omega)
  subst hl
  rw [List.append_nil] at ht
  have e1 : addAt p 0 v = B32 (addM (qd p 0).toNat v) ++ B32 (qd p 4).toNat := by
    have := addAt_0 (qd p 0).toNat v (qd_lt _ _) (B32 (qd p 4).toNat)
    rwa [← ht] at this
  have e2 := addAt_left (B32 (addM (qd p 0).toNat v)) (B32 (qd p 4).toNat ++ []) 0 e
  rw [addAt_0 _ _ (qd_lt _ _), B32_len, Nat.add_zero, List.append_nil, List.append_nil] at e2
  rw [e1, e2]; rfl
theorem tpay_x (b v e k : Nat) (p : List UInt8) (h5 : k ≠ 5) (h8 : k ≠ 8) : tpay b v e k p = p := by unfold tpay; rw [if_neg h8, if_neg h5]
end Go.Proofs.Ytafckmbgefbonaa.om
