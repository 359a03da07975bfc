/- The options of segments: mathematics: their bytes, what bytes are, what is turned. Condition: none. -/
import Derived.Test.YtdlcglkeinlimaaNetBase
namespace Go.Proofs.Ytdlcglkeinlimaa.om
open Go.Proofs.Ytdlcglkeinlimaa.sm Go.Proofs.Ytdlcglkeinlimaa.nb
set_option linter.unusedVariables false

/-- options -/
structure Opz where
  mss : Nat
  sc : Int
  sk : Bool
  bl : List (Nat × Nat)
  tm : Bool
  va : Nat
  ec : Nat
abbrev M32 : Nat := 4294967296
def none_ : Opz := ⟨0, -1, false, [], false, 0, 0⟩
def zero_ : Opz := ⟨0, 0, false, [], false, 0, 0⟩
/-- the numbers fit their kinds -/
def Wf (o : Opz) : Prop := o.mss ≤ 65535 ∧ (∀ b ∈ o.bl, b.1 < M32 ∧ b.2 < M32) ∧ o.va < M32 ∧ o.ec < M32
def same (a b : Opz) : Bool := a.mss == b.mss && a.sc == b.sc && a.sk == b.sk && a.tm == b.tm && a.va == b.va && a.ec == b.ec && a.bl == b.bl
theorem same_iff (a b : Opz) : same a b = true ↔ a = b := by
  cases a; cases b
  simp [same]
  constructor
  · rintro ⟨⟨⟨⟨⟨⟨h1, h2⟩, h3⟩, h4⟩, h5⟩, h6⟩, h7⟩; exact ⟨h1, h2, h3, h7, h4, h5, h6⟩
  · rintro ⟨h1, h2, h3, h7, h4, h5, h6⟩; exact ⟨⟨⟨⟨⟨⟨h1, h2⟩, h3⟩, h4⟩, h5⟩, h6⟩, h7⟩

/-! ### bytes of options -/
def rMss (o : Opz) : List UInt8 := if o.mss = 0 then [] else 2 :: 4 :: B16 o.mss
def rSc (o : Opz) : List UInt8 := if 0 ≤ o.sc then [1, 3, 3, oct o.sc.toNat] else []
def rSk (o : Opz) : List UInt8 := if o.sk = true then [1, 1, 4, 2] else []
def rTm (o : Opz) : List UInt8 := if o.tm = true then 1 :: 1 :: 8 :: 10 :: (B32 o.va ++ B32 o.ec) else []
def flat : List (Nat × Nat) → List UInt8
  | [] => []
  | b :: t => B32 b.1 ++ (B32 b.2 ++ flat t)
def rBl (o : Opz) : List UInt8 := if o.bl = [] then [] else 1 :: 1 :: 5 :: oct (2 + 8 * o.bl.length) :: flat o.bl
def raw (o : Opz) : List UInt8 := rMss o ++ (rSc o ++ (rSk o ++ (rTm o ++ rBl o)))
theorem flat_len : ∀ l, (flat l).length = 8 * l.length
  | [] => rfl
  | b :: t => by simp [flat, B32, flat_len t]; omega
theorem flat_app : ∀ l m, flat (l ++ m) = flat l ++ flat m
  | [], m => rfl
  | b :: t, m => by simp [flat, flat_app t m]
theorem rMss_len (o : Opz) : (rMss o).length = if o.mss = 0 then 0 else 4 := by unfold rMss; split <;> rfl
theorem rSc_len (o : Opz) : (rSc o).length = if 0 ≤ o.sc then 4 else 0 := by unfold rSc; split <;> rfl
theorem rSk_len (o : Opz) : (rSk o).length = if o.sk = true then 4 else 0 := by unfold rSk; split <;> rfl
theorem rTm_len (o : Opz) : (rTm o).length = if o.tm = true then 12 else 0 := by unfold rTm; split <;> rfl
theorem rBl_len (o : Opz) : (rBl o).length = if o.bl = [] then 0 else 4 + 8 * o.bl.length := by
  unfold rBl; split
  · rfl
  · simp only [List.length_cons, flat_len]; omega
def rawLen (o : Opz) : Nat := (if o.mss = 0 then 0 else 4) + (if 0 ≤ o.sc then 4 else 0) + (if o.sk = true then 4 else 0) + (if o.tm = true then 12 else 0) + (if o.bl = [] then 0 else 4 + 8 * o.bl.length)
theorem raw_len (o : Opz) : (raw o).length = rawLen o := by
  unfold raw rawLen
  rw [List.length_append, List.length_append, List.length_append, List.length_append, rMss_len, rSc_len, rSk_len, rTm_len, rBl_len]
  omega
theorem rawLen_four (o : Opz) : rawLen o % 4 = 0 := by
  unfold rawLen
  (repeat' split) <;> omega
/-- may they be -/
abbrev May (o : Opz) : Prop := -1 ≤ o.sc ∧ o.sc ≤ 14 ∧ o.bl.length ≤ 4 ∧ (o.tm = false → o.va = 0 ∧ o.ec = 0) ∧ rawLen o ≤ 40

/-! ### bytes read -/
abbrev Item := Nat × List UInt8
def lenOk (k n : Nat) : Bool := if k = 2 then n == 4 else if k = 3 then n == 3 else if k = 4 then n == 2 else if k = 5 then n == 10 || n == 18 || n == 26 || n == 34 else if k = 8 then n == 10 else decide (2 ≤ n)
def known (k : Nat) : Bool := decide (2 ≤ k) && decide (k ≤ 5) || k == 8
theorem lenOk_two {k n : Nat} (h : lenOk k n = true) : 2 ≤ n := by
  unfold lenOk at h
  (repeat' split at h) <;> simp at h <;> omega
def parse : List UInt8 → Option (List Item)
  | [] => some []
  | k :: t =>
    if k.toNat = 0 then some [] else if k.toNat = 1 then parse t else
    match t with
    | [] => none
    | n :: u => if lenOk k.toNat n.toNat = true ∧ n.toNat ≤ u.length + 2 then (parse (u.drop (n.toNat - 2))).map fun r => (k.toNat, u.take (n.toNat - 2)) :: r else none
termination_by l => l.length
decreasing_by
  all_goals (simp; try omega)
theorem parse_nil : parse [] = some [] := by rw [parse]
theorem parse_0 (k : UInt8) (t : List UInt8) (h : k.toNat = 0) : parse (k :: t) = some [] := by cases t <;> rw [parse, if_pos h]
theorem parse_1 (k : UInt8) (t : List UInt8) (h : k.toNat = 1) : parse (k :: t) = parse t := by cases t <;> (conv => lhs; rw [parse, if_neg (by omega), if_pos h])
theorem parse_one (k : UInt8) (h : k.toNat ≠ 0) (h1 : k.toNat ≠ 1) : parse [k] = none := by rw [parse, if_neg h, if_neg h1]
theorem parse_no (k n : UInt8) (u : List UInt8) (h : k.toNat ≠ 0) (h1 : k.toNat ≠ 1) (h2 : ¬ (lenOk k.toNat n.toNat = true ∧ n.toNat ≤ u.length + 2)) : parse (k :: n :: u) = none := by
  rw [parse, if_neg h, if_neg h1, if_neg h2]
theorem parse_yes (k n : UInt8) (u : List UInt8) (h : k.toNat ≠ 0) (h1 : k.toNat ≠ 1) (h2 : lenOk k.toNat n.toNat = true) (h3 : n.toNat ≤ u.length + 2) :
    parse (k :: n :: u) = (parse (u.drop (n.toNat - 2))).map fun r => (k.toNat, u.take (n.toNat - 2)) :: r := by
  rw [parse, if_neg h, if_neg h1, if_pos ⟨h2, h3⟩]
/-- an option, with what stands behind it -/
theorem parse_item (k n : UInt8) (p t : List UInt8) (h : 2 ≤ k.toNat) (h2 : lenOk k.toNat n.toNat = true) (h3 : n.toNat = p.length + 2) :
    parse (k :: n :: (p ++ t)) = (parse t).map fun r => (k.toNat, p) :: r := by
  rw [parse_yes k n _ (by omega) (by omega) h2 (by rw [List.length_append]; omega)]
  rw [h3, Nat.add_sub_cancel, List.drop_left, List.take_left]
abbrev Clash (x y : Item) : Prop := known x.1 = true → x.1 ≠ y.1
/-- no known kind twice, no MSS 0 -/
abbrev Fine (l : List Item) : Prop := l.Pairwise Clash ∧ ∀ x ∈ l, ¬ (x.1 = 2 ∧ wd x.2 0 = 0)
def blocks (p : List UInt8) : List (Nat × Nat) := (List.range (p.length / 8)).map fun i => ((qd p (8 * i)).toNat, (qd p (8 * i + 4)).toNat)
def put (o : Opz) (x : Item) : Opz :=
  if x.1 = 2 then { o with mss := (wd x.2 0).toNat } else if x.1 = 3 then { o with sc := min (bt x.2 0) 14 } else if x.1 = 4 then { o with sk := true }
  else if x.1 = 5 then { o with bl := o.bl ++ blocks x.2 } else if x.1 = 8 then { o with tm := true, va := (qd x.2 0).toNat, ec := (qd x.2 4).toNat } else o
def dec (l : List UInt8) : Option Opz :=
  match parse l with
  | none => none
  | some its => if Fine its then some (its.foldl put none_) else none
/-- what Decode says: an error's number, 0 for nothing -/
def err (l : List UInt8) : Nat := if 40 < l.length then 4 else if (dec l).isNone then 70 else 0
/-- .. and which options -/
def decO (l : List UInt8) : Opz := if 40 < l.length then zero_ else (dec l).getD zero_
theorem dec_some {l : List UInt8} {its : List Item} (h : parse l = some its) (hf : Fine its) : dec l = some (its.foldl put none_) := by
  unfold dec; rw [h]; exact if_pos hf
theorem dec_bad {l : List UInt8} {its : List Item} (h : parse l = some its) (hf : ¬ Fine its) : dec l = none := by
  unfold dec; rw [h]; exact if_neg hf
theorem dec_none {l : List UInt8} (h : parse l = none) : dec l = none := by
  unfold dec; rw [h]
theorem dec_is {l : List UInt8} {o : Opz} (h : dec l = some o) : ∃ its, parse l = some its ∧ Fine its ∧ o = its.foldl put none_ := by
  unfold dec at h
  split at h
  · cases h
  · rename_i its hp
    split at h
    · rename_i hf; cases h; exact ⟨its, hp, hf, rfl⟩
    · cases h
theorem err_0 {l : List UInt8} {o : Opz} (h : dec l = some o) (hl : l.length ≤ 40) : err l = 0 ∧ decO l = o := by
  unfold err decO; rw [if_neg (Nat.not_lt.2 hl), if_neg (Nat.not_lt.2 hl), h]; exact ⟨rfl, rfl⟩
theorem err_70 {l : List UInt8} (h : dec l = none) (hl : l.length ≤ 40) : err l = 70 ∧ decO l = zero_ := by
  unfold err decO; rw [if_neg (Nat.not_lt.2 hl), if_neg (Nat.not_lt.2 hl), h]; exact ⟨rfl, rfl⟩
theorem err_4 {l : List UInt8} (hl : 40 < l.length) : err l = 4 ∧ decO l = zero_ := by
  unfold err decO; rw [if_pos hl, if_pos hl]; exact ⟨rfl, rfl⟩
theorem err_is0 {l : List UInt8} (h : err l = 0) : l.length ≤ 40 ∧ ∃ o, dec l = some o ∧ decO l = o := by
  by_cases hl : 40 < l.length
  · rw [(err_4 hl).1] at h; cases h
  · cases hd : dec l with
    | none => rw [(err_70 hd (by omega)).1] at h; cases h
    | some o => exact ⟨by omega, o, rfl, (err_0 hd (by omega)).2⟩

/-! ### what was written is read -/
def iMss (o : Opz) : List Item := if o.mss = 0 then [] else [(2, B16 o.mss)]
def iSc (o : Opz) : List Item := if 0 ≤ o.sc then [(3, [oct o.sc.toNat])] else []
def iSk (o : Opz) : List Item := if o.sk = true then [(4, [])] else []
def iTm (o : Opz) : List Item := if o.tm = true then [(8, B32 o.va ++ B32 o.ec)] else []
def iBl (o : Opz) : List Item := if o.bl = [] then [] else [(5, flat o.bl)]
def items (o : Opz) : List Item := iMss o ++ (iSc o ++ (iSk o ++ (iTm o ++ iBl o)))
theorem map_id_nil (x : Option (List Item)) : x.map (fun r => [] ++ r) = x := by cases x <;> rfl
theorem p_mss (o : Opz) (t : List UInt8) : parse (rMss o ++ t) = (parse t).map fun r => iMss o ++ r := by
  unfold rMss iMss; split
  · rw [map_id_nil]; rfl
  · exact parse_item 2 4 (B16 o.mss) t (by decide) rfl rfl
theorem p_sc (o : Opz) (h : o.sc ≤ 14) (t : List UInt8) : parse (rSc o ++ t) = (parse t).map fun r => iSc o ++ r := by
  unfold rSc iSc; split
  · show parse (1 :: 3 :: 3 :: ([oct o.sc.toNat] ++ t)) = _
    rw [parse_1 1 _ rfl, parse_item 3 3 _ t (by decide) rfl rfl]; rfl
  · rw [map_id_nil]; rfl
theorem p_sk (o : Opz) (t : List UInt8) : parse (rSk o ++ t) = (parse t).map fun r => iSk o ++ r := by
  unfold rSk iSk; split
  · show parse (1 :: 1 :: 4 :: 2 :: ([] ++ t)) = _
    rw [parse_1 1 _ rfl, parse_1 1 _ rfl, parse_item 4 2 _ t (by decide) rfl rfl]; rfl
  · rw [map_id_nil]; rfl
theorem p_tm (o : Opz) (t : List UInt8) : parse (rTm o ++ t) = (parse t).map fun r => iTm o ++ r := by
  unfold rTm iTm; split
  · show parse (1 :: 1 :: 8 :: 10 :: ((B32 o.va ++ B32 o.ec) ++ t)) = _
    rw [parse_1 1 _ rfl, parse_1 1 _ rfl, parse_item 8 10 _ t (by decide) rfl rfl]; rfl
  · rw [map_id_nil]; rfl
theorem p_bl (o : Opz) (h : o.bl.length ≤ 4) (t : List UInt8) : parse (rBl o ++ t) = (parse t).map fun r => iBl o ++ r := by
  unfold rBl iBl; split
  · rw [map_id_nil]; rfl
  · rename_i hb
    have hn : 0 < o.bl.length := List.length_pos_iff.2 hb
    have e : (oct (2 + 8 * o.bl.length)).toNat = 2 + 8 * o.bl.length := oct_nat (by omega)
    show parse (1 :: 1 :: 5 :: oct (2 + 8 * o.bl.length) :: (flat o.bl ++ t)) = _
    rw [parse_1 1 _ rfl, parse_1 1 _ rfl, parse_item 5 _ _ t (by decide) ?_ (by rw [e, flat_len]; omega)]; rfl
    rw [e]
    rcases (by omega : o.bl.length = 1 ∨ o.bl.length = 2 ∨ o.bl.length = 3 ∨ o.bl.length = 4) with h | h | h | h <;> rw [h] <;> rfl
theorem p_raw {o : Opz} (h : May o) (t : List UInt8) : parse (raw o ++ t) = (parse t).map fun r => items o ++ r := by
  obtain ⟨_, h1, h2, _, _⟩ := h
  unfold raw items
  simp only [List.append_assoc]
  rw [p_mss, p_sc o h1, p_sk, p_tm, p_bl o h2]
  cases parse t with
  | none => rfl
  | some r => simp
theorem nat_oct (n : Nat) (h : n ≤ 255) (t : List UInt8) : bt (oct n :: t) 0 = (n : Int) := by
  show ((oct n).toNat : Int) = _
  rw [oct_nat h]
theorem wd_B16 (n : Nat) (h : n ≤ 65535) (t : List UInt8) : wd (B16 n ++ t) 0 = (n : Int) := by
  show ((oct (n / 256)).toNat : Int) * 256 + ((oct (n % 256)).toNat : Int) = _
  rw [oct_nat (by omega), oct_nat (by omega)]; omega
theorem qd_B32 (n : Nat) (h : n < M32) (t : List UInt8) : qd (B32 n ++ t) 0 = (n : Int) := by
  have hq := q_le n (by unfold M32 at h; omega)
  show (((oct (q3 n)).toNat : Int) * 256 + ((oct (q2 n)).toNat : Int)) * 65536 + (((oct (q1 n)).toNat : Int) * 256 + ((oct (q0 n)).toNat : Int)) = _
  rw [oct_nat hq.1, oct_nat hq.2.1, oct_nat hq.2.2.1, oct_nat hq.2.2.2]
  unfold q3 q2 q1 q0; omega
theorem qd_drop (l : List UInt8) (j k : Nat) : qd (l.drop j) k = qd l (j + k) := by unfold qd; rw [wd_drop, wd_drop]; rfl
theorem qd_B32' (a n : Nat) (h : n < M32) (t : List UInt8) : qd (B32 a ++ (B32 n ++ t)) 4 = (n : Int) := by
  have e := qd_drop (B32 a ++ (B32 n ++ t)) 4 0
  rw [← e, show (B32 a ++ (B32 n ++ t)).drop 4 = B32 n ++ t from rfl, qd_B32 n h]
theorem blocks_cons (b : Nat × Nat) (t : List UInt8) (h : b.1 < M32 ∧ b.2 < M32) : blocks (B32 b.1 ++ (B32 b.2 ++ t)) = b :: blocks t := by
  unfold blocks
  have e : (B32 b.1 ++ (B32 b.2 ++ t)).length / 8 = t.length / 8 + 1 := by simp [B32]; omega
  rw [e, List.range_succ_eq_map, List.map_cons, List.map_map]
  have e0 : ((qd (B32 b.1 ++ (B32 b.2 ++ t)) (8 * 0)).toNat, (qd (B32 b.1 ++ (B32 b.2 ++ t)) (8 * 0 + 4)).toNat) = b := by
    rw [Nat.mul_zero, Nat.zero_add, qd_B32 _ h.1, qd_B32' _ _ h.2]; simp
  rw [e0]
  refine congrArg (List.cons b) (List.map_congr_left ?_)
  intro i _
  have f1 := qd_drop (B32 b.1 ++ (B32 b.2 ++ t)) 8 (8 * i)
  have f2 := qd_drop (B32 b.1 ++ (B32 b.2 ++ t)) 8 (8 * i + 4)
  rw [show (B32 b.1 ++ (B32 b.2 ++ t)).drop 8 = t from rfl] at f1 f2
  show ((qd _ (8 * (i + 1))).toNat, (qd _ (8 * (i + 1) + 4)).toNat) = _
  rw [f1, f2, show 8 * (i + 1) = 8 + 8 * i by omega, show 8 + 8 * i + 4 = 8 + (8 * i + 4) by omega]
theorem blocks_flat : ∀ l : List (Nat × Nat), (∀ b ∈ l, b.1 < M32 ∧ b.2 < M32) → blocks (flat l) = l
  | [], _ => rfl
  | b :: t, h => by
    show blocks (B32 b.1 ++ (B32 b.2 ++ flat t)) = _
    rw [blocks_cons b _ (h b (by simp)), blocks_flat t (fun x hx => h x (by simp [hx]))]
theorem put_items {o : Opz} (h : May o) (hw : Wf o) : (items o).foldl put none_ = o := by
  obtain ⟨m, s, k, b, t, v, e⟩ := o
  obtain ⟨h1, h2, h3, h4, h5⟩ := h
  obtain ⟨w1, w2, w3, w4⟩ := hw
  dsimp only at h1 h2 h3 h4 h5 w1 w2 w3 w4
  have a1 : (iMss ⟨m, s, k, b, t, v, e⟩).foldl put none_ = ⟨m, -1, false, [], false, 0, 0⟩ := by
    unfold iMss; split
    · rename_i h; dsimp only at h; subst h; rfl
    · have := wd_B16 m w1 []
      rw [List.append_nil] at this
      show put none_ (2, B16 m) = _
      unfold put; simp [this, none_]
  have a2 : (iSc ⟨m, s, k, b, t, v, e⟩).foldl put ⟨m, -1, false, [], false, 0, 0⟩ = ⟨m, s, false, [], false, 0, 0⟩ := by
    unfold iSc; split
    · rename_i h; dsimp only at h
      have := nat_oct s.toNat (by omega) []
      show put _ (3, [oct s.toNat]) = _
      unfold put; simp [this]; omega
    · rename_i h; dsimp only at h
      show (⟨m, -1, false, [], false, 0, 0⟩ : Opz) = _
      rw [show s = -1 by omega]
  have a3 : (iSk ⟨m, s, k, b, t, v, e⟩).foldl put ⟨m, s, false, [], false, 0, 0⟩ = ⟨m, s, k, [], false, 0, 0⟩ := by
    unfold iSk; cases k <;> rfl
  have a4 : (iTm ⟨m, s, k, b, t, v, e⟩).foldl put ⟨m, s, k, [], false, 0, 0⟩ = ⟨m, s, k, [], t, v, e⟩ := by
    unfold iTm; cases t
    · obtain ⟨rfl, rfl⟩ := h4 rfl; rfl
    · have f1 := qd_B32 v w3 (B32 e)
      have f2 := qd_B32' v e w4 []
      rw [List.append_nil] at f2
      show put _ (8, B32 v ++ B32 e) = _
      unfold put; simp [f1, f2]
  have a5 : (iBl ⟨m, s, k, b, t, v, e⟩).foldl put ⟨m, s, k, [], t, v, e⟩ = ⟨m, s, k, b, t, v, e⟩ := by
    unfold iBl; split
    · rename_i h; dsimp only at h; subst h; rfl
    · show put _ (5, flat b) = _
      unfold put; simp [blocks_flat b w2]
  unfold items
  rw [List.foldl_append, List.foldl_append, List.foldl_append, List.foldl_append, a1, a2, a3, a4, a5]
theorem fine_items {o : Opz} (hw : Wf o) : Fine (items o) := by
  obtain ⟨m, s, k, b, t, v, e⟩ := o
  have hm : m ≤ 65535 := hw.1
  have f := wd_B16 m hm []
  rw [List.append_nil] at f
  unfold items iMss iSc iSk iTm iBl
  refine ⟨?_, ?_⟩
  · (repeat' split) <;> simp [Clash]
  · intro x hx
    simp only [List.mem_append] at hx
    rcases hx with hx | hx | hx | hx | hx
    · split at hx
      · cases hx
      · rename_i h0
        simp at hx; subst hx
        rintro ⟨_, h⟩
        dsimp only at h h0
        rw [f] at h; omega
    all_goals
      split at hx
      all_goals (simp at hx; try subst hx)
      all_goals simp
theorem raw_dec {o : Opz} (h : May o) (hw : Wf o) : dec (raw o) = some o := by
  have hp := p_raw h []
  rw [List.append_nil, parse_nil] at hp
  simp only [Option.map_some, List.append_nil] at hp
  rw [dec_some hp (fine_items hw), put_items h hw]
theorem raw_inj {o p : Opz} (ho : May o) (hp : May p) (wo : Wf o) (wp : Wf p) (h : raw o = raw p) : o = p := by
  have h1 := raw_dec ho wo
  rw [h, raw_dec hp wp] at h1
  exact (Option.some.inj h1).symm
/-- what is not known says nothing, wherever it stands; nor what stands behind the end -/
theorem apart {o : Opz} (h : May o) (hw : Wf o) (n : UInt8) (u b : List UInt8) (hn : n.toNat = u.length + 2) :
    dec (30 :: n :: (u ++ (raw o ++ (30 :: n :: (u ++ (0 :: b)))))) = some o := by
  have hl : lenOk (30 : UInt8).toNat n.toNat = true := by rw [hn]; simp [lenOk]
  have e1 : parse (30 :: n :: (u ++ (0 :: b))) = some [(30, u)] := by
    rw [parse_item 30 n u _ (by decide) hl hn, parse_0 0 _ rfl]; rfl
  have e2 : parse (30 :: n :: (u ++ (raw o ++ (30 :: n :: (u ++ (0 :: b)))))) = some ((30, u) :: (items o ++ [(30, u)])) := by
    rw [parse_item 30 n u _ (by decide) hl hn, p_raw h, e1]; rfl
  have hk : ∀ x ∈ items o, x.1 ≠ 30 := by
    intro x hx
    unfold items iMss iSc iSk iTm iBl at hx
    simp only [List.mem_append] at hx
    rcases hx with hx | hx | hx | hx | hx <;> split at hx <;> simp at hx <;> subst hx <;> simp
  have hf := fine_items hw
  rw [dec_some e2 ?_]
  · rw [List.foldl_cons, List.foldl_append]
    rw [show put none_ (30, u) = none_ from rfl, put_items h hw]; rfl
  · refine ⟨?_, ?_⟩
    · rw [List.pairwise_cons, List.pairwise_append]
      refine ⟨fun _ _ hk => absurd hk (by simp [known]), hf.1, by simp, ?_⟩
      intro a ha c hc _
      simp at hc; subst hc
      exact hk a ha
    · intro x hx
      simp only [List.mem_cons, List.mem_append, List.not_mem_nil, or_false] at hx
      rcases hx with rfl | hx | rfl
      · simp
      · exact hf.2 x hx
      · simp
end Go.Proofs.Ytdlcglkeinlimaa.om
