/- Words of texts and sums by ones' complement: plain mathematics. Condition: none. -/
namespace Go.Proofs.Ytebihfojebdfbaa.sm

/-- the byte at k, 0 behind the end -/
def bt (l : List UInt8) (k : Nat) : Int := ((l.getD k 0).toNat : Int)
/-- the word at k -/
def wd (l : List UInt8) (k : Nat) : Int := bt l k * 256 + bt l (k + 1)
/-- the sum of the words -/
def wsum : List UInt8 → Int
  | [] => 0
  | [a] => (a.toNat : Int) * 256
  | a :: b :: t => (a.toNat : Int) * 256 + (b.toNat : Int) + wsum t
/-- the sum by ones' complement -/
def ones (x : Int) : Int := if x = 0 then 0 else (x - 1) % 65535 + 1
/-- the checksum of what has the sum x -/
def ck (x : Int) : Int := 65535 - ones x

theorem bt_bd (l : List UInt8) (k : Nat) : 0 ≤ bt l k ∧ bt l k ≤ 255 := by
  unfold bt; have := UInt8.toNat_lt (l.getD k 0); omega
theorem wd_bd (l : List UInt8) (k : Nat) : 0 ≤ wd l k ∧ wd l k ≤ 65535 := by
  unfold wd; have := bt_bd l k; have := bt_bd l (k + 1); omega
theorem bt_drop (l : List UInt8) (j k : Nat) : bt (l.drop j) k = bt l (j + k) := by simp [bt, List.getD]
theorem wd_drop (l : List UInt8) (j k : Nat) : wd (l.drop j) k = wd l (j + k) := by unfold wd; rw [bt_drop, bt_drop]; rfl
theorem bt_of_ge (l : List UInt8) (k : Nat) (h : l.length ≤ k) : bt l k = 0 := by
  simp [bt, List.getD, List.getElem?_eq_none h]
theorem bt_get (l : List UInt8) (k : Nat) (h : k < l.length) : bt l k = ((l[k]).toNat : Int) := by simp [bt, List.getD, h]
theorem wsum_cons (l : List UInt8) (h : 0 < l.length) : wsum l = wd l 0 + wsum (l.drop 2) := by
  match l with
  | [] => simp at h
  | [a] => simp [wsum, wd, bt]
  | a :: b :: t => simp [wsum, wd, bt]
theorem wsum_drop (l : List UInt8) (k : Nat) (h : k < l.length) : wsum (l.drop k) = wd l k + wsum (l.drop (k + 2)) := by
  rw [wsum_cons _ (by simp; omega), wd_drop, List.drop_drop, Nat.add_zero]
theorem wsum_end (l : List UInt8) (k : Nat) (h : l.length ≤ k) : wsum (l.drop k) = 0 := by rw [List.drop_of_length_le h]; rfl
theorem wsum_bd : ∀ l : List UInt8, 0 ≤ wsum l ∧ wsum l ≤ 65535 * (l.length : Int)
  | [] => by simp [wsum]
  | [a] => by have := UInt8.toNat_lt a; simp [wsum]; omega
  | a :: b :: t => by have := UInt8.toNat_lt a; have := UInt8.toNat_lt b; have := wsum_bd t; simp [wsum]; omega
theorem wsum_append : ∀ (l m : List UInt8), l.length % 2 = 0 → wsum (l ++ m) = wsum l + wsum m
  | [], m, _ => by simp [wsum]
  | [a], m, h => by simp at h
  | a :: b :: t, m, h => by
    have := wsum_append t m (by simp at h; omega)
    simp only [List.cons_append, wsum, this]; omega
theorem wsum_pad : ∀ l : List UInt8, l.length % 2 = 1 → wsum (l ++ [0]) = wsum l
  | [], h => by simp at h
  | [a], _ => by simp [wsum]
  | a :: b :: t, h => by
    have := wsum_pad t (by simp at h; omega)
    simp only [List.cons_append, wsum, this]

theorem ones_bd (x : Int) (h : 0 ≤ x) : 0 ≤ ones x ∧ ones x ≤ 65535 := by unfold ones; split <;> omega
theorem ones_small (x : Int) (h : 0 ≤ x) (h' : x ≤ 65535) : ones x = x := by unfold ones; split <;> omega
theorem ones_step (x : Int) (h : 65535 < x) : ones (x % 65536 + x / 65536) = ones x := by unfold ones; (repeat' split) <;> omega
theorem ones_less (x : Int) (h : 65535 < x) : x % 65536 + x / 65536 < x ∧ 0 ≤ x % 65536 + x / 65536 := by omega
theorem ones_pos (x : Int) (h : 0 < x) : 1 ≤ ones x := by unfold ones; split <;> omega
theorem ones_mod (x : Int) (h : 0 ≤ x) : ones x % 65535 = x % 65535 := by unfold ones; split <;> omega
theorem ones_add (x y : Int) (hx : 0 ≤ x) (hy : 0 ≤ y) : ones (ones x + ones y) = ones (x + y) := by
  unfold ones; (repeat' split) <;> omega
theorem ones_eq (x y : Int) (hx : 0 < x) (hy : 0 < y) (h : x % 65535 = y % 65535) : ones x = ones y := by
  unfold ones; (repeat' split) <;> omega
theorem ck_bd (x : Int) (h : 0 ≤ x) : 0 ≤ ck x ∧ ck x ≤ 65535 := by have := ones_bd x h; unfold ck; omega
theorem ck_join (x y : Int) (hx : 0 ≤ x) (hy : 0 ≤ y) : ck (131070 - ck x - ck y) = ck (x + y) := by
  have := ones_add x y hx hy
  unfold ck
  rw [show (131070 : Int) - (65535 - ones x) - (65535 - ones y) = ones x + ones y by omega, this]
theorem ck_bears (x : Int) (hx : 0 ≤ x) : ck (x + ck x) = 0 := by
  unfold ck ones; (repeat' split) <;> omega

/-- what a checksum becomes -/
def turn (c was now : Int) : Int := ck (131070 - c - was + now)
theorem turn_bd (c a b : Int) (hc : c ≤ 65535) (ha : a ≤ 65535) (hb : 0 ≤ b) : 0 ≤ turn c a b ∧ turn c a b ≤ 65535 := ck_bd _ (by omega)
/-- .. word by word, k of them -/
def turns (c : Int) (a b : List UInt8) : Nat → Int
  | 0 => c
  | k + 1 => turn (turns c a b k) (wd a (2 * k)) (wd b (2 * k))
theorem turns_bd (c : Int) (a b : List UInt8) (hc : 0 ≤ c ∧ c ≤ 65535) : ∀ k, 0 ≤ turns c a b k ∧ turns c a b k ≤ 65535
  | 0 => hc
  | k + 1 => turn_bd _ _ _ (turns_bd c a b hc k).2 (wd_bd _ _).2 (wd_bd _ _).1
end Go.Proofs.Ytebihfojebdfbaa.sm
