/- A checksum that is turned along with a row of words: plain mathematics. Condition: none. -/
import Derived.Test.YtjnlfnlodjbcjaaSumM
namespace Go.Proofs.Ytjnlfnlodjbcjaa.sm

theorem wd_take (l : List UInt8) (n k : Nat) (h : k + 1 < n) : wd (l.take n) k = wd l k := by
  simp only [wd, bt, List.getD, List.getElem?_take]
  rw [if_pos (by omega), if_pos h]
theorem wsum_two' (l : List UInt8) (h : l.length = 2) : wsum l = wd l 0 := by
  match l, h with
  | [a, b], _ => simp [wsum, wd, bt]
theorem wsum_take_next (l : List UInt8) (j : Nat) (h : 2 * j + 2 ≤ l.length) : wsum (l.take (2 * j + 2)) = wsum (l.take (2 * j)) + wd l (2 * j) := by
  have e : l.take (2 * j + 2) = l.take (2 * j) ++ (l.drop (2 * j)).take 2 := by rw [List.take_add]
  have e2 := wsum_two' ((l.drop (2 * j)).take 2) (by rw [List.length_take, List.length_drop]; omega)
  rw [wd_take _ _ _ (by omega), wd_drop, Nat.add_zero] at e2
  rw [e, wsum_append _ _ (by rw [List.length_take]; omega), e2]
theorem wsum_split (l : List UInt8) (k : Nat) (hk : k % 2 = 0) (h : k ≤ l.length) : wsum l = wsum (l.take k) + wsum (l.drop k) := by
  rw [← wsum_append _ _ (by rw [List.length_take]; omega), List.take_append_drop]
theorem wd_le (l : List UInt8) (j : Nat) (hj : j % 2 = 0) (h : j < l.length) : wd l j ≤ wsum l := by
  have h1 := wsum_split l j hj (by omega)
  have h2 := wsum_drop l j h
  have h3 := wsum_bd (l.take j)
  have h4 := wsum_bd (l.drop (j + 2))
  omega
theorem turn_go (X y was now : Int) (hy : 1 ≤ y ∧ y ≤ 65535) (hw : 0 ≤ was ∧ was ≤ 65535) (hn : 0 ≤ now ∧ now ≤ 65535) (h : y % 65535 = X % 65535) :
    ∃ y', turn (65535 - y) was now = 65535 - y' ∧ (1 ≤ y' ∧ y' ≤ 65535) ∧ y' % 65535 = (X - was + now) % 65535 := by
  have e : turn (65535 - y) was now = 65535 - ones (65535 + y - was + now) := by
    show 65535 - ones (131070 - (65535 - y) - was + now) = _
    congr 2; omega
  have h1 := ones_pos (65535 + y - was + now) (by omega)
  have h2 := ones_bd (65535 + y - was + now) (by omega)
  have h3 := ones_mod (65535 + y - was + now) (by omega)
  exact ⟨_, e, ⟨h1, h2.2⟩, by omega⟩
theorem turns_go (X : Int) (A B : List UInt8) (hX : 0 < X) : ∀ j, 2 * j ≤ A.length → 2 * j ≤ B.length →
    ∃ y, turns (ck X) A B j = 65535 - y ∧ (1 ≤ y ∧ y ≤ 65535) ∧ y % 65535 = (X - wsum (A.take (2 * j)) + wsum (B.take (2 * j))) % 65535
  | 0, _, _ => ⟨ones X, rfl, ⟨ones_pos X hX, (ones_bd X (by omega)).2⟩, by have := ones_mod X (by omega); simp [wsum, this]⟩
  | j + 1, ha, hb => by
    obtain ⟨y, h1, h2, h3⟩ := turns_go X A B hX j (by omega) (by omega)
    obtain ⟨y', k1, k2, k3⟩ := turn_go _ y (wd A (2 * j)) (wd B (2 * j)) h2 (wd_bd _ _) (wd_bd _ _) h3
    refine ⟨y', by show turn (turns (ck X) A B j) _ _ = _; rw [h1]; exact k1, k2, ?_⟩
    have e1 := wsum_take_next A j (by omega)
    have e2 := wsum_take_next B j (by omega)
    rw [k3, show 2 * (j + 1) = 2 * j + 2 by omega, e1, e2]
    congr 1; omega
theorem turns_end (X : Int) (A B : List UInt8) (n : Nat) (hX : 0 < X) (hn : n % 2 = 0) (ha : A.length = n) (hb : B.length = n) (hpos : 0 < X - wsum A + wsum B) :
    turns (ck X) A B (n / 2) = ck (X - wsum A + wsum B) := by
  obtain ⟨y, h1, h2, h3⟩ := turns_go X A B hX (n / 2) (by omega) (by omega)
  rw [List.take_of_length_le (by omega), List.take_of_length_le (by omega)] at h3
  rw [h1]
  have o1 := ones_pos _ hpos
  have o2 := ones_bd _ (Int.le_of_lt hpos)
  have o3 := ones_mod _ (Int.le_of_lt hpos)
  unfold ck
  omega
/-- X with Y's first n bytes at k -/
def splice (X Y : List UInt8) (k n : Nat) : List UInt8 := X.take k ++ Y.take n ++ X.drop (k + n)
theorem splice_sum (X Y : List UInt8) (k n : Nat) (hk : k % 2 = 0) (hn : n % 2 = 0) (hx : k + n ≤ X.length) (hy : n ≤ Y.length) :
    wsum (splice X Y k n) = wsum X - wsum ((X.drop k).take n) + wsum (Y.take n) := by
  have h1 := wsum_split X k hk (by omega)
  have h2 := wsum_split (X.drop k) n hn (by rw [List.length_drop]; omega)
  rw [List.drop_drop] at h2
  unfold splice
  rw [wsum_append _ _ (by rw [List.length_append, List.length_take, List.length_take]; omega), wsum_append _ _ (by rw [List.length_take]; omega)]
  omega
/-- a word outside of the row is not 0 -/
def Sure (X : List UInt8) (k n : Nat) : Prop := ∃ j, j % 2 = 0 ∧ j < X.length ∧ (j < k ∨ k + n ≤ j) ∧ wd X j ≠ 0
theorem Sure.pos {X : List UInt8} {k n m : Nat} (Y : List UInt8) (h : Sure X k n) (hX : X.length % 2 = 0) (hk : k % 2 = 0) (hm : m % 2 = 0) (hmn : m ≤ n) (hx : k + m ≤ X.length) : 0 < wsum X ∧ 0 < wsum (splice X Y k m) ∨ Y.length < m := by
  rcases Nat.lt_or_ge Y.length m with hy | hy
  · exact .inr hy
  refine .inl ?_
  obtain ⟨j, h1, h2, h3, h4⟩ := h
  have b := wd_bd X j
  have l := wd_le X j h1 h2
  refine ⟨by omega, ?_⟩
  unfold splice
  rw [wsum_append _ _ (by rw [List.length_append, List.length_take, List.length_take]; omega), wsum_append _ _ (by rw [List.length_take]; omega)]
  have b1 := wsum_bd (X.take k)
  have b2 := wsum_bd (Y.take m)
  have b3 := wsum_bd (X.drop (k + m))
  rcases h3 with h3 | h3
  · have := wd_le (X.take k) j h1 (by rw [List.length_take]; omega)
    rw [wd_take _ _ _ (by omega)] at this
    omega
  · have := wd_le (X.drop (k + m)) (j - (k + m)) (by omega) (by rw [List.length_drop]; omega)
    rw [wd_drop, show k + m + (j - (k + m)) = j by omega] at this
    omega
theorem turns_splice (X Y : List UInt8) (k n : Nat) (hk : k % 2 = 0) (hn : n % 2 = 0) (hx : k + n ≤ X.length) (hy : n ≤ Y.length) (h0 : 0 < wsum X) (h1 : 0 < wsum (splice X Y k n)) :
    turns (ck (wsum X)) ((X.drop k).take n) (Y.take n) (n / 2) = ck (wsum (splice X Y k n)) := by
  have e := splice_sum X Y k n hk hn hx hy
  rw [e] at h1
  rw [turns_end (wsum X) _ _ n h0 hn (by rw [List.length_take, List.length_drop]; omega) (by rw [List.length_take]; omega) h1, e]
theorem turn_splice (X Y : List UInt8) (k : Nat) (hk : k % 2 = 0) (hx : k + 2 ≤ X.length) (hy : 2 ≤ Y.length) (h0 : 0 < wsum X) (h1 : 0 < wsum (splice X Y k 2)) :
    turn (ck (wsum X)) (wd X k) (wd Y 0) = ck (wsum (splice X Y k 2)) := by
  have := turns_splice X Y k 2 hk (by omega) hx hy h0 h1
  rw [← this]
  show _ = turn (ck (wsum X)) (wd ((X.drop k).take 2) 0) (wd (Y.take 2) 0)
  rw [wd_take _ _ _ (by omega), wd_take _ _ _ (by omega), wd_drop, Nat.add_zero]
end Go.Proofs.Ytjnlfnlodjbcjaa.sm
