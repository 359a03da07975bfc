/- The order of pairs is that of their bytes: mathematics. Condition: none. -/
import Derived.Test.YtolebodpcefcfaaDoorTupP
namespace Go.Proofs.YtolebodpcefcfaaDoor.tu
open Go.RowKit Go.Shelf Go.Proofs.YtolebodpcefcfaaDoor.tm
set_option linter.unusedVariables false

abbrev bl := Op.bytesLess
theorem bl_irrefl : ∀ x : List UInt8, bl x x = false
  | [] => rfl
  | a :: x => by
    show (decide (a < a) || (a == a && bl x x)) = false
    rw [bl_irrefl x]; simp
theorem bl_cons (a b : UInt8) (x y : List UInt8) : bl (a :: x) (b :: y) = (decide (a < b) || (a == b && bl x y)) := rfl
theorem bl_app : ∀ (l1 l2 x y : List UInt8), l1.length = l2.length → bl (l1 ++ x) (l2 ++ y) = (bl l1 l2 || (l1 == l2 && bl x y))
  | [], [], x, y, _ => by
    show bl x y = (bl [] [] || (([] : List UInt8) == [] && bl x y))
    have : bl [] [] = false := rfl
    rw [this]; simp
  | a :: l1, b :: l2, x, y, h => by
    rw [List.cons_append, List.cons_append, bl_cons, bl_cons, bl_app l1 l2 x y (by simpa using h)]
    have e : ((a :: l1) == (b :: l2)) = (a == b && l1 == l2) := rfl
    rw [e]
    cases decide (a < b) <;> cases (a == b) <;> cases bl l1 l2 <;> simp
  | [], b :: l2, x, y, h => by simp at h
  | a :: l1, [], x, y, h => by simp at h
theorem oct_lt {m n : Nat} (hm : m ≤ 255) (hn : n ≤ 255) : decide (oct m < oct n) = decide (m < n) := by
  have : (oct m < oct n) ↔ m < n := by rw [UInt8.lt_iff_toNat_lt, oct_nat hm, oct_nat hn]
  exact decide_eq_decide.2 this
theorem oct_eq {m n : Nat} (hm : m ≤ 255) (hn : n ≤ 255) : (oct m == oct n) = decide (m = n) := by
  by_cases h : m = n
  · subst h; simp
  · have : oct m ≠ oct n := fun e => h (by rw [← oct_nat hm, ← oct_nat hn, e])
    rw [beq_eq_false_iff_ne.2 this]; simp [h]
theorem ip4_lt_iff {w x y z w' x' y' z' : Nat} (h : x ≤ 255) (h1 : y ≤ 255) (h2 : z ≤ 255) (h' : x' ≤ 255) (h1' : y' ≤ 255) (h2' : z' ≤ 255) :
    ip4 w x y z < ip4 w' x' y' z' ↔ w < w' ∨ (w = w' ∧ (x < x' ∨ (x = x' ∧ (y < y' ∨ (y = y' ∧ z < z'))))) := by
  unfold ip4; omega
theorem ip4_eq_iff {w x y z w' x' y' z' : Nat} (h : x ≤ 255) (h1 : y ≤ 255) (h2 : z ≤ 255) (h' : x' ≤ 255) (h1' : y' ≤ 255) (h2' : z' ≤ 255) :
    ip4 w x y z = ip4 w' x' y' z' ↔ w = w' ∧ x = x' ∧ y = y' ∧ z = z' := by
  unfold ip4; omega
theorem bl32 {a a' : Nat} (h : a ≤ 4294967295) (h' : a' ≤ 4294967295) : bl (B32 a) (B32 a') = decide (a < a') := by
  have k := q_le a; have k' := q_le a'
  have e : decide (a < a') = decide (q3 a < q3 a' ∨ (q3 a = q3 a' ∧ (q2 a < q2 a' ∨ (q2 a = q2 a' ∧ (q1 a < q1 a' ∨ (q1 a = q1 a' ∧ q0 a < q0 a')))))) := decide_eq_decide.2 (by
    have := ip4_lt_iff (w := q3 a) (w' := q3 a') k.2.1 k.2.2.1 k.2.2.2 k'.2.1 k'.2.2.1 k'.2.2.2
    rw [ip4_q (by omega), ip4_q (by omega)] at this
    exact this)
  rw [e]
  unfold B32
  rw [bl_cons, bl_cons, bl_cons, bl_cons, oct_lt k.1 k'.1, oct_lt k.2.1 k'.2.1, oct_lt k.2.2.1 k'.2.2.1, oct_lt k.2.2.2 k'.2.2.2, oct_eq k.1 k'.1, oct_eq k.2.1 k'.2.1, oct_eq k.2.2.1 k'.2.2.1]
  have : bl [] [] = false := rfl
  rw [this]
  simp
theorem eq32 {a a' : Nat} (h : a ≤ 4294967295) (h' : a' ≤ 4294967295) : (B32 a == B32 a') = decide (a = a') := by
  have k := q_le a; have k' := q_le a'
  by_cases e : a = a'
  · subst e; simp
  · have : B32 a ≠ B32 a' := fun hB => by
      simp only [B32, List.cons.injEq, and_true] at hB
      obtain ⟨e3, e2, e1, e0⟩ := hB
      refine e ?_
      have f3 := congrArg UInt8.toNat e3; have f2 := congrArg UInt8.toNat e2; have f1 := congrArg UInt8.toNat e1; have f0 := congrArg UInt8.toNat e0
      rw [oct_nat k.1, oct_nat k'.1] at f3; rw [oct_nat k.2.1, oct_nat k'.2.1] at f2; rw [oct_nat k.2.2.1, oct_nat k'.2.2.1] at f1; rw [oct_nat k.2.2.2, oct_nat k'.2.2.2] at f0
      rw [← ip4_q (i := a) (by omega), ← ip4_q (i := a') (by omega), f3, f2, f1, f0]
    rw [beq_eq_false_iff_ne.2 this]; simp [e]
theorem bl16 {b b' : Nat} (h : b ≤ 65535) (h' : b' ≤ 65535) : bl (B16 b) (B16 b') = decide (b < b') := by
  have e : decide (b < b') = decide (b / 256 < b' / 256 ∨ (b / 256 = b' / 256 ∧ b % 256 < b' % 256)) := decide_eq_decide.2 (by omega)
  rw [e]
  unfold B16
  rw [bl_cons, bl_cons, oct_lt (by omega) (by omega), oct_lt (m := b % 256) (n := b' % 256) (by omega) (by omega), oct_eq (by omega) (by omega)]
  have : bl [] [] = false := rfl
  rw [this]
  simp
theorem eq16 {b b' : Nat} (h : b ≤ 65535) (h' : b' ≤ 65535) : (B16 b == B16 b') = decide (b = b') := by
  by_cases e : b = b'
  · subst e; simp
  · have : B16 b ≠ B16 b' := fun hB => by
      simp only [B16, List.cons.injEq, and_true] at hB
      have f1 := congrArg UInt8.toNat hB.1; have f0 := congrArg UInt8.toNat hB.2
      rw [oct_nat (n := b / 256) (by omega), oct_nat (n := b' / 256) (by omega)] at f1
      rw [oct_nat (n := b % 256) (by omega), oct_nat (n := b' % 256) (by omega)] at f0
      exact e (by omega)
    rw [beq_eq_false_iff_ne.2 this]; simp [e]
/-- an address's bytes tell it -/
theorem bs_inj {a b a' b' : Nat} (ha : a ≤ 4294967295) (hb : b ≤ 65535) (ha' : a' ≤ 4294967295) (hb' : b' ≤ 65535) (h : bs a b = bs a' b') : a = a' ∧ b = b' := by
  have e : L (bs a b) = L (bs a' b') := by rw [h]
  rw [L_bs, L_bs] at e
  obtain ⟨e1, e2⟩ := List.append_inj e rfl
  have f1 := eq32 ha ha'; have f2 := eq16 hb hb'
  rw [e1] at f1; rw [e2] at f2
  simp at f1 f2
  exact ⟨f1, f2⟩
theorem tS_inj {a b a' b' : Nat} (ha : a ≤ 4294967295) (hb : b ≤ 65535) (ha' : a' ≤ 4294967295) (hb' : b' ≤ 65535) (h : tS a b = tS a' b') : a = a' ∧ b = b' := by
  have e : L (tS a b) = L (tS a' b') := by rw [h]
  rw [L_tS, L_tS] at e
  exact T_inj (by omega) (by omega) (by omega) (by omega) e
theorem bs_size (a b : Nat) : (bs a b).size = 6 := by rw [← L_len, L_bs]; rfl
theorem tS_size (a : Nat) {b : Nat} (hb : b ≤ 65535) : (tS a b).size ≤ 29 := by rw [← L_len, L_tS]; exact T_len (by omega)

theorem or4_neg (x y z v : Int) : or4 (-x) (-y) (-z) (-v) = - or4 x y z v := by
  unfold or4
  (repeat' split) <;> omega
theorem lt3_neg (x y : Nat) : lt3 y x = - lt3 x y := by
  unfold lt3
  (repeat' split) <;> omega
theorem cmpP_neg (a b c d a' b' c' d' : Nat) : cmpP a' b' c' d' a b c d = - cmpP a b c d a' b' c' d' := by
  unfold cmpP
  rw [lt3_neg a a', lt3_neg b b', lt3_neg c c', lt3_neg d d', or4_neg]
def ab (a b c d : Nat) : ByteArray := bs a b ++ bs c d
theorem L_ab (a b c d : Nat) : L (ab a b c d) = B32 a ++ (B16 b ++ (B32 c ++ B16 d)) := by
  show L (bs a b ++ bs c d) = _
  rw [L_app, L_bs, L_bs]; simp [BA]
theorem bl_ab {a b c d a' b' c' d' : Nat} (ha : a ≤ 4294967295) (hb : b ≤ 65535) (hc : c ≤ 4294967295) (hd : d ≤ 65535) (ha' : a' ≤ 4294967295) (hb' : b' ≤ 65535) (hc' : c' ≤ 4294967295) (hd' : d' ≤ 65535) :
    bl (L (ab a b c d)) (L (ab a' b' c' d')) = (decide (a < a') || (decide (a = a') && (decide (b < b') || (decide (b = b') && (decide (c < c') || (decide (c = c') && decide (d < d'))))))) := by
  rw [L_ab, L_ab, bl_app (B32 a) (B32 a') _ _ rfl, bl_app (B16 b) (B16 b') _ _ rfl, bl_app (B32 c) (B32 c') _ _ rfl, bl32 ha ha', eq32 ha ha', bl16 hb hb', eq16 hb hb', bl32 hc hc', eq32 hc hc', bl16 hd hd']
/-- the order of pairs is that of their bytes -/
theorem three {a b c d a' b' c' d' : Nat} (ha : a ≤ 4294967295) (hb : b ≤ 65535) (hc : c ≤ 4294967295) (hd : d ≤ 65535) (ha' : a' ≤ 4294967295) (hb' : b' ≤ 65535) (hc' : c' ≤ 4294967295) (hd' : d' ≤ 65535) :
    (cmpP a b c d a' b' c' d' = -1 ∧ bl (ab a b c d).toList (ab a' b' c' d').toList = true ∧ ((ab a b c d).toList == (ab a' b' c' d').toList) = false)
    ∨ (cmpP a b c d a' b' c' d' = 0 ∧ bl (ab a b c d).toList (ab a' b' c' d').toList = false ∧ ((ab a b c d).toList == (ab a' b' c' d').toList) = true)
    ∨ (cmpP a b c d a' b' c' d' = 1 ∧ bl (ab a b c d).toList (ab a' b' c' d').toList = false ∧ ((ab a b c d).toList == (ab a' b' c' d').toList) = false) := by
  have h1 := bl_ab ha hb hc hd ha' hb' hc' hd'
  have h2 := bl_ab ha' hb' hc' hd' ha hb hc hd
  rw [Lib.toList_data, Lib.toList_data]
  rw [show (ab a b c d).data.toList = L (ab a b c d) from rfl, show (ab a' b' c' d').data.toList = L (ab a' b' c' d') from rfl]
  have ne1 : bl (L (ab a b c d)) (L (ab a' b' c' d')) = true → (L (ab a b c d) == L (ab a' b' c' d')) = false := fun h => by
    rw [beq_eq_false_iff_ne]; intro e; rw [e, bl_irrefl] at h; cases h
  have ne2 : bl (L (ab a' b' c' d')) (L (ab a b c d)) = true → (L (ab a b c d) == L (ab a' b' c' d')) = false := fun h => by
    rw [beq_eq_false_iff_ne]; intro e; rw [e, bl_irrefl] at h; cases h
  unfold cmpP
  rcases Nat.lt_trichotomy a a' with h | h | h
  · left; rw [lt3_lt h]
    have e : bl (L (ab a b c d)) (L (ab a' b' c' d')) = true := by rw [h1]; simp [h]
    exact ⟨rfl, e, ne1 e⟩
  · subst h; rw [lt3_eq rfl]
    rcases Nat.lt_trichotomy b b' with h | h | h
    · left; rw [lt3_lt h]
      have e : bl (L (ab a b c d)) (L (ab a b' c' d')) = true := by rw [h1]; simp [h]
      exact ⟨rfl, e, ne1 e⟩
    · subst h; rw [lt3_eq rfl]
      rcases Nat.lt_trichotomy c c' with h | h | h
      · left; rw [lt3_lt h]
        have e : bl (L (ab a b c d)) (L (ab a b c' d')) = true := by rw [h1]; simp [h]
        exact ⟨rfl, e, ne1 e⟩
      · subst h; rw [lt3_eq rfl]
        rcases Nat.lt_trichotomy d d' with h | h | h
        · left; rw [lt3_lt h]
          have e : bl (L (ab a b c d)) (L (ab a b c d')) = true := by rw [h1]; simp [h]
          exact ⟨rfl, e, ne1 e⟩
        · subst h; right; left; rw [lt3_eq rfl]
          exact ⟨rfl, bl_irrefl _, by simp⟩
        · right; right; rw [lt3_gt h]
          have e : bl (L (ab a b c d')) (L (ab a b c d)) = true := by rw [h2]; simp [h]
          exact ⟨rfl, by rw [h1]; simp; omega, ne2 e⟩
      · right; right; rw [lt3_gt h]
        have e : bl (L (ab a b c' d')) (L (ab a b c d)) = true := by rw [h2]; simp [h]
        exact ⟨rfl, by rw [h1]; simp; omega, ne2 e⟩
    · right; right; rw [lt3_gt h]
      have e : bl (L (ab a b' c' d')) (L (ab a b c d)) = true := by rw [h2]; simp [h]
      exact ⟨rfl, by rw [h1]; simp; omega, ne2 e⟩
  · right; right; rw [lt3_gt h]
    have e : bl (L (ab a' b' c' d')) (L (ab a b c d)) = true := by rw [h2]; simp [h]
    exact ⟨rfl, by rw [h1]; simp; omega, ne2 e⟩
end Go.Proofs.YtolebodpcefcfaaDoor.tu
