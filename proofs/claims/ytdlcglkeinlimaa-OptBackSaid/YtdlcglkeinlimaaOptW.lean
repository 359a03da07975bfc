/- The options of segments: mathematics: what is turned, place by place. Condition: none. -/
import Derived.Test.YtdlcglkeinlimaaOptT
namespace Go.Proofs.Ytdlcglkeinlimaa.om
open Go.Proofs.Ytdlcglkeinlimaa.sm Go.Proofs.Ytdlcglkeinlimaa.nb
set_option linter.unusedVariables false

/-- four bytes at k, b added -/
def addAt (s : List UInt8) (k b : Nat) : List UInt8 := s.take k ++ (B32 (addM (qd s k).toNat b) ++ s.drop (k + 4))
theorem B32_len (x : Nat) : (B32 x).length = 4 := rfl
theorem addAt_len (s : List UInt8) (k b : Nat) (h : k + 4 ≤ s.length) : (addAt s k b).length = s.length := by
  unfold addAt; simp [B32_len]; omega
theorem addAt_left (A t : List UInt8) (k b : Nat) : addAt (A ++ t) (A.length + k) b = A ++ addAt t k b := by
  unfold addAt
  have e : qd (A ++ t) (A.length + k) = qd t k := by rw [← qd_drop, List.drop_left]
  rw [e, List.take_length_add_append, show A.length + k + 4 = A.length + (k + 4) by omega, List.drop_length_add_append, List.append_assoc]
theorem bt_left (X R : List UInt8) (k : Nat) (h : k < X.length) : bt (X ++ R) k = bt X k := by
  unfold bt; simp [List.getD, List.getElem?_append_left h]
theorem qd_left (X R : List UInt8) (k : Nat) (h : k + 4 ≤ X.length) : qd (X ++ R) k = qd X k := by
  unfold qd wd; rw [bt_left X R k (by omega), bt_left X R (k + 1) (by omega), bt_left X R (k + 2) (by omega), bt_left X R (k + 2 + 1) (by omega)]
theorem addAt_right (X R : List UInt8) (k b : Nat) (h : k + 4 ≤ X.length) : addAt (X ++ R) k b = addAt X k b ++ R := by
  unfold addAt
  rw [qd_left X R k h, List.take_append_of_le_length (by omega), List.drop_append_of_le_length h]
  simp only [List.append_assoc]
theorem addAt_0 (x b : Nat) (hx : x < M32) (t : List UInt8) : addAt (B32 x ++ t) 0 b = B32 (addM x b) ++ t := by
  unfold addAt
  rw [qd_B32 x hx, Int.toNat_natCast]; rfl
/-- the first n words turned -/
def wt (b : Nat) (p : List UInt8) : Nat → List UInt8
  | 0 => p
  | n + 1 => addAt (wt b p n) (4 * n) b
theorem wt_len (b : Nat) (p : List UInt8) : ∀ n, 4 * n ≤ p.length → (wt b p n).length = p.length
  | 0, _ => rfl
  | n + 1, h => by
    show (addAt (wt b p n) (4 * n) b).length = _
    rw [addAt_len _ _ _ (by rw [wt_len b p n (by omega)]; omega), wt_len b p n (by omega)]
theorem wt_8 (b x y : Nat) (hx : x < M32) (hy : y < M32) (t : List UInt8) : ∀ n, wt b (B32 x ++ (B32 y ++ t)) (n + 2) = B32 (addM x b) ++ (B32 (addM y b) ++ wt b t n)
  | 0 => by
    show addAt (addAt (B32 x ++ (B32 y ++ t)) 0 b) 4 b = _
    rw [addAt_0 x b hx]
    have e := addAt_left (B32 (addM x b)) (B32 y ++ t) 0 b
    rw [B32_len, Nat.add_zero] at e
    rw [e, addAt_0 y b hy]; rfl
  | n + 1 => by
    show addAt (wt b (B32 x ++ (B32 y ++ t)) (n + 2)) (4 * (n + 2)) b = B32 (addM x b) ++ (B32 (addM y b) ++ addAt (wt b t n) (4 * n) b)
    rw [wt_8 b x y hx hy t n]
    have e := addAt_left (B32 (addM x b) ++ B32 (addM y b)) (wt b t n) (4 * n) b
    rw [List.append_assoc, show (B32 (addM x b) ++ B32 (addM y b)).length + 4 * n = 4 * (n + 2) by simp [B32_len]; omega] at e
    rw [e, List.append_assoc]
theorem wt_flat (b : Nat) : ∀ (q : Nat) (p : List UInt8), p.length = 8 * q → wt b p (2 * q) = flat ((blocks p).map fun x => (addM x.1 b, addM x.2 b))
  | 0, p, h => by
    have : p = [] := List.length_eq_zero_iff.1 (by omega)
    subst this; rfl
  | q + 1, p, h => by
    obtain ⟨t, ht⟩ := eight_split p (by omega)
    have hl : t.length = 8 * q := by
      have := congrArg List.length ht
      simp [B32] at this; omega
    have hb := blocks_cons ((qd p 0).toNat, (qd p 4).toNat) t ⟨qd_lt _ _, qd_lt _ _⟩
    dsimp only at hb
    rw [← ht] at hb
    rw [hb]
    have e := wt_8 b (qd p 0).toNat (qd p 4).toNat (qd_lt _ _) (qd_lt _ _) t (2 * q)
    rw [← ht] at e
    rw [show 2 * (q + 1) = 2 * q + 2 by omega, e, wt_flat b q t hl]
    rfl
theorem tpay_5 (b v e q : Nat) (p : List UInt8) (h : p.length = 8 * q) : tpay b v e 5 p = wt b p (2 * q) := by
  rw [wt_flat b q p h]; rfl
theorem tpay_8 (b v e : Nat) (p : List UInt8) (h : p.length = 8) : tpay b v e 8 p = addAt (addAt p 0 v) 4 e := by
  obtain ⟨t, ht⟩ := eight_split p (by omega)
  have hl : t = [] := by
    have := congrArg List.length ht
    simp [B32] at this
    exact List.length_eq_zero_iff.1 (by omega)
  subst hl
  rw [List.append_nil] at ht
  have e1 : addAt p 0 v = B32 (addM (qd p 0).toNat v) ++ B32 (qd p 4).toNat := by
    have := addAt_0 (qd p 0).toNat v (qd_lt _ _) (B32 (qd p 4).toNat)
    rwa [← ht] at this
  have e2 := addAt_left (B32 (addM (qd p 0).toNat v)) (B32 (qd p 4).toNat ++ []) 0 e
  rw [addAt_0 _ _ (qd_lt _ _), B32_len, Nat.add_zero, List.append_nil, List.append_nil] at e2
  rw [e1, e2]; rfl
theorem tpay_x (b v e k : Nat) (p : List UInt8) (h5 : k ≠ 5) (h8 : k ≠ 8) : tpay b v e k p = p := by unfold tpay; rw [if_neg h8, if_neg h5]
end Go.Proofs.Ytdlcglkeinlimaa.om
