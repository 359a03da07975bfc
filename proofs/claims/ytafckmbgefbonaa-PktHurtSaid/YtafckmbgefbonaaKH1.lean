/- H: contracts, part 1. Condition: as each says. -/
import Derived.Test.YtafckmbgefbonaaKBHA3
set_option linter.unusedVariables false
set_option linter.unusedSimpArgs false
namespace Go.Proofs.Ytafckmbgefbonaa.im
open Go.Proofs.Ytafckmbgefbonaa.sm Go.Proofs.Ytafckmbgefbonaa.nb
set_option linter.unusedVariables false

theorem dec_sum {l : List UInt8} (h : dec l = 0) : ck (wsum (l.take 20)) = 0 := by
  unfold dec at h
  (repeat' split at h) <;> first | omega | skip

section
variable {a b p t s i : Nat} {d : Bool} {l : List UInt8}
end

def Bit (x y : Int) : Prop := ∃ m : Nat, m < 8 ∧ (y = x + 2 ^ m ∨ y = x - 2 ^ m)
theorem bt_set (l : List UInt8) (j k : Nat) (c : UInt8) (hj : j < l.length) : bt (l.set j c) k = if k = j then (c.toNat : Int) else bt l k := by
  unfold bt
  by_cases h : k = j
  · subst h; rw [if_pos rfl]; simp [hj]
  · rw [if_neg h]; simp [List.getD, List.getElem?_set, Ne.symm h]
theorem wsum_set1 : ∀ (l : List UInt8) (j : Nat) (c : UInt8), j < l.length → wsum (l.set j c) = wsum l + ((c.toNat : Int) - bt l j) * (if j % 2 = 0 then 256 else 1)
  | [], j, c, h => by simp at h
  | [x], 0, c, h => by simp [wsum, bt]; omega
  | [x], j + 1, c, h => by simp at h
  | x :: y :: t, 0, c, h => by simp [wsum, bt]; omega
  | x :: y :: t, 1, c, h => by simp [wsum, bt]; omega
  | x :: y :: t, j + 2, c, h => by
    have ih := wsum_set1 t j c (by simp at h; omega)
    have e : bt (x :: y :: t) (j + 2) = bt t j := rfl
    have e2 : (j + 2) % 2 = j % 2 := by omega
    simp only [List.set_cons_succ, wsum, ih, e, e2]
    omega
theorem ck_zero {x : Int} (h : ck x = 0) (hx : 0 ≤ x) : x % 65535 = 0 := by
  have := ones_mod x hx
  unfold ck at h
  omega
theorem pow_lt8 {m : Nat} (h : m < 8) : (1 : Int) ≤ 2 ^ m ∧ (2 : Int) ^ m ≤ 128 := by
  rcases (by omega : m = 0 ∨ m = 1 ∨ m = 2 ∨ m = 3 ∨ m = 4 ∨ m = 5 ∨ m = 6 ∨ m = 7) with rfl | rfl | rfl | rfl | rfl | rfl | rfl | rfl <;> decide
theorem hurt (l : List UInt8) (j : Nat) (c : UInt8) (hj : j < 20) (hl : 20 ≤ l.length) (hr : ck (wsum (l.take 20)) = 0) (hb : Bit (bt l j) (c.toNat : Int)) : dec (l.set j c) ≠ 0 := by
  intro h0
  have h1 := dec_sum h0
  rw [List.take_set] at h1
  have hjl : j < (l.take 20).length := by rw [List.length_take]; omega
  have h2 := wsum_set1 (l.take 20) j c hjl
  have e : bt (l.take 20) j = bt l j := by unfold bt; simp [List.getD, List.getElem?_take, hj]
  rw [e] at h2
  have h3 := ck_zero hr (wsum_bd _).1
  have h4 := ck_zero h1 (wsum_bd _).1
  rw [h2] at h4
  obtain ⟨m, hm, hy⟩ := hb
  have hp := pow_lt8 hm
  generalize (2 : Int) ^ m = P at hp hy
  split at h4 <;> rcases hy with hy | hy <;> rw [hy] at h4 <;> omega
end Go.Proofs.Ytafckmbgefbonaa.im

namespace Go.Proofs.Ytafckmbgefbonaa.cm
open Go.Proofs.Ytafckmbgefbonaa.sm Go.Proofs.Ytafckmbgefbonaa.nb
set_option linter.unusedVariables false

section
variable {x y : Nat} {l : List UInt8}
end

section
variable {x y p q sq ak fl wi ur : Nat} {o d : List UInt8}
end

/-! ### what is turned -/
def Bit (x y : Int) : Prop := ∃ m : Nat, m < 8 ∧ (y = x + 2 ^ m ∨ y = x - 2 ^ m)
theorem wsum_set1 : ∀ (l : List UInt8) (j : Nat) (c : UInt8), j < l.length → wsum (l.set j c) = wsum l + ((c.toNat : Int) - bt l j) * (if j % 2 = 0 then 256 else 1)
  | [], j, c, h => by simp at h
  | [x], 0, c, h => by simp [wsum, bt]; omega
  | [x], j + 1, c, h => by simp at h
  | x :: y :: t, 0, c, h => by simp [wsum, bt]; omega
  | x :: y :: t, 1, c, h => by simp [wsum, bt]; omega
  | x :: y :: t, j + 2, c, h => by
    have ih := wsum_set1 t j c (by simp at h; omega)
    have e : bt (x :: y :: t) (j + 2) = bt t j := rfl
    have e2 : (j + 2) % 2 = j % 2 := by omega
    simp only [List.set_cons_succ, wsum, ih, e, e2]
    omega
theorem ck_zero {x : Int} (h : ck x = 0) (hx : 0 ≤ x) : x % 65535 = 0 := by
  have := ones_mod x hx
  unfold ck at h
  omega
theorem pow_lt8 {m : Nat} (h : m < 8) : (1 : Int) ≤ 2 ^ m ∧ (2 : Int) ^ m ≤ 128 := by
  rcases (by omega : m = 0 ∨ m = 1 ∨ m = 2 ∨ m = 3 ∨ m = 4 ∨ m = 5 ∨ m = 6 ∨ m = 7) with rfl | rfl | rfl | rfl | rfl | rfl | rfl | rfl <;> decide
theorem hurt (x y : Nat) (l : List UInt8) (j : Nat) (c : UInt8) (hx : x ≤ 4294967295) (hy : y ≤ 4294967295) (hj : j < l.length) (h20 : 20 ≤ l.length) (hl : l.length ≤ 65515) (hr : ck (ts x y l) = 0) (hb : Bit (bt l j) (c.toNat : Int)) :
    dec x y (l.set j c) = 55 := by
  refine dec_55 (by rw [List.length_set]; omega) (by rw [List.length_set]; omega) fun h1 => ?_
  have h2 := wsum_set1 l j c hj
  have h3 := ck_zero hr (wsum_bd _).1
  have h4 := ck_zero h1 (wsum_bd _).1
  rw [ts_eq x y _ hx hy (by omega)] at h3
  rw [ts_eq x y _ hx hy (by rw [List.length_set]; omega), List.length_set, h2] at h4
  obtain ⟨m, hm, hy'⟩ := hb
  have hp := pow_lt8 hm
  generalize (2 : Int) ^ m = P at hp hy'
  generalize wsum l = S at h3 h4
  split at h4 <;> rcases hy' with hy' | hy' <;> rw [hy'] at h4 <;> omega
end Go.Proofs.Ytafckmbgefbonaa.cm

namespace Go.Proofs.Ytafckmbgefbonaa.pm
open Go.Proofs.Ytafckmbgefbonaa.sm Go.Proofs.Ytafckmbgefbonaa.nb
set_option linter.unusedVariables false

section
variable {s : Sg}
end
theorem enc_hurt {s : Sg} (hm : MayS s) (hw : WfS s) (j : Nat) (c : UInt8) (hj : j < (encS s).length) (hb : im.Bit (bt (encS s) j) (c.toNat : Int)) : errP ((encS s).set j c) ≠ 0 := by
  obtain ⟨h1, h2, h3, h4, h5⟩ := enc_head hm hw
  have hl := enc_len s
  intro h0
  obtain ⟨g1, g2, g3⟩ := errP_is0 h0
  rcases Nat.lt_or_ge j 20 with hlt | hge
  · exact im.hurt (encS s) j c hlt (by omega) (im.dec_sum h1) hb g1
  · have e12 : qd ((encS s).set j c) 12 = qd (encS s) 12 := by
      unfold qd wd; rw [im.bt_set _ _ _ _ hj, im.bt_set _ _ _ _ hj, im.bt_set _ _ _ _ hj, im.bt_set _ _ _ _ hj, if_neg (by omega), if_neg (by omega), if_neg (by omega), if_neg (by omega)]
    have e16 : qd ((encS s).set j c) 16 = qd (encS s) 16 := by
      unfold qd wd; rw [im.bt_set _ _ _ _ hj, im.bt_set _ _ _ _ hj, im.bt_set _ _ _ _ hj, im.bt_set _ _ _ _ hj, if_neg (by omega), if_neg (by omega), if_neg (by omega), if_neg (by omega)]
    have ed : ((encS s).set j c).drop 20 = (inner s).set (j - 20) c := by rw [← h5, List.drop_set, if_neg (by omega)]
    obtain ⟨g4, _⟩ := errG_is0 g3
    rw [e12, e16, h3, h4, Int.toNat_natCast, Int.toNat_natCast, ed] at g4
    have hi := inner_len s
    have hbt : bt (inner s) (j - 20) = bt (encS s) j := by rw [← h5, bt_drop, show 20 + (j - 20) = j by omega]
    have := cm.hurt s.sa s.da (inner s) (j - 20) c hw.1 hw.2.1 (by omega) (by omega) (Nat.le_trans (inner_le hm) (by decide)) (cm.en_right hw.1 hw.2.1 (by have := inner_le hm; rw [inner_len] at this; omega)) (by rw [hbt]; exact hb)
    rw [this] at g4
    cases g4
end Go.Proofs.Ytafckmbgefbonaa.pm
