/- Heads of segments: their bytes, their checksum, what bytes are: plain mathematics. Condition: none. -/
import Derived.Test.YtecogakledajkaaNetBase
namespace Go.Proofs.Ytecogakledajkaa.cm
open Go.Proofs.Ytecogakledajkaa.sm Go.Proofs.Ytecogakledajkaa.nb
set_option linter.unusedVariables false

theorem bt_app {l m : List UInt8} {k : Nat} (h : k < l.length) : bt (l ++ m) k = bt l k := by
  unfold bt; simp [List.getD, List.getElem?_append_left h]
theorem bt_nat (xs : List UInt8) (k n : Nat) (h : xs.getD k 0 = oct n) (hn : n ≤ 255) : bt xs k = (n : Int) := by
  unfold bt; rw [h, oct_nat hn]
/-- which numbers and options a head may have -/
def Ok (p q sq ak fl wi ur : Nat) : Prop := p ≤ 65535 ∧ q ≤ 65535 ∧ sq ≤ 4294967295 ∧ ak ≤ 4294967295 ∧ fl ≤ 255 ∧ wi ≤ 65535 ∧ ur ≤ 65535
/-- .. that may be written -/
def May (fl n : Nat) : Prop := n % 4 = 0 ∧ n ≤ 40 ∧ fl < 64
/-- the bytes ahead of the checksum -/
def pre (p q sq ak fl wi n : Nat) : List UInt8 :=
  [oct (p / 256), oct (p % 256), oct (q / 256), oct (q % 256), oct (q3 sq), oct (q2 sq), oct (q1 sq), oct (q0 sq), oct (q3 ak), oct (q2 ak), oct (q1 ak), oct (q0 ak),
   oct ((20 + n) / 4 * 16), oct fl, oct (wi / 256), oct (wi % 256)]
theorem pre_len (p q sq ak fl wi n : Nat) : (pre p q sq ak fl wi n).length = 16 := rfl
/-- a segment's bytes, with a checksum -/
def rw_ (p q sq ak fl wi ur : Nat) (o d : List UInt8) (c : Nat) : List UInt8 := pre p q sq ak fl wi o.length ++ (B16 c ++ (B16 ur ++ (o ++ d)))
theorem rw_len (p q sq ak fl wi ur : Nat) (o d : List UInt8) (c : Nat) : (rw_ p q sq ak fl wi ur o d c).length = 20 + o.length + d.length := by
  unfold rw_
  simp only [List.length_append, pre_len]
  show 16 + (2 + (2 + (o.length + d.length))) = _
  omega
/-- the sum of addresses, of the length, and of a segment -/
def ts (x y : Nat) (l : List UInt8) : Int := wsum (B32 x ++ B32 y ++ [0, 6] ++ B16 l.length ++ l)
theorem wsum_B16 (n : Nat) (h : n ≤ 65535) (l : List UInt8) : wsum (B16 n ++ l) = (n : Int) + wsum l := by
  show ((oct (n / 256)).toNat : Int) * 256 + ((oct (n % 256)).toNat : Int) + wsum l = _
  rw [oct_nat (by omega), oct_nat (by omega)]; omega
theorem wsum_B32 (x : Nat) (h : x ≤ 4294967295) : wsum (B32 x) = ((x / 65536 : Nat) : Int) + ((x % 65536 : Nat) : Int) := by
  have hq := q_le x h
  show ((oct (q3 x)).toNat : Int) * 256 + ((oct (q2 x)).toNat : Int) + (((oct (q1 x)).toNat : Int) * 256 + ((oct (q0 x)).toNat : Int) + 0) = _
  rw [oct_nat hq.1, oct_nat hq.2.1, oct_nat hq.2.2.1, oct_nat hq.2.2.2]
  unfold q3 q2 q1 q0; omega
theorem ts_eq (x y : Nat) (l : List UInt8) (hx : x ≤ 4294967295) (hy : y ≤ 4294967295) (hl : l.length ≤ 65535) :
    ts x y l = ((x / 65536 : Nat) : Int) + ((x % 65536 : Nat) : Int) + ((y / 65536 : Nat) : Int) + ((y % 65536 : Nat) : Int) + 6 + (l.length : Int) + wsum l := by
  unfold ts
  rw [List.append_assoc, List.append_assoc, List.append_assoc, wsum_append _ _ (by simp [B32]), wsum_append _ _ (by simp [B32]), wsum_B32 x hx, wsum_B32 y hy]
  show _ + (_ + (((0 : UInt8).toNat : Int) * 256 + ((6 : UInt8).toNat : Int) + wsum (B16 l.length ++ l))) = _
  rw [wsum_B16 _ hl]
  have e0 : ((0 : UInt8).toNat : Int) = 0 := rfl
  have e6 : ((6 : UInt8).toNat : Int) = 6 := rfl
  rw [e0, e6]; omega
theorem rw_sum (p q sq ak fl wi ur : Nat) (o d : List UInt8) (c : Nat) (hc : c ≤ 65535) : wsum (rw_ p q sq ak fl wi ur o d c) = wsum (rw_ p q sq ak fl wi ur o d 0) + (c : Int) := by
  have e : ∀ c, c ≤ 65535 → wsum (rw_ p q sq ak fl wi ur o d c) = wsum (pre p q sq ak fl wi o.length) + ((c : Int) + wsum (B16 ur ++ (o ++ d))) := fun c hc => by
    unfold rw_; rw [wsum_append _ _ (by rw [pre_len]), wsum_B16 c hc]
  rw [e c hc, e 0 (by omega)]; omega
/-- its checksum -/
def cs (x y p q sq ak fl wi ur : Nat) (o d : List UInt8) : Nat := (ck (ts x y (rw_ p q sq ak fl wi ur o d 0))).toNat
theorem cs_int (x y p q sq ak fl wi ur : Nat) (o d : List UInt8) : ((cs x y p q sq ak fl wi ur o d : Nat) : Int) = ck (ts x y (rw_ p q sq ak fl wi ur o d 0)) := by
  have := ck_bd (ts x y (rw_ p q sq ak fl wi ur o d 0)) (wsum_bd _).1
  unfold cs; omega
theorem cs_le (x y p q sq ak fl wi ur : Nat) (o d : List UInt8) : cs x y p q sq ak fl wi ur o d ≤ 65535 := by
  have := ck_bd (ts x y (rw_ p q sq ak fl wi ur o d 0)) (wsum_bd _).1
  unfold cs; omega
/-- a segment's bytes -/
def en (x y p q sq ak fl wi ur : Nat) (o d : List UInt8) : List UInt8 := rw_ p q sq ak fl wi ur o d (cs x y p q sq ak fl wi ur o d)
theorem en_len (x y p q sq ak fl wi ur : Nat) (o d : List UInt8) : (en x y p q sq ak fl wi ur o d).length = 20 + o.length + d.length := rw_len _ _ _ _ _ _ _ _ _ _

/-- what is wrong with bytes: an error's number, 0 for nothing -/
def hl (l : List UInt8) : Int := bt l 12 / 16 * 4
def dec (x y : Nat) (l : List UInt8) : Nat :=
  if l.length < 20 then 50 else if 65515 < l.length then 4 else if ck (ts x y l) ≠ 0 then 55 else if hl l < 20 ∨ (l.length : Int) < hl l then 60
  else if bt l 12 % 16 ≠ 0 ∨ 64 ≤ bt l 13 then 61 else 0
section
variable {x y : Nat} {l : List UInt8}
theorem dec_50 (h : l.length < 20) : dec x y l = 50 := by unfold dec; rw [if_pos h]
theorem dec_4 (h : ¬ l.length < 20) (h1 : 65515 < l.length) : dec x y l = 4 := by unfold dec; rw [if_neg h, if_pos h1]
theorem dec_55 (h : ¬ l.length < 20) (h1 : ¬ 65515 < l.length) (h2 : ck (ts x y l) ≠ 0) : dec x y l = 55 := by unfold dec; rw [if_neg h, if_neg h1, if_pos h2]
theorem dec_60 (h : ¬ l.length < 20) (h1 : ¬ 65515 < l.length) (h2 : ¬ ck (ts x y l) ≠ 0) (h3 : hl l < 20 ∨ (l.length : Int) < hl l) : dec x y l = 60 := by
  unfold dec; rw [if_neg h, if_neg h1, if_neg h2, if_pos h3]
theorem dec_61 (h : ¬ l.length < 20) (h1 : ¬ 65515 < l.length) (h2 : ¬ ck (ts x y l) ≠ 0) (h3 : ¬ (hl l < 20 ∨ (l.length : Int) < hl l)) (h4 : bt l 12 % 16 ≠ 0 ∨ 64 ≤ bt l 13) : dec x y l = 61 := by
  unfold dec; rw [if_neg h, if_neg h1, if_neg h2, if_neg h3, if_pos h4]
theorem dec_0 (h : ¬ l.length < 20) (h1 : ¬ 65515 < l.length) (h2 : ¬ ck (ts x y l) ≠ 0) (h3 : ¬ (hl l < 20 ∨ (l.length : Int) < hl l)) (h4 : ¬ (bt l 12 % 16 ≠ 0 ∨ 64 ≤ bt l 13)) : dec x y l = 0 := by
  unfold dec; rw [if_neg h, if_neg h1, if_neg h2, if_neg h3, if_neg h4]
theorem dec_is0 (h : dec x y l = 0) : ¬ l.length < 20 ∧ ¬ 65515 < l.length ∧ ck (ts x y l) = 0 ∧ ¬ (hl l < 20 ∨ (l.length : Int) < hl l) ∧ ¬ (bt l 12 % 16 ≠ 0 ∨ 64 ≤ bt l 13) := by
  unfold dec at h
  split at h
  · omega
  · split at h
    · omega
    · split at h
      · omega
      · split at h
        · omega
        · split at h
          · omega
          · rename_i h1 h2 h3 h4 h5
            exact ⟨h1, h2, Decidable.not_not.1 h3, h4, h5⟩
end

section
variable {x y p q sq ak fl wi ur : Nat} {o d : List UInt8}
theorem en_right (hx : x ≤ 4294967295) (hy : y ≤ 4294967295) (hz : 20 + o.length + d.length ≤ 65515) : ck (ts x y (en x y p q sq ak fl wi ur o d)) = 0 := by
  have hc := cs_le x y p q sq ak fl wi ur o d
  have e : ts x y (en x y p q sq ak fl wi ur o d) = ts x y (rw_ p q sq ak fl wi ur o d 0) + ((cs x y p q sq ak fl wi ur o d : Nat) : Int) := by
    rw [ts_eq x y _ hx hy (by rw [en_len]; omega), ts_eq x y _ hx hy (by rw [rw_len]; omega), en_len, rw_len]
    unfold en
    rw [rw_sum _ _ _ _ _ _ _ _ _ _ hc]; omega
  rw [e, cs_int]
  exact ck_bears _ (wsum_bd _).1
theorem en_12 (hm : May fl o.length) : bt (en x y p q sq ak fl wi ur o d) 12 = ((20 + o.length) / 4 * 16 : Nat) := by
  obtain ⟨h1, h2, h3⟩ := hm
  exact bt_nat _ _ _ rfl (by omega)
theorem en_hl (hm : May fl o.length) : hl (en x y p q sq ak fl wi ur o d) = ((20 + o.length : Nat) : Int) := by
  unfold hl
  rw [en_12 hm]
  obtain ⟨h1, h2, h3⟩ := hm
  omega
theorem en_13 (h : fl ≤ 255) : bt (en x y p q sq ak fl wi ur o d) 13 = (fl : Int) := bt_nat _ _ _ rfl h
theorem en_dec (hx : x ≤ 4294967295) (hy : y ≤ 4294967295) (hm : May fl o.length) (hz : 20 + o.length + d.length ≤ 65515) : dec x y (en x y p q sq ak fl wi ur o d) = 0 := by
  have h12 := en_12 (x := x) (y := y) (p := p) (q := q) (sq := sq) (ak := ak) (wi := wi) (ur := ur) (d := d) hm
  have h13 := en_13 (x := x) (y := y) (p := p) (q := q) (sq := sq) (ak := ak) (fl := fl) (wi := wi) (ur := ur) (o := o) (d := d) (by have := hm.2.2; omega)
  have hh := en_hl (x := x) (y := y) (p := p) (q := q) (sq := sq) (ak := ak) (wi := wi) (ur := ur) (d := d) hm
  refine dec_0 (by rw [en_len]; omega) (by rw [en_len]; omega) (by rw [en_right hx hy hz]; simp) ?_ ?_
  · rw [hh, en_len]; omega
  · rw [h12, h13]; have := hm.2.2; omega
theorem en_p (h : p ≤ 65535) : wd (en x y p q sq ak fl wi ur o d) 0 = p := by
  have h1 : bt (en x y p q sq ak fl wi ur o d) 0 = ((p / 256 : Nat) : Int) := bt_nat _ _ _ rfl (by omega)
  have h2 : bt (en x y p q sq ak fl wi ur o d) 1 = ((p % 256 : Nat) : Int) := bt_nat _ _ _ rfl (by omega)
  show bt _ 0 * 256 + bt _ 1 = _
  rw [h1, h2]; omega
theorem en_q (h : q ≤ 65535) : wd (en x y p q sq ak fl wi ur o d) 2 = q := by
  have h1 : bt (en x y p q sq ak fl wi ur o d) 2 = ((q / 256 : Nat) : Int) := bt_nat _ _ _ rfl (by omega)
  have h2 : bt (en x y p q sq ak fl wi ur o d) 3 = ((q % 256 : Nat) : Int) := bt_nat _ _ _ rfl (by omega)
  show bt _ 2 * 256 + bt _ 3 = _
  rw [h1, h2]; omega
theorem en_sq (h : sq ≤ 4294967295) : qd (en x y p q sq ak fl wi ur o d) 4 = sq := by
  have hq := q_le sq h
  have h1 : bt (en x y p q sq ak fl wi ur o d) 4 = (q3 sq : Nat) := bt_nat _ _ _ rfl hq.1
  have h2 : bt (en x y p q sq ak fl wi ur o d) 5 = (q2 sq : Nat) := bt_nat _ _ _ rfl hq.2.1
  have h3 : bt (en x y p q sq ak fl wi ur o d) 6 = (q1 sq : Nat) := bt_nat _ _ _ rfl hq.2.2.1
  have h4 : bt (en x y p q sq ak fl wi ur o d) 7 = (q0 sq : Nat) := bt_nat _ _ _ rfl hq.2.2.2
  show (bt _ 4 * 256 + bt _ 5) * 65536 + (bt _ 6 * 256 + bt _ 7) = _
  rw [h1, h2, h3, h4]; unfold q3 q2 q1 q0; omega
theorem en_ak (h : ak ≤ 4294967295) : qd (en x y p q sq ak fl wi ur o d) 8 = ak := by
  have hq := q_le ak h
  have h1 : bt (en x y p q sq ak fl wi ur o d) 8 = (q3 ak : Nat) := bt_nat _ _ _ rfl hq.1
  have h2 : bt (en x y p q sq ak fl wi ur o d) 9 = (q2 ak : Nat) := bt_nat _ _ _ rfl hq.2.1
  have h3 : bt (en x y p q sq ak fl wi ur o d) 10 = (q1 ak : Nat) := bt_nat _ _ _ rfl hq.2.2.1
  have h4 : bt (en x y p q sq ak fl wi ur o d) 11 = (q0 ak : Nat) := bt_nat _ _ _ rfl hq.2.2.2
  show (bt _ 8 * 256 + bt _ 9) * 65536 + (bt _ 10 * 256 + bt _ 11) = _
  rw [h1, h2, h3, h4]; unfold q3 q2 q1 q0; omega
theorem en_wi (h : wi ≤ 65535) : wd (en x y p q sq ak fl wi ur o d) 14 = wi := by
  have h1 : bt (en x y p q sq ak fl wi ur o d) 14 = ((wi / 256 : Nat) : Int) := bt_nat _ _ _ rfl (by omega)
  have h2 : bt (en x y p q sq ak fl wi ur o d) 15 = ((wi % 256 : Nat) : Int) := bt_nat _ _ _ rfl (by omega)
  show bt _ 14 * 256 + bt _ 15 = _
  rw [h1, h2]; omega
theorem en_ur (h : ur ≤ 65535) : wd (en x y p q sq ak fl wi ur o d) 18 = ur := by
  have h1 : bt (en x y p q sq ak fl wi ur o d) 18 = ((ur / 256 : Nat) : Int) := bt_nat _ _ _ rfl (by omega)
  have h2 : bt (en x y p q sq ak fl wi ur o d) 19 = ((ur % 256 : Nat) : Int) := bt_nat _ _ _ rfl (by omega)
  show bt _ 18 * 256 + bt _ 19 = _
  rw [h1, h2]; omega
theorem en_20 : (en x y p q sq ak fl wi ur o d).drop 20 = o ++ d := rfl
theorem en_opts : ((en x y p q sq ak fl wi ur o d).drop 20).take o.length = o := by
  rw [en_20, List.take_append_of_le_length (Nat.le_refl _), List.take_length]
theorem en_data : (en x y p q sq ak fl wi ur o d).drop (20 + o.length) = d := by
  rw [← List.drop_drop, en_20, List.drop_append_of_le_length (Nat.le_refl _), List.drop_length, List.nil_append]
end

/-! ### what is turned -/
/-- a byte of which one bit is turned -/
def Bit (x y : Int) : Prop := ∃ m : Nat, m < 8 ∧ (y = x + 2 ^ m ∨ y = x - 2 ^ m)
theorem wsum_set1 : ∀ (l : List UInt8) (j : Nat) (c : UInt8), j < l.length → wsum (l.set j c) = wsum l + ((c.toNat : Int) - bt l j) * (if j % 2 = 0 then 256 else 1)
  | [], j, c, h => by simp at h
  | [x], 0, c, h => by simp [wsum, bt]; omega
  | [x], j + 1, c, h => by simp at h
  | x :: y :: t, 0, c, h => by simp [wsum, bt]; omega
  | x :: y :: t, 1, c, h => by simp [wsum, bt]; omega
  | x :: y :: t, j + 2, c, h => by
    have ih := wsum_set1 t j c (by simp at h; omega)
    have e : bt (x :: y :: t) (j + 2) = bt t j := rfl
    have e2 : (j + 2) % 2 = j % 2 := by omega
    simp only [List.set_cons_succ, wsum, ih, e, e2]
    omega
theorem ck_zero {x : Int} (h : ck x = 0) (hx : 0 ≤ x) : x % 65535 = 0 := by
  have := ones_mod x hx
  unfold ck at h
  omega
theorem pow_lt8 {m : Nat} (h : m < 8) : (1 : Int) ≤ 2 ^ m ∧ (2 : Int) ^ m ≤ 128 := by
  rcases (by omega : m = 0 ∨ m = 1 ∨ m = 2 ∨ m = 3 ∨ m = 4 ∨ m = 5 ∨ m = 6 ∨ m = 7) with rfl | rfl | rfl | rfl | rfl | rfl | rfl | rfl <;> decide
/-- a right segment of which one bit is turned is not right -/
theorem hurt (x y : Nat) (l : List UInt8) (j : Nat) (c : UInt8) (hx : x ≤ 4294967295) (hy : y ≤ 4294967295) (hj : j < l.length) (h20 : 20 ≤ l.length) (hl : l.length ≤ 65515) (hr : ck (ts x y l) = 0) (hb : Bit (bt l j) (c.toNat : Int)) :
    dec x y (l.set j c) = 55 := by
  refine dec_55 (by rw [List.length_set]; omega) (by rw [List.length_set]; omega) fun h1 => ?_
  have h2 := wsum_set1 l j c hj
  have h3 := ck_zero hr (wsum_bd _).1
  have h4 := ck_zero h1 (wsum_bd _).1
  rw [ts_eq x y _ hx hy (by omega)] at h3
  rw [ts_eq x y _ hx hy (by rw [List.length_set]; omega), List.length_set, h2] at h4
  obtain ⟨m, hm, hy'⟩ := hb
  have hp := pow_lt8 hm
  generalize (2 : Int) ^ m = P at hp hy'
  generalize wsum l = S at h3 h4
  split at h4 <;> rcases hy' with hy' | hy' <;> rw [hy'] at h4 <;> omega
/-- .. nor is it by another address: x' is x with one bit turned -/
def Bit32 (x x' : Nat) : Prop := ∃ m : Nat, m < 16 ∧ ((x' / 65536 = x / 65536 ∧ (x' % 65536 = x % 65536 + 2 ^ m ∨ x' % 65536 + 2 ^ m = x % 65536)) ∨ (x' % 65536 = x % 65536 ∧ (x' / 65536 = x / 65536 + 2 ^ m ∨ x' / 65536 + 2 ^ m = x / 65536)))
theorem pow_lt16 {m : Nat} (h : m < 16) : 1 ≤ 2 ^ m ∧ 2 ^ m ≤ 32768 := by
  rcases (by omega : m = 0 ∨ m = 1 ∨ m = 2 ∨ m = 3 ∨ m = 4 ∨ m = 5 ∨ m = 6 ∨ m = 7 ∨ m = 8 ∨ m = 9 ∨ m = 10 ∨ m = 11 ∨ m = 12 ∨ m = 13 ∨ m = 14 ∨ m = 15) with rfl | rfl | rfl | rfl | rfl | rfl | rfl | rfl | rfl | rfl | rfl | rfl | rfl | rfl | rfl | rfl <;> decide
theorem other_src (x y x' : Nat) (l : List UInt8) (hx : x ≤ 4294967295) (hx' : x' ≤ 4294967295) (hy : y ≤ 4294967295) (h20 : 20 ≤ l.length) (hl : l.length ≤ 65515) (hr : ck (ts x y l) = 0) (hb : Bit32 x x') : dec x' y l = 55 := by
  refine dec_55 (by omega) (by omega) fun h1 => ?_
  have h3 := ck_zero hr (wsum_bd _).1
  have h4 := ck_zero h1 (wsum_bd _).1
  rw [ts_eq x y _ hx hy (by omega)] at h3
  rw [ts_eq x' y _ hx' hy (by omega)] at h4
  obtain ⟨m, hm, hb⟩ := hb
  have hp := pow_lt16 hm
  generalize 2 ^ m = P at hp hb
  generalize wsum l = S at h3 h4
  rcases hb with ⟨e1, e2 | e2⟩ | ⟨e1, e2 | e2⟩ <;> omega
theorem other_dst (x y y' : Nat) (l : List UInt8) (hx : x ≤ 4294967295) (hy : y ≤ 4294967295) (hy' : y' ≤ 4294967295) (h20 : 20 ≤ l.length) (hl : l.length ≤ 65515) (hr : ck (ts x y l) = 0) (hb : Bit32 y y') : dec x y' l = 55 := by
  refine dec_55 (by omega) (by omega) fun h1 => ?_
  have h3 := ck_zero hr (wsum_bd _).1
  have h4 := ck_zero h1 (wsum_bd _).1
  rw [ts_eq x y _ hx hy (by omega)] at h3
  rw [ts_eq x y' _ hx hy' (by omega)] at h4
  obtain ⟨m, hm, hb⟩ := hb
  have hp := pow_lt16 hm
  generalize 2 ^ m = P at hp hb
  generalize wsum l = S at h3 h4
  rcases hb with ⟨e1, e2 | e2⟩ | ⟨e1, e2 | e2⟩ <;> omega
end Go.Proofs.Ytecogakledajkaa.cm
