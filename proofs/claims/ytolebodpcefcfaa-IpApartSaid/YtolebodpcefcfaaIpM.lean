/- Heads of packets: their bytes, what bytes are: plain mathematics. Condition: none. -/
import Derived.Test.YtolebodpcefcfaaNetBase
namespace Go.Proofs.Ytolebodpcefcfaa.im
open Go.Proofs.Ytolebodpcefcfaa.sm Go.Proofs.Ytolebodpcefcfaa.nb
set_option linter.unusedVariables false

def dfb (d : Bool) : UInt8 := if d then 64 else 0
/-- a head's bytes -/
def hd (a b p t s i : Nat) (d : Bool) (n c : Nat) : List UInt8 :=
  [69, oct s, oct (n / 256), oct (n % 256), oct (i / 256), oct (i % 256), dfb d, 0, oct t, oct p, oct (c / 256), oct (c % 256),
   oct (q3 a), oct (q2 a), oct (q1 a), oct (q0 a), oct (q3 b), oct (q2 b), oct (q1 b), oct (q0 b)]
theorem hd_len (a b p t s i : Nat) (d : Bool) (n c : Nat) : (hd a b p t s i d n c).length = 20 := rfl
/-- which numbers a head may have -/
def Ok (a b p t s i : Nat) : Prop := a ≤ 4294967295 ∧ b ≤ 4294967295 ∧ p ≤ 255 ∧ t ≤ 255 ∧ s ≤ 255 ∧ i ≤ 65535
theorem hd_sum (a b p t s i : Nat) (d : Bool) (n c : Nat) (hc : c ≤ 65535) : wsum (hd a b p t s i d n c) = wsum (hd a b p t s i d n 0) + (c : Int) := by
  have h1 : (oct (c / 256)).toNat = c / 256 := oct_nat (by omega)
  have h2 : (oct (c % 256)).toNat = c % 256 := oct_nat (by omega)
  have h3 : (oct (0 / 256)).toNat = 0 := oct_nat (by omega)
  have h4 : (oct (0 % 256)).toNat = 0 := oct_nat (by omega)
  simp only [hd, wsum, h1, h2, h3, h4]
  omega
/-- its checksum -/
def cs (a b p t s i : Nat) (d : Bool) (n : Nat) : Nat := (ck (wsum (hd a b p t s i d n 0))).toNat
theorem cs_int (a b p t s i : Nat) (d : Bool) (n : Nat) : ((cs a b p t s i d n : Nat) : Int) = ck (wsum (hd a b p t s i d n 0)) := by
  have := ck_bd _ (wsum_bd (hd a b p t s i d n 0)).1
  unfold cs; omega
theorem cs_le (a b p t s i : Nat) (d : Bool) (n : Nat) : cs a b p t s i d n ≤ 65535 := by
  have := ck_bd _ (wsum_bd (hd a b p t s i d n 0)).1
  unfold cs; omega
/-- the head with its checksum -/
def hc (a b p t s i : Nat) (d : Bool) (n : Nat) : List UInt8 := hd a b p t s i d n (cs a b p t s i d n)
theorem hc_len (a b p t s i : Nat) (d : Bool) (n : Nat) : (hc a b p t s i d n).length = 20 := rfl
theorem hc_right (a b p t s i : Nat) (d : Bool) (n : Nat) : ck (wsum (hc a b p t s i d n)) = 0 := by
  unfold hc
  rw [hd_sum _ _ _ _ _ _ _ _ _ (cs_le _ _ _ _ _ _ _ _), cs_int]
  exact ck_bears _ (wsum_bd _).1
/-- a packet's bytes -/
def en (a b p t s i : Nat) (d : Bool) (l : List UInt8) : List UInt8 := hc a b p t s i d (20 + l.length) ++ l
theorem en_len (a b p t s i : Nat) (d : Bool) (l : List UInt8) : (en a b p t s i d l).length = 20 + l.length := by unfold en; rw [List.length_append, hc_len]

/-- what is wrong with bytes: an error's number, 0 for nothing -/
def dec (l : List UInt8) : Nat :=
  if l.length < 20 then 50 else if bt l 0 / 16 ≠ 4 then 51 else if bt l 0 % 16 ≠ 5 then 52 else if wd l 2 ≠ (l.length : Int) then 53
  else if ck (wsum (l.take 20)) ≠ 0 then 55 else if wd l 6 ≠ 0 ∧ wd l 6 ≠ 16384 then 54 else 0
theorem dec_50 {l : List UInt8} (h : l.length < 20) : dec l = 50 := by unfold dec; rw [if_pos h]
theorem dec_51 {l : List UInt8} (h : ¬ l.length < 20) (h1 : bt l 0 / 16 ≠ 4) : dec l = 51 := by unfold dec; rw [if_neg h, if_pos h1]
theorem dec_52 {l : List UInt8} (h : ¬ l.length < 20) (h1 : bt l 0 / 16 = 4) (h2 : bt l 0 % 16 ≠ 5) : dec l = 52 := by unfold dec; rw [if_neg h, if_neg (by simpa using h1), if_pos h2]
theorem dec_53 {l : List UInt8} (h : ¬ l.length < 20) (h1 : bt l 0 / 16 = 4) (h2 : bt l 0 % 16 = 5) (h3 : wd l 2 ≠ (l.length : Int)) : dec l = 53 := by
  unfold dec; rw [if_neg h, if_neg (by simpa using h1), if_neg (by simpa using h2), if_pos h3]
theorem dec_55 {l : List UInt8} (h : ¬ l.length < 20) (h1 : bt l 0 / 16 = 4) (h2 : bt l 0 % 16 = 5) (h3 : wd l 2 = (l.length : Int)) (h4 : ck (wsum (l.take 20)) ≠ 0) : dec l = 55 := by
  unfold dec; rw [if_neg h, if_neg (by simpa using h1), if_neg (by simpa using h2), if_neg (by simpa using h3), if_pos h4]
theorem dec_54 {l : List UInt8} (h : ¬ l.length < 20) (h1 : bt l 0 / 16 = 4) (h2 : bt l 0 % 16 = 5) (h3 : wd l 2 = (l.length : Int)) (h4 : ck (wsum (l.take 20)) = 0) (h5 : wd l 6 ≠ 0 ∧ wd l 6 ≠ 16384) : dec l = 54 := by
  unfold dec; rw [if_neg h, if_neg (by simpa using h1), if_neg (by simpa using h2), if_neg (by simpa using h3), if_neg (by simpa using h4), if_pos h5]
theorem dec_0 {l : List UInt8} (h : ¬ l.length < 20) (h1 : bt l 0 / 16 = 4) (h2 : bt l 0 % 16 = 5) (h3 : wd l 2 = (l.length : Int)) (h4 : ck (wsum (l.take 20)) = 0) (h5 : ¬ (wd l 6 ≠ 0 ∧ wd l 6 ≠ 16384)) : dec l = 0 := by
  unfold dec; rw [if_neg h, if_neg (by simpa using h1), if_neg (by simpa using h2), if_neg (by simpa using h3), if_neg (by simpa using h4), if_neg h5]
theorem dec_sum {l : List UInt8} (h : dec l = 0) : ck (wsum (l.take 20)) = 0 := by
  unfold dec at h
  (repeat' split at h) <;> first | omega | skip

theorem bt_app {l m : List UInt8} {k : Nat} (h : k < l.length) : bt (l ++ m) k = bt l k := by
  unfold bt; simp [List.getD, List.getElem?_append_left h]
theorem wd_app {l m : List UInt8} {k : Nat} (h : k + 1 < l.length) : wd (l ++ m) k = wd l k := by
  unfold wd; rw [bt_app (by omega), bt_app h]
theorem qd_app {l m : List UInt8} {k : Nat} (h : k + 3 < l.length) : qd (l ++ m) k = qd l k := by
  unfold qd; rw [wd_app (by omega), wd_app h]

section
variable {a b p t s i : Nat} {d : Bool} {l : List UInt8}
theorem bt_nat (xs : List UInt8) (k n : Nat) (h : xs.getD k 0 = oct n) (hn : n ≤ 255) : bt xs k = (n : Int) := by
  unfold bt; rw [h, oct_nat hn]
theorem en_b0 : bt (en a b p t s i d l) 0 = 69 := rfl
theorem en_len2 (h : l.length ≤ 65515) : wd (en a b p t s i d l) 2 = ((en a b p t s i d l).length : Int) := by
  rw [en_len]
  have h1 : bt (en a b p t s i d l) 2 = (((20 + l.length) / 256 : Nat) : Int) := bt_nat _ _ _ rfl (by omega)
  have h2 : bt (en a b p t s i d l) 3 = (((20 + l.length) % 256 : Nat) : Int) := bt_nat _ _ _ rfl (by omega)
  show bt _ 2 * 256 + bt _ 3 = _
  rw [h1, h2]; omega
theorem en_take : (en a b p t s i d l).take 20 = hc a b p t s i d (20 + l.length) := by
  unfold en
  rw [List.take_append_of_le_length (by rw [hc_len]; omega), List.take_of_length_le (by rw [hc_len]; omega)]
theorem en_drop : (en a b p t s i d l).drop 20 = l := by
  unfold en
  rw [List.drop_append_of_le_length (by rw [hc_len]; omega), List.drop_of_length_le (by rw [hc_len]; omega), List.nil_append]
theorem en_6 : wd (en a b p t s i d l) 6 = if d then 16384 else 0 := by
  have h1 : bt (en a b p t s i d l) 6 = ((dfb d).toNat : Int) := rfl
  have h2 : bt (en a b p t s i d l) 7 = 0 := rfl
  show bt _ 6 * 256 + bt _ 7 = _
  rw [h1, h2]; cases d <;> decide
theorem en_dec (h : l.length ≤ 65515) : dec (en a b p t s i d l) = 0 := by
  refine dec_0 (by rw [en_len]; omega) (by rw [en_b0]; decide) (by rw [en_b0]; decide) (en_len2 h) ?_ ?_
  · rw [en_take]; exact hc_right _ _ _ _ _ _ _ _
  · rw [en_6]; cases d <;> simp
theorem en_tos (h : Ok a b p t s i) : bt (en a b p t s i d l) 1 = s := bt_nat _ _ _ rfl h.2.2.2.2.1
theorem en_ttl (h : Ok a b p t s i) : bt (en a b p t s i d l) 8 = t := bt_nat _ _ _ rfl h.2.2.2.1
theorem en_proto (h : Ok a b p t s i) : bt (en a b p t s i d l) 9 = p := bt_nat _ _ _ rfl h.2.2.1
theorem en_id (h : Ok a b p t s i) : wd (en a b p t s i d l) 4 = i := by
  have h1 : bt (en a b p t s i d l) 4 = ((i / 256 : Nat) : Int) := bt_nat _ _ _ rfl (by have := h.2.2.2.2.2; omega)
  have h2 : bt (en a b p t s i d l) 5 = ((i % 256 : Nat) : Int) := bt_nat _ _ _ rfl (by omega)
  show bt _ 4 * 256 + bt _ 5 = _
  rw [h1, h2]; omega
theorem en_src (h : Ok a b p t s i) : qd (en a b p t s i d l) 12 = a := by
  have hq := q_le a h.1
  have h1 : bt (en a b p t s i d l) 12 = (q3 a : Nat) := bt_nat _ _ _ rfl hq.1
  have h2 : bt (en a b p t s i d l) 13 = (q2 a : Nat) := bt_nat _ _ _ rfl hq.2.1
  have h3 : bt (en a b p t s i d l) 14 = (q1 a : Nat) := bt_nat _ _ _ rfl hq.2.2.1
  have h4 : bt (en a b p t s i d l) 15 = (q0 a : Nat) := bt_nat _ _ _ rfl hq.2.2.2
  show (bt _ 12 * 256 + bt _ 13) * 65536 + (bt _ 14 * 256 + bt _ 15) = _
  rw [h1, h2, h3, h4]; unfold q3 q2 q1 q0; omega
theorem en_dst (h : Ok a b p t s i) : qd (en a b p t s i d l) 16 = b := by
  have hq := q_le b h.2.1
  have h1 : bt (en a b p t s i d l) 16 = (q3 b : Nat) := bt_nat _ _ _ rfl hq.1
  have h2 : bt (en a b p t s i d l) 17 = (q2 b : Nat) := bt_nat _ _ _ rfl hq.2.1
  have h3 : bt (en a b p t s i d l) 18 = (q1 b : Nat) := bt_nat _ _ _ rfl hq.2.2.1
  have h4 : bt (en a b p t s i d l) 19 = (q0 b : Nat) := bt_nat _ _ _ rfl hq.2.2.2
  show (bt _ 16 * 256 + bt _ 17) * 65536 + (bt _ 18 * 256 + bt _ 19) = _
  rw [h1, h2, h3, h4]; unfold q3 q2 q1 q0; omega
end

/-- a byte of which one bit is turned -/
def Bit (x y : Int) : Prop := ∃ m : Nat, m < 8 ∧ (y = x + 2 ^ m ∨ y = x - 2 ^ m)
theorem bt_set (l : List UInt8) (j k : Nat) (c : UInt8) (hj : j < l.length) : bt (l.set j c) k = if k = j then (c.toNat : Int) else bt l k := by
  unfold bt
  by_cases h : k = j
  · subst h; rw [if_pos rfl]; simp [hj]
  · rw [if_neg h]; simp [List.getD, List.getElem?_set, Ne.symm h]
theorem wsum_set1 : ∀ (l : List UInt8) (j : Nat) (c : UInt8), j < l.length → wsum (l.set j c) = wsum l + ((c.toNat : Int) - bt l j) * (if j % 2 = 0 then 256 else 1)
  | [], j, c, h => by simp at h
  | [x], 0, c, h => by simp [wsum, bt]; omega
  | [x], j + 1, c, h => by simp at h
  | x :: y :: t, 0, c, h => by simp [wsum, bt]; omega
  | x :: y :: t, 1, c, h => by simp [wsum, bt]; omega
  | x :: y :: t, j + 2, c, h => by
    have ih := wsum_set1 t j c (by simp at h; omega)
    have e : bt (x :: y :: t) (j + 2) = bt t j := rfl
    have e2 : (j + 2) % 2 = j % 2 := by omega
    simp only [List.set_cons_succ, wsum, ih, e, e2]
    omega
theorem ck_zero {x : Int} (h : ck x = 0) (hx : 0 ≤ x) : x % 65535 = 0 := by
  have := ones_mod x hx
  unfold ck at h
  omega
theorem pow_lt8 {m : Nat} (h : m < 8) : (1 : Int) ≤ 2 ^ m ∧ (2 : Int) ^ m ≤ 128 := by
  rcases (by omega : m = 0 ∨ m = 1 ∨ m = 2 ∨ m = 3 ∨ m = 4 ∨ m = 5 ∨ m = 6 ∨ m = 7) with rfl | rfl | rfl | rfl | rfl | rfl | rfl | rfl <;> decide
/-- a right head of which one bit is turned is not right -/
theorem hurt (l : List UInt8) (j : Nat) (c : UInt8) (hj : j < 20) (hl : 20 ≤ l.length) (hr : ck (wsum (l.take 20)) = 0) (hb : Bit (bt l j) (c.toNat : Int)) : dec (l.set j c) ≠ 0 := by
  intro h0
  have h1 := dec_sum h0
  rw [List.take_set] at h1
  have hjl : j < (l.take 20).length := by rw [List.length_take]; omega
  have h2 := wsum_set1 (l.take 20) j c hjl
  have e : bt (l.take 20) j = bt l j := by unfold bt; simp [List.getD, List.getElem?_take, hj]
  rw [e] at h2
  have h3 := ck_zero hr (wsum_bd _).1
  have h4 := ck_zero h1 (wsum_bd _).1
  rw [h2] at h4
  obtain ⟨m, hm, hy⟩ := hb
  have hp := pow_lt8 hm
  generalize (2 : Int) ^ m = P at hp hy
  split at h4 <;> rcases hy with hy | hy <;> rw [hy] at h4 <;> omega
/-- .. nor what is cut off -/
theorem short {a b p t s i : Nat} {d : Bool} {l : List UInt8} (h : l.length ≤ 65515) (c : Nat) (hc : c < 20 + l.length) : dec ((en a b p t s i d l).take c) ≠ 0 := by
  by_cases h20 : c < 20
  · rw [dec_50 (by rw [List.length_take, en_len]; omega)]; omega
  · have hlen : ((en a b p t s i d l).take c).length = c := by rw [List.length_take, en_len]; omega
    have e : ∀ k, k < 20 → bt ((en a b p t s i d l).take c) k = bt (en a b p t s i d l) k := fun k hk => by
      unfold bt; simp [List.getD, List.getElem?_take, show k < c by omega]
    have h0 : bt ((en a b p t s i d l).take c) 0 = 69 := by rw [e 0 (by omega), en_b0]
    have h2 : wd ((en a b p t s i d l).take c) 2 = ((20 + l.length : Nat) : Int) := by
      have := en_len2 (a := a) (b := b) (p := p) (t := t) (s := s) (i := i) (d := d) h
      rw [en_len] at this
      rw [← this]
      show bt _ 2 * 256 + bt _ 3 = bt _ 2 * 256 + bt _ 3
      rw [e 2 (by omega), e 3 (by omega)]
    rw [dec_53 (by rw [hlen]; omega) (by rw [h0]; decide) (by rw [h0]; decide) (by rw [h2, hlen]; omega)]; omega
/-- .. and what is longer has another length -/
theorem longer {a b p t s i : Nat} {d : Bool} {l : List UInt8} (h : l.length ≤ 65515) (x : UInt8) : dec (en a b p t s i d l ++ [x]) = 53 := by
  have hlen : (en a b p t s i d l ++ [x]).length = 21 + l.length := by rw [List.length_append, en_len]; simp; omega
  have h0 : bt (en a b p t s i d l ++ [x]) 0 = 69 := by rw [bt_app (by rw [en_len]; omega), en_b0]
  have h2 : wd (en a b p t s i d l ++ [x]) 2 = ((20 + l.length : Nat) : Int) := by
    rw [wd_app (by rw [en_len]; omega), en_len2 h, en_len]
  exact dec_53 (by rw [hlen]; omega) (by rw [h0]; decide) (by rw [h0]; decide) (by rw [h2, hlen]; omega)
/-- packets that are the same are of the same heads and loads -/
theorem apart {a b p t s i a' b' p' t' s' i' : Nat} {d d' : Bool} {l l' : List UInt8} (h : Ok a b p t s i) (h' : Ok a' b' p' t' s' i') (he : en a b p t s i d l = en a' b' p' t' s' i' d' l') :
    a = a' ∧ b = b' ∧ p = p' ∧ t = t' ∧ s = s' ∧ i = i' ∧ d = d' ∧ l = l' := by
  have e1 := en_src (d := d) (l := l) h; have e1' := en_src (d := d') (l := l') h'
  have e2 := en_dst (d := d) (l := l) h; have e2' := en_dst (d := d') (l := l') h'
  have e3 := en_proto (d := d) (l := l) h; have e3' := en_proto (d := d') (l := l') h'
  have e4 := en_ttl (d := d) (l := l) h; have e4' := en_ttl (d := d') (l := l') h'
  have e5 := en_tos (d := d) (l := l) h; have e5' := en_tos (d := d') (l := l') h'
  have e6 := en_id (d := d) (l := l) h; have e6' := en_id (d := d') (l := l') h'
  have e7 := en_6 (a := a) (b := b) (p := p) (t := t) (s := s) (i := i) (d := d) (l := l)
  have e7' := en_6 (a := a') (b := b') (p := p') (t := t') (s := s') (i := i') (d := d') (l := l')
  have e8 := en_drop (a := a) (b := b) (p := p) (t := t) (s := s) (i := i) (d := d) (l := l)
  have e8' := en_drop (a := a') (b := b') (p := p') (t := t') (s := s') (i := i') (d := d') (l := l')
  rw [he] at e1 e2 e3 e4 e5 e6 e7 e8
  refine ⟨by omega, by omega, by omega, by omega, by omega, by omega, ?_, by rw [← e8, e8']⟩
  cases d <;> cases d' <;> simp_all
end Go.Proofs.Ytolebodpcefcfaa.im
