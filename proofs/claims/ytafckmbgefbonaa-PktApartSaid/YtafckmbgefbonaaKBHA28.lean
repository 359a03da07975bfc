/- B H A: contracts, part 28. Condition: as each says. -/
import Derived.Test.YtafckmbgefbonaaKBHA10
import Derived.Test.YtafckmbgefbonaaKBHA26
import Derived.Shelf.Strconv.Clone
set_option linter.unusedVariables false
set_option linter.unusedSimpArgs false
namespace Go.Proofs.Ytafckmbgefbonaa.tc
open Go.RowKit Go.Shelf Go.Proofs.Ytafckmbgefbonaa.sm Go.Proofs.Ytafckmbgefbonaa.nb Go.Proofs.Ytafckmbgefbonaa.cm
set_option linter.unusedVariables false

theorem out_own {w : World} {B : Nat} {v : Value} {xs ys : List UInt8} (h : OwnB w B v xs) (e : xs = ys) : OwnB w B v ys := e ▸ h
def hdb (p q sq ak fl wi ur n c : Nat) : List UInt8 := pre p q sq ak fl wi n ++ (B16 c ++ B16 ur)
theorem hdb_len (p q sq ak fl wi ur n c : Nat) : (hdb p q sq ak fl wi ur n c).length = 20 := rfl
theorem hdb_rw (p q sq ak fl wi ur c : Nat) (o d : List UInt8) : hdb p q sq ak fl wi ur o.length c ++ (o ++ d) = rw_ p q sq ak fl wi ur o d c := by
  unfold hdb rw_; simp only [List.append_assoc]
set_option maxHeartbeats 4000000 in
set_option maxRecDepth 100000 in
theorem laidC (p q sq ak fl wi ur c : Nat) (o : ByteArray) (w : World) (h : Ok p q sq ak fl wi ur) (h4 : o.size % 4 = 0) (ho : o.size ≤ 40) (hc : c ≤ 65535) :
    Calls Try.prog 36 #[HV p q sq ak fl wi ur o, .int .u16 c] w fun e w' => e = .returned (.string (tx (hdb p q sq ak fl wi ur o.size c))) ∧ Up w w' := by
  obtain ⟨hp, hq, hsq, hak, hfl, hwi, hur⟩ := h
  obtain ⟨m, hm⟩ : ∃ m : Nat, m = (20 + o.size) / 4 * 16 := ⟨_, rfl⟩
  have hmi : (20 + (o.size : Int)) / 4 * 16 = (m : Int) := by omega
  have hm1 : m ≤ 255 := by omega
  have HM := Lib.hid hm; clear hm
  go_enter Try.func36, Try.ntmps36
  go_upto_region 1 with fail
  have hB := Box.new w #[.int .u16 p, .int .u16 q, .int .u32 sq, .int .u32 ak, .int .u8 fl, .int .u16 wi, .int .u16 ur, .string o] 53
  have hu : Up w (w.alloc (.cells #[.int .u16 p, .int .u16 q, .int .u32 sq, .int .u32 ak, .int .u8 fl, .int .u16 wi, .int .u16 ur, .string o] 53)) := up_al _ (Below.refl _ _)
  have hz : w.heap.size + 1 ≤ (w.alloc (.cells #[.int .u16 p, .int .u16 q, .int .u32 sq, .int .u32 ak, .int .u8 fl, .int .u16 wi, .int .u16 ur, .string o] 53)).heap.size := by simp
  generalize (w.alloc (.cells #[.int .u16 p, .int .u16 q, .int .u32 sq, .int .u32 ak, .int .u8 fl, .int .u16 wi, .int .u16 ur, .string o] 53)) = w0 at hB hu hz ⊢
  have k1 := hB.at 0 rfl
  go_wp2_with fail
  refine (lay16 (w.heap.size + 1) _ _ p _ hp (OwnB.nil_ _ _) (by simp [B16, B32]) hz).mono ?_
  rintro e w1 ⟨⟨v1, rfl, ho1⟩, hb1⟩
  have hz1 := Nat.le_trans hz hb1.size
  have hB1 := hB.below hb1 (Nat.lt_succ_self _)
  have hu1 : Up w w1 := Below.trans hu (hb1.mono (Nat.le_succ _))
  clear k1 hB hz hb1 hu
  have k2 := hB1.at 1 rfl
  go_wp2_with fail
  refine (lay16 (w.heap.size + 1) _ _ q _ hq ho1 (by simp [B16, B32]) hz1).mono ?_
  rintro e w2 ⟨⟨v2, rfl, ho2⟩, hb2⟩
  have hz2 := Nat.le_trans hz1 hb2.size
  have hB2 := hB1.below hb2 (Nat.lt_succ_self _)
  have hu2 : Up w w2 := Below.trans hu1 (hb2.mono (Nat.le_succ _))
  clear k2 ho1 hB1 hz1 hb2 hu1
  have k3 := hB2.at 2 rfl
  go_wp2_with fail
  refine (lay32 (w.heap.size + 1) _ _ sq _ hsq ho2 (by simp [B16, B32]) hz2).mono ?_
  rintro e w3 ⟨⟨v3, rfl, ho3⟩, hb3⟩
  have hz3 := Nat.le_trans hz2 hb3.size
  have hB3 := hB2.below hb3 (Nat.lt_succ_self _)
  have hu3 : Up w w3 := Below.trans hu2 (hb3.mono (Nat.le_succ _))
  clear k3 ho2 hB2 hz2 hb3 hu2
  have k4 := hB3.at 3 rfl
  go_wp2_with fail
  refine (lay32 (w.heap.size + 1) _ _ ak _ hak ho3 (by simp [B16, B32]) hz3).mono ?_
  rintro e w4 ⟨⟨v4, rfl, ho4⟩, hb4⟩
  have hz4 := Nat.le_trans hz3 hb4.size
  have hB4 := hB3.below hb4 (Nat.lt_succ_self _)
  have hu4 : Up w w4 := Below.trans hu3 (hb4.mono (Nat.le_succ _))
  clear k4 ho3 hB3 hz3 hb4 hu3
  have k5 := hB4.at 7 rfl
  go_wp2_with fail
  refine (lay8 (w.heap.size + 1) _ _ m _ hm1 ho4 (by simp [B16, B32]) hz4).mono ?_
  rintro e w5 ⟨⟨v5, rfl, ho5⟩, hb5⟩
  have hz5 := Nat.le_trans hz4 hb5.size
  have hB5 := hB4.below hb5 (Nat.lt_succ_self _)
  have hu5 : Up w w5 := Below.trans hu4 (hb5.mono (Nat.le_succ _))
  clear k5 ho4 hB4 hz4 hb5 hu4
  have k6 := hB5.at 4 rfl
  go_wp2_with fail
  refine (lay8 (w.heap.size + 1) _ _ fl _ hfl ho5 (by simp [B16, B32]) hz5).mono ?_
  rintro e w6 ⟨⟨v6, rfl, ho6⟩, hb6⟩
  have hz6 := Nat.le_trans hz5 hb6.size
  have hB6 := hB5.below hb6 (Nat.lt_succ_self _)
  have hu6 : Up w w6 := Below.trans hu5 (hb6.mono (Nat.le_succ _))
  clear k6 ho5 hB5 hz5 hb6 hu5
  have k7 := hB6.at 5 rfl
  go_wp2_with fail
  refine (lay16 (w.heap.size + 1) _ _ wi _ hwi ho6 (by simp [B16, B32]) hz6).mono ?_
  rintro e w7 ⟨⟨v7, rfl, ho7⟩, hb7⟩
  have hz7 := Nat.le_trans hz6 hb7.size
  have hB7 := hB6.below hb7 (Nat.lt_succ_self _)
  have hu7 : Up w w7 := Below.trans hu6 (hb7.mono (Nat.le_succ _))
  clear k7 ho6 hB6 hz6 hb7 hu6
  go_wp2_with fail
  refine (lay16 (w.heap.size + 1) _ _ c _ hc ho7 (by simp [B16, B32]) hz7).mono ?_
  rintro e w8 ⟨⟨v8, rfl, ho8⟩, hb8⟩
  have hz8 := Nat.le_trans hz7 hb8.size
  have hB8 := hB7.below hb8 (Nat.lt_succ_self _)
  have hu8 : Up w w8 := Below.trans hu7 (hb8.mono (Nat.le_succ _))
  clear ho7 hB7 hz7 hb8 hu7
  have k9 := hB8.at 6 rfl
  go_wp2_with fail
  refine (lay16 (w.heap.size + 1) _ _ ur _ hur ho8 (by simp [B16, B32]) hz8).mono ?_
  rintro e w9 ⟨⟨v9, rfl, ho9⟩, hb9⟩
  have hz9 := Nat.le_trans hz8 hb9.size
  have hB9 := hB8.below hb9 (Nat.lt_succ_self _)
  have hu9 : Up w w9 := Below.trans hu8 (hb9.mono (Nat.le_succ _))
  clear k9 ho8 hB8 hz8 hb9 hu8
  have hE : ([] ++ B16 p ++ B16 q ++ B32 sq ++ B32 ak ++ [oct m] ++ [oct fl] ++ B16 wi ++ B16 c ++ B16 ur) = hdb p q sq ak fl wi ur o.size c := by
    rw [HM.out]; rfl
  have ho := out_own ho9 hE
  clear ho9 hE
  obtain ⟨g, cap, rfl, hcvN, hcv, hcv1, hcv2⟩ := conv_own ho 20 rfl (by decide)
  go_wp2
  go_ret
  exact ⟨rfl, hu9⟩

theorem ck_ts (x y : Nat) (l : List UInt8) : ck (131070 - ck (wsum (B32 x ++ B32 y ++ [0, 6] ++ B16 l.length)) - ck (wsum l)) = ck (ts x y l) := by
  rw [ck_join _ _ (wsum_bd _).1 (wsum_bd _).1]
  unfold ts
  rw [wsum_append (B32 x ++ B32 y ++ [0, 6] ++ B16 l.length) l (by simp [B32, B16])]
theorem cat_take (ps : List ByteArray) (k : Nat) (h : k < ps.length) : (su.cat (ps.take (k + 1))).length = (su.cat (ps.take k)).length + (ps[k]).size := by
  rw [List.take_succ_eq_append_getElem h]
  have : ∀ l : List ByteArray, ∀ a : ByteArray, (su.cat (l ++ [a])).length = (su.cat l).length + a.size := by
    intro l a
    induction l with
    | nil => show (L a ++ []).length = 0 + a.size; rw [List.append_nil, L_len, Nat.zero_add]
    | cons b t ih => show (L b ++ su.cat (t ++ [a])).length = (L b ++ su.cat t).length + a.size; rw [List.length_append, List.length_append, ih, Nat.add_assoc]
  exact this _ _
theorem cat_le (ps : List ByteArray) : ∀ k, (su.cat (ps.take k)).length ≤ (su.cat ps).length := by
  induction ps with
  | nil => intro k; simp
  | cons a t ih =>
    intro k
    cases k with
    | zero => show 0 ≤ _; omega
    | succ k => show (L a ++ su.cat (t.take k)).length ≤ (L a ++ su.cat t).length; rw [List.length_append, List.length_append]; have := ih k; omega
set_option maxHeartbeats 4000000 in
set_option maxRecDepth 100000 in
theorem checksumC (x y : Nat) (b n cap : Nat) (ps : List ByteArray) (hn : ps.length = n) (hl : n ≤ 1024) (hz : (su.cat ps).length ≤ 65535) (w : World) (hx : x ≤ 4294967295) (hy : y ≤ 4294967295) (hb : b < w.heap.size)
    (hc : ∀ j (h : j < ps.length), w.cell? ⟨b, j, none⟩ = some (.string (ps[j]))) :
    Calls Try.prog 35 #[.int .u32 x, .int .u32 y, .slice (some ⟨b, 0, none⟩) n cap] w fun e w' => e = .returned (.int .u16 (ck (ts x y (su.cat ps)))) ∧ Up w w' := by
  subst hn
  have HC := Lib.hid hc; clear hc
  obtain ⟨N, hN⟩ : ∃ N, N = (su.cat ps).length := ⟨_, rfl⟩
  have hN1 : N ≤ 65535 := by omega
  have HL := Lib.hid (cat_le ps)
  have HN := Lib.hid hN; clear hN
  have hw : IntKind.u16.wrap (N : Int) = (N : Int) := by rw [IntKind.wrap_u16]; omega
  go_enter Try.func35, Try.ntmps35
  go_wp2_with fail
  go_loop [7, 13] (fun s i => ∃ k : Nat, k ≤ ps.length ∧ i = .int .i64 k ∧ Hid (s = .int .i64 ((su.cat (ps.take k)).length : Nat))) (fun _ i => ps.length - (intOf i).toNat)
  case atStart => exact ⟨0, Nat.zero_le _, rfl, rfl⟩
  case round =>
    obtain ⟨k, hk, rfl, hs⟩ := hrel
    obtain rfl := hs.out
    by_cases hlt : k < ps.length
    · have hcx := HC.out k hlt
      have ht := Lib.hid (cat_take ps k hlt)
      have hle := HL.out (k + 1)
      rw [ht.out] at hle
      have hbd : (su.cat (ps.take k)).length + (ps[k]).size ≤ 65535 := by omega
      clear hle
      go_wp2
      go_round
      case rel => exact ⟨k + 1, by omega, by go_num, by unfold Hid; rw [ht.out]; go_num⟩
      case measure => simp [intOf]; omega
    · obtain rfl : k = ps.length := by omega
      rw [List.take_length]
      rw [← HN.out]
      go_wp2_with fail
      refine (lay32 w.heap.size _ _ x _ hx (OwnB.nil_ _ _) (by simp) (Nat.le_refl _)).mono ?_
      rintro e w1 ⟨⟨v1, rfl, ho1⟩, hb1⟩
      go_wp2_with fail
      refine (lay32 w.heap.size _ _ y _ hy ho1 (by simp [B32]) hb1.size).mono ?_
      rintro e w2 ⟨⟨v2, rfl, ho2⟩, hb2⟩
      have u2 := hb1.trans hb2
      clear ho1 hb1 hb2
      go_wp2_with fail
      refine (lay8 w.heap.size _ _ 0 _ (by decide) ho2 (by simp [B32]) u2.size).mono ?_
      rintro e w3 ⟨⟨v3, rfl, ho3⟩, hb3⟩
      have u3 := u2.trans hb3
      clear ho2 hb3 u2
      go_wp2_with fail
      refine (lay8 w.heap.size _ _ 6 _ (by decide) ho3 (by simp [B32]) u3.size).mono ?_
      rintro e w4 ⟨⟨v4, rfl, ho4⟩, hb4⟩
      have u4 := u3.trans hb4
      clear ho3 hb4 u3
      go_wp2_with fail
      refine (lay16 w.heap.size _ _ N _ hN1 ho4 (by simp [B32]) u4.size).mono ?_
      rintro e w5 ⟨⟨v5, rfl, ho5⟩, hb5⟩
      have u5 := u4.trans hb5
      clear ho4 hb5 u4
      obtain ⟨F, hF⟩ : ∃ F, F = B32 x ++ B32 y ++ [0, 6] ++ B16 N := ⟨_, rfl⟩
      have ho := out_own ho5 (show [] ++ B32 x ++ B32 y ++ [oct 0] ++ [oct 6] ++ B16 N = F from hF.symm)
      clear ho5
      have hFl : F.length = 12 := by rw [hF]; rfl
      have HF := Lib.hid hF; clear hF
      obtain ⟨g, cp, rfl, hcvN, hcv, hcv1, hcv2⟩ := conv_own ho 12 hFl (by decide)
      go_wp2_with fail
      refine (of_one _ _ _ (World.cell?_alloc_new _ _ _ _) (by rw [hFl]; decide)).mono ?_
      rintro e w6 ⟨rfl, hb6⟩
      have u6 : Up w w6 := (up_al _ u5).on hb6
      clear u5 hb6 hcvN hcv hcv1 hcv2 ho
      go_wp2_with fail
      refine (su.ofC (some ⟨b, 0, none⟩) ps.length cap ps rfl (by omega) (by omega) _ (fun _ => ⟨b, 0, rfl, Nat.lt_of_lt_of_le hb u6.size, fun j hj => by rw [Nat.zero_add]; exact (u6.cell (p := ⟨b, j, none⟩) hb).trans (HC.out j hj)⟩)).mono ?_
      rintro e w7 ⟨rfl, hb7⟩
      have u7 := u6.on hb7
      clear u6 hb7
      go_wp2_with fail
      refine (su.joinC _ _ _ (ck_bd _ (wsum_bd _).1) (ck_bd _ (wsum_bd _).1)).mono ?_
      rintro e w8 ⟨rfl, hb8⟩
      go_wp2
      go_ret
      exact ⟨ret_int (by rw [HF.out, HN.out, ck_ts]), u7.on hb8⟩
theorem start_at (s : ByteArray) (w : World) (hs : s.size ≤ 1099511627776) (h12 : 12 < s.size) :
    Calls Try.prog 43 #[.string s] w fun e w' => e = .returned (.int .i64 (hl (L s))) ∧ w = w' := by
  have b0 := c_lt s[12]
  have i12 : (12 : Int) < (s.size : Int) := by omega
  have HE : Hid ((s[12].toNat : Int) = bt (L s) 12) := bt_at s 12 h12
  go_enter Try.func43, Try.ntmps43
  go_wp2
  go_ret
  exact ⟨ret_int (by unfold hl; rw [HE.out]), rfl⟩
end Go.Proofs.Ytafckmbgefbonaa.tc

namespace Go.Proofs.Ytafckmbgefbonaa.tc
open Go.RowKit Go.Shelf Go.Proofs.Ytafckmbgefbonaa.sm Go.Proofs.Ytafckmbgefbonaa.nb Go.Proofs.Ytafckmbgefbonaa.cm
set_option linter.unusedVariables false

theorem u8_and192 (x : Nat) (h : x ≤ 255) : bits .and .u8 (x : Int) 192 = ((x / 64 * 64 : Nat) : Int) := by
  have h1 : (BitVec.ofInt 8 (x : Int)).toNat = x := by rw [BitVec.ofInt_natCast, BitVec.toNat_ofNat]; exact Nat.mod_eq_of_lt (by omega)
  have h2 : (BitVec.ofInt 8 (192 : Int)).toNat = 192 := by decide
  show IntKind.u8.wrap ((BitVec.ofInt 8 (x : Int) &&& BitVec.ofInt 8 (192 : Int)).toNat : Int) = _
  have h3 : ∀ z : Nat, z < 256 → z &&& 192 = z / 64 * 64 := by decide +kernel
  rw [BitVec.toNat_and, h1, h2, h3 x (by omega), IntKind.wrap_u8]
  omega
theorem sum_one (x y b : Nat) (s : ByteArray) (w : World) (hx : x ≤ 4294967295) (hy : y ≤ 4294967295) (hz : s.size ≤ 65535) (h : w.cell? ⟨b, 0, none⟩ = some (.string s)) :
    Calls Try.prog 35 #[.int .u32 x, .int .u32 y, .slice (some ⟨b, 0, none⟩) 1 1] w fun e w' => e = .returned (.int .u16 (ck (ts x y (L s)))) ∧ Up w w' := by
  have e : su.cat [s] = L s := by show L s ++ [] = L s; rw [List.append_nil]
  have hc := checksumC x y b 1 1 [s] rfl (by decide) (by rw [e]; exact hz) w hx hy (World.block_lt_of_cell? w _ h) (fun j hj => by match j, hj with | 0, _ => exact h)
  rw [e] at hc
  exact hc
set_option maxHeartbeats 4000000 in
set_option maxRecDepth 100000 in
theorem fault0 (x y : Nat) (s : ByteArray) (w : World) (hx : x ≤ 4294967295) (hy : y ≤ 4294967295) (hs : s.size ≤ 1099511627776) (c0 : (L s).length < 20) :
    Calls Try.prog 41 #[.int .u32 x, .int .u32 y, .string s] w fun e w' => e = .returned (.int .i64 (dec x y (L s) : Nat)) ∧ Up w w' := by
  have HD := Lib.hid (dec_50 (x := x) (y := y) c0)
  have i1 : (s.size : Int) < 20 := by rw [L_len] at c0; omega
  clear c0
  go_enter Try.func41, Try.ntmps41
  go_wp2
  go_ret
  exact ⟨ret_int (by rw [HD.out]; rfl), Below.refl _ _⟩
set_option maxHeartbeats 4000000 in
set_option maxRecDepth 100000 in
theorem fault1 (x y : Nat) (s : ByteArray) (w : World) (hx : x ≤ 4294967295) (hy : y ≤ 4294967295) (hs : s.size ≤ 1099511627776) (c0 : ¬ ((L s).length < 20)) (c1 : 65515 < (L s).length) :
    Calls Try.prog 41 #[.int .u32 x, .int .u32 y, .string s] w fun e w' => e = .returned (.int .i64 (dec x y (L s) : Nat)) ∧ Up w w' := by
  have HD := Lib.hid (dec_4 (x := x) (y := y) c0 c1)
  have i1 : ¬ (s.size : Int) < 20 := by rw [L_len] at c0; omega
  have i2 : (65515 : Int) < (s.size : Int) := by rw [L_len] at c1; omega
  clear c0 c1
  go_enter Try.func41, Try.ntmps41
  go_wp2
  go_ret
  exact ⟨ret_int (by rw [HD.out]; rfl), Below.refl _ _⟩
set_option maxHeartbeats 4000000 in
set_option maxRecDepth 100000 in
theorem fault2 (x y : Nat) (s : ByteArray) (w : World) (hx : x ≤ 4294967295) (hy : y ≤ 4294967295) (hs : s.size ≤ 1099511627776) (c0 : ¬ ((L s).length < 20)) (c1 : ¬ (65515 < (L s).length)) (c2 : ck (ts x y (L s)) ≠ 0) :
    Calls Try.prog 41 #[.int .u32 x, .int .u32 y, .string s] w fun e w' => e = .returned (.int .i64 (dec x y (L s) : Nat)) ∧ Up w w' := by
  have HD := Lib.hid (dec_55 c0 c1 c2)
  have h20 : 20 ≤ s.size := by rw [L_len] at c0; omega
  have hmx : s.size ≤ 65515 := by rw [L_len] at c1; omega
  have i1 : ¬ (s.size : Int) < 20 := by omega
  have i2 : ¬ (65515 : Int) < (s.size : Int) := by omega
  clear c0 c1
  obtain ⟨C, hC⟩ : ∃ C, C = ck (ts x y (L s)) := ⟨_, rfl⟩
  rw [← hC] at c2
  have HC := Lib.hid hC; clear hC
  go_enter Try.func41, Try.ntmps41
  go_wp2_with fail
  refine (sum_one x y _ s _ hx hy (by omega) (World.cell?_alloc_new _ _ _ _)).mono ?_
  rintro e w1 ⟨rfl, hv⟩
  rw [← HC.out]
  have hu : Up w w1 := (up_al _ (Below.refl _ _)).on hv
  clear hv
  go_wp2
  go_ret
  exact ⟨ret_int (by rw [HD.out]; rfl), hu⟩
set_option maxHeartbeats 4000000 in
set_option maxRecDepth 100000 in
theorem fault3a (x y : Nat) (s : ByteArray) (w : World) (hx : x ≤ 4294967295) (hy : y ≤ 4294967295) (hs : s.size ≤ 1099511627776) (c0 : ¬ ((L s).length < 20)) (c1 : ¬ (65515 < (L s).length)) (c2 : ¬ (ck (ts x y (L s)) ≠ 0)) (c3 : hl (L s) < 20) :
    Calls Try.prog 41 #[.int .u32 x, .int .u32 y, .string s] w fun e w' => e = .returned (.int .i64 (dec x y (L s) : Nat)) ∧ Up w w' := by
  have HD := Lib.hid (dec_60 c0 c1 c2 (.inl c3))
  have h20 : 20 ≤ s.size := by rw [L_len] at c0; omega
  have hmx : s.size ≤ 65515 := by rw [L_len] at c1; omega
  have i1 : ¬ (s.size : Int) < 20 := by omega
  have i2 : ¬ (65515 : Int) < (s.size : Int) := by omega
  clear c0 c1
  have c2 := Decidable.not_not.1 c2
  obtain ⟨C, hC⟩ : ∃ C, C = ck (ts x y (L s)) := ⟨_, rfl⟩
  rw [← hC] at c2
  have HC := Lib.hid hC; clear hC
  obtain ⟨N, hN⟩ : ∃ N, N = hl (L s) := ⟨_, rfl⟩
  rw [← hN] at c3
  have HN := Lib.hid hN; clear hN
  have HT := Lib.hid h20
  have HS := Lib.hid hs; clear hs
  go_enter Try.func41, Try.ntmps41
  go_wp2_with fail
  refine (sum_one x y _ s _ hx hy (by omega) (World.cell?_alloc_new _ _ _ _)).mono ?_
  rintro e w1 ⟨rfl, hv⟩
  rw [← HC.out]
  have hu : Up w w1 := (up_al _ (Below.refl _ _)).on hv
  clear hv
  go_wp2_with fail
  refine (start_at s _ HS.out (by have := HT.out; omega)).mono ?_
  rintro e w2 ⟨rfl, rfl⟩
  rw [← HN.out]
  go_wp2
  go_ret
  exact ⟨ret_int (by rw [HD.out]; rfl), hu⟩
set_option maxHeartbeats 4000000 in
set_option maxRecDepth 100000 in
theorem fault3b (x y : Nat) (s : ByteArray) (w : World) (hx : x ≤ 4294967295) (hy : y ≤ 4294967295) (hs : s.size ≤ 1099511627776) (c0 : ¬ ((L s).length < 20)) (c1 : ¬ (65515 < (L s).length)) (c2 : ¬ (ck (ts x y (L s)) ≠ 0)) (c3 : ¬ hl (L s) < 20) (c4 : ((L s).length : Int) < hl (L s)) :
    Calls Try.prog 41 #[.int .u32 x, .int .u32 y, .string s] w fun e w' => e = .returned (.int .i64 (dec x y (L s) : Nat)) ∧ Up w w' := by
  have HD := Lib.hid (dec_60 c0 c1 c2 (.inr c4))
  have h20 : 20 ≤ s.size := by rw [L_len] at c0; omega
  have hmx : s.size ≤ 65515 := by rw [L_len] at c1; omega
  have i1 : ¬ (s.size : Int) < 20 := by omega
  have i2 : ¬ (65515 : Int) < (s.size : Int) := by omega
  clear c0 c1
  have c2 := Decidable.not_not.1 c2
  obtain ⟨C, hC⟩ : ∃ C, C = ck (ts x y (L s)) := ⟨_, rfl⟩
  rw [← hC] at c2
  have HC := Lib.hid hC; clear hC
  obtain ⟨N, hN⟩ : ∃ N, N = hl (L s) := ⟨_, rfl⟩
  rw [← hN] at c3 c4
  rw [L_len] at c4
  have HN := Lib.hid hN; clear hN
  have HT := Lib.hid h20
  have HS := Lib.hid hs; clear hs
  go_enter Try.func41, Try.ntmps41
  go_wp2_with fail
  refine (sum_one x y _ s _ hx hy (by omega) (World.cell?_alloc_new _ _ _ _)).mono ?_
  rintro e w1 ⟨rfl, hv⟩
  rw [← HC.out]
  have hu : Up w w1 := (up_al _ (Below.refl _ _)).on hv
  clear hv
  go_wp2_with fail
  refine (start_at s _ HS.out (by have := HT.out; omega)).mono ?_
  rintro e w2 ⟨rfl, rfl⟩
  rw [← HN.out]
  go_wp2_with fail
  refine (start_at s _ HS.out (by have := HT.out; omega)).mono ?_
  rintro e w2 ⟨rfl, rfl⟩
  rw [← HN.out]
  go_wp2
  go_ret
  exact ⟨ret_int (by rw [HD.out]; rfl), hu⟩
set_option maxHeartbeats 4000000 in
set_option maxRecDepth 100000 in
theorem fault4a (x y : Nat) (s : ByteArray) (w : World) (hx : x ≤ 4294967295) (hy : y ≤ 4294967295) (hs : s.size ≤ 1099511627776) (c0 : ¬ ((L s).length < 20)) (c1 : ¬ (65515 < (L s).length)) (c2 : ¬ (ck (ts x y (L s)) ≠ 0)) (c3 : ¬ (hl (L s) < 20 ∨ ((L s).length : Int) < hl (L s))) (c4 : ¬ bt (L s) 12 % 16 = 0) :
    Calls Try.prog 41 #[.int .u32 x, .int .u32 y, .string s] w fun e w' => e = .returned (.int .i64 (dec x y (L s) : Nat)) ∧ Up w w' := by
  have HD := Lib.hid (dec_61 c0 c1 c2 c3 (.inl c4))
  have h20 : 20 ≤ s.size := by rw [L_len] at c0; omega
  have hmx : s.size ≤ 65515 := by rw [L_len] at c1; omega
  have i1 : ¬ (s.size : Int) < 20 := by omega
  have i2 : ¬ (65515 : Int) < (s.size : Int) := by omega
  clear c0 c1
  have c2 := Decidable.not_not.1 c2
  obtain ⟨C, hC⟩ : ∃ C, C = ck (ts x y (L s)) := ⟨_, rfl⟩
  rw [← hC] at c2
  have HC := Lib.hid hC; clear hC
  obtain ⟨N, hN⟩ : ∃ N, N = hl (L s) := ⟨_, rfl⟩
  rw [← hN] at c3
  rw [L_len] at c3
  have i3 : ¬ N < 20 := by omega
  have i4 : ¬ (s.size : Int) < N := by omega
  clear c3
  have l12 : 12 < s.size := by omega
  have l13 : 13 < s.size := by omega
  have j12 : (12 : Int) < (s.size : Int) := by omega
  have j13 : (13 : Int) < (s.size : Int) := by omega
  have e12 := bt_at s 12 l12
  have e13 := bt_at s 13 l13
  have b12 := c_lt (s[12]'l12)
  have b13 := c_lt (s[13]'l13)
  have a12 := nb.u8_and15 (s[12]'l12).toNat b12
  have a13 := u8_and192 (s[13]'l13).toNat b13
  rw [← e12] at c4
  have d12 : ¬ ((((s[12]'l12).toNat % 16 : Nat) : Int) = 0) := by omega
  clear e12 e13
  have HN := Lib.hid hN; clear hN
  have HT := Lib.hid h20
  have HS := Lib.hid hs; clear hs
  go_enter Try.func41, Try.ntmps41
  go_wp2_with fail
  refine (sum_one x y _ s _ hx hy (by omega) (World.cell?_alloc_new _ _ _ _)).mono ?_
  rintro e w1 ⟨rfl, hv⟩
  rw [← HC.out]
  have hu : Up w w1 := (up_al _ (Below.refl _ _)).on hv
  clear hv
  go_wp2_with fail
  refine (start_at s _ HS.out (by have := HT.out; omega)).mono ?_
  rintro e w2 ⟨rfl, rfl⟩
  rw [← HN.out]
  go_wp2_with fail
  refine (start_at s _ HS.out (by have := HT.out; omega)).mono ?_
  rintro e w2 ⟨rfl, rfl⟩
  rw [← HN.out]
  go_wp2
  go_ret
  exact ⟨ret_int (by rw [HD.out]; rfl), hu⟩
set_option maxHeartbeats 4000000 in
set_option maxRecDepth 100000 in
theorem fault4b (x y : Nat) (s : ByteArray) (w : World) (hx : x ≤ 4294967295) (hy : y ≤ 4294967295) (hs : s.size ≤ 1099511627776) (c0 : ¬ ((L s).length < 20)) (c1 : ¬ (65515 < (L s).length)) (c2 : ¬ (ck (ts x y (L s)) ≠ 0)) (c3 : ¬ (hl (L s) < 20 ∨ ((L s).length : Int) < hl (L s))) (c4 : bt (L s) 12 % 16 = 0) (c5 : 64 ≤ bt (L s) 13) :
    Calls Try.prog 41 #[.int .u32 x, .int .u32 y, .string s] w fun e w' => e = .returned (.int .i64 (dec x y (L s) : Nat)) ∧ Up w w' := by
  have HD := Lib.hid (dec_61 c0 c1 c2 c3 (.inr c5))
  have h20 : 20 ≤ s.size := by rw [L_len] at c0; omega
  have hmx : s.size ≤ 65515 := by rw [L_len] at c1; omega
  have i1 : ¬ (s.size : Int) < 20 := by omega
  have i2 : ¬ (65515 : Int) < (s.size : Int) := by omega
  clear c0 c1
  have c2 := Decidable.not_not.1 c2
  obtain ⟨C, hC⟩ : ∃ C, C = ck (ts x y (L s)) := ⟨_, rfl⟩
  rw [← hC] at c2
  have HC := Lib.hid hC; clear hC
  obtain ⟨N, hN⟩ : ∃ N, N = hl (L s) := ⟨_, rfl⟩
  rw [← hN] at c3
  rw [L_len] at c3
  have i3 : ¬ N < 20 := by omega
  have i4 : ¬ (s.size : Int) < N := by omega
  clear c3
  have l12 : 12 < s.size := by omega
  have l13 : 13 < s.size := by omega
  have j12 : (12 : Int) < (s.size : Int) := by omega
  have j13 : (13 : Int) < (s.size : Int) := by omega
  have e12 := bt_at s 12 l12
  have e13 := bt_at s 13 l13
  have b12 := c_lt (s[12]'l12)
  have b13 := c_lt (s[13]'l13)
  have a12 := nb.u8_and15 (s[12]'l12).toNat b12
  have a13 := u8_and192 (s[13]'l13).toNat b13
  rw [← e12] at c4
  rw [← e13] at c5
  have d12 : (((s[12]'l12).toNat % 16 : Nat) : Int) = 0 := by omega
  have d13 : ¬ ((((s[13]'l13).toNat / 64 * 64 : Nat) : Int) = 0) := by omega
  clear e12 e13
  have HN := Lib.hid hN; clear hN
  have HT := Lib.hid h20
  have HS := Lib.hid hs; clear hs
  go_enter Try.func41, Try.ntmps41
  go_wp2_with fail
  refine (sum_one x y _ s _ hx hy (by omega) (World.cell?_alloc_new _ _ _ _)).mono ?_
  rintro e w1 ⟨rfl, hv⟩
  rw [← HC.out]
  have hu : Up w w1 := (up_al _ (Below.refl _ _)).on hv
  clear hv
  go_wp2_with fail
  refine (start_at s _ HS.out (by have := HT.out; omega)).mono ?_
  rintro e w2 ⟨rfl, rfl⟩
  rw [← HN.out]
  go_wp2_with fail
  refine (start_at s _ HS.out (by have := HT.out; omega)).mono ?_
  rintro e w2 ⟨rfl, rfl⟩
  rw [← HN.out]
  go_wp2
  go_ret
  exact ⟨ret_int (by rw [HD.out]; rfl), hu⟩
set_option maxHeartbeats 4000000 in
set_option maxRecDepth 100000 in
theorem fault5 (x y : Nat) (s : ByteArray) (w : World) (hx : x ≤ 4294967295) (hy : y ≤ 4294967295) (hs : s.size ≤ 1099511627776) (c0 : ¬ ((L s).length < 20)) (c1 : ¬ (65515 < (L s).length)) (c2 : ¬ (ck (ts x y (L s)) ≠ 0)) (c3 : ¬ (hl (L s) < 20 ∨ ((L s).length : Int) < hl (L s))) (c4 : ¬ (bt (L s) 12 % 16 ≠ 0 ∨ 64 ≤ bt (L s) 13)) :
    Calls Try.prog 41 #[.int .u32 x, .int .u32 y, .string s] w fun e w' => e = .returned (.int .i64 (dec x y (L s) : Nat)) ∧ Up w w' := by
  have HD := Lib.hid (dec_0 c0 c1 c2 c3 c4)
  have h20 : 20 ≤ s.size := by rw [L_len] at c0; omega
  have hmx : s.size ≤ 65515 := by rw [L_len] at c1; omega
  have i1 : ¬ (s.size : Int) < 20 := by omega
  have i2 : ¬ (65515 : Int) < (s.size : Int) := by omega
  clear c0 c1
  have c2 := Decidable.not_not.1 c2
  obtain ⟨C, hC⟩ : ∃ C, C = ck (ts x y (L s)) := ⟨_, rfl⟩
  rw [← hC] at c2
  have HC := Lib.hid hC; clear hC
  obtain ⟨N, hN⟩ : ∃ N, N = hl (L s) := ⟨_, rfl⟩
  rw [← hN] at c3
  rw [L_len] at c3
  have i3 : ¬ N < 20 := by omega
  have i4 : ¬ (s.size : Int) < N := by omega
  clear c3
  have l12 : 12 < s.size := by omega
  have l13 : 13 < s.size := by omega
  have j12 : (12 : Int) < (s.size : Int) := by omega
  have j13 : (13 : Int) < (s.size : Int) := by omega
  have e12 := bt_at s 12 l12
  have e13 := bt_at s 13 l13
  have b12 := c_lt (s[12]'l12)
  have b13 := c_lt (s[13]'l13)
  have a12 := nb.u8_and15 (s[12]'l12).toNat b12
  have a13 := u8_and192 (s[13]'l13).toNat b13
  rw [← e12, ← e13] at c4
  have d12 : (((s[12]'l12).toNat % 16 : Nat) : Int) = 0 := by omega
  have d13 : (((s[13]'l13).toNat / 64 * 64 : Nat) : Int) = 0 := by omega
  clear e12 e13
  have HN := Lib.hid hN; clear hN
  have HT := Lib.hid h20
  have HS := Lib.hid hs; clear hs
  go_enter Try.func41, Try.ntmps41
  go_wp2_with fail
  refine (sum_one x y _ s _ hx hy (by omega) (World.cell?_alloc_new _ _ _ _)).mono ?_
  rintro e w1 ⟨rfl, hv⟩
  rw [← HC.out]
  have hu : Up w w1 := (up_al _ (Below.refl _ _)).on hv
  clear hv
  go_wp2_with fail
  refine (start_at s _ HS.out (by have := HT.out; omega)).mono ?_
  rintro e w2 ⟨rfl, rfl⟩
  rw [← HN.out]
  go_wp2_with fail
  refine (start_at s _ HS.out (by have := HT.out; omega)).mono ?_
  rintro e w2 ⟨rfl, rfl⟩
  rw [← HN.out]
  go_wp2
  go_ret
  exact ⟨ret_int (by rw [HD.out]; rfl), hu⟩
theorem faultC (x y : Nat) (s : ByteArray) (w : World) (hx : x ≤ 4294967295) (hy : y ≤ 4294967295) (hs : s.size ≤ 1099511627776) :
    Calls Try.prog 41 #[.int .u32 x, .int .u32 y, .string s] w fun e w' => e = .returned (.int .i64 (dec x y (L s) : Nat)) ∧ Up w w' := by
  by_cases c0 : (L s).length < 20
  · exact fault0 x y s w hx hy hs c0
  by_cases c1 : 65515 < (L s).length
  · exact fault1 x y s w hx hy hs c0 c1
  by_cases c2 : ck (ts x y (L s)) ≠ 0
  · exact fault2 x y s w hx hy hs c0 c1 c2
  by_cases c3 : hl (L s) < 20 ∨ ((L s).length : Int) < hl (L s)
  · by_cases c : hl (L s) < 20
    · exact fault3a x y s w hx hy hs c0 c1 c2 c
    · exact fault3b x y s w hx hy hs c0 c1 c2 c (by omega)
  by_cases c4 : bt (L s) 12 % 16 ≠ 0 ∨ 64 ≤ bt (L s) 13
  · by_cases c : bt (L s) 12 % 16 = 0
    · exact fault4b x y s w hx hy hs c0 c1 c2 c3 c (by omega)
    · exact fault4a x y s w hx hy hs c0 c1 c2 c3 c
  exact fault5 x y s w hx hy hs c0 c1 c2 c3 c4
end Go.Proofs.Ytafckmbgefbonaa.tc
