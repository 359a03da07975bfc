/- T R W: contracts, part 28. Condition: as each says. -/
import Derived.Test.YtafckmbgefbonaaGreatVTRW10
import Derived.Test.YtafckmbgefbonaaGreatVTRW26
import Derived.Shelf.Strconv.Clone
set_option linter.unusedVariables false
set_option linter.unusedSimpArgs false
set_option maxRecDepth 100000
set_option maxHeartbeats 8000000
namespace Go.Proofs.YtafckmbgefbonaaGreat.tc
open RowKit Shelf sm nb cm

theorem out_own {w : World} {B : Nat} {v : Value} {xs ys : List UInt8} (h : OwnB w B v xs) (e : xs = ys) : OwnB w B v ys := e ▸ h
def hdb (p q sq ak fl wi ur n c : Nat) : List UInt8 := pre p q sq ak fl wi n ++ (B16 c ++ B16 ur)
theorem hdb_len (p q sq ak fl wi ur n c : Nat) : (hdb p q sq ak fl wi ur n c).length = 20 := rfl
theorem hdb_rw (p q sq ak fl wi ur c : Nat) (o d : List UInt8) : hdb p q sq ak fl wi ur o.length c ++ (o ++ d) = rw_ p q sq ak fl wi ur o d c := by
 unfold hdb rw_; simp only [List.append_assoc]
theorem laidC (p q sq ak fl wi ur c : Nat) (o : ByteArray) (w : World) (h : Ok p q sq ak fl wi ur) (h4 : o.size % 4 = 0) (ho : o.size ≤ 40) (hc : c ≤ 65535) :
  Calls Tryz.prog 57 #[HV p q sq ak fl wi ur o, .int .u16 c] w fun e w' => e = .returned (.string (tx (hdb p q sq ak fl wi ur o.size c))) ∧ Up w w' := by
 obtain ⟨hp, hq, hsq, hak, hfl, hwi, hur⟩ := h
 obtain ⟨m, hm⟩ : ∃ m : Nat, m = (20 + o.size) / 4 * 16 := ⟨_, rfl⟩
 have hmi : (20 + (o.size : Int)) / 4 * 16 = (m : Int) := by omega
 have hm1 : m ≤ 255 := by omega
 have HM := Lib.hid hm; clear hm
 go_enter Tryz.func57, Tryz.ntmps57
 go_upto_region 1 with fail
 have hB := Box.new w #[.int .u16 p, .int .u16 q, .int .u32 sq, .int .u32 ak, .int .u8 fl, .int .u16 wi, .int .u16 ur, .string o] 55
 have hu : Up w (w.alloc (.cells #[.int .u16 p, .int .u16 q, .int .u32 sq, .int .u32 ak, .int .u8 fl, .int .u16 wi, .int .u16 ur, .string o] 55)) := up_al _ bR
 have hz : w.heap.size + 1 ≤ (w.alloc (.cells #[.int .u16 p, .int .u16 q, .int .u32 sq, .int .u32 ak, .int .u8 fl, .int .u16 wi, .int .u16 ur, .string o] 55)).heap.size := by simp
 generalize World.alloc w _ = w0 at hB hu hz ⊢
 have k1 := hB.at 0 rfl
 go_wp2_with fail
 refine (lay16 (w.heap.size + 1) _ _ p _ hp (OwnB.nil_ _ _) (by simp [B16, B32]) hz).mono ?_
 rintro e w1 ⟨⟨v1, rfl, ho1⟩, hb1⟩
 have hz1 := Nat.le_trans hz hb1.size
 have hB1 := hB.below hb1 (Nat.lt_succ_self _)
 have hu1 : Up w w1 := Below.trans hu (hb1.mono (Nat.le_succ _))
 clear k1 hB hz hb1 hu
 have k2 := hB1.at 1 rfl
 go_wp2_with fail
 refine (lay16 (w.heap.size + 1) _ _ q _ hq ho1 (by simp [B16, B32]) hz1).mono ?_
 rintro e w2 ⟨⟨v2, rfl, ho2⟩, hb2⟩
 have hz2 := Nat.le_trans hz1 hb2.size
 have hB2 := hB1.below hb2 (Nat.lt_succ_self _)
 have hu2 : Up w w2 := Below.trans hu1 (hb2.mono (Nat.le_succ _))
 clear k2 ho1 hB1 hz1 hb2 hu1
 have k3 := hB2.at 2 rfl
 go_wp2_with fail
 refine (lay32 (w.heap.size + 1) _ _ sq _ hsq ho2 (by simp [B16, B32]) hz2).mono ?_
 rintro e w3 ⟨⟨v3, rfl, ho3⟩, hb3⟩
 have hz3 := Nat.le_trans hz2 hb3.size
 have hB3 := hB2.below hb3 (Nat.lt_succ_self _)
 have hu3 : Up w w3 := Below.trans hu2 (hb3.mono (Nat.le_succ _))
 clear k3 ho2 hB2 hz2 hb3 hu2
 have k4 := hB3.at 3 rfl
 go_wp2_with fail
 refine (lay32 (w.heap.size + 1) _ _ ak _ hak ho3 (by simp [B16, B32]) hz3).mono ?_
 rintro e w4 ⟨⟨v4, rfl, ho4⟩, hb4⟩
 have hz4 := Nat.le_trans hz3 hb4.size
 have hB4 := hB3.below hb4 (Nat.lt_succ_self _)
 have hu4 : Up w w4 := Below.trans hu3 (hb4.mono (Nat.le_succ _))
 clear k4 ho3 hB3 hz3 hb4 hu3
 have k5 := hB4.at 7 rfl
 go_wp2_with fail
 refine (lay8 (w.heap.size + 1) _ _ m _ hm1 ho4 (by simp [B16, B32]) hz4).mono ?_
 rintro e w5 ⟨⟨v5, rfl, ho5⟩, hb5⟩
 have hz5 := Nat.le_trans hz4 hb5.size
 have hB5 := hB4.below hb5 (Nat.lt_succ_self _)
 have hu5 : Up w w5 := Below.trans hu4 (hb5.mono (Nat.le_succ _))
 clear k5 ho4 hB4 hz4 hb5 hu4
 have k6 := hB5.at 4 rfl
 go_wp2_with fail
 refine (lay8 (w.heap.size + 1) _ _ fl _ hfl ho5 (by simp [B16, B32]) hz5).mono ?_
 rintro e w6 ⟨⟨v6, rfl, ho6⟩, hb6⟩
 have hz6 := Nat.le_trans hz5 hb6.size
 have hB6 := hB5.below hb6 (Nat.lt_succ_self _)
 have hu6 : Up w w6 := Below.trans hu5 (hb6.mono (Nat.le_succ _))
 clear k6 ho5 hB5 hz5 hb6 hu5
 have k7 := hB6.at 5 rfl
 go_wp2_with fail
 refine (lay16 (w.heap.size + 1) _ _ wi _ hwi ho6 (by simp [B16, B32]) hz6).mono ?_
 rintro e w7 ⟨⟨v7, rfl, ho7⟩, hb7⟩
 have hz7 := Nat.le_trans hz6 hb7.size
 have hB7 := hB6.below hb7 (Nat.lt_succ_self _)
 have hu7 : Up w w7 := Below.trans hu6 (hb7.mono (Nat.le_succ _))
 clear k7 ho6 hB6 hz6 hb7 hu6
 go_wp2_with fail
 refine (lay16 (w.heap.size + 1) _ _ c _ hc ho7 (by simp [B16, B32]) hz7).mono ?_
 rintro e w8 ⟨⟨v8, rfl, ho8⟩, hb8⟩
 have hz8 := Nat.le_trans hz7 hb8.size
 have hB8 := hB7.below hb8 (Nat.lt_succ_self _)
 have hu8 : Up w w8 := Below.trans hu7 (hb8.mono (Nat.le_succ _))
 clear ho7 hB7 hz7 hb8 hu7
 have k9 := hB8.at 6 rfl
 go_wp2_with fail
 refine (lay16 (w.heap.size + 1) _ _ ur _ hur ho8 (by simp [B16, B32]) hz8).mono ?_
 rintro e w9 ⟨⟨v9, rfl, ho9⟩, hb9⟩
 have hz9 := Nat.le_trans hz8 hb9.size
 have hB9 := hB8.below hb9 (Nat.lt_succ_self _)
 have hu9 : Up w w9 := Below.trans hu8 (hb9.mono (Nat.le_succ _))
 clear k9 ho8 hB8 hz8 hb9 hu8
 have hE : ([] ++ B16 p ++ B16 q ++ B32 sq ++ B32 ak ++ [oct m] ++ [oct fl] ++ B16 wi ++ B16 c ++ B16 ur) = hdb p q sq ak fl wi ur o.size c := by
  rw [HM.out]; rfl
 have ho := out_own ho9 hE
 clear ho9 hE
 obtain ⟨g, cap, rfl, hcvN, hcv, hcv1, hcv2⟩ := conv_own ho 20 rfl (by decide)
 go_wp2
 go_ret
 exact ⟨rfl, hu9⟩

theorem ck_ts (x y : Nat) (l : List UInt8) : ck (131070 - ck (wsum (B32 x ++ B32 y ++ [0, 6] ++ B16 l.length)) - ck (wsum l)) = ck (ts x y l) := by
 rw [ck_join _ _ (wsum_bd _).1 (wsum_bd _).1]
 unfold ts
 rw [wsum_append (B32 x ++ B32 y ++ [0, 6] ++ B16 l.length) l (by simp [B32, B16])]
theorem cat_take (ps : List ByteArray) (k : Nat) (h : k < ps.length) : (su.cat (ps.take (k + 1))).length = (su.cat (ps.take k)).length + (ps[k]).size := by
 rw [List.take_succ_eq_append_getElem h]
 have : ∀ l : List ByteArray, ∀ a : ByteArray, (su.cat (l ++ [a])).length = (su.cat l).length + a.size := by
  intro l a
  induction l with
  | nil => show (L a ++ []).length = 0 + a.size; rw [List.append_nil, L_len, Nat.zero_add]
  | cons b t ih => show (L b ++ su.cat (t ++ [a])).length = (L b ++ su.cat t).length + a.size; rw [List.length_append, List.length_append, ih, Nat.add_assoc]
 exact this _ _
theorem cat_le (ps : List ByteArray) : ∀ k, (su.cat (ps.take k)).length ≤ (su.cat ps).length := by
 induction ps with
 | nil => intro k; simp
 | cons a t ih =>
  intro k
  cases k with
  | zero => show 0 ≤ _; omega
  | succ k => show (L a ++ su.cat (t.take k)).length ≤ (L a ++ su.cat t).length; rw [List.length_append, List.length_append]; have := ih k; omega
theorem checksumC (x y : Nat) (b n cap : Nat) (ps : List ByteArray) (hn : ps.length = n) (hl : n ≤ 1024) (hz : (su.cat ps).length ≤ 65535) (w : World) (hx : x ≤ 4294967295) (hy : y ≤ 4294967295) (hb : b < w.heap.size)
  (hc : ∀ j (h : j < ps.length), w.cell? ⟨b, j, none⟩ = some (.string (ps[j]))) :
  Calls Tryz.prog 56 #[.int .u32 x, .int .u32 y, .slice (some ⟨b, 0, none⟩) n cap] w fun e w' => e = .returned (.int .u16 (ck (ts x y (su.cat ps)))) ∧ Up w w' := by
 subst hn
 have HC := Lib.hid hc; clear hc
 obtain ⟨N, hN⟩ : ∃ N, N = (su.cat ps).length := ⟨_, rfl⟩
 have hN1 : N ≤ 65535 := by omega
 have HL := Lib.hid (cat_le ps)
 have HN := Lib.hid hN; clear hN
 have hw : IntKind.u16.wrap (N : Int) = (N : Int) := by rw [IntKind.wrap_u16]; omega
 go_enter Tryz.func56, Tryz.ntmps56
 go_wp2_with fail
 go_loop [7, 13] (fun s i => ∃ k : Nat, k ≤ ps.length ∧ i = .int .i64 k ∧ Hid (s = .int .i64 ((su.cat (ps.take k)).length : Nat))) (fun _ i => ps.length - (intOf i).toNat)
 case atStart => exact ⟨0, Nat.zero_le _, rfl, rfl⟩
 case round =>
  obtain ⟨k, hk, rfl, hs⟩ := hrel
  obtain rfl := hs.out
  by_cases hlt : k < ps.length
  ·have hcx := HC.out k hlt
   have ht := Lib.hid (cat_take ps k hlt)
   have hle := HL.out (k + 1)
   rw [ht.out] at hle
   have hbd : (su.cat (ps.take k)).length + (ps[k]).size ≤ 65535 := by omega
   clear hle
   go_wp2
   go_round
   case rel => exact ⟨k + 1, by omega, by go_num, by unfold Hid; rw [ht.out]; go_num⟩
   case measure => simp [intOf]; omega
  ·obtain rfl : k = ps.length := by omega
   rw [List.take_length]
   rw [← HN.out]
   go_wp2_with fail
   refine (lay32 w.heap.size _ _ x _ hx (OwnB.nil_ _ _) (by simp) (Nat.le_refl _)).mono ?_
   rintro e w1 ⟨⟨v1, rfl, ho1⟩, hb1⟩
   go_wp2_with fail
   refine (lay32 w.heap.size _ _ y _ hy ho1 (by simp [B32]) hb1.size).mono ?_
   rintro e w2 ⟨⟨v2, rfl, ho2⟩, hb2⟩
   have u2 := hb1.trans hb2
   clear ho1 hb1 hb2
   go_wp2_with fail
   refine (lay8 w.heap.size _ _ 0 _ (by decide) ho2 (by simp [B32]) u2.size).mono ?_
   rintro e w3 ⟨⟨v3, rfl, ho3⟩, hb3⟩
   have u3 := u2.trans hb3
   clear ho2 hb3 u2
   go_wp2_with fail
   refine (lay8 w.heap.size _ _ 6 _ (by decide) ho3 (by simp [B32]) u3.size).mono ?_
   rintro e w4 ⟨⟨v4, rfl, ho4⟩, hb4⟩
   have u4 := u3.trans hb4
   clear ho3 hb4 u3
   go_wp2_with fail
   refine (lay16 w.heap.size _ _ N _ hN1 ho4 (by simp [B32]) u4.size).mono ?_
   rintro e w5 ⟨⟨v5, rfl, ho5⟩, hb5⟩
   have u5 := u4.trans hb5
   clear ho4 hb5 u4
   obtain ⟨F, hF⟩ : ∃ F, F = B32 x ++ B32 y ++ [0, 6] ++ B16 N := ⟨_, rfl⟩
   have ho := out_own ho5 (show [] ++ B32 x ++ B32 y ++ [oct 0] ++ [oct 6] ++ B16 N = F from hF.symm)
   clear ho5
   have hFl : F.length = 12 := by rw [hF]; rfl
   have HF := Lib.hid hF; clear hF
   obtain ⟨g, cp, rfl, hcvN, hcv, hcv1, hcv2⟩ := conv_own ho 12 hFl (by decide)
   go_wp2_with fail
   refine (of_one _ _ _ (World.cell?_alloc_new _ _ _ _) (by rw [hFl]; decide)).mono ?_
   rintro e w6 ⟨rfl, hb6⟩
   have u6 : Up w w6 := (up_al _ u5).on hb6
   clear u5 hb6 hcvN hcv hcv1 hcv2 ho
   go_wp2_with fail
   refine (su.ofC (some ⟨b, 0, none⟩) ps.length cap ps rfl (by omega) (by omega) _ (fun _ => ⟨b, 0, rfl, Nat.lt_of_lt_of_le hb u6.size, fun j hj => by rw [Nat.zero_add]; exact (u6.cell (p := ⟨b, j, none⟩) hb).trans (HC.out j hj)⟩)).mono ?_
   rintro e w7 ⟨rfl, hb7⟩
   have u7 := u6.on hb7
   clear u6 hb7
   go_wp2_with fail
   refine (su.joinC _ _ _ (ck_bd _ (wsum_bd _).1) (ck_bd _ (wsum_bd _).1)).mono ?_
   rintro e w8 ⟨rfl, hb8⟩
   go_wp2
   go_ret
   exact ⟨ret_int (by rw [HF.out, HN.out, ck_ts]), u7.on hb8⟩
theorem start_at (s : ByteArray) (w : World) (hs : s.size ≤ 1099511627776) (h12 : 12 < s.size) :
  Calls Tryz.prog 70 #[.string s] w fun e w' => e = .returned (.int .i64 (hl (L s))) ∧ w = w' := by
 have b0 := c_lt s[12]
 have i12 : (12 : Int) < (s.size : Int) := by omega
 have HE : Hid ((s[12].toNat : Int) = bt (L s) 12) := bt_at s 12 h12
 go_enter Tryz.func70, Tryz.ntmps70
 go_wp2
 go_ret
 exact ⟨ret_int (by unfold hl; rw [HE.out]), rfl⟩
end Go.Proofs.YtafckmbgefbonaaGreat.tc

namespace Go.Proofs.YtafckmbgefbonaaGreat.tc
open RowKit Shelf sm nb cm

theorem u8_and192 (x : Nat) (h : x ≤ 255) : bits .and .u8 (x : Int) 192 = ((x / 64 * 64 : Nat) : Int) := by
 have h1 : (BitVec.ofInt 8 (x : Int)).toNat = x := by rw [BitVec.ofInt_natCast, BitVec.toNat_ofNat]; exact Nat.mod_eq_of_lt (by omega)
 have h2 : (BitVec.ofInt 8 (192 : Int)).toNat = 192 := by decide
 show IntKind.u8.wrap ((BitVec.ofInt 8 (x : Int) &&& BitVec.ofInt 8 (192 : Int)).toNat : Int) = _
 have h3 : ∀ z : Nat, z < 256 → z &&& 192 = z / 64 * 64 := by decide +kernel
 rw [BitVec.toNat_and, h1, h2, h3 x (by omega), IntKind.wrap_u8]
 omega
theorem sum_one (x y b : Nat) (s : ByteArray) (w : World) (hx : x ≤ 4294967295) (hy : y ≤ 4294967295) (hz : s.size ≤ 65535) (h : w.cell? ⟨b, 0, none⟩ = some (.string s)) :
  Calls Tryz.prog 56 #[.int .u32 x, .int .u32 y, .slice (some ⟨b, 0, none⟩) 1 1] w fun e w' => e = .returned (.int .u16 (ck (ts x y (L s)))) ∧ Up w w' := by
 have e : su.cat [s] = L s := by show L s ++ [] = L s; rw [List.append_nil]
 have hc := checksumC x y b 1 1 [s] rfl (by decide) (by rw [e]; exact hz) w hx hy (World.block_lt_of_cell? w _ h) (fun j hj => by match j, hj with | 0, _ => exact h)
 rw [e] at hc
 exact hc
theorem fault0 (x y : Nat) (s : ByteArray) (w : World) (hx : x ≤ 4294967295) (hy : y ≤ 4294967295) (hs : s.size ≤ 1099511627776) (c0 : (L s).length < 20) :
  Calls Tryz.prog 68 #[.int .u32 x, .int .u32 y, .string s] w fun e w' => e = .returned (.int .i64 (dec x y (L s) : Nat)) ∧ Up w w' := by
 have HD := Lib.hid (dec_50 (x := x) (y := y) c0)
 have i1 : (s.size : Int) < 20 := by rw [L_len] at c0; omega
 clear c0
 go_enter Tryz.func68, Tryz.ntmps68
 go_wp2
 go_ret
 exact ⟨ret_int (by rw [HD.out]; rfl), Below.refl _ _⟩
theorem fault1 (x y : Nat) (s : ByteArray) (w : World) (hx : x ≤ 4294967295) (hy : y ≤ 4294967295) (hs : s.size ≤ 1099511627776) (c0 : ¬ ((L s).length < 20)) (c1 : 65515 < (L s).length) :
  Calls Tryz.prog 68 #[.int .u32 x, .int .u32 y, .string s] w fun e w' => e = .returned (.int .i64 (dec x y (L s) : Nat)) ∧ Up w w' := by
 have HD := Lib.hid (dec_4 (x := x) (y := y) c0 c1)
 have i1 : ¬ (s.size : Int) < 20 := by rw [L_len] at c0; omega
 have i2 : (65515 : Int) < (s.size : Int) := by rw [L_len] at c1; omega
 clear c0 c1
 go_enter Tryz.func68, Tryz.ntmps68
 go_wp2
 go_ret
 exact ⟨ret_int (by rw [HD.out]; rfl), Below.refl _ _⟩
theorem fault2 (x y : Nat) (s : ByteArray) (w : World) (hx : x ≤ 4294967295) (hy : y ≤ 4294967295) (hs : s.size ≤ 1099511627776) (c0 : ¬ ((L s).length < 20)) (c1 : ¬ (65515 < (L s).length)) (c2 : ck (ts x y (L s)) ≠ 0) :
  Calls Tryz.prog 68 #[.int .u32 x, .int .u32 y, .string s] w fun e w' => e = .returned (.int .i64 (dec x y (L s) : Nat)) ∧ Up w w' := by
 have HD := Lib.hid (dec_55 c0 c1 c2)
 have h20 : 20 ≤ s.size := by rw [L_len] at c0; omega
 have hmx : s.size ≤ 65515 := by rw [L_len] at c1; omega
 have i1 : ¬ (s.size : Int) < 20 := by omega
 have i2 : ¬ (65515 : Int) < (s.size : Int) := by omega
 clear c0 c1
 obtain ⟨C, hC⟩ : ∃ C, C = ck (ts x y (L s)) := ⟨_, rfl⟩
 rw [← hC] at c2
 have HC := Lib.hid hC; clear hC
 go_enter Tryz.func68, Tryz.ntmps68
 go_wp2_with fail
 refine (sum_one x y _ s _ hx hy (by omega) (World.cell?_alloc_new _ _ _ _)).mono ?_
 rintro e w1 ⟨rfl, hv⟩
 rw [← HC.out]
 have hu : Up w w1 := (up_al _ bR).on hv
 clear hv
 go_wp2
 go_ret
 exact ⟨ret_int (by rw [HD.out]; rfl), hu⟩
theorem fault3a (x y : Nat) (s : ByteArray) (w : World) (hx : x ≤ 4294967295) (hy : y ≤ 4294967295) (hs : s.size ≤ 1099511627776) (c0 : ¬ ((L s).length < 20)) (c1 : ¬ (65515 < (L s).length)) (c2 : ¬ (ck (ts x y (L s)) ≠ 0)) (c3 : hl (L s) < 20) :
  Calls Tryz.prog 68 #[.int .u32 x, .int .u32 y, .string s] w fun e w' => e = .returned (.int .i64 (dec x y (L s) : Nat)) ∧ Up w w' := by
 have HD := Lib.hid (dec_60 c0 c1 c2 (.inl c3))
 have h20 : 20 ≤ s.size := by rw [L_len] at c0; omega
 have hmx : s.size ≤ 65515 := by rw [L_len] at c1; omega
 have i1 : ¬ (s.size : Int) < 20 := by omega
 have i2 : ¬ (65515 : Int) < (s.size : Int) := by omega
 clear c0 c1
 have c2 := Decidable.not_not.1 c2
 obtain ⟨C, hC⟩ : ∃ C, C = ck (ts x y (L s)) := ⟨_, rfl⟩
 rw [← hC] at c2
 have HC := Lib.hid hC; clear hC
 obtain ⟨N, hN⟩ : ∃ N, N = hl (L s) := ⟨_, rfl⟩
 rw [← hN] at c3
 have HN := Lib.hid hN; clear hN
 have HT := Lib.hid h20
 have HS := Lib.hid hs; clear hs
 go_enter Tryz.func68, Tryz.ntmps68
 go_wp2_with fail
 refine (sum_one x y _ s _ hx hy (by omega) (World.cell?_alloc_new _ _ _ _)).mono ?_
 rintro e w1 ⟨rfl, hv⟩
 rw [← HC.out]
 have hu : Up w w1 := (up_al _ bR).on hv
 clear hv
 go_wp2_with fail
 refine (start_at s _ HS.out (by have := HT.out; omega)).mono ?_
 rintro e w2 ⟨rfl, rfl⟩
 rw [← HN.out]
 go_wp2
 go_ret
 exact ⟨ret_int (by rw [HD.out]; rfl), hu⟩
theorem fault3b (x y : Nat) (s : ByteArray) (w : World) (hx : x ≤ 4294967295) (hy : y ≤ 4294967295) (hs : s.size ≤ 1099511627776) (c0 : ¬ ((L s).length < 20)) (c1 : ¬ (65515 < (L s).length)) (c2 : ¬ (ck (ts x y (L s)) ≠ 0)) (c3 : ¬ hl (L s) < 20) (c4 : ((L s).length : Int) < hl (L s)) :
  Calls Tryz.prog 68 #[.int .u32 x, .int .u32 y, .string s] w fun e w' => e = .returned (.int .i64 (dec x y (L s) : Nat)) ∧ Up w w' := by
 have HD := Lib.hid (dec_60 c0 c1 c2 (.inr c4))
 have h20 : 20 ≤ s.size := by rw [L_len] at c0; omega
 have hmx : s.size ≤ 65515 := by rw [L_len] at c1; omega
 have i1 : ¬ (s.size : Int) < 20 := by omega
 have i2 : ¬ (65515 : Int) < (s.size : Int) := by omega
 clear c0 c1
 have c2 := Decidable.not_not.1 c2
 obtain ⟨C, hC⟩ : ∃ C, C = ck (ts x y (L s)) := ⟨_, rfl⟩
 rw [← hC] at c2
 have HC := Lib.hid hC; clear hC
 obtain ⟨N, hN⟩ : ∃ N, N = hl (L s) := ⟨_, rfl⟩
 rw [← hN] at c3 c4
 rw [L_len] at c4
 have HN := Lib.hid hN; clear hN
 have HT := Lib.hid h20
 have HS := Lib.hid hs; clear hs
 go_enter Tryz.func68, Tryz.ntmps68
 go_wp2_with fail
 refine (sum_one x y _ s _ hx hy (by omega) (World.cell?_alloc_new _ _ _ _)).mono ?_
 rintro e w1 ⟨rfl, hv⟩
 rw [← HC.out]
 have hu : Up w w1 := (up_al _ bR).on hv
 clear hv
 go_wp2_with fail
 refine (start_at s _ HS.out (by have := HT.out; omega)).mono ?_
 rintro e w2 ⟨rfl, rfl⟩
 rw [← HN.out]
 go_wp2_with fail
 refine (start_at s _ HS.out (by have := HT.out; omega)).mono ?_
 rintro e w2 ⟨rfl, rfl⟩
 rw [← HN.out]
 go_wp2
 go_ret
 exact ⟨ret_int (by rw [HD.out]; rfl), hu⟩
theorem fault4a (x y : Nat) (s : ByteArray) (w : World) (hx : x ≤ 4294967295) (hy : y ≤ 4294967295) (hs : s.size ≤ 1099511627776) (c0 : ¬ ((L s).length < 20)) (c1 : ¬ (65515 < (L s).length)) (c2 : ¬ (ck (ts x y (L s)) ≠ 0)) (c3 : ¬ (hl (L s) < 20 ∨ ((L s).length : Int) < hl (L s))) (c4 : ¬ bt (L s) 12 % 16 = 0) :
  Calls Tryz.prog 68 #[.int .u32 x, .int .u32 y, .string s] w fun e w' => e = .returned (.int .i64 (dec x y (L s) : Nat)) ∧ Up w w' := by
 have HD := Lib.hid (dec_61 c0 c1 c2 c3 (.inl c4))
 have h20 : 20 ≤ s.size := by rw [L_len] at c0; omega
 have hmx : s.size ≤ 65515 := by rw [L_len] at c1; omega
 have i1 : ¬ (s.size : Int) < 20 := by omega
 have i2 : ¬ (65515 : Int) < (s.size : Int) := by omega
 clear c0 c1
 have c2 := Decidable.not_not.1 c2
 obtain ⟨C, hC⟩ : ∃ C, C = ck (ts x y (L s)) := ⟨_, rfl⟩
 rw [← hC] at c2
 have HC := Lib.hid hC; clear hC
 obtain ⟨N, hN⟩ : ∃ N, N = hl (L s) := ⟨_, rfl⟩
 rw [← hN] at c3
 rw [L_len] at c3
 have i3 : ¬ N < 20 := by omega
 have i4 : ¬ (s.size : Int) < N := by omega
 clear c3
 have l12 : 12 < s.size := by omega
 have l13 : 13 < s.size := by omega
 have j12 : (12 : Int) < (s.size : Int) := by omega
 have j13 : (13 : Int) < (s.size : Int) := by omega
 have e12 := bt_at s 12 l12
 have e13 := bt_at s 13 l13
 have b12 := c_lt (s[12]'l12)
 have b13 := c_lt (s[13]'l13)
 have a12 := nb.u8_and15 (s[12]'l12).toNat b12
 have a13 := u8_and192 (s[13]'l13).toNat b13
 rw [← e12] at c4
 have d12 : ¬ ((((s[12]'l12).toNat % 16 : Nat) : Int) = 0) := by omega
 clear e12 e13
 have HN := Lib.hid hN; clear hN
 have HT := Lib.hid h20
 have HS := Lib.hid hs; clear hs
 go_enter Tryz.func68, Tryz.ntmps68
 go_wp2_with fail
 refine (sum_one x y _ s _ hx hy (by omega) (World.cell?_alloc_new _ _ _ _)).mono ?_
 rintro e w1 ⟨rfl, hv⟩
 rw [← HC.out]
 have hu : Up w w1 := (up_al _ bR).on hv
 clear hv
 go_wp2_with fail
 refine (start_at s _ HS.out (by have := HT.out; omega)).mono ?_
 rintro e w2 ⟨rfl, rfl⟩
 rw [← HN.out]
 go_wp2_with fail
 refine (start_at s _ HS.out (by have := HT.out; omega)).mono ?_
 rintro e w2 ⟨rfl, rfl⟩
 rw [← HN.out]
 go_wp2
 go_ret
 exact ⟨ret_int (by rw [HD.out]; rfl), hu⟩
theorem fault4b (x y : Nat) (s : ByteArray) (w : World) (hx : x ≤ 4294967295) (hy : y ≤ 4294967295) (hs : s.size ≤ 1099511627776) (c0 : ¬ ((L s).length < 20)) (c1 : ¬ (65515 < (L s).length)) (c2 : ¬ (ck (ts x y (L s)) ≠ 0)) (c3 : ¬ (hl (L s) < 20 ∨ ((L s).length : Int) < hl (L s))) (c4 : bt (L s) 12 % 16 = 0) (c5 : 64 ≤ bt (L s) 13) :
  Calls Tryz.prog 68 #[.int .u32 x, .int .u32 y, .string s] w fun e w' => e = .returned (.int .i64 (dec x y (L s) : Nat)) ∧ Up w w' := by
 have HD := Lib.hid (dec_61 c0 c1 c2 c3 (.inr c5))
 have h20 : 20 ≤ s.size := by rw [L_len] at c0; omega
 have hmx : s.size ≤ 65515 := by rw [L_len] at c1; omega
 have i1 : ¬ (s.size : Int) < 20 := by omega
 have i2 : ¬ (65515 : Int) < (s.size : Int) := by omega
 clear c0 c1
 have c2 := Decidable.not_not.1 c2
 obtain ⟨C, hC⟩ : ∃ C, C = ck (ts x y (L s)) := ⟨_, rfl⟩
 rw [← hC] at c2
 have HC := Lib.hid hC; clear hC
 obtain ⟨N, hN⟩ : ∃ N, N = hl (L s) := ⟨_, rfl⟩
 rw [← hN] at c3
 rw [L_len] at c3
 have i3 : ¬ N < 20 := by omega
 have i4 : ¬ (s.size : Int) < N := by omega
 clear c3
 have l12 : 12 < s.size := by omega
 have l13 : 13 < s.size := by omega
 have j12 : (12 : Int) < (s.size : Int) := by omega
 have j13 : (13 : Int) < (s.size : Int) := by omega
 have e12 := bt_at s 12 l12
 have e13 := bt_at s 13 l13
 have b12 := c_lt (s[12]'l12)
 have b13 := c_lt (s[13]'l13)
 have a12 := nb.u8_and15 (s[12]'l12).toNat b12
 have a13 := u8_and192 (s[13]'l13).toNat b13
 rw [← e12] at c4
 rw [← e13] at c5
 have d12 : (((s[12]'l12).toNat % 16 : Nat) : Int) = 0 := by omega
 have d13 : ¬ ((((s[13]'l13).toNat / 64 * 64 : Nat) : Int) = 0) := by omega
 clear e12 e13
 have HN := Lib.hid hN; clear hN
 have HT := Lib.hid h20
 have HS := Lib.hid hs; clear hs
 go_enter Tryz.func68, Tryz.ntmps68
 go_wp2_with fail
 refine (sum_one x y _ s _ hx hy (by omega) (World.cell?_alloc_new _ _ _ _)).mono ?_
 rintro e w1 ⟨rfl, hv⟩
 rw [← HC.out]
 have hu : Up w w1 := (up_al _ bR).on hv
 clear hv
 go_wp2_with fail
 refine (start_at s _ HS.out (by have := HT.out; omega)).mono ?_
 rintro e w2 ⟨rfl, rfl⟩
 rw [← HN.out]
 go_wp2_with fail
 refine (start_at s _ HS.out (by have := HT.out; omega)).mono ?_
 rintro e w2 ⟨rfl, rfl⟩
 rw [← HN.out]
 go_wp2
 go_ret
 exact ⟨ret_int (by rw [HD.out]; rfl), hu⟩
theorem fault5 (x y : Nat) (s : ByteArray) (w : World) (hx : x ≤ 4294967295) (hy : y ≤ 4294967295) (hs : s.size ≤ 1099511627776) (c0 : ¬ ((L s).length < 20)) (c1 : ¬ (65515 < (L s).length)) (c2 : ¬ (ck (ts x y (L s)) ≠ 0)) (c3 : ¬ (hl (L s) < 20 ∨ ((L s).length : Int) < hl (L s))) (c4 : ¬ (bt (L s) 12 % 16 ≠ 0 ∨ 64 ≤ bt (L s) 13)) :
  Calls Tryz.prog 68 #[.int .u32 x, .int .u32 y, .string s] w fun e w' => e = .returned (.int .i64 (dec x y (L s) : Nat)) ∧ Up w w' := by
 have HD := Lib.hid (dec_0 c0 c1 c2 c3 c4)
 have h20 : 20 ≤ s.size := by rw [L_len] at c0; omega
 have hmx : s.size ≤ 65515 := by rw [L_len] at c1; omega
 have i1 : ¬ (s.size : Int) < 20 := by omega
 have i2 : ¬ (65515 : Int) < (s.size : Int) := by omega
 clear c0 c1
 have c2 := Decidable.not_not.1 c2
 obtain ⟨C, hC⟩ : ∃ C, C = ck (ts x y (L s)) := ⟨_, rfl⟩
 rw [← hC] at c2
 have HC := Lib.hid hC; clear hC
 obtain ⟨N, hN⟩ : ∃ N, N = hl (L s) := ⟨_, rfl⟩
 rw [← hN] at c3
 rw [L_len] at c3
 have i3 : ¬ N < 20 := by omega
 have i4 : ¬ (s.size : Int) < N := by omega
 clear c3
 have l12 : 12 < s.size := by omega
 have l13 : 13 < s.size := by omega
 have j12 : (12 : Int) < (s.size : Int) := by omega
 have j13 : (13 : Int) < (s.size : Int) := by omega
 have e12 := bt_at s 12 l12
 have e13 := bt_at s 13 l13
 have b12 := c_lt (s[12]'l12)
 have b13 := c_lt (s[13]'l13)
 have a12 := nb.u8_and15 (s[12]'l12).toNat b12
 have a13 := u8_and192 (s[13]'l13).toNat b13
 rw [← e12, ← e13] at c4
 have d12 : (((s[12]'l12).toNat % 16 : Nat) : Int) = 0 := by omega
 have d13 : (((s[13]'l13).toNat / 64 * 64 : Nat) : Int) = 0 := by omega
 clear e12 e13
 have HN := Lib.hid hN; clear hN
 have HT := Lib.hid h20
 have HS := Lib.hid hs; clear hs
 go_enter Tryz.func68, Tryz.ntmps68
 go_wp2_with fail
 refine (sum_one x y _ s _ hx hy (by omega) (World.cell?_alloc_new _ _ _ _)).mono ?_
 rintro e w1 ⟨rfl, hv⟩
 rw [← HC.out]
 have hu : Up w w1 := (up_al _ bR).on hv
 clear hv
 go_wp2_with fail
 refine (start_at s _ HS.out (by have := HT.out; omega)).mono ?_
 rintro e w2 ⟨rfl, rfl⟩
 rw [← HN.out]
 go_wp2_with fail
 refine (start_at s _ HS.out (by have := HT.out; omega)).mono ?_
 rintro e w2 ⟨rfl, rfl⟩
 rw [← HN.out]
 go_wp2
 go_ret
 exact ⟨ret_int (by rw [HD.out]; rfl), hu⟩
theorem faultC (x y : Nat) (s : ByteArray) (w : World) (hx : x ≤ 4294967295) (hy : y ≤ 4294967295) (hs : s.size ≤ 1099511627776) :
  Calls Tryz.prog 68 #[.int .u32 x, .int .u32 y, .string s] w fun e w' => e = .returned (.int .i64 (dec x y (L s) : Nat)) ∧ Up w w' := by
 by_cases c0 : (L s).length < 20
 ·exact fault0 x y s w hx hy hs c0
 by_cases c1 : 65515 < (L s).length
 ·exact fault1 x y s w hx hy hs c0 c1
 by_cases c2 : ck (ts x y (L s)) ≠ 0
 ·exact fault2 x y s w hx hy hs c0 c1 c2
 by_cases c3 : hl (L s) < 20 ∨ ((L s).length : Int) < hl (L s)
 ·by_cases c : hl (L s) < 20
  ·exact fault3a x y s w hx hy hs c0 c1 c2 c
  ·exact fault3b x y s w hx hy hs c0 c1 c2 c (by omega)
 by_cases c4 : bt (L s) 12 % 16 ≠ 0 ∨ 64 ≤ bt (L s) 13
 ·by_cases c : bt (L s) 12 % 16 = 0
  ·exact fault4b x y s w hx hy hs c0 c1 c2 c3 c (by omega)
  ·exact fault4a x y s w hx hy hs c0 c1 c2 c3 c
 exact fault5 x y s w hx hy hs c0 c1 c2 c3 c4
end Go.Proofs.YtafckmbgefbonaaGreat.tc

namespace Go.Proofs.YtafckmbgefbonaaGreat.tc
open RowKit Shelf sm nb cm

theorem cloneC (s : ByteArray) (w : World) (hs : s.size ≤ 1099511627776) :
  Calls Tryz.prog 53 #[.string s] w fun e w' => e = .returned (.string s) ∧ Up w w' := by
 go_enter Tryz.func53, Tryz.ntmps53
 go_wp2_with fail
 refine (Any.stringslite_Clone Tryz.lClone s w (by omega)).mono ?_
 rintro e w1 ⟨rfl, hv⟩
 go_wp2
 go_ret
 exact ⟨rfl, hv⟩
theorem readC (s : ByteArray) (w : World) (hs : s.size ≤ 1099511627776) (h20 : 20 ≤ s.size) (N : Nat) (hN : hl (L s) = (N : Int)) (hN20 : 20 ≤ N) (hNs : N ≤ s.size) :
  Calls Tryz.prog 69 #[.string s] w fun e w' => e = .returned (TV (L s)) ∧ Up w w' := by
 have l13 : 13 < s.size := by omega
 have j13 : (13 : Int) < (s.size : Int) := by omega
 have e13 := bt_at s 13 l13
 have b13 := c_lt (s[13]'l13)
 have hTV : TV (L s) = HV (wd (L s) 0) (wd (L s) 2) (qd (L s) 4) (qd (L s) 8) ((s[13]'l13).toNat : Int) (wd (L s) 14) (wd (L s) 18) (s.extract 20 N) := by
  unfold TV; rw [hN, e13, Int.toNat_natCast, tx_extract]
 have HTV := Lib.hid hTV
 have i7 : (20 : Int) ≤ (N : Int) := by omega
 have i8 : (N : Int) ≤ (s.size : Int) := by omega
 have HT := Lib.hid h20
 have HS := Lib.hid hs
 have HN := Lib.hid hN
 have zE : (s.extract 20 N).size ≤ 1099511627776 := by simp; omega
 clear hTV h20 hs hN e13
 go_enter Tryz.func69, Tryz.ntmps69
 go_upto_region 1 with fail
 have hB := Box.new w #[.int .u16 0, .int .u16 0, .int .u32 0, .int .u32 0, .int .u8 0, .int .u16 0, .int .u16 0, .string { data := #[] }] 55
 have hu : Up w (w.alloc (.cells #[.int .u16 0, .int .u16 0, .int .u32 0, .int .u32 0, .int .u8 0, .int .u16 0, .int .u16 0, .string { data := #[] }] 55)) := up_al _ bR
 generalize (w.alloc (.cells #[.int .u16 0, .int .u16 0, .int .u32 0, .int .u32 0, .int .u8 0, .int .u16 0, .int .u16 0, .string { data := #[] }] 55)) = w0 at hB hu ⊢
 refine wp_region_rel4 20 (fun W => Up w0 W) (fun W W' => Up W W') (Ys [Det (.string s),
  Det (.int .u16 (wd (L s) 0)),
  Det (.string s),
  Det (.int .u16 (wd (L s) 2)),
  Det (.string s),
  Det (.int .u32 (qd (L s) 4)),
  Det (.string s),
  Det (.int .u32 (qd (L s) 8)),
  Det (.string s),
  Det (.int .u8 ((s[13]'l13).toNat : Int)),
  Det (.string s),
  Det (.int .u16 (wd (L s) 14)),
  Det (.string s),
  Det (.int .u16 (wd (L s) 18)),
  Det (.string s),
  Det (.string s),
  Det (.int .i64 N),
  Det (.string (s.extract 20 N)),
  Det (.string (s.extract 20 N)),
  Det (.agg #[.int .u16 (wd (L s) 0), .int .u16 (wd (L s) 2), .int .u32 (qd (L s) 4), .int .u32 (qd (L s) 8), .int .u8 ((s[13]'l13).toNat : Int), .int .u16 (wd (L s) 14), .int .u16 (wd (L s) 18), .string (s.extract 20 N)])]) (by kernel_rfl) (by kernel_rfl) (by kernel_rfl) (up_dr bR) (Stable.ys ⟨Det.st _, Det.st _, Det.st _, Det.st _, Det.st _, Det.st _, Det.st _, Det.st _, Det.st _, Det.st _, Det.st _, Det.st _, Det.st _, Det.st _, Det.st _, Det.st _, Det.st _, Det.st _, Det.st _, Det.st _, trivial⟩) ?_ ?_
 all_goals simp only [List.take_succ_cons, List.take_zero, List.drop_succ_cons, List.drop_zero]
 ·
  refine oC ?_ ?_
  ·intro aa ww hC hp hv KK hK
   have d0 : aa.tmps.getD 0 undef = .string s := hv 0 (slotOk_spec (by kernel_rfl))
   have d0_ := gD d0
   clear hp hv
   (unfold opTo; go_simp; try simp only [opUpon])
   exact hK _ _ rfl hC bR
  refine oC ?_ ?_
  ·intro aa ww hC hp hv KK hK
   have d3 : aa.tmps.getD 3 undef = .string s := dep_of hp 0 3 (by kernel_rfl)
   have d3_ := gD d3
   clear hp hv
   (unfold opTo; go_simp; try simp only [opUpon])
   exact (at16i s 0 _ HS.out (by have := HT.out; omega)).mono fun e w2 h => by obtain ⟨h1, rfl⟩ := h; exact ⟨_, h1, hK _ _ rfl hC bR⟩
  refine oC ?_ ?_
  ·intro aa ww hC hp hv KK hK
   have d0 : aa.tmps.getD 0 undef = .string s := hv 0 (slotOk_spec (by kernel_rfl))
   have d0_ := gD d0
   clear hp hv
   (unfold opTo; go_simp; try simp only [opUpon])
   exact hK _ _ rfl hC bR
  refine oC ?_ ?_
  ·intro aa ww hC hp hv KK hK
   have d5 : aa.tmps.getD 5 undef = .string s := dep_of hp 2 5 (by kernel_rfl)
   have d5_ := gD d5
   clear hp hv
   (unfold opTo; go_simp; try simp only [opUpon])
   exact (at16i s 2 _ HS.out (by have := HT.out; omega)).mono fun e w2 h => by obtain ⟨h1, rfl⟩ := h; exact ⟨_, h1, hK _ _ rfl hC bR⟩
  refine oC ?_ ?_
  ·intro aa ww hC hp hv KK hK
   have d0 : aa.tmps.getD 0 undef = .string s := hv 0 (slotOk_spec (by kernel_rfl))
   have d0_ := gD d0
   clear hp hv
   (unfold opTo; go_simp; try simp only [opUpon])
   exact hK _ _ rfl hC bR
  refine oC ?_ ?_
  ·intro aa ww hC hp hv KK hK
   have d7 : aa.tmps.getD 7 undef = .string s := dep_of hp 4 7 (by kernel_rfl)
   have d7_ := gD d7
   clear hp hv
   (unfold opTo; go_simp; try simp only [opUpon])
   exact (at32i s 4 _ HS.out (by have := HT.out; omega)).mono fun e w2 h => by obtain ⟨h1, rfl⟩ := h; exact ⟨_, h1, hK _ _ rfl hC bR⟩
  refine oC ?_ ?_
  ·intro aa ww hC hp hv KK hK
   have d0 : aa.tmps.getD 0 undef = .string s := hv 0 (slotOk_spec (by kernel_rfl))
   have d0_ := gD d0
   clear hp hv
   (unfold opTo; go_simp; try simp only [opUpon])
   exact hK _ _ rfl hC bR
  refine oC ?_ ?_
  ·intro aa ww hC hp hv KK hK
   have d9 : aa.tmps.getD 9 undef = .string s := dep_of hp 6 9 (by kernel_rfl)
   have d9_ := gD d9
   clear hp hv
   (unfold opTo; go_simp; try simp only [opUpon])
   exact (at32i s 8 _ HS.out (by have := HT.out; omega)).mono fun e w2 h => by obtain ⟨h1, rfl⟩ := h; exact ⟨_, h1, hK _ _ rfl hC bR⟩
  refine oC ?_ ?_
  ·intro aa ww hC hp hv KK hK
   have d0 : aa.tmps.getD 0 undef = .string s := hv 0 (slotOk_spec (by kernel_rfl))
   have d0_ := gD d0
   clear hp hv
   (unfold opTo; go_simp; try simp only [opUpon])
   exact hK _ _ rfl hC bR
  refine oC ?_ ?_
  ·intro aa ww hC hp hv KK hK
   have d11 : aa.tmps.getD 11 undef = .string s := dep_of hp 8 11 (by kernel_rfl)
   have d11_ := gD d11
   clear hp hv
   (unfold opTo; go_simp; try simp only [opUpon])
   exact hK _ _ rfl hC bR
  refine oC ?_ ?_
  ·intro aa ww hC hp hv KK hK
   have d0 : aa.tmps.getD 0 undef = .string s := hv 0 (slotOk_spec (by kernel_rfl))
   have d0_ := gD d0
   clear hp hv
   (unfold opTo; go_simp; try simp only [opUpon])
   exact hK _ _ rfl hC bR
  refine oC ?_ ?_
  ·intro aa ww hC hp hv KK hK
   have d13 : aa.tmps.getD 13 undef = .string s := dep_of hp 10 13 (by kernel_rfl)
   have d13_ := gD d13
   clear hp hv
   (unfold opTo; go_simp; try simp only [opUpon])
   exact (at16i s 14 _ HS.out (by have := HT.out; omega)).mono fun e w2 h => by obtain ⟨h1, rfl⟩ := h; exact ⟨_, h1, hK _ _ rfl hC bR⟩
  refine oC ?_ ?_
  ·intro aa ww hC hp hv KK hK
   have d0 : aa.tmps.getD 0 undef = .string s := hv 0 (slotOk_spec (by kernel_rfl))
   have d0_ := gD d0
   clear hp hv
   (unfold opTo; go_simp; try simp only [opUpon])
   exact hK _ _ rfl hC bR
  refine oC ?_ ?_
  ·intro aa ww hC hp hv KK hK
   have d15 : aa.tmps.getD 15 undef = .string s := dep_of hp 12 15 (by kernel_rfl)
   have d15_ := gD d15
   clear hp hv
   (unfold opTo; go_simp; try simp only [opUpon])
   exact (at16i s 18 _ HS.out (by have := HT.out; omega)).mono fun e w2 h => by obtain ⟨h1, rfl⟩ := h; exact ⟨_, h1, hK _ _ rfl hC bR⟩
  refine oC ?_ ?_
  ·intro aa ww hC hp hv KK hK
   have d0 : aa.tmps.getD 0 undef = .string s := hv 0 (slotOk_spec (by kernel_rfl))
   have d0_ := gD d0
   clear hp hv
   (unfold opTo; go_simp; try simp only [opUpon])
   exact hK _ _ rfl hC bR
  refine oC ?_ ?_
  ·intro aa ww hC hp hv KK hK
   have d0 : aa.tmps.getD 0 undef = .string s := hv 0 (slotOk_spec (by kernel_rfl))
   have d0_ := gD d0
   clear hp hv
   (unfold opTo; go_simp; try simp only [opUpon])
   exact hK _ _ rfl hC bR
  refine oC ?_ ?_
  ·intro aa ww hC hp hv KK hK
   have d18 : aa.tmps.getD 18 undef = .string s := dep_of hp 15 18 (by kernel_rfl)
   have d18_ := gD d18
   clear hp hv
   (unfold opTo; go_simp; try simp only [opUpon])
   exact (start_at s _ HS.out (by have := HT.out; omega)).mono fun e w2 h => by obtain ⟨h1, rfl⟩ := h; exact ⟨_, h1, hK _ _ (show Value.int .i64 _ = Value.int .i64 _ by rw [HN.out]) hC bR⟩
  refine oC ?_ ?_
  ·intro aa ww hC hp hv KK hK
   have d17 : aa.tmps.getD 17 undef = .string s := dep_of hp 14 17 (by kernel_rfl)
   have d19 : aa.tmps.getD 19 undef = .int .i64 N := dep_of hp 16 19 (by kernel_rfl)
   have d17_ := gD d17
   have d19_ := gD d19
   clear hp hv
   (unfold opTo; go_simp; try simp only [opUpon])
   exact hK _ _ rfl hC bR
  refine oC ?_ ?_
  ·intro aa ww hC hp hv KK hK
   have d20 : aa.tmps.getD 20 undef = .string (s.extract 20 N) := dep_of hp 17 20 (by kernel_rfl)
   have d20_ := gD d20
   clear hp hv
   (unfold opTo; go_simp; try simp only [opUpon])
   exact (cloneC _ _ zE).mono fun e w2 h => ⟨_, h.1, hK _ _ rfl (Up.on hC h.2) h.2⟩
  refine oC ?_ ?_
  ·intro aa ww hC hp hv KK hK
   have d4 : aa.tmps.getD 4 undef = .int .u16 (wd (L s) 0) := dep_of hp 1 4 (by kernel_rfl)
   have d6 : aa.tmps.getD 6 undef = .int .u16 (wd (L s) 2) := dep_of hp 3 6 (by kernel_rfl)
   have d8 : aa.tmps.getD 8 undef = .int .u32 (qd (L s) 4) := dep_of hp 5 8 (by kernel_rfl)
   have d10 : aa.tmps.getD 10 undef = .int .u32 (qd (L s) 8) := dep_of hp 7 10 (by kernel_rfl)
   have d12 : aa.tmps.getD 12 undef = .int .u8 ((s[13]'l13).toNat : Int) := dep_of hp 9 12 (by kernel_rfl)
   have d14 : aa.tmps.getD 14 undef = .int .u16 (wd (L s) 14) := dep_of hp 11 14 (by kernel_rfl)
   have d16 : aa.tmps.getD 16 undef = .int .u16 (wd (L s) 18) := dep_of hp 13 16 (by kernel_rfl)
   have d21 : aa.tmps.getD 21 undef = .string (s.extract 20 N) := dep_of hp 18 21 (by kernel_rfl)
   have d4_ := gD d4
   have d6_ := gD d6
   have d8_ := gD d8
   have d10_ := gD d10
   have d12_ := gD d12
   have d14_ := gD d14
   have d16_ := gD d16
   have d21_ := gD d21
   clear hp hv
   (unfold opTo; go_simp; try simp only [opUpon])
   exact hK _ _ rfl hC bR
  exact obligs_nil
 intro vals ww hC hY
 have e0 : vals 0 = .string s := hY 0 _ _ rfl rfl
 have e1 : vals 1 = .int .u16 (wd (L s) 0) := hY 1 _ _ rfl rfl
 have e2 : vals 2 = .string s := hY 2 _ _ rfl rfl
 have e3 : vals 3 = .int .u16 (wd (L s) 2) := hY 3 _ _ rfl rfl
 have e4 : vals 4 = .string s := hY 4 _ _ rfl rfl
 have e5 : vals 5 = .int .u32 (qd (L s) 4) := hY 5 _ _ rfl rfl
 have e6 : vals 6 = .string s := hY 6 _ _ rfl rfl
 have e7 : vals 7 = .int .u32 (qd (L s) 8) := hY 7 _ _ rfl rfl
 have e8 : vals 8 = .string s := hY 8 _ _ rfl rfl
 have e9 : vals 9 = .int .u8 ((s[13]'l13).toNat : Int) := hY 9 _ _ rfl rfl
 have e10 : vals 10 = .string s := hY 10 _ _ rfl rfl
 have e11 : vals 11 = .int .u16 (wd (L s) 14) := hY 11 _ _ rfl rfl
 have e12 : vals 12 = .string s := hY 12 _ _ rfl rfl
 have e13 : vals 13 = .int .u16 (wd (L s) 18) := hY 13 _ _ rfl rfl
 have e14 : vals 14 = .string s := hY 14 _ _ rfl rfl
 have e15 : vals 15 = .string s := hY 15 _ _ rfl rfl
 have e16 : vals 16 = .int .i64 N := hY 16 _ _ rfl rfl
 have e17 : vals 17 = .string (s.extract 20 N) := hY 17 _ _ rfl rfl
 have e18 : vals 18 = .string (s.extract 20 N) := hY 18 _ _ rfl rfl
 have e19 : vals 19 = .agg #[.int .u16 (wd (L s) 0), .int .u16 (wd (L s) 2), .int .u32 (qd (L s) 4), .int .u32 (qd (L s) 8), .int .u8 ((s[13]'l13).toNat : Int), .int .u16 (wd (L s) 14), .int .u16 (wd (L s) 18), .string (s.extract 20 N)] := hY 19 _ _ rfl rfl
 clear hY
 simp only [putAll, Act.put, List.setIfInBounds_toArray, List.set_cons_zero, List.set_cons_succ, e0, e1, e2, e3, e4, e5, e6, e7, e8, e9, e10, e11, e12, e13, e14, e15, e16, e17, e18, e19]
 clear e0 e1 e2 e3 e4 e5 e6 e7 e8 e9 e10 e11 e12 e13 e14 e15 e16 e17 e18 e19
 have hB2 := hB.up hC
 have hu2 := hu.on hC
 obtain ⟨k0, k1, k2, k3, k4, k5, k6, k7, f0, f1, f2, f3, f4, f5, f6, f7⟩ := Box.c8 hB2
 go_wp2_with fail
 have hB3 := put8 hB2 (.int .u16 (wd (L s) 0)) (.int .u16 (wd (L s) 2)) (.int .u32 (qd (L s) 4)) (.int .u32 (qd (L s) 8)) (.int .u8 ((s[13]'l13).toNat : Int)) (.int .u16 (wd (L s) 14)) (.int .u16 (wd (L s) 18)) (.string (s.extract 20 N))
 have hu3 := ups8 (b := w.heap.size) hu2 (Nat.le_refl _) (.int .u16 (wd (L s) 0)) (.int .u16 (wd (L s) 2)) (.int .u32 (qd (L s) 4)) (.int .u32 (qd (L s) 8)) (.int .u8 ((s[13]'l13).toNat : Int)) (.int .u16 (wd (L s) 14)) (.int .u16 (wd (L s) 18)) (.string (s.extract 20 N))
 generalize World.setCell _ ⟨w.heap.size, 7, none⟩ _ = W3 at hB3 hu3 ⊢
 clear k0 k1 k2 k3 k4 k5 k6 k7 f0 f1 f2 f3 f4 f5 f6 f7 hB2 hu2
 obtain ⟨k0, k1, k2, k3, k4, k5, k6, k7, f0, f1, f2, f3, f4, f5, f6, f7⟩ := Box.c8 hB3
 (try simp only [Exit.inBlock, Exit.then])
 refine bodyPost_ret (v := HV (wd (L s) 0) (wd (L s) 2) (qd (L s) 4) (qd (L s) 8) ((s[13]'l13).toNat : Int) (wd (L s) 14) (wd (L s) 18) (s.extract 20 N)) ?_ rfl ⟨?_, hu3⟩
 ·rw [results_cell1 rfl]; go_simp
 ·rw [HTV.out]
theorem encode0 (x y p q sq ak fl wi ur : Nat) (o d : ByteArray) (w : World) (hx : x ≤ 4294967295) (hy : y ≤ 4294967295) (h : Ok p q sq ak fl wi ur) (ho : o.size ≤ 1099511627776) (hd : d.size ≤ 1099511627776) (c : o.size % 4 ≠ 0) :
  Calls Tryz.prog 25 #[.int .u32 x, .int .u32 y, HV p q sq ak fl wi ur o, .string d] w fun e w' => e = .returned (EV x y p q sq ak fl wi ur o d) ∧ Up w w' := by
 have HE := Lib.hid (EV_arg (.inl c) : EV x y p q sq ak fl wi ur o d = _)
 have i1 : ¬ (o.size : Int) % 4 = 0 := by omega
 go_enter Tryz.func25, Tryz.ntmps25
 go_upto_region 1 with fail
 have hB := Box.new w #[.int .u16 p, .int .u16 q, .int .u32 sq, .int .u32 ak, .int .u8 fl, .int .u16 wi, .int .u16 ur, .string o] 55
 have hu : Up w (w.alloc (.cells #[.int .u16 p, .int .u16 q, .int .u32 sq, .int .u32 ak, .int .u8 fl, .int .u16 wi, .int .u16 ur, .string o] 55)) := up_al _ bR
 generalize World.alloc w _ = w0 at hB hu ⊢
 obtain ⟨k0, k1, k2, k3, k4, k5, k6, k7⟩ := Box.e8 hB
 go_wp2_with fail
 go_ret2
 exact ⟨congrArg Ending.returned HE.out.symm, hu⟩
theorem encode1 (x y p q sq ak fl wi ur : Nat) (o d : ByteArray) (w : World) (hx : x ≤ 4294967295) (hy : y ≤ 4294967295) (h : Ok p q sq ak fl wi ur) (ho : o.size ≤ 1099511627776) (hd : d.size ≤ 1099511627776) (c0 : o.size % 4 = 0) (c : 40 < o.size) :
  Calls Tryz.prog 25 #[.int .u32 x, .int .u32 y, HV p q sq ak fl wi ur o, .string d] w fun e w' => e = .returned (EV x y p q sq ak fl wi ur o d) ∧ Up w w' := by
 have HE := Lib.hid (EV_arg (.inr (.inl c)) : EV x y p q sq ak fl wi ur o d = _)
 have i1 : (o.size : Int) % 4 = 0 := by omega
 have i2 : (40 : Int) < (o.size : Int) := by omega
 go_enter Tryz.func25, Tryz.ntmps25
 go_upto_region 1 with fail
 have hB := Box.new w #[.int .u16 p, .int .u16 q, .int .u32 sq, .int .u32 ak, .int .u8 fl, .int .u16 wi, .int .u16 ur, .string o] 55
 have hu : Up w (w.alloc (.cells #[.int .u16 p, .int .u16 q, .int .u32 sq, .int .u32 ak, .int .u8 fl, .int .u16 wi, .int .u16 ur, .string o] 55)) := up_al _ bR
 generalize World.alloc w _ = w0 at hB hu ⊢
 obtain ⟨k0, k1, k2, k3, k4, k5, k6, k7⟩ := Box.e8 hB
 go_wp2_with fail
 go_ret2
 exact ⟨congrArg Ending.returned HE.out.symm, hu⟩
theorem encode2 (x y p q sq ak fl wi ur : Nat) (o d : ByteArray) (w : World) (hx : x ≤ 4294967295) (hy : y ≤ 4294967295) (h : Ok p q sq ak fl wi ur) (ho : o.size ≤ 1099511627776) (hd : d.size ≤ 1099511627776) (c0 : o.size % 4 = 0) (c1 : o.size ≤ 40) (c : 64 ≤ fl) :
  Calls Tryz.prog 25 #[.int .u32 x, .int .u32 y, HV p q sq ak fl wi ur o, .string d] w fun e w' => e = .returned (EV x y p q sq ak fl wi ur o d) ∧ Up w w' := by
 have HE := Lib.hid (EV_arg (.inr (.inr c)) : EV x y p q sq ak fl wi ur o d = _)
 have i1 : (o.size : Int) % 4 = 0 := by omega
 have i2 : ¬ (40 : Int) < (o.size : Int) := by omega
 have a13 := u8_and192 fl (by have := h.2.2.2.2.1; omega)
 have d13 : ¬ ((fl / 64 * 64 : Nat) : Int) = 0 := by omega
 go_enter Tryz.func25, Tryz.ntmps25
 go_upto_region 1 with fail
 have hB := Box.new w #[.int .u16 p, .int .u16 q, .int .u32 sq, .int .u32 ak, .int .u8 fl, .int .u16 wi, .int .u16 ur, .string o] 55
 have hu : Up w (w.alloc (.cells #[.int .u16 p, .int .u16 q, .int .u32 sq, .int .u32 ak, .int .u8 fl, .int .u16 wi, .int .u16 ur, .string o] 55)) := up_al _ bR
 generalize World.alloc w _ = w0 at hB hu ⊢
 obtain ⟨k0, k1, k2, k3, k4, k5, k6, k7⟩ := Box.e8 hB
 go_wp2_with fail
 go_ret2
 exact ⟨congrArg Ending.returned HE.out.symm, hu⟩
theorem encode3 (x y p q sq ak fl wi ur : Nat) (o d : ByteArray) (w : World) (hx : x ≤ 4294967295) (hy : y ≤ 4294967295) (h : Ok p q sq ak fl wi ur) (ho : o.size ≤ 1099511627776) (hd : d.size ≤ 1099511627776) (c0 : o.size % 4 = 0) (c1 : o.size ≤ 40) (c2 : fl < 64) (c : 65515 < 20 + o.size + d.size) :
  Calls Tryz.prog 25 #[.int .u32 x, .int .u32 y, HV p q sq ak fl wi ur o, .string d] w fun e w' => e = .returned (EV x y p q sq ak fl wi ur o d) ∧ Up w w' := by
 have HE := Lib.hid (EV_long (by omega) c : EV x y p q sq ak fl wi ur o d = _)
 have i1 : (o.size : Int) % 4 = 0 := by omega
 have i2 : ¬ (40 : Int) < (o.size : Int) := by omega
 have a13 := u8_and192 fl (by have := h.2.2.2.2.1; omega)
 have d13 : ((fl / 64 * 64 : Nat) : Int) = 0 := by omega
 have i4 : 65495 - (o.size : Int) < (d.size : Int) := by omega
 go_enter Tryz.func25, Tryz.ntmps25
 go_upto_region 1 with fail
 have hB := Box.new w #[.int .u16 p, .int .u16 q, .int .u32 sq, .int .u32 ak, .int .u8 fl, .int .u16 wi, .int .u16 ur, .string o] 55
 have hu : Up w (w.alloc (.cells #[.int .u16 p, .int .u16 q, .int .u32 sq, .int .u32 ak, .int .u8 fl, .int .u16 wi, .int .u16 ur, .string o] 55)) := up_al _ bR
 generalize World.alloc w _ = w0 at hB hu ⊢
 obtain ⟨k0, k1, k2, k3, k4, k5, k6, k7⟩ := Box.e8 hB
 go_wp2_with fail
 go_ret2
 exact ⟨congrArg Ending.returned HE.out.symm, hu⟩
theorem cat3 (a b c : ByteArray) : su.cat [a, b, c] = L a ++ (L b ++ L c) := by show L a ++ (L b ++ (L c ++ [])) = _; rw [List.append_nil]
theorem sum_three (x y b : Nat) (s t u : ByteArray) (w : World) (hx : x ≤ 4294967295) (hy : y ≤ 4294967295) (hz : s.size + t.size + u.size ≤ 65535) (h : Box w b [.string s, .string t, .string u]) :
  Calls Tryz.prog 56 #[.int .u32 x, .int .u32 y, .slice (some ⟨b, 0, none⟩) 3 3] w fun e w' => e = .returned (.int .u16 (ck (ts x y (L s ++ (L t ++ L u))))) ∧ Up w w' := by
 have hc := checksumC x y b 3 3 [s, t, u] rfl (by decide) (by rw [cat3, List.length_append, List.length_append, L_len, L_len, L_len]; omega) w hx hy h.1 (fun j hj => by match j, hj with | 0, _ => exact h.at 0 rfl | 1, _ => exact h.at 1 rfl | 2, _ => exact h.at 2 rfl)
 rw [cat3] at hc
 exact hc
theorem encode4 (x y p q sq ak fl wi ur : Nat) (o d : ByteArray) (w : World) (hx : x ≤ 4294967295) (hy : y ≤ 4294967295) (h : Ok p q sq ak fl wi ur) (ho : o.size ≤ 1099511627776) (hd : d.size ≤ 1099511627776) (c0 : o.size % 4 = 0) (c1 : o.size ≤ 40) (c2 : fl < 64) (c : ¬ 65515 < 20 + o.size + d.size) :
  Calls Tryz.prog 25 #[.int .u32 x, .int .u32 y, HV p q sq ak fl wi ur o, .string d] w fun e w' => e = .returned (EV x y p q sq ak fl wi ur o d) ∧ Up w w' := by
 have HE := Lib.hid (EV_ok (by omega) c : EV x y p q sq ak fl wi ur o d = _)
 have i1 : (o.size : Int) % 4 = 0 := by omega
 have i2 : ¬ (40 : Int) < (o.size : Int) := by omega
 have a13 := u8_and192 fl (by have := h.2.2.2.2.1; omega)
 have d13 : ((fl / 64 * 64 : Nat) : Int) = 0 := by omega
 have i4 : ¬ 65495 - (o.size : Int) < (d.size : Int) := by omega
 have hcs := cs_le x y p q sq ak fl wi ur (L o) (L d)
 obtain ⟨C, hC0⟩ : ∃ C, C = cs x y p q sq ak fl wi ur (L o) (L d) := ⟨_, rfl⟩
 rw [← hC0] at hcs
 obtain ⟨S0, hS0⟩ : ∃ S0, S0 = tx (hdb p q sq ak fl wi ur o.size 0) := ⟨_, rfl⟩
 obtain ⟨S1, hS1⟩ : ∃ S1, S1 = tx (hdb p q sq ak fl wi ur o.size C) := ⟨_, rfl⟩
 have z0 : S0.size = 20 := by rw [hS0, tx_size, hdb_len]
 have z1 : S1.size = 20 := by rw [hS1, tx_size, hdb_len]
 have HS : Hid ((C : Int) = ck (ts x y (L S0 ++ (L o ++ L d)))) := by
  unfold Hid
  rw [hC0, cs_int, hS0, L_tx, ← L_len o, hdb_rw]
 have HEN : Hid (S1 ++ o ++ d = tx (en x y p q sq ak fl wi ur (L o) (L d))) := by
  unfold Hid
  rw [hS1]
  conv => lhs; rw [← tx_L o, ← tx_L d]
  rw [tx_app, tx_app, List.append_assoc, tx_L, ← L_len o, hdb_rw, hC0]; rfl
 obtain ⟨A5, hA5⟩ : ∃ A : ByteArray, A = S1 ++ o := ⟨_, rfl⟩
 have zA5 : A5.size = 20 + o.size := by rw [hA5, ByteArray.size_append, z1]
 obtain ⟨A7, hA7⟩ : ∃ A : ByteArray, A = A5 ++ d := ⟨_, rfl⟩
 have HF : Hid (A7 = tx (en x y p q sq ak fl wi ur (L o) (L d))) := by unfold Hid; rw [hA7, hA5]; exact HEN.out
 have HS0 := Lib.hid hS0; have HS1 := Lib.hid hS1
 have HA5 := Lib.hid hA5; have HA7 := Lib.hid hA7
 clear hS0 hS1 hA5 hA7 hC0 HEN
 go_enter Tryz.func25, Tryz.ntmps25
 go_upto_region 1 with fail
 have hB := Box.new w #[.int .u16 p, .int .u16 q, .int .u32 sq, .int .u32 ak, .int .u8 fl, .int .u16 wi, .int .u16 ur, .string o] 55
 have hu : Up w (w.alloc (.cells #[.int .u16 p, .int .u16 q, .int .u32 sq, .int .u32 ak, .int .u8 fl, .int .u16 wi, .int .u16 ur, .string o] 55)) := up_al _ bR
 generalize World.alloc w _ = w0 at hB hu ⊢
 obtain ⟨k0, k1, k2, k3, k4, k5, k6, k7⟩ := Box.e8 hB
 go_upto_region 5 with fail
 clear k0 k1 k2 k3 k4 k5 k6 k7
 refine wp_region_rel2 (fun W => Up w0 W) (fun W W' => Up W W') (Ys [Det (.int .u32 x),
   Det (.int .u32 y),
   Det (.agg #[.int .u16 p, .int .u16 q, .int .u32 sq, .int .u32 ak, .int .u8 fl, .int .u16 wi, .int .u16 ur, .string o]),
   Det (.string S0),
   Det (.pointer (some ⟨w.heap.size, 7, none⟩)),
   Det (.string o),
   Det (.string d),
   Fresh 3 [.string S0, .string o, .string d],
   Det (.int .u16 C),
   Det (.int .u16 C)]) (by kernel_rfl) (by kernel_rfl) (up_dr bR) (Stable.ys ⟨Det.st _, Det.st _, Det.st _, Det.st _, Det.st _, Det.st _, Det.st _, Fresh.st _ _, Det.st _, Det.st _, trivial⟩) ?_ ?_
 ·
  refine oC ?_ ?_
  ·intro aa ww hC hp hv KK hK
   have d0 : aa.tmps.getD 0 undef = .int .u32 x := hv 0 (slotOk_spec (by kernel_rfl))
   have d0_ := gD d0
   clear hp hv
   simp (config := { decide := true }) [go_sem, opTo, opUpon, *]
   exact hK _ _ rfl hC bR
  refine oC ?_ ?_
  ·intro aa ww hC hp hv KK hK
   have d1 : aa.tmps.getD 1 undef = .int .u32 y := hv 1 (slotOk_spec (by kernel_rfl))
   have d1_ := gD d1
   clear hp hv
   simp (config := { decide := true }) [go_sem, opTo, opUpon, *]
   exact hK _ _ rfl hC bR
  refine oC ?_ ?_
  ·intro aa ww hC hp hv KK hK
   have d6 : aa.tmps.getD 6 undef = .pointer (some ⟨w.heap.size, 0, none⟩) := hv 6 (slotOk_spec (by kernel_rfl))
   have d6_ := gD d6
   clear hp hv
   have hb := hB.up hC
   have c0 := hb.at 0 rfl; have c1 := hb.at 1 rfl; have c2 := hb.at 2 rfl; have c3 := hb.at 3 rfl; have c4 := hb.at 4 rfl; have c5 := hb.at 5 rfl; have c6 := hb.at 6 rfl; have c7 := hb.at 7 rfl
   simp (config := { decide := true }) [go_sem, opTo, opUpon, *]
   exact hK _ _ rfl hC bR
  refine oC ?_ ?_
  ·intro aa ww hC hp hv KK hK
   have d37 : aa.tmps.getD 37 undef = .agg #[.int .u16 p, .int .u16 q, .int .u32 sq, .int .u32 ak, .int .u8 fl, .int .u16 wi, .int .u16 ur, .string o] := dep_of hp 2 37 (by kernel_rfl)
   have d37_ := gD d37
   clear hp hv
   (unfold opTo; go_simp; try simp only [opUpon])
   exact (laidC p q sq ak fl wi ur 0 o _ h c0 c1 (by decide)).mono fun e w2 h => ⟨_, h.1, hK _ _ (show Value.string _ = Value.string _ by rw [HS0.out]) (Up.on hC h.2) h.2⟩
  refine oC ?_ ?_
  ·intro aa ww hC hp hv KK hK
   have d6 : aa.tmps.getD 6 undef = .pointer (some ⟨w.heap.size, 0, none⟩) := hv 6 (slotOk_spec (by kernel_rfl))
   have d6_ := gD d6
   clear hp hv
   simp (config := { decide := true }) [go_sem, opTo, opUpon, *]
   exact hK _ _ rfl hC bR
  refine oC ?_ ?_
  ·intro aa ww hC hp hv KK hK
   have d39 : aa.tmps.getD 39 undef = .pointer (some ⟨w.heap.size, 7, none⟩) := dep_of hp 4 39 (by kernel_rfl)
   have d39_ := gD d39
   clear hp hv
   have hb := hB.up hC
   have c7 := hb.at 7 rfl
   simp (config := { decide := true }) [go_sem, opTo, opUpon, *]
   exact hK _ _ rfl hC bR
  refine oC ?_ ?_
  ·intro aa ww hC hp hv KK hK
   have d3 : aa.tmps.getD 3 undef = .string d := hv 3 (slotOk_spec (by kernel_rfl))
   have d3_ := gD d3
   clear hp hv
   simp (config := { decide := true }) [go_sem, opTo, opUpon, *]
   exact hK _ _ rfl hC bR
  refine oC ?_ ?_
  ·intro aa ww hC hp hv KK hK
   have d38 : aa.tmps.getD 38 undef = .string S0 := dep_of hp 3 38 (by kernel_rfl)
   have d40 : aa.tmps.getD 40 undef = .string o := dep_of hp 5 40 (by kernel_rfl)
   have d41 : aa.tmps.getD 41 undef = .string d := dep_of hp 6 41 (by kernel_rfl)
   have d38_ := gD d38
   have d40_ := gD d40
   have d41_ := gD d41
   clear hp hv
   simp (config := { decide := true }) [go_sem, opTo, opUpon, *]
   exact hK _ _ ⟨_, rfl, Box.new _ _ _⟩ (up_al _ hC) (up_al _ bR)
  refine oC ?_ ?_
  ·intro aa ww hC hp hv KK hK
   have d35 : aa.tmps.getD 35 undef = .int .u32 x := dep_of hp 0 35 (by kernel_rfl)
   have d36 : aa.tmps.getD 36 undef = .int .u32 y := dep_of hp 1 36 (by kernel_rfl)
   obtain ⟨g, d42, hg⟩ : Fresh 3 [.string S0, .string o, .string d] (aa.tmps.getD 42 undef) ww := dep_of hp 7 42 (by kernel_rfl)
   have d35_ := gD d35
   have d36_ := gD d36
   have d42_ := gD d42
   clear hp hv
   (unfold opTo; go_simp; try simp only [opUpon])
   exact (sum_three x y _ S0 o d _ hx hy (by omega) hg).mono fun e w2 h => ⟨_, h.1, hK _ _ (show Value.int .u16 _ = Value.int .u16 _ by rw [HS.out]) (Up.on hC h.2) h.2⟩
  refine oC ?_ ?_
  ·intro aa ww hC hp hv KK hK
   have d43 : aa.tmps.getD 43 undef = .int .u16 C := dep_of hp 8 43 (by kernel_rfl)
   have d43_ := gD d43
   clear hp hv
   simp (config := { decide := true }) [go_sem, opTo, opUpon, *]
   exact hK _ _ rfl hC bR
  exact obligs_nil
 intro vals ww hC hY
 have e0 : vals 0 = .int .u32 x := hY 0 _ _ rfl rfl
 have e1 : vals 1 = .int .u32 y := hY 1 _ _ rfl rfl
 have e2 : vals 2 = .agg #[.int .u16 p, .int .u16 q, .int .u32 sq, .int .u32 ak, .int .u8 fl, .int .u16 wi, .int .u16 ur, .string o] := hY 2 _ _ rfl rfl
 have e3 : vals 3 = .string S0 := hY 3 _ _ rfl rfl
 have e4 : vals 4 = .pointer (some ⟨w.heap.size, 7, none⟩) := hY 4 _ _ rfl rfl
 have e5 : vals 5 = .string o := hY 5 _ _ rfl rfl
 have e6 : vals 6 = .string d := hY 6 _ _ rfl rfl
 have e8 : vals 8 = .int .u16 C := hY 8 _ _ rfl rfl
 have e9 : vals 9 = .int .u16 C := hY 9 _ _ rfl rfl
 clear hY
 simp only [putAll, Act.put, List.setIfInBounds_toArray, List.set_cons_zero, List.set_cons_succ, e0, e1, e2, e3, e4, e5, e6, e8, e9]
 clear e0 e1 e2 e3 e4 e5 e6 e8 e9
 have hB2 := hB.up hC
 have hu2 := hu.on hC
 clear hB hu hC
 go_upto_region 6 with fail
 refine wp_region_rel2 (fun W => Up ww W) (fun W W' => Up W W') (Ys [Det (.agg #[.int .u16 p, .int .u16 q, .int .u32 sq, .int .u32 ak, .int .u8 fl, .int .u16 wi, .int .u16 ur, .string o]),
   Det (.int .u16 C),
   Det (.string S1),
   Det (.pointer (some ⟨w.heap.size, 7, none⟩)),
   Det (.string o),
   Det (.string A5),
   Det (.string d),
   Det (.string A7),
   Det (.string A7),
   Det (.int .i64 0)]) (by kernel_rfl) (by kernel_rfl) (up_dr bR) (Stable.ys ⟨Det.st _, Det.st _, Det.st _, Det.st _, Det.st _, Det.st _, Det.st _, Det.st _, Det.st _, Det.st _, trivial⟩) ?_ ?_
 ·
  refine oC ?_ ?_
  ·intro aa ww hC hp hv KK hK
   have d6 : aa.tmps.getD 6 undef = .pointer (some ⟨w.heap.size, 0, none⟩) := hv 6 (slotOk_spec (by kernel_rfl))
   have d6_ := gD d6
   clear hp hv
   have hb := hB2.up hC
   have c0 := hb.at 0 rfl; have c1 := hb.at 1 rfl; have c2 := hb.at 2 rfl; have c3 := hb.at 3 rfl; have c4 := hb.at 4 rfl; have c5 := hb.at 5 rfl; have c6 := hb.at 6 rfl; have c7 := hb.at 7 rfl
   simp (config := { decide := true }) [go_sem, opTo, opUpon, *]
   exact hK _ _ rfl hC bR
  refine oC ?_ ?_
  ·intro aa ww hC hp hv KK hK
   have d10 : aa.tmps.getD 10 undef = .int .u16 C := hv 10 (slotOk_spec (by kernel_rfl))
   have d10_ := gD d10
   clear hp hv
   simp (config := { decide := true }) [go_sem, opTo, opUpon, *]
   exact hK _ _ rfl hC bR
  refine oC ?_ ?_
  ·intro aa ww hC hp hv KK hK
   have d44 : aa.tmps.getD 44 undef = .agg #[.int .u16 p, .int .u16 q, .int .u32 sq, .int .u32 ak, .int .u8 fl, .int .u16 wi, .int .u16 ur, .string o] := dep_of hp 0 44 (by kernel_rfl)
   have d45 : aa.tmps.getD 45 undef = .int .u16 C := dep_of hp 1 45 (by kernel_rfl)
   have d44_ := gD d44
   have d45_ := gD d45
   clear hp hv
   (unfold opTo; go_simp; try simp only [opUpon])
   exact (laidC p q sq ak fl wi ur C o _ h c0 c1 hcs).mono fun e w2 h => ⟨_, h.1, hK _ _ (show Value.string _ = Value.string _ by rw [HS1.out]) (Up.on hC h.2) h.2⟩
  refine oC ?_ ?_
  ·intro aa ww hC hp hv KK hK
   have d6 : aa.tmps.getD 6 undef = .pointer (some ⟨w.heap.size, 0, none⟩) := hv 6 (slotOk_spec (by kernel_rfl))
   have d6_ := gD d6
   clear hp hv
   simp (config := { decide := true }) [go_sem, opTo, opUpon, *]
   exact hK _ _ rfl hC bR
  refine oC ?_ ?_
  ·intro aa ww hC hp hv KK hK
   have d47 : aa.tmps.getD 47 undef = .pointer (some ⟨w.heap.size, 7, none⟩) := dep_of hp 3 47 (by kernel_rfl)
   have d47_ := gD d47
   clear hp hv
   have hb := hB2.up hC
   have c7 := hb.at 7 rfl
   simp (config := { decide := true }) [go_sem, opTo, opUpon, *]
   exact hK _ _ rfl hC bR
  refine oC ?_ ?_
  ·intro aa ww hC hp hv KK hK
   have d46 : aa.tmps.getD 46 undef = .string S1 := dep_of hp 2 46 (by kernel_rfl)
   have d48 : aa.tmps.getD 48 undef = .string o := dep_of hp 4 48 (by kernel_rfl)
   have d46_ := gD d46
   have d48_ := gD d48
   clear hp hv
   have hno : ¬ 9223372036854775807 < 20 + o.size := by omega
   (unfold opTo; go_simp; try simp only [opUpon])
   rw [← HA5.out]
   exact hK _ _ rfl hC bR
  refine oC ?_ ?_
  ·intro aa ww hC hp hv KK hK
   have d3 : aa.tmps.getD 3 undef = .string d := hv 3 (slotOk_spec (by kernel_rfl))
   have d3_ := gD d3
   clear hp hv
   simp (config := { decide := true }) [go_sem, opTo, opUpon, *]
   exact hK _ _ rfl hC bR
  refine oC ?_ ?_
  ·intro aa ww hC hp hv KK hK
   have d49 : aa.tmps.getD 49 undef = .string A5 := dep_of hp 5 49 (by kernel_rfl)
   have d50 : aa.tmps.getD 50 undef = .string d := dep_of hp 6 50 (by kernel_rfl)
   have d49_ := gD d49
   have d50_ := gD d50
   clear hp hv
   have hno : ¬ 9223372036854775807 < 20 + o.size + d.size := by omega
   (unfold opTo; go_simp; try simp only [opUpon])
   rw [← HA7.out]
   exact hK _ _ rfl hC bR
  refine oC ?_ ?_
  ·intro aa ww hC hp hv KK hK
   have d51 : aa.tmps.getD 51 undef = .string A7 := dep_of hp 7 51 (by kernel_rfl)
   have d51_ := gD d51
   clear hp hv
   simp (config := { decide := true }) [go_sem, opTo, opUpon, *]
   exact hK _ _ rfl hC bR
  refine oC ?_ ?_
  ·intro aa ww hC hp hv KK hK
   clear hp hv
   simp (config := { decide := true }) [go_sem, opTo, opUpon, *]
   exact hK _ _ rfl hC bR
  exact obligs_nil
 intro vals ww hC hY
 have e0 : vals 0 = .agg #[.int .u16 p, .int .u16 q, .int .u32 sq, .int .u32 ak, .int .u8 fl, .int .u16 wi, .int .u16 ur, .string o] := hY 0 _ _ rfl rfl
 have e1 : vals 1 = .int .u16 C := hY 1 _ _ rfl rfl
 have e2 : vals 2 = .string S1 := hY 2 _ _ rfl rfl
 have e3 : vals 3 = .pointer (some ⟨w.heap.size, 7, none⟩) := hY 3 _ _ rfl rfl
 have e4 : vals 4 = .string o := hY 4 _ _ rfl rfl
 have e5 : vals 5 = .string A5 := hY 5 _ _ rfl rfl
 have e6 : vals 6 = .string d := hY 6 _ _ rfl rfl
 have e7 : vals 7 = .string A7 := hY 7 _ _ rfl rfl
 have e8 : vals 8 = .string A7 := hY 8 _ _ rfl rfl
 have e9 : vals 9 = .int .i64 0 := hY 9 _ _ rfl rfl
 clear hY
 simp only [putAll, Act.put, List.setIfInBounds_toArray, List.set_cons_zero, List.set_cons_succ, e0, e1, e2, e3, e4, e5, e6, e7, e8, e9]
 clear e0 e1 e2 e3 e4 e5 e6 e7 e8 e9
 go_wp2
 go_ret2
 exact ⟨by rw [HE.out, ← HF.out]; rfl, hu2.on hC⟩
theorem encodeC (x y p q sq ak fl wi ur : Nat) (o d : ByteArray) (w : World) (hx : x ≤ 4294967295) (hy : y ≤ 4294967295) (h : Ok p q sq ak fl wi ur) (ho : o.size ≤ 1099511627776) (hd : d.size ≤ 1099511627776) :
  Calls Tryz.prog 25 #[.int .u32 x, .int .u32 y, HV p q sq ak fl wi ur o, .string d] w fun e w' => e = .returned (EV x y p q sq ak fl wi ur o d) ∧ Up w w' := by
 by_cases c0 : o.size % 4 = 0
 case neg => exact encode0 x y p q sq ak fl wi ur o d w hx hy h ho hd c0
 by_cases c1 : o.size ≤ 40
 case neg => exact encode1 x y p q sq ak fl wi ur o d w hx hy h ho hd c0 (by omega)
 by_cases c2 : fl < 64
 case neg => exact encode2 x y p q sq ak fl wi ur o d w hx hy h ho hd c0 c1 (by omega)
 by_cases c : 65515 < 20 + o.size + d.size
 ·exact encode3 x y p q sq ak fl wi ur o d w hx hy h ho hd c0 c1 c2 c
 ·exact encode4 x y p q sq ak fl wi ur o d w hx hy h ho hd c0 c1 c2 c
end Go.Proofs.YtafckmbgefbonaaGreat.tc

namespace Go.Proofs.YtafckmbgefbonaaGreat.tc
open RowKit Shelf sm nb cm

theorem decode0 (x y : Nat) (s : ByteArray) (w : World) (hx : x ≤ 4294967295) (hy : y ≤ 4294967295) (hs : s.size ≤ 1099511627776) (n : Nat) (hn : dec x y (L s) = n) (h0 : n ≠ 0) :
  Calls Tryz.prog 37 #[.int .u32 x, .int .u32 y, .string s] w fun e w' => e = .returned (DV x y (L s)) ∧ Up w w' := by
 have HD := Lib.hid (DV_err hn h0)
 have HN := Lib.hid hn; clear hn
 have i0 : ¬ (n : Int) = 0 := by omega
 go_enter Tryz.func37, Tryz.ntmps37
 go_upto_region 1 with fail
 have hB := Box.new w #[.int .u16 0, .int .u16 0, .int .u32 0, .int .u32 0, .int .u8 0, .int .u16 0, .int .u16 0, .string { data := #[] }] 55
 have hu : Up w (w.alloc (.cells #[.int .u16 0, .int .u16 0, .int .u32 0, .int .u32 0, .int .u8 0, .int .u16 0, .int .u16 0, .string { data := #[] }] 55)) := up_al _ bR
 generalize (w.alloc (.cells #[.int .u16 0, .int .u16 0, .int .u32 0, .int .u32 0, .int .u8 0, .int .u16 0, .int .u16 0, .string { data := #[] }] 55)) = w0 at hB hu ⊢
 go_wp2_with fail
 refine (faultC x y s w0 hx hy hs).mono ?_
 rintro e w1 ⟨rfl, hv⟩
 rw [HN.out]
 have hB2 := hB.up hv
 have hu2 := hu.on hv
 clear hB hu hv
 obtain ⟨k0, k1, k2, k3, k4, k5, k6, k7, f0, f1, f2, f3, f4, f5, f6, f7⟩ := Box.c8 hB2
 go_wp2_with fail
 have hBB := put8 hB2 (.int .u16 0) (.int .u16 0) (.int .u32 0) (.int .u32 0) (.int .u8 0) (.int .u16 0) (.int .u16 0) (.string { data := #[] })
 have huu := ups8 (b := w.heap.size) hu2 (Nat.le_refl _) (.int .u16 0) (.int .u16 0) (.int .u32 0) (.int .u32 0) (.int .u8 0) (.int .u16 0) (.int .u16 0) (.string { data := #[] })
 generalize World.setCell _ ⟨w.heap.size, 7, none⟩ _ = W3 at hBB huu ⊢
 clear k0 k1 k2 k3 k4 k5 k6 k7 f0 f1 f2 f3 f4 f5 f6 f7 hB2 hu2
 obtain ⟨k0, k1, k2, k3, k4, k5, k6, k7, f0, f1, f2, f3, f4, f5, f6, f7⟩ := Box.c8 hBB
 (try simp only [Exit.inBlock, Exit.then])
 refine bodyPost_ret (v := .tuple #[HV 0 0 0 0 0 0 0 { data := #[] }, .string { data := #[] }, .int .i64 n]) ?_ rfl ⟨congrArg Ending.returned HD.out.symm, huu⟩
 rw [results_cell_tmp2 rfl]; go_simp
theorem decode1 (x y : Nat) (s : ByteArray) (w : World) (hx : x ≤ 4294967295) (hy : y ≤ 4294967295) (hs : s.size ≤ 1099511627776) (hn : dec x y (L s) = 0) :
  Calls Tryz.prog 37 #[.int .u32 x, .int .u32 y, .string s] w fun e w' => e = .returned (DV x y (L s)) ∧ Up w w' := by
 have HD := Lib.hid (DV_ok hn)
 obtain ⟨c0, c1, c2, c3, c4⟩ := dec_is0 hn
 have h20 : 20 ≤ s.size := by rw [L_len] at c0; omega
 obtain ⟨N, hN⟩ := Int.eq_ofNat_of_zero_le (show 0 ≤ hl (L s) by omega)
 rw [hN, L_len] at c3
 have hN20 : 20 ≤ N := by omega
 have hNs : N ≤ s.size := by omega
 have i8 : (N : Int) ≤ (s.size : Int) := by omega
 obtain ⟨X, hX⟩ : ∃ X, X = tx (((L s).drop 20).take ((hl (L s)).toNat - 20)) := ⟨_, rfl⟩
 have HTV : Hid (TV (L s) = HV (wd (L s) 0) (wd (L s) 2) (qd (L s) 4) (qd (L s) 8) (bt (L s) 13) (wd (L s) 14) (wd (L s) 18) X) := by unfold Hid TV; rw [hX]
 clear hX
 have hDT : tx ((L s).drop (hl (L s)).toNat) = s.extract N s.size := by
  rw [hN, Int.toNat_natCast, tx_extract, List.take_of_length_le (by rw [List.length_drop, L_len]; exact Nat.le_refl _)]
 have HDT := Lib.hid hDT; clear hDT
 have zE : (s.extract N s.size).size ≤ 1099511627776 := by simp; omega
 have HN := Lib.hid hN
 have HF := Lib.hid (fun w => readC s w hs h20 N hN hN20 hNs)
 have H0 := Lib.hid hn
 clear hN hn c0 c1 c2 c3 c4
 go_enter Tryz.func37, Tryz.ntmps37
 go_upto_region 1 with fail
 have hB := Box.new w #[.int .u16 0, .int .u16 0, .int .u32 0, .int .u32 0, .int .u8 0, .int .u16 0, .int .u16 0, .string { data := #[] }] 55
 have hu : Up w (w.alloc (.cells #[.int .u16 0, .int .u16 0, .int .u32 0, .int .u32 0, .int .u8 0, .int .u16 0, .int .u16 0, .string { data := #[] }] 55)) := up_al _ bR
 generalize (w.alloc (.cells #[.int .u16 0, .int .u16 0, .int .u32 0, .int .u32 0, .int .u8 0, .int .u16 0, .int .u16 0, .string { data := #[] }] 55)) = w0 at hB hu ⊢
 go_wp2_with fail
 refine (faultC x y s w0 hx hy hs).mono ?_
 rintro e w1 ⟨rfl, hv⟩
 rw [H0.out]
 have hB2 := hB.up hv
 have hu2 := hu.on hv
 clear hB hu hv
 go_wp2_with fail
 refine (HF.out _).mono ?_
 rintro e w2 ⟨rfl, hv⟩
 rw [HTV.out]
 have hB3 := hB2.up hv
 have hu3 := hu2.on hv
 clear hB2 hu2 hv
 go_wp2_with fail
 refine (start_at s _ hs (by omega)).mono ?_
 rintro e w3 ⟨rfl, rfl⟩
 rw [HN.out]
 go_wp2_with fail
 refine (cloneC _ _ zE).mono ?_
 rintro e w4 ⟨rfl, hv⟩
 have hB4 := hB3.up hv
 have hu4 := hu3.on hv
 clear hB3 hu3 hv
 obtain ⟨k0, k1, k2, k3, k4, k5, k6, k7, f0, f1, f2, f3, f4, f5, f6, f7⟩ := Box.c8 hB4
 go_wp2_with fail
 have hBB := put8 hB4 (.int .u16 (wd (L s) 0)) (.int .u16 (wd (L s) 2)) (.int .u32 (qd (L s) 4)) (.int .u32 (qd (L s) 8)) (.int .u8 (bt (L s) 13)) (.int .u16 (wd (L s) 14)) (.int .u16 (wd (L s) 18)) (.string X)
 have huu := ups8 (b := w.heap.size) hu4 (Nat.le_refl _) (.int .u16 (wd (L s) 0)) (.int .u16 (wd (L s) 2)) (.int .u32 (qd (L s) 4)) (.int .u32 (qd (L s) 8)) (.int .u8 (bt (L s) 13)) (.int .u16 (wd (L s) 14)) (.int .u16 (wd (L s) 18)) (.string X)
 generalize World.setCell _ ⟨w.heap.size, 7, none⟩ _ = W3 at hBB huu ⊢
 clear k0 k1 k2 k3 k4 k5 k6 k7 f0 f1 f2 f3 f4 f5 f6 f7 hB4 hu4
 obtain ⟨k0, k1, k2, k3, k4, k5, k6, k7, f0, f1, f2, f3, f4, f5, f6, f7⟩ := Box.c8 hBB
 (try simp only [Exit.inBlock, Exit.then])
 refine bodyPost_ret (v := .tuple #[HV (wd (L s) 0) (wd (L s) 2) (qd (L s) 4) (qd (L s) 8) (bt (L s) 13) (wd (L s) 14) (wd (L s) 18) X, .string (s.extract N s.size), .int .i64 0]) ?_ rfl ⟨?_, huu⟩
 ·rw [results_cell_tmp2 rfl]; go_simp
 ·rw [HD.out, HTV.out, HDT.out]
theorem decC : DecC := fun x y s w hx hy hs => by
 by_cases h : dec x y (L s) = 0
 ·exact decode1 x y s w hx hy hs h
 ·exact decode0 x y s w hx hy hs _ rfl h
end Go.Proofs.YtafckmbgefbonaaGreat.tc
