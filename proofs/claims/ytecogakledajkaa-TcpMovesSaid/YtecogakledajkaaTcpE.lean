/- Package tcp: a head's bytes, a segment's checksum, where its data begins. Condition: the arguments fit their kinds. -/
import Derived.Test.YtecogakledajkaaTcpG
import Derived.Test.YtecogakledajkaaNetSumC
import Derived.Test.YtecogakledajkaaNetWire
import Derived.Shelf.Strconv.Clone
namespace Go.Proofs.Ytecogakledajkaa.tc
open Go.RowKit Go.Shelf Go.Proofs.Ytecogakledajkaa.sm Go.Proofs.Ytecogakledajkaa.nb Go.Proofs.Ytecogakledajkaa.cm
set_option linter.unusedVariables false

theorem out_own {w : World} {B : Nat} {v : Value} {xs ys : List UInt8} (h : OwnB w B v xs) (e : xs = ys) : OwnB w B v ys := e ▸ h
/-- a head's bytes, ahead of its options -/
def hdb (p q sq ak fl wi ur n c : Nat) : List UInt8 := pre p q sq ak fl wi n ++ (B16 c ++ B16 ur)
theorem hdb_len (p q sq ak fl wi ur n c : Nat) : (hdb p q sq ak fl wi ur n c).length = 20 := rfl
theorem hdb_rw (p q sq ak fl wi ur c : Nat) (o d : List UInt8) : hdb p q sq ak fl wi ur o.length c ++ (o ++ d) = rw_ p q sq ak fl wi ur o d c := by
  unfold hdb rw_; simp only [List.append_assoc]
set_option maxHeartbeats 4000000 in
set_option maxRecDepth 100000 in
theorem laidC (p q sq ak fl wi ur c : Nat) (o : ByteArray) (w : World) (h : Ok p q sq ak fl wi ur) (h4 : o.size % 4 = 0) (ho : o.size ≤ 40) (hc : c ≤ 65535) :
    Calls Try.prog 13 #[HV p q sq ak fl wi ur o, .int .u16 c] w fun e w' => e = .returned (.string (tx (hdb p q sq ak fl wi ur o.size c))) ∧ Up w w' := by
  obtain ⟨hp, hq, hsq, hak, hfl, hwi, hur⟩ := h
  obtain ⟨m, hm⟩ : ∃ m : Nat, m = (20 + o.size) / 4 * 16 := ⟨_, rfl⟩
  have hmi : (20 + (o.size : Int)) / 4 * 16 = (m : Int) := by omega
  have hm1 : m ≤ 255 := by omega
  have HM := Lib.hid hm; clear hm
  go_enter Try.func13, Try.ntmps13
  go_upto_region 1 with fail
  have hB := Box.new w #[.int .u16 p, .int .u16 q, .int .u32 sq, .int .u32 ak, .int .u8 fl, .int .u16 wi, .int .u16 ur, .string o] 25
  have hu : Up w (w.alloc (.cells #[.int .u16 p, .int .u16 q, .int .u32 sq, .int .u32 ak, .int .u8 fl, .int .u16 wi, .int .u16 ur, .string o] 25)) := up_al _ (Below.refl _ _)
  have hz : w.heap.size + 1 ≤ (w.alloc (.cells #[.int .u16 p, .int .u16 q, .int .u32 sq, .int .u32 ak, .int .u8 fl, .int .u16 wi, .int .u16 ur, .string o] 25)).heap.size := by simp
  generalize (w.alloc (.cells #[.int .u16 p, .int .u16 q, .int .u32 sq, .int .u32 ak, .int .u8 fl, .int .u16 wi, .int .u16 ur, .string o] 25)) = w0 at hB hu hz ⊢
  have k1 := hB.at 0 rfl
  go_wp2_with fail
  refine (lay16 (w.heap.size + 1) _ _ p _ hp (OwnB.nil_ _ _) (by simp [B16, B32]) hz).mono ?_
  rintro e w1 ⟨⟨v1, rfl, ho1⟩, hb1⟩
  have hz1 := Nat.le_trans hz hb1.size
  have hB1 := hB.below hb1 (Nat.lt_succ_self _)
  have hu1 : Up w w1 := Below.trans hu (hb1.mono (Nat.le_succ _))
  clear k1 hB hz hb1 hu
  have k2 := hB1.at 1 rfl
  go_wp2_with fail
  refine (lay16 (w.heap.size + 1) _ _ q _ hq ho1 (by simp [B16, B32]) hz1).mono ?_
  rintro e w2 ⟨⟨v2, rfl, ho2⟩, hb2⟩
  have hz2 := Nat.le_trans hz1 hb2.size
  have hB2 := hB1.below hb2 (Nat.lt_succ_self _)
  have hu2 : Up w w2 := Below.trans hu1 (hb2.mono (Nat.le_succ _))
  clear k2 ho1 hB1 hz1 hb2 hu1
  have k3 := hB2.at 2 rfl
  go_wp2_with fail
  refine (lay32 (w.heap.size + 1) _ _ sq _ hsq ho2 (by simp [B16, B32]) hz2).mono ?_
  rintro e w3 ⟨⟨v3, rfl, ho3⟩, hb3⟩
  have hz3 := Nat.le_trans hz2 hb3.size
  have hB3 := hB2.below hb3 (Nat.lt_succ_self _)
  have hu3 : Up w w3 := Below.trans hu2 (hb3.mono (Nat.le_succ _))
  clear k3 ho2 hB2 hz2 hb3 hu2
  have k4 := hB3.at 3 rfl
  go_wp2_with fail
  refine (lay32 (w.heap.size + 1) _ _ ak _ hak ho3 (by simp [B16, B32]) hz3).mono ?_
  rintro e w4 ⟨⟨v4, rfl, ho4⟩, hb4⟩
  have hz4 := Nat.le_trans hz3 hb4.size
  have hB4 := hB3.below hb4 (Nat.lt_succ_self _)
  have hu4 : Up w w4 := Below.trans hu3 (hb4.mono (Nat.le_succ _))
  clear k4 ho3 hB3 hz3 hb4 hu3
  have k5 := hB4.at 7 rfl
  go_wp2_with fail
  refine (lay8 (w.heap.size + 1) _ _ m _ hm1 ho4 (by simp [B16, B32]) hz4).mono ?_
  rintro e w5 ⟨⟨v5, rfl, ho5⟩, hb5⟩
  have hz5 := Nat.le_trans hz4 hb5.size
  have hB5 := hB4.below hb5 (Nat.lt_succ_self _)
  have hu5 : Up w w5 := Below.trans hu4 (hb5.mono (Nat.le_succ _))
  clear k5 ho4 hB4 hz4 hb5 hu4
  have k6 := hB5.at 4 rfl
  go_wp2_with fail
  refine (lay8 (w.heap.size + 1) _ _ fl _ hfl ho5 (by simp [B16, B32]) hz5).mono ?_
  rintro e w6 ⟨⟨v6, rfl, ho6⟩, hb6⟩
  have hz6 := Nat.le_trans hz5 hb6.size
  have hB6 := hB5.below hb6 (Nat.lt_succ_self _)
  have hu6 : Up w w6 := Below.trans hu5 (hb6.mono (Nat.le_succ _))
  clear k6 ho5 hB5 hz5 hb6 hu5
  have k7 := hB6.at 5 rfl
  go_wp2_with fail
  refine (lay16 (w.heap.size + 1) _ _ wi _ hwi ho6 (by simp [B16, B32]) hz6).mono ?_
  rintro e w7 ⟨⟨v7, rfl, ho7⟩, hb7⟩
  have hz7 := Nat.le_trans hz6 hb7.size
  have hB7 := hB6.below hb7 (Nat.lt_succ_self _)
  have hu7 : Up w w7 := Below.trans hu6 (hb7.mono (Nat.le_succ _))
  clear k7 ho6 hB6 hz6 hb7 hu6
  go_wp2_with fail
  refine (lay16 (w.heap.size + 1) _ _ c _ hc ho7 (by simp [B16, B32]) hz7).mono ?_
  rintro e w8 ⟨⟨v8, rfl, ho8⟩, hb8⟩
  have hz8 := Nat.le_trans hz7 hb8.size
  have hB8 := hB7.below hb8 (Nat.lt_succ_self _)
  have hu8 : Up w w8 := Below.trans hu7 (hb8.mono (Nat.le_succ _))
  clear ho7 hB7 hz7 hb8 hu7
  have k9 := hB8.at 6 rfl
  go_wp2_with fail
  refine (lay16 (w.heap.size + 1) _ _ ur _ hur ho8 (by simp [B16, B32]) hz8).mono ?_
  rintro e w9 ⟨⟨v9, rfl, ho9⟩, hb9⟩
  have hz9 := Nat.le_trans hz8 hb9.size
  have hB9 := hB8.below hb9 (Nat.lt_succ_self _)
  have hu9 : Up w w9 := Below.trans hu8 (hb9.mono (Nat.le_succ _))
  clear k9 ho8 hB8 hz8 hb9 hu8
  have hE : ([] ++ B16 p ++ B16 q ++ B32 sq ++ B32 ak ++ [oct m] ++ [oct fl] ++ B16 wi ++ B16 c ++ B16 ur) = hdb p q sq ak fl wi ur o.size c := by
    rw [HM.out]; rfl
  have ho := out_own ho9 hE
  clear ho9 hE
  obtain ⟨g, cap, rfl, hcvN, hcv, hcv1, hcv2⟩ := conv_own ho 20 rfl (by decide)
  go_wp2
  go_ret
  exact ⟨rfl, hu9⟩

theorem ck_ts (x y : Nat) (l : List UInt8) : ck (131070 - ck (wsum (B32 x ++ B32 y ++ [0, 6] ++ B16 l.length)) - ck (wsum l)) = ck (ts x y l) := by
  rw [ck_join _ _ (wsum_bd _).1 (wsum_bd _).1]
  unfold ts
  rw [wsum_append (B32 x ++ B32 y ++ [0, 6] ++ B16 l.length) l (by simp [B32, B16])]
theorem cat_take (ps : List ByteArray) (k : Nat) (h : k < ps.length) : (su.cat (ps.take (k + 1))).length = (su.cat (ps.take k)).length + (ps[k]).size := by
  rw [List.take_succ_eq_append_getElem h]
  have : ∀ l : List ByteArray, ∀ a : ByteArray, (su.cat (l ++ [a])).length = (su.cat l).length + a.size := by
    intro l a
    induction l with
    | nil => show (L a ++ []).length = 0 + a.size; rw [List.append_nil, L_len, Nat.zero_add]
    | cons b t ih => show (L b ++ su.cat (t ++ [a])).length = (L b ++ su.cat t).length + a.size; rw [List.length_append, List.length_append, ih, Nat.add_assoc]
  exact this _ _
theorem cat_le (ps : List ByteArray) : ∀ k, (su.cat (ps.take k)).length ≤ (su.cat ps).length := by
  induction ps with
  | nil => intro k; simp
  | cons a t ih =>
    intro k
    cases k with
    | zero => show 0 ≤ _; omega
    | succ k => show (L a ++ su.cat (t.take k)).length ≤ (L a ++ su.cat t).length; rw [List.length_append, List.length_append]; have := ih k; omega
set_option maxHeartbeats 4000000 in
set_option maxRecDepth 100000 in
theorem checksumC (x y : Nat) (b n cap : Nat) (ps : List ByteArray) (hn : ps.length = n) (hl : n ≤ 1024) (hz : (su.cat ps).length ≤ 65535) (w : World) (hx : x ≤ 4294967295) (hy : y ≤ 4294967295) (hb : b < w.heap.size)
    (hc : ∀ j (h : j < ps.length), w.cell? ⟨b, j, none⟩ = some (.string (ps[j]))) :
    Calls Try.prog 12 #[.int .u32 x, .int .u32 y, .slice (some ⟨b, 0, none⟩) n cap] w fun e w' => e = .returned (.int .u16 (ck (ts x y (su.cat ps)))) ∧ Up w w' := by
  subst hn
  have HC := Lib.hid hc; clear hc
  obtain ⟨N, hN⟩ : ∃ N, N = (su.cat ps).length := ⟨_, rfl⟩
  have hN1 : N ≤ 65535 := by omega
  have HL := Lib.hid (cat_le ps)
  have HN := Lib.hid hN; clear hN
  have hw : IntKind.u16.wrap (N : Int) = (N : Int) := by rw [IntKind.wrap_u16]; omega
  go_enter Try.func12, Try.ntmps12
  go_wp2_with fail
  go_loop [7, 13] (fun s i => ∃ k : Nat, k ≤ ps.length ∧ i = .int .i64 k ∧ Hid (s = .int .i64 ((su.cat (ps.take k)).length : Nat))) (fun _ i => ps.length - (intOf i).toNat)
  case atStart => exact ⟨0, Nat.zero_le _, rfl, rfl⟩
  case round =>
    obtain ⟨k, hk, rfl, hs⟩ := hrel
    obtain rfl := hs.out
    by_cases hlt : k < ps.length
    · have hcx := HC.out k hlt
      have ht := Lib.hid (cat_take ps k hlt)
      have hle := HL.out (k + 1)
      rw [ht.out] at hle
      have hbd : (su.cat (ps.take k)).length + (ps[k]).size ≤ 65535 := by omega
      clear hle
      go_wp2
      go_round
      case rel => exact ⟨k + 1, by omega, by go_num, by unfold Hid; rw [ht.out]; go_num⟩
      case measure => simp [intOf]; omega
    · obtain rfl : k = ps.length := by omega
      rw [List.take_length]
      rw [← HN.out]
      go_wp2_with fail
      refine (lay32 w.heap.size _ _ x _ hx (OwnB.nil_ _ _) (by simp) (Nat.le_refl _)).mono ?_
      rintro e w1 ⟨⟨v1, rfl, ho1⟩, hb1⟩
      go_wp2_with fail
      refine (lay32 w.heap.size _ _ y _ hy ho1 (by simp [B32]) hb1.size).mono ?_
      rintro e w2 ⟨⟨v2, rfl, ho2⟩, hb2⟩
      have u2 := hb1.trans hb2
      clear ho1 hb1 hb2
      go_wp2_with fail
      refine (lay8 w.heap.size _ _ 0 _ (by decide) ho2 (by simp [B32]) u2.size).mono ?_
      rintro e w3 ⟨⟨v3, rfl, ho3⟩, hb3⟩
      have u3 := u2.trans hb3
      clear ho2 hb3 u2
      go_wp2_with fail
      refine (lay8 w.heap.size _ _ 6 _ (by decide) ho3 (by simp [B32]) u3.size).mono ?_
      rintro e w4 ⟨⟨v4, rfl, ho4⟩, hb4⟩
      have u4 := u3.trans hb4
      clear ho3 hb4 u3
      go_wp2_with fail
      refine (lay16 w.heap.size _ _ N _ hN1 ho4 (by simp [B32]) u4.size).mono ?_
      rintro e w5 ⟨⟨v5, rfl, ho5⟩, hb5⟩
      have u5 := u4.trans hb5
      clear ho4 hb5 u4
      obtain ⟨F, hF⟩ : ∃ F, F = B32 x ++ B32 y ++ [0, 6] ++ B16 N := ⟨_, rfl⟩
      have ho := out_own ho5 (show [] ++ B32 x ++ B32 y ++ [oct 0] ++ [oct 6] ++ B16 N = F from hF.symm)
      clear ho5
      have hFl : F.length = 12 := by rw [hF]; rfl
      have HF := Lib.hid hF; clear hF
      obtain ⟨g, cp, rfl, hcvN, hcv, hcv1, hcv2⟩ := conv_own ho 12 hFl (by decide)
      go_wp2_with fail
      refine (of_one _ _ _ (World.cell?_alloc_new _ _ _ _) (by rw [hFl]; decide)).mono ?_
      rintro e w6 ⟨rfl, hb6⟩
      have u6 : Up w w6 := (up_al _ u5).on hb6
      clear u5 hb6 hcvN hcv hcv1 hcv2 ho
      go_wp2_with fail
      refine (su.ofC (some ⟨b, 0, none⟩) ps.length cap ps rfl (by omega) (by omega) _ (fun _ => ⟨b, 0, rfl, Nat.lt_of_lt_of_le hb u6.size, fun j hj => by rw [Nat.zero_add]; exact (u6.cell (p := ⟨b, j, none⟩) hb).trans (HC.out j hj)⟩)).mono ?_
      rintro e w7 ⟨rfl, hb7⟩
      have u7 := u6.on hb7
      clear u6 hb7
      go_wp2_with fail
      refine (su.joinC _ _ _ (ck_bd _ (wsum_bd _).1) (ck_bd _ (wsum_bd _).1)).mono ?_
      rintro e w8 ⟨rfl, hb8⟩
      go_wp2
      go_ret
      exact ⟨ret_int (by rw [HF.out, HN.out, ck_ts]), u7.on hb8⟩
theorem start_at (s : ByteArray) (w : World) (hs : s.size ≤ 1099511627776) (h12 : 12 < s.size) :
    Calls Try.prog 19 #[.string s] w fun e w' => e = .returned (.int .i64 (hl (L s))) ∧ w = w' := by
  have b0 := c_lt s[12]
  have i12 : (12 : Int) < (s.size : Int) := by omega
  have HE : Hid ((s[12].toNat : Int) = bt (L s) 12) := bt_at s 12 h12
  go_enter Try.func19, Try.ntmps19
  go_wp2
  go_ret
  exact ⟨ret_int (by unfold hl; rw [HE.out]), rfl⟩
end Go.Proofs.Ytecogakledajkaa.tc
