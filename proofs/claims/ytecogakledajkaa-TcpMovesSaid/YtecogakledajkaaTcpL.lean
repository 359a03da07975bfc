/- A law of tcp, walked over the contracts: what was written is read; a segment of which one bit is turned, or of another address, is not. Condition: the contracts. -/
import Derived.Test.YtecogakledajkaaTcpG
import Derived.Test.YtecogakledajkaaNetRow
namespace Go.Proofs.Ytecogakledajkaa.tc
open Go.RowKit Go.Shelf Go.Proofs.Ytecogakledajkaa.sm Go.Proofs.Ytecogakledajkaa.nb Go.Proofs.Ytecogakledajkaa.cm
set_option linter.unusedVariables false

theorem enS_size {x y p q sq ak fl wi ur : Nat} {o d S : ByteArray} (hS : S = tx (en x y p q sq ak fl wi ur (L o) (L d))) : S.size = 20 + o.size + d.size := by rw [hS, tx_size, en_len, L_len, L_len]
theorem decErr (hD : DecC) (x y : Nat) (T : ByteArray) (n : Nat) (w : World) (hx : x ≤ 4294967295) (hy : y ≤ 4294967295) (hz : T.size ≤ 1099511627776) (hn : dec x y (L T) = n) (h0 : n ≠ 0) :
    Calls Try.prog 10 #[.int .u32 x, .int .u32 y, .string T] w fun e w' => e = .returned (.tuple #[HV 0 0 0 0 0 0 0 { data := #[] }, .string { data := #[] }, .int .i64 n]) ∧ Up w w' :=
  (hD x y T w hx hy hz).mono fun e w' hh => ⟨by rw [hh.1, DV_err hn h0], hh.2⟩
set_option maxHeartbeats 4000000 in
set_option maxRecDepth 100000 in
theorem lawBack0 (hE : EncC) (hD : DecC) (x y p q sq ak fl wi ur : Nat) (o d : ByteArray) (bit other : Nat) (w : World) (hx : x ≤ 4294967295) (hy : y ≤ 4294967295) (h : Ok p q sq ak fl wi ur) (hd : d.size ≤ maxLen) (ho : o.size ≤ maxLen) (hl : 2048 < d.size ∨ (d.size ≤ 2048 ∧ 1024 < o.size)) :
    Calls Try.prog 5 #[.int .u32 x, .int .u32 y, HV p q sq ak fl wi ur o, .string d, .int .u16 bit, .int .u8 other] w fun e w' => e = .returned (.bool true) ∧ Up w w' := by
  have HA := Lib.hid (fun w => aliveC hE hD w)
  clear hE hD
  rcases hl with hl | ⟨hl1, hl⟩
  all_goals
    go_enter Try.func5, Try.ntmps5
    go_wp2_with fail
    refine (HA.out _).mono ?_
    rintro e w1 ⟨rfl, hv⟩
    go_wp2
    go_ret
    exact ⟨rfl, (up_al _ (Below.refl _ _)).on hv⟩
set_option maxHeartbeats 4000000 in
set_option maxRecDepth 100000 in
theorem lawBack1 (hE : EncC) (hD : DecC) (x y p q sq ak fl wi ur : Nat) (o d : ByteArray) (bit other : Nat) (w : World) (hx : x ≤ 4294967295) (hy : y ≤ 4294967295) (h : Ok p q sq ak fl wi ur) (hd : d.size ≤ 2048) (ho : o.size ≤ 1024) (hb : o.size % 4 ≠ 0 ∨ 40 < o.size ∨ 64 ≤ fl) :
    Calls Try.prog 5 #[.int .u32 x, .int .u32 y, HV p q sq ak fl wi ur o, .string d, .int .u16 bit, .int .u8 other] w fun e w' => e = .returned (.bool true) ∧ Up w w' := by
  have HA := Lib.hid (fun w => aliveC hE hD w)
  have HE := Lib.hid (fun w => hE x y p q sq ak fl wi ur o d w hx hy h (by omega) (by omega))
  have HV1 := Lib.hid (EV_arg hb : EV x y p q sq ak fl wi ur o d = _)
  clear hE hD hb
  go_enter Try.func5, Try.ntmps5
  go_upto_region 1 with fail
  have U0 : Up w (w.alloc (.cells #[.int .u16 p, .int .u16 q, .int .u32 sq, .int .u32 ak, .int .u8 fl, .int .u16 wi, .int .u16 ur, .string o] 25)) := up_al _ (Below.refl _ _)
  have A0 := Box.new w #[.int .u16 p, .int .u16 q, .int .u32 sq, .int .u32 ak, .int .u8 fl, .int .u16 wi, .int .u16 ur, .string o] 25
  generalize (w.alloc (.cells #[.int .u16 p, .int .u16 q, .int .u32 sq, .int .u32 ak, .int .u8 fl, .int .u16 wi, .int .u16 ur, .string o] 25)) = w0 at U0 A0 ⊢
  generalize w.heap.size = n0 at A0 ⊢
  obtain ⟨k0, k1, k2, k3, k4, k5, k6, k7⟩ := Box.e8 A0
  go_wp2_with fail
  refine (HE.out w0).mono ?_
  rintro e v1 ⟨he, hv1⟩
  rw [HV1.out] at he
  subst he
  clear k0 k1 k2 k3 k4 k5 k6 k7 A0
  go_wp2_with fail
  refine (HA.out _).mono ?_
  rintro e w1 ⟨rfl, hv⟩
  go_wp2
  go_ret
  exact ⟨rfl, (U0.on hv1).on hv⟩

set_option maxHeartbeats 4000000 in
set_option maxRecDepth 100000 in
theorem lawBack2 (hE : EncC) (hD : DecC) (x y p q sq ak fl wi ur : Nat) (o d : ByteArray) (bit other : Nat) (w : World) (hx : x ≤ 4294967295) (hy : y ≤ 4294967295) (h : Ok p q sq ak fl wi ur) (hd : d.size ≤ 2048) (ho : o.size ≤ 1024) (hb : ¬ (o.size % 4 ≠ 0 ∨ 40 < o.size ∨ 64 ≤ fl)) (hbit : bit ≤ 65535) (hoth : other ≤ 255) :
    Calls Try.prog 5 #[.int .u32 x, .int .u32 y, HV p q sq ak fl wi ur o, .string d, .int .u16 bit, .int .u8 other] w fun e w' => e = .returned (.bool true) ∧ Up w w' := by
  have HA := Lib.hid (fun w => aliveC hE hD w)
  have hm : May fl (L o).length := by unfold May; rw [L_len]; omega
  have hz0 : 20 + (L o).length + (L d).length ≤ 65515 := by rw [L_len, L_len]; omega
  obtain ⟨S, hS⟩ : ∃ S, S = tx (en x y p q sq ak fl wi ur (L o) (L d)) := ⟨_, rfl⟩
  have hzS := enS_size hS
  have hLS : L S = en x y p q sq ak fl wi ur (L o) (L d) := by rw [hS, L_tx]
  have hright : ck (ts x y (L S)) = 0 := by rw [hLS]; exact en_right hx hy hz0
  obtain ⟨n, hn⟩ : ∃ n, n = S.size := ⟨_, rfl⟩
  have hn1 : 20 ≤ n ∧ n ≤ 3092 := by omega
  have hlS : (L S).length = n := by rw [L_len, hn]
  -- the bit that is turned
  obtain ⟨k, hk⟩ : ∃ k, k = bit % (8 * n) := ⟨_, rfl⟩
  have hk1 : k < 8 * n := by rw [hk]; exact Nat.mod_lt _ (by omega)
  have hkI : (bit : Int) % (8 * (n : Int)) = (k : Int) := by rw [hk]; simp
  obtain ⟨j, hj⟩ : ∃ j, j = k / 8 := ⟨_, rfl⟩
  have hj1 : j < n := by omega
  have hjI : (k : Int) / 8 = (j : Int) := by omega
  obtain ⟨m, hmk⟩ : ∃ m, m = k % 8 := ⟨_, rfl⟩
  have hm1 : m < 8 := by omega
  have hmI : (k : Int) % 8 = (m : Int) := by omega
  have hjS : j < S.size := by omega
  obtain ⟨u, hu⟩ : ∃ u : Nat, (u : Int) = bt (L S) j := ⟨(bt (L S) j).toNat, by have := bt_bd (L S) j; omega⟩
  have hu1 : u ≤ 255 := by have := bt_bd (L S) j; omega
  obtain ⟨v, hv1, hv, hvb⟩ := flip8 u m hu1 hm1
  have hnx : (nums S).getD j 0 = (u : Int) := by rw [nums_at S j hjS, hu]
  obtain ⟨T, hT⟩ : ∃ T, T = strOfNums ((nums S).set j v) := ⟨_, rfl⟩
  have hLT : L T = (L S).set j (UInt8.ofNat v) := by rw [hT]; exact set_str1 S j v hv1
  have zT : T.size = n := by rw [← L_len, hLT, List.length_set, L_len, hn]
  have hvN : (UInt8.ofNat v).toNat = v := by rw [UInt8.toNat_ofNat']; omega
  have hdT : dec x y (L T) = 55 := by
    rw [hLT]
    exact hurt x y (L S) j (UInt8.ofNat v) hx hy (by omega) (by omega) (by omega) hright ⟨m, hm1, by rw [hvN, ← hu]; exact hvb⟩
  -- other addresses
  obtain ⟨r, hr⟩ : ∃ r, r = other % 32 := ⟨_, rfl⟩
  have hr1 : r < 32 := by omega
  have hrI : (other : Int) % 32 = (r : Int) := by omega
  obtain ⟨x', hx1, hxx, hxb⟩ := flip32 x r hx hr1
  obtain ⟨y', hy1, hyy, hyb⟩ := flip32 y r hy hr1
  have hdX : dec x' y (L S) = 55 := other_src x y x' (L S) hx hx1 hy (by omega) (by omega) hright hxb
  have hdY : dec x y' (L S) = 55 := other_dst x y y' (L S) hx hy hy1 (by omega) (by omega) hright hyb
  have CD := Lib.hid (fun w => show Calls Try.prog 10 #[.int .u32 x, .int .u32 y, .string S] w fun e w' => e = .returned (.tuple #[HV p q sq ak fl wi ur o, .string d, .int .i64 0]) ∧ Up w w' from
    (hD x y S w hx hy (by omega)).mono fun e w' hh => ⟨by rw [hh.1, hLS, DV_en hx hy h hm hz0, tx_L, tx_L], hh.2⟩)
  have CT := Lib.hid (fun w => decErr hD x y T 55 w hx hy (by omega) hdT (by decide))
  have CX := Lib.hid (fun w => decErr hD x' y S 55 w hx1 hy (by omega) hdX (by decide))
  have CY := Lib.hid (fun w => decErr hD x y' S 55 w hx hy1 (by omega) hdY (by decide))
  have CE := Lib.hid (fun w => show Calls Try.prog 8 #[.int .u32 x, .int .u32 y, HV p q sq ak fl wi ur o, .string d] w fun e w' => e = .returned (.tuple #[.string S, .int .i64 0]) ∧ Up w w' from
    (hE x y p q sq ak fl wi ur o d w hx hy h (by omega) (by omega)).mono fun e w' hh => ⟨by rw [hh.1, EV_ok hb (by omega), hS], hh.2⟩)
  have HT := Lib.hid hT
  have zS : S.size = n := hn.symm
  clear hE hD hb hm hz0 hS hzS hLS hright hlS hk hk1 hj hmk hu hvb hLT hvN hdT hr hxb hyb hdX hdY hT hn hv1
  go_enter Try.func5, Try.ntmps5
  go_upto_region 1 with fail
  have U0 : Up w (w.alloc (.cells #[.int .u16 p, .int .u16 q, .int .u32 sq, .int .u32 ak, .int .u8 fl, .int .u16 wi, .int .u16 ur, .string o] 25)) := up_al _ (Below.refl _ _)
  have A0 := Box.new w #[.int .u16 p, .int .u16 q, .int .u32 sq, .int .u32 ak, .int .u8 fl, .int .u16 wi, .int .u16 ur, .string o] 25
  generalize (w.alloc (.cells #[.int .u16 p, .int .u16 q, .int .u32 sq, .int .u32 ak, .int .u8 fl, .int .u16 wi, .int .u16 ur, .string o] 25)) = w0 at U0 A0 ⊢
  generalize w.heap.size = n0 at A0 ⊢
  obtain ⟨k0, k1, k2, k3, k4, k5, k6, k7⟩ := Box.e8 A0
  go_wp2_with fail
  refine (CE.out w0).mono ?_
  rintro e v1 ⟨rfl, hv1⟩
  have U1 := U0.on hv1
  have A1 := A0.up hv1
  clear k0 k1 k2 k3 k4 k5 k6 k7 U0 A0 hv1
  go_wp2_with fail
  refine (CD.out v1).mono ?_
  rintro e v2 ⟨rfl, hv2⟩
  go_upto_region 7 with fail
  have U2 : Up w (v2.alloc (.cells #[.int .u16 p, .int .u16 q, .int .u32 sq, .int .u32 ak, .int .u8 fl, .int .u16 wi, .int .u16 ur, .string o] 25)) := up_al _ (U1.on hv2)
  have A2 := (A1.up hv2).alloc (.cells #[.int .u16 p, .int .u16 q, .int .u32 sq, .int .u32 ak, .int .u8 fl, .int .u16 wi, .int .u16 ur, .string o] 25)
  have B2 := Box.new v2 #[.int .u16 p, .int .u16 q, .int .u32 sq, .int .u32 ak, .int .u8 fl, .int .u16 wi, .int .u16 ur, .string o] 25
  generalize (v2.alloc (.cells #[.int .u16 p, .int .u16 q, .int .u32 sq, .int .u32 ak, .int .u8 fl, .int .u16 wi, .int .u16 ur, .string o] 25)) = w2 at U2 A2 B2 ⊢
  generalize v2.heap.size = n1 at B2 ⊢
  clear U1 A1 hv2
  obtain ⟨k0, k1, k2, k3, k4, k5, k6, k7⟩ := Box.e8 A2
  obtain ⟨m0, m1, m2, m3, m4, m5, m6, m7⟩ := Box.e8 B2
  go_upto_region 9 with fail
  clear k0 k1 k2 k3 k4 k5 k6 k7 m0 m1 m2 m3 m4 m5 m6 m7 A2 B2
  obtain ⟨cap, W, hcv, hUW, hRow⟩ := conv_in S w2
  rw [zS] at hcv
  have U3 := U2.on hUW
  have hrg := (hRow j (by rw [nums_len]; exact hjS))
  rw [hnx] at hrg
  obtain ⟨d1, f1⟩ := hrg
  go_upto_region 12 with fail
  have hR1 := hRow.set j (v : Int) (by rw [nums_len]; exact hjS)
  have U4 : Up w (W.setCell ⟨w2.heap.size, j, none⟩ (.int .u8 (v : Int))) := up_set U3 U2.size
  generalize W.setCell ⟨w2.heap.size, j, none⟩ (.int .u8 (v : Int)) = w4 at hR1 U4 ⊢
  have hbk := row_back0 hR1 n cap (by rw [List.length_set, nums_len, zS])
  rw [← HT.out] at hbk
  clear hcv hUW hRow U3 d1 f1 hR1 U2 hv
  generalize w2.heap.size = n2 at hbk ⊢
  go_wp2_with fail
  refine (CT.out _).mono ?_
  rintro e v5 ⟨rfl, hv5⟩
  go_upto_region 13 with fail
  have U5 : Up w (v5.alloc (.cells #[.int .u16 0, .int .u16 0, .int .u32 0, .int .u32 0, .int .u8 0, .int .u16 0, .int .u16 0, .string { data := #[] }] 25)) := up_al _ (U4.on hv5)
  generalize (v5.alloc (.cells #[.int .u16 0, .int .u16 0, .int .u32 0, .int .u32 0, .int .u8 0, .int .u16 0, .int .u16 0, .string { data := #[] }] 25)) = w5 at U5 ⊢
  clear U4 hv5 hbk
  go_wp2_with fail
  refine (CX.out _).mono ?_
  rintro e v6 ⟨rfl, hv6⟩
  go_upto_region 14 with fail
  have U6 : Up w (v6.alloc (.cells #[.int .u16 0, .int .u16 0, .int .u32 0, .int .u32 0, .int .u8 0, .int .u16 0, .int .u16 0, .string { data := #[] }] 25)) := up_al _ (U5.on hv6)
  generalize (v6.alloc (.cells #[.int .u16 0, .int .u16 0, .int .u32 0, .int .u32 0, .int .u8 0, .int .u16 0, .int .u16 0, .string { data := #[] }] 25)) = w6 at U6 ⊢
  clear U5 hv6
  go_wp2_with fail
  refine (CY.out _).mono ?_
  rintro e v7 ⟨rfl, hv7⟩
  go_upto_region 15 with fail
  have U7 : Up w (v7.alloc (.cells #[.int .u16 0, .int .u16 0, .int .u32 0, .int .u32 0, .int .u8 0, .int .u16 0, .int .u16 0, .string { data := #[] }] 25)) := up_al _ (U6.on hv7)
  generalize (v7.alloc (.cells #[.int .u16 0, .int .u16 0, .int .u32 0, .int .u32 0, .int .u8 0, .int .u16 0, .int .u16 0, .string { data := #[] }] 25)) = w7 at U7 ⊢
  clear U6 hv7
  go_wp2_with fail
  refine (HA.out _).mono ?_
  rintro e w8 ⟨rfl, hv8⟩
  go_wp2
  go_ret
  exact ⟨rfl, U7.on hv8⟩

theorem lawBack (hE : EncC) (hD : DecC) (x y p q sq ak fl wi ur : Nat) (o d : ByteArray) (bit other : Nat) (w : World) (hx : x ≤ 4294967295) (hy : y ≤ 4294967295) (h : Ok p q sq ak fl wi ur) (hd : d.size ≤ maxLen) (ho : o.size ≤ maxLen) (hbit : bit ≤ 65535) (hoth : other ≤ 255) :
    Calls Try.prog 5 #[.int .u32 x, .int .u32 y, HV p q sq ak fl wi ur o, .string d, .int .u16 bit, .int .u8 other] w fun e w' => e = .returned (.bool true) ∧ Up w w' := by
  by_cases h1 : d.size ≤ 2048
  case neg => exact lawBack0 hE hD x y p q sq ak fl wi ur o d bit other w hx hy h hd ho (.inl (by omega))
  by_cases h2 : o.size ≤ 1024
  case neg => exact lawBack0 hE hD x y p q sq ak fl wi ur o d bit other w hx hy h hd ho (.inr ⟨h1, by omega⟩)
  by_cases hb : o.size % 4 ≠ 0 ∨ 40 < o.size ∨ 64 ≤ fl
  · exact lawBack1 hE hD x y p q sq ak fl wi ur o d bit other w hx hy h h1 h2 hb
  · exact lawBack2 hE hD x y p q sq ak fl wi ur o d bit other w hx hy h h1 h2 hb hbit hoth
end Go.Proofs.Ytecogakledajkaa.tc
