/- Package tcp, by the contracts of its Encode and Decode: what the document fixes is so; two laws, walked. Condition: the contracts. -/
import Derived.Test.YtecogakledajkaaTcpC
namespace Go.Proofs.Ytecogakledajkaa.tc
open Go.RowKit Go.Shelf Go.Proofs.Ytecogakledajkaa.sm Go.Proofs.Ytecogakledajkaa.nb Go.Proofs.Ytecogakledajkaa.cm
set_option linter.unusedVariables false

/-- what Encode answers -/
def EncC : Prop := ∀ (x y p q sq ak fl wi ur : Nat) (o d : ByteArray) (w : World), x ≤ 4294967295 → y ≤ 4294967295 → Ok p q sq ak fl wi ur → o.size ≤ 1099511627776 → d.size ≤ 1099511627776 →
    Calls Try.prog 8 #[.int .u32 x, .int .u32 y, HV p q sq ak fl wi ur o, .string d] w fun e w' => e = .returned (EV x y p q sq ak fl wi ur o d) ∧ Up w w'
/-- what Decode answers -/
def DecC : Prop := ∀ (x y : Nat) (s : ByteArray) (w : World), x ≤ 4294967295 → y ≤ 4294967295 → s.size ≤ 1099511627776 →
    Calls Try.prog 10 #[.int .u32 x, .int .u32 y, .string s] w fun e w' => e = .returned (DV x y (L s)) ∧ Up w w'

theorem TV_en {x y p q sq ak fl wi ur : Nat} {o d : List UInt8} (h : Ok p q sq ak fl wi ur) (hm : May fl o.length) : TV (en x y p q sq ak fl wi ur o d) = HV p q sq ak fl wi ur (tx o) := by
  obtain ⟨hp, hq, hsq, hak, hfl, hwi, hur⟩ := h
  unfold TV
  rw [en_hl hm, en_p hp, en_q hq, en_sq hsq, en_ak hak, en_13 hfl, en_wi hwi, en_ur hur, Int.toNat_natCast, Nat.add_sub_cancel_left, en_opts]
theorem DV_en {x y p q sq ak fl wi ur : Nat} {o d : List UInt8} (hx : x ≤ 4294967295) (hy : y ≤ 4294967295) (h : Ok p q sq ak fl wi ur) (hm : May fl o.length) (hz : 20 + o.length + d.length ≤ 65515) :
    DV x y (en x y p q sq ak fl wi ur o d) = .tuple #[HV p q sq ak fl wi ur (tx o), .string (tx d), .int .i64 0] := by
  rw [DV_ok (en_dec hx hy hm hz), TV_en h hm, en_hl hm, Int.toNat_natCast, en_data]
theorem EV_some (x y p q sq ak fl wi ur : Nat) (o d : ByteArray) : ∃ (S : ByteArray) (n : Int), EV x y p q sq ak fl wi ur o d = .tuple #[.string S, .int .i64 n] := by
  unfold EV; split
  · exact ⟨_, _, rfl⟩
  · split
    · exact ⟨_, _, rfl⟩
    · exact ⟨_, _, rfl⟩
theorem DV_some (x y : Nat) (l : List UInt8) : ∃ (x1 x2 x3 x4 x5 x6 x7 : Int) (x8 S : ByteArray) (n : Int), DV x y l = .tuple #[HV x1 x2 x3 x4 x5 x6 x7 x8, .string S, .int .i64 n] := by
  unfold DV TV; split
  · exact ⟨_, _, _, _, _, _, _, _, _, _, rfl⟩
  · exact ⟨_, _, _, _, _, _, _, _, _, _, rfl⟩

abbrev T0 : ByteArray := tx (en 167772161 167772162 1 2 3 0 2 4 0 [] [])
theorem T0_size : T0.size = 20 := by rw [tx_size, en_len]; rfl
theorem ok0 : Ok 1 2 3 0 2 4 0 := by unfold Ok; omega
theorem may0 : May 2 ([] : List UInt8).length := by unfold May; simp
theorem L_nil : L { data := #[] } = [] := rfl
theorem ev0 : EV 167772161 167772162 1 2 3 0 2 4 0 { data := #[] } { data := #[] } = .tuple #[.string T0, .int .i64 0] := by
  rw [EV_ok (by decide) (by decide), L_nil]
theorem enc1 (hE : EncC) (T : ByteArray) (hT : T = T0) (w : World) : Calls Try.prog 8 #[.int .u32 167772161, .int .u32 167772162, HV 1 2 3 0 2 4 0 { data := #[] }, .string { data := #[] }] w fun e w' => e = .returned (.tuple #[.string T, .int .i64 0]) ∧ Up w w' :=
  (hE 167772161 167772162 1 2 3 0 2 4 0 { data := #[] } { data := #[] } w (by decide) (by decide) ok0 (by decide) (by decide)).mono fun e w' h => ⟨by rw [h.1, ev0, hT], h.2⟩
theorem enc2 (hE : EncC) (w : World) : Calls Try.prog 8 #[.int .u32 0, .int .u32 0, HV 0 0 0 0 0 0 0 { data := #[120] }, .string { data := #[] }] w fun e w' => e = .returned (.tuple #[.string { data := #[] }, .int .i64 2]) ∧ Up w w' :=
  (hE 0 0 0 0 0 0 0 0 0 { data := #[120] } { data := #[] } w (by decide) (by decide) (by unfold Ok; omega) (by decide) (by decide)).mono fun e w' h => ⟨by rw [h.1, EV_arg (.inl (by decide))]; rfl, h.2⟩
theorem enc3 (T : ByteArray) (hT : T = T0) (w : World) : Calls Try.prog 9 #[.int .u32 167772161, .int .u32 167772162, HV 1 2 3 0 2 4 0 { data := #[] }, .string { data := #[] }] w fun e w' => e = .returned (.tuple #[.string T, .int .i64 0]) ∧ Up w w' :=
  (refEncode 167772161 167772162 1 2 3 0 2 4 0 { data := #[] } { data := #[] } w (by decide) (by decide) ok0 (by decide) (by decide)).mono fun e w' h => ⟨by rw [h.1, ev0, hT], h.2⟩
theorem dec1 (hD : DecC) (T : ByteArray) (hT : T = T0) (w : World) : Calls Try.prog 10 #[.int .u32 167772161, .int .u32 167772162, .string T] w fun e w' => e = .returned (.tuple #[HV 1 2 3 0 2 4 0 { data := #[] }, .string { data := #[] }, .int .i64 0]) ∧ Up w w' :=
  (hD 167772161 167772162 T w (by decide) (by decide) (by rw [hT, T0_size]; decide)).mono fun e w' h => ⟨by rw [h.1, hT, L_tx, DV_en (by decide) (by decide) ok0 may0 (by decide)]; rfl, h.2⟩
theorem d55 : dec 167772161 167772163 (en 167772161 167772162 1 2 3 0 2 4 0 [] []) = 55 :=
  other_dst 167772161 167772162 167772163 _ (by decide) (by decide) (by decide) (by rw [en_len]; decide) (by rw [en_len]; decide) (en_right (by decide) (by decide) (by decide)) ⟨0, by decide, .inl ⟨by decide, .inl (by decide)⟩⟩
theorem dec2 (hD : DecC) (T : ByteArray) (hT : T = T0) (w : World) : Calls Try.prog 10 #[.int .u32 167772161, .int .u32 167772163, .string T] w fun e w' => e = .returned (.tuple #[HV 0 0 0 0 0 0 0 { data := #[] }, .string { data := #[] }, .int .i64 55]) ∧ Up w w' := by
  have h := hD 167772161 167772163 T w (by decide) (by decide) (by rw [hT, T0_size]; decide)
  rw [hT, L_tx, DV_err d55 (by decide)] at h
  rw [hT]; exact h

set_option maxHeartbeats 4000000 in
set_option maxRecDepth 100000 in
theorem aliveC (hE : EncC) (hD : DecC) (w : World) : Calls Try.prog 7 #[] w fun e w' => e = .returned (.bool true) ∧ Up w w' := by
  obtain ⟨T, hT⟩ : ∃ T, T = T0 := ⟨_, rfl⟩
  have zT : T.size = 20 := by rw [hT]; exact T0_size
  have l13 : 13 < T.size := by omega
  have j13 : (13 : Int) < (T.size : Int) := by omega
  have b13 : ((T[13]'l13).toNat : Int) = 2 := by
    rw [bt_at T 13 l13, hT, L_tx, en_13 (by decide)]; rfl
  have HT := Lib.hid hT; clear hT
  have HE1 := Lib.hid (fun w => enc1 hE T HT.out w)
  have HE2 := Lib.hid (fun w => enc2 hE w)
  have HD1 := Lib.hid (fun w => dec1 hD T HT.out w)
  have HD2 := Lib.hid (fun w => dec2 hD T HT.out w)
  have HE3 := Lib.hid (fun w => enc3 T HT.out w)
  clear hE hD
  go_enter Try.func7, Try.ntmps7
  go_upto_region 2 with fail
  have U0 : Up w (w.alloc (.cells #[.int .u16 1, .int .u16 2, .int .u32 3, .int .u32 0, .int .u8 2, .int .u16 4, .int .u16 0, .string { data := #[] }] 25)) := up_al _ (Below.refl _ _)
  have A0 := Box.new w #[.int .u16 1, .int .u16 2, .int .u32 3, .int .u32 0, .int .u8 2, .int .u16 4, .int .u16 0, .string { data := #[] }] 25
  generalize (w.alloc (.cells #[.int .u16 1, .int .u16 2, .int .u32 3, .int .u32 0, .int .u8 2, .int .u16 4, .int .u16 0, .string { data := #[] }] 25)) = w0 at U0 A0 ⊢
  generalize w.heap.size = n0 at A0 ⊢
  obtain ⟨k0, k1, k2, k3, k4, k5, k6, k7⟩ := Box.e8 A0
  go_wp2_with fail
  refine (HE1.out w0).mono ?_
  rintro e v1 ⟨rfl, hv1⟩
  have U1 := U0.on hv1
  have A1 := A0.up hv1
  clear k0 k1 k2 k3 k4 k5 k6 k7 U0 A0 hv1
  go_wp2_with fail
  refine (HD1.out v1).mono ?_
  rintro e v2 ⟨rfl, hv2⟩
  go_upto_region 4 with fail
  have U3 : Up w (v2.alloc (.cells #[.int .u16 1, .int .u16 2, .int .u32 3, .int .u32 0, .int .u8 2, .int .u16 4, .int .u16 0, .string { data := #[] }] 25)) := up_al _ (U1.on hv2)
  have A3 := (A1.up hv2).alloc (.cells #[.int .u16 1, .int .u16 2, .int .u32 3, .int .u32 0, .int .u8 2, .int .u16 4, .int .u16 0, .string { data := #[] }] 25)
  have B3 := Box.new v2 #[.int .u16 1, .int .u16 2, .int .u32 3, .int .u32 0, .int .u8 2, .int .u16 4, .int .u16 0, .string { data := #[] }] 25
  generalize (v2.alloc (.cells #[.int .u16 1, .int .u16 2, .int .u32 3, .int .u32 0, .int .u8 2, .int .u16 4, .int .u16 0, .string { data := #[] }] 25)) = w3 at U3 A3 B3 ⊢
  generalize v2.heap.size = n1 at B3 ⊢
  clear U1 A1 hv2
  go_wp2_with fail
  refine (HD2.out w3).mono ?_
  rintro e v4 ⟨rfl, hv4⟩
  go_upto_region 5 with fail
  have U5 : Up w (v4.alloc (.cells #[.int .u16 0, .int .u16 0, .int .u32 0, .int .u32 0, .int .u8 0, .int .u16 0, .int .u16 0, .string { data := #[] }] 25)) := up_al _ (U3.on hv4)
  have A5 := (A3.up hv4).alloc (.cells #[.int .u16 0, .int .u16 0, .int .u32 0, .int .u32 0, .int .u8 0, .int .u16 0, .int .u16 0, .string { data := #[] }] 25)
  have B5 := (B3.up hv4).alloc (.cells #[.int .u16 0, .int .u16 0, .int .u32 0, .int .u32 0, .int .u8 0, .int .u16 0, .int .u16 0, .string { data := #[] }] 25)
  generalize (v4.alloc (.cells #[.int .u16 0, .int .u16 0, .int .u32 0, .int .u32 0, .int .u8 0, .int .u16 0, .int .u16 0, .string { data := #[] }] 25)) = w5 at U5 A5 B5 ⊢
  generalize v4.heap.size = n2 at ⊢
  clear U3 A3 B3 hv4
  go_wp2_with fail
  refine (HE2.out w5).mono ?_
  rintro e v6 ⟨rfl, hv6⟩
  have U6 := U5.on hv6
  have A6 := A5.up hv6
  have B6 := B5.up hv6
  clear U5 A5 B5 hv6
  obtain ⟨k0, k1, k2, k3, k4, k5, k6, k7⟩ := Box.e8 A6
  go_wp2_with fail
  refine (HE3.out v6).mono ?_
  rintro e v7 ⟨rfl, hv7⟩
  have U7 := U6.on hv7
  have A7 := A6.up hv7
  have B7 := B6.up hv7
  clear k0 k1 k2 k3 k4 k5 k6 k7 U6 A6 B6 hv7
  obtain ⟨k0, k1, k2, k3, k4, k5, k6, k7⟩ := Box.e8 A7
  obtain ⟨m0, m1, m2, m3, m4, m5, m6, m7⟩ := Box.e8 B7
  go_wp2
  go_ret
  exact ⟨rfl, U7⟩

set_option maxHeartbeats 4000000 in
set_option maxRecDepth 100000 in
theorem lawWrites (hE : EncC) (hD : DecC) (x y p q sq ak fl wi ur : Nat) (o d : ByteArray) (w : World) (hx : x ≤ 4294967295) (hy : y ≤ 4294967295) (h : Ok p q sq ak fl wi ur) (ho : o.size ≤ maxLen) (hd : d.size ≤ maxLen) :
    Calls Try.prog 3 #[.int .u32 x, .int .u32 y, HV p q sq ak fl wi ur o, .string d] w fun e w' => e = .returned (.bool true) ∧ Up w w' := by
  have HA := Lib.hid (fun w => aliveC hE hD w)
  by_cases hl1 : 131072 < d.size
  · clear hE hD
    go_enter Try.func3, Try.ntmps3
    go_wp2_with fail
    refine (HA.out _).mono ?_
    rintro e w1 ⟨rfl, hv⟩
    go_wp2
    go_ret
    exact ⟨rfl, (up_al _ (Below.refl _ _)).on hv⟩
  by_cases hl2 : 1024 < o.size
  · clear hE hD
    go_enter Try.func3, Try.ntmps3
    go_wp2_with fail
    refine (HA.out _).mono ?_
    rintro e w1 ⟨rfl, hv⟩
    go_wp2
    go_ret
    exact ⟨rfl, (up_al _ (Below.refl _ _)).on hv⟩
  obtain ⟨S, n, hEV⟩ := EV_some x y p q sq ak fl wi ur o d
  have HEV := Lib.hid hEV; clear hEV
  have HE := Lib.hid (fun w => hE x y p q sq ak fl wi ur o d w hx hy h (by omega) (by omega))
  have HR := Lib.hid (fun w => refEncode x y p q sq ak fl wi ur o d w hx hy h (by omega) (by omega))
  clear hE hD
  go_enter Try.func3, Try.ntmps3
  go_upto_region 1 with fail
  have U0 : Up w (w.alloc (.cells #[.int .u16 p, .int .u16 q, .int .u32 sq, .int .u32 ak, .int .u8 fl, .int .u16 wi, .int .u16 ur, .string o] 25)) := up_al _ (Below.refl _ _)
  have A0 := Box.new w #[.int .u16 p, .int .u16 q, .int .u32 sq, .int .u32 ak, .int .u8 fl, .int .u16 wi, .int .u16 ur, .string o] 25
  generalize (w.alloc (.cells #[.int .u16 p, .int .u16 q, .int .u32 sq, .int .u32 ak, .int .u8 fl, .int .u16 wi, .int .u16 ur, .string o] 25)) = w0 at U0 A0 ⊢
  generalize w.heap.size = n0 at A0 ⊢
  obtain ⟨k0, k1, k2, k3, k4, k5, k6, k7⟩ := Box.e8 A0
  go_wp2_with fail
  refine (HE.out w0).mono ?_
  rintro e v1 ⟨he, hv1⟩
  rw [HEV.out] at he
  subst he
  have U1 := U0.on hv1
  have A1 := A0.up hv1
  clear k0 k1 k2 k3 k4 k5 k6 k7 U0 A0 hv1
  obtain ⟨k0, k1, k2, k3, k4, k5, k6, k7⟩ := Box.e8 A1
  go_wp2_with fail
  refine (HR.out v1).mono ?_
  rintro e v2 ⟨he, hv2⟩
  rw [HEV.out] at he
  subst he
  have U2 := U1.on hv2
  clear k0 k1 k2 k3 k4 k5 k6 k7 U1 A1 hv2
  go_wp2_with fail
  refine (HA.out _).mono ?_
  rintro e w1 ⟨rfl, hv⟩
  go_wp2
  go_ret
  exact ⟨rfl, U2.on hv⟩

set_option maxHeartbeats 4000000 in
set_option maxRecDepth 100000 in
theorem lawReads (hE : EncC) (hD : DecC) (x y : Nat) (s : ByteArray) (w : World) (hx : x ≤ 4294967295) (hy : y ≤ 4294967295) (hl : s.size ≤ maxLen) :
    Calls Try.prog 4 #[.int .u32 x, .int .u32 y, .string s] w fun e w' => e = .returned (.bool true) ∧ Up w w' := by
  have HA := Lib.hid (fun w => aliveC hE hD w)
  by_cases hlong : 131072 < s.size
  · clear hE hD
    go_enter Try.func4, Try.ntmps4
    go_wp2_with fail
    refine (HA.out _).mono ?_
    rintro e w1 ⟨rfl, hv⟩
    go_wp2
    go_ret
    exact ⟨rfl, hv⟩
  obtain ⟨x1, x2, x3, x4, x5, x6, x7, x8, S, n, hDV⟩ := DV_some x y (L s)
  have HDV := Lib.hid hDV; clear hDV
  have HD := Lib.hid (fun w => hD x y s w hx hy (by omega))
  have HR := Lib.hid (fun w => refDecode x y s w hx hy (by omega))
  clear hE hD
  go_enter Try.func4, Try.ntmps4
  go_wp2_with fail
  refine (HD.out w).mono ?_
  rintro e v1 ⟨he, hv1⟩
  rw [HDV.out] at he
  subst he
  go_upto_region 4 with fail
  have U1 : Up w (v1.alloc (.cells #[.int .u16 x1, .int .u16 x2, .int .u32 x3, .int .u32 x4, .int .u8 x5, .int .u16 x6, .int .u16 x7, .string x8] 25)) := up_al _ hv1
  have A1 := Box.new v1 #[.int .u16 x1, .int .u16 x2, .int .u32 x3, .int .u32 x4, .int .u8 x5, .int .u16 x6, .int .u16 x7, .string x8] 25
  generalize (v1.alloc (.cells #[.int .u16 x1, .int .u16 x2, .int .u32 x3, .int .u32 x4, .int .u8 x5, .int .u16 x6, .int .u16 x7, .string x8] 25)) = w1 at U1 A1 ⊢
  generalize v1.heap.size = n1 at A1 ⊢
  clear hv1
  go_wp2_with fail
  refine (HR.out w1).mono ?_
  rintro e v2 ⟨he, hv2⟩
  rw [HDV.out] at he
  subst he
  go_upto_region 5 with fail
  have U2 : Up w (v2.alloc (.cells #[.int .u16 x1, .int .u16 x2, .int .u32 x3, .int .u32 x4, .int .u8 x5, .int .u16 x6, .int .u16 x7, .string x8] 25)) := up_al _ (U1.on hv2)
  have A2 := (A1.up hv2).alloc (.cells #[.int .u16 x1, .int .u16 x2, .int .u32 x3, .int .u32 x4, .int .u8 x5, .int .u16 x6, .int .u16 x7, .string x8] 25)
  have B2 := Box.new v2 #[.int .u16 x1, .int .u16 x2, .int .u32 x3, .int .u32 x4, .int .u8 x5, .int .u16 x6, .int .u16 x7, .string x8] 25
  generalize (v2.alloc (.cells #[.int .u16 x1, .int .u16 x2, .int .u32 x3, .int .u32 x4, .int .u8 x5, .int .u16 x6, .int .u16 x7, .string x8] 25)) = w2 at U2 A2 B2 ⊢
  generalize v2.heap.size = n2 at B2 ⊢
  clear U1 A1 hv2
  obtain ⟨k0, k1, k2, k3, k4, k5, k6, k7⟩ := Box.e8 A2
  obtain ⟨m0, m1, m2, m3, m4, m5, m6, m7⟩ := Box.e8 B2
  go_wp2_with fail
  refine (HA.out _).mono ?_
  rintro e w3 ⟨rfl, hv⟩
  go_wp2
  go_ret
  exact ⟨rfl, U2.on hv⟩
end Go.Proofs.Ytecogakledajkaa.tc
