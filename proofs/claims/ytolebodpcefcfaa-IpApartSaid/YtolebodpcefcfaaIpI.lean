/- Package ip: what the document fixes is so. Condition: none. -/
import Derived.Test.YtolebodpcefcfaaIpH
namespace Go.Proofs.Ytolebodpcefcfaa.ip
open Go.RowKit Go.Shelf Go.Proofs.Ytolebodpcefcfaa.sm Go.Proofs.Ytolebodpcefcfaa.nb Go.Proofs.Ytolebodpcefcfaa.im
set_option linter.unusedVariables false

theorem DV_en {a b p t s i : Nat} {d : Bool} {l : List UInt8} (h : Ok a b p t s i) (hl : l.length ≤ 65515) :
    DV (en a b p t s i d l) = .tuple #[HV a b p t s i d, .string (tx l), .int .i64 0] := by
  rw [DV_ok (en_dec hl), en_drop]
  show Value.tuple #[HV (qd _ 12) (qd _ 16) (bt _ 9) (bt _ 8) (bt _ 1) (wd _ 4) (decide (wd _ 6 ≠ 0)), _, _] = _
  rw [en_src h, en_dst h, en_proto h, en_ttl h, en_tos h, en_id h, en_6]
  cases d <;> rfl
abbrev T0 : ByteArray := tx (en 167772161 167772162 6 64 0 0 false [108, 111, 97, 100])
theorem T0_size : T0.size = 24 := by rw [tx_size, en_len]; rfl
theorem ok0 : Ok 167772161 167772162 6 64 0 0 := by unfold Ok; omega
theorem enc1 (T : ByteArray) (hT : T = T0) (w : World) : Calls Try.prog 8 #[HV 167772161 167772162 6 64 0 0 false, .string { data := #[108, 111, 97, 100] }] w fun e w' => e = .returned (.tuple #[.string T, .int .i64 0]) ∧ Up w w' :=
  (encodeC 167772161 167772162 6 64 0 0 false { data := #[108, 111, 97, 100] } w ok0 (by decide)).mono fun e w' h => ⟨by rw [h.1, EV_ok (by decide), hT], h.2⟩
theorem N0 : tx (en 167772161 167772162 6 64 0 0 false []) = { data := #[69, 0, 0, 20, 0, 0, 0, 0, 64, 6, 102, 226, 10, 0, 0, 1, 10, 0, 0, 2] } := by
  have : en 167772161 167772162 6 64 0 0 false [] = [69, 0, 0, 20, 0, 0, 0, 0, 64, 6, 102, 226, 10, 0, 0, 1, 10, 0, 0, 2] := by decide +kernel
  rw [this]; rfl
theorem enc2 (w : World) : Calls Try.prog 8 #[HV 167772161 167772162 6 64 0 0 false, .string { data := #[] }] w fun e w' => e = .returned (.tuple #[.string { data := #[69, 0, 0, 20, 0, 0, 0, 0, 64, 6, 102, 226, 10, 0, 0, 1, 10, 0, 0, 2] }, .int .i64 0]) ∧ Up w w' :=
  (encodeC 167772161 167772162 6 64 0 0 false { data := #[] } w ok0 (by decide)).mono fun e w' h => ⟨by rw [h.1, EV_ok (by decide), show L { data := #[] } = [] from rfl, N0], h.2⟩
theorem dec1 (T : ByteArray) (hT : T = T0) (w : World) : Calls Try.prog 10 #[.string T] w fun e w' => e = .returned (.tuple #[HV 167772161 167772162 6 64 0 0 false, .string { data := #[108, 111, 97, 100] }, .int .i64 0]) ∧ Up w w' :=
  (decodeC T w (by rw [hT, T0_size]; decide)).mono fun e w' h => ⟨by rw [h.1, hT, L_tx, DV_en ok0 (by decide)]; rfl, h.2⟩
theorem dv2 (a b p t s i : Nat) (d : Bool) (l : List UInt8) (hl : l.length ≤ 65515) (x : UInt8) : DV (en a b p t s i d l ++ [x]) = .tuple #[HV 0 0 0 0 0 0 false, .string { data := #[] }, .int .i64 53] :=
  DV_err (longer hl x) (by decide)
theorem L_120 : L { data := #[120] } = [120] := rfl
theorem dec2 (T : ByteArray) (hT : T = T0) (w : World) : Calls Try.prog 10 #[.string (T ++ { data := #[120] })] w fun e w' => e = .returned (.tuple #[HV 0 0 0 0 0 0 false, .string { data := #[] }, .int .i64 53]) ∧ Up w w' := by
  have hz : (T ++ { data := #[120] }).size ≤ 1099511627776 := by rw [ByteArray.size_append, hT, T0_size]; decide
  have hL : L (T ++ { data := #[120] }) = en 167772161 167772162 6 64 0 0 false [108, 111, 97, 100] ++ [120] := by rw [L_app, L_120, hT, L_tx]
  have h := decodeC (T ++ { data := #[120] }) w hz
  rw [hL, dv2 _ _ _ _ _ _ _ _ (by decide)] at h
  exact h
theorem dec3 (w : World) : Calls Try.prog 10 #[.string { data := #[69] }] w fun e w' => e = .returned (.tuple #[HV 0 0 0 0 0 0 false, .string { data := #[] }, .int .i64 50]) ∧ Up w w' :=
  (decodeC { data := #[69] } w (by decide)).mono fun e w' h => ⟨by rw [h.1, DV_err (dec_50 (by decide)) (by decide)]; rfl, h.2⟩

set_option maxHeartbeats 4000000 in
set_option maxRecDepth 100000 in
theorem aliveC (w : World) : Calls Try.prog 7 #[] w fun e w' => e = .returned (.bool true) ∧ Up w w' := by
  obtain ⟨T, hT⟩ : ∃ T, T = T0 := ⟨_, rfl⟩
  have zT : T.size = 24 := by rw [hT]; exact T0_size
  have HT := Lib.hid hT; clear hT
  go_enter Try.func7, Try.ntmps7
  go_upto_region 2 with fail
  have U0 : Up w (w.alloc (.cells #[.int .u32 167772161, .int .u32 167772162, .int .u8 6, .int .u8 64, .int .u8 0, .int .u16 0, .bool false] 25)) := up_al _ (Below.refl _ _)
  have A0 := Box.new w #[.int .u32 167772161, .int .u32 167772162, .int .u8 6, .int .u8 64, .int .u8 0, .int .u16 0, .bool false] 25
  generalize (w.alloc (.cells #[.int .u32 167772161, .int .u32 167772162, .int .u8 6, .int .u8 64, .int .u8 0, .int .u16 0, .bool false] 25)) = w0 at U0 A0 ⊢
  generalize w.heap.size = n0 at A0 ⊢
  obtain ⟨k0, k1, k2, k3, k4, k5, k6⟩ := Box.e7 A0
  go_wp2_with fail
  refine (enc1 T HT.out w0).mono ?_
  rintro e v1 ⟨rfl, hv1⟩
  have U1 := U0.on hv1
  have A1 := A0.up hv1
  clear k0 k1 k2 k3 k4 k5 k6 U0 A0 hv1
  go_wp2_with fail
  refine (dec1 T HT.out v1).mono ?_
  rintro e v2 ⟨rfl, hv2⟩
  have U2 := U1.on hv2
  have A2 := A1.up hv2
  clear U1 A1 hv2
  go_upto_region 4 with fail
  have U3 : Up w (v2.alloc (.cells #[.int .u32 167772161, .int .u32 167772162, .int .u8 6, .int .u8 64, .int .u8 0, .int .u16 0, .bool false] 25)) := up_al _ U2
  have A3 := A2.alloc (.cells #[.int .u32 167772161, .int .u32 167772162, .int .u8 6, .int .u8 64, .int .u8 0, .int .u16 0, .bool false] 25)
  have B3 := Box.new v2 #[.int .u32 167772161, .int .u32 167772162, .int .u8 6, .int .u8 64, .int .u8 0, .int .u16 0, .bool false] 25
  generalize (v2.alloc (.cells #[.int .u32 167772161, .int .u32 167772162, .int .u8 6, .int .u8 64, .int .u8 0, .int .u16 0, .bool false] 25)) = w3 at U3 A3 B3 ⊢
  generalize v2.heap.size = n1 at B3 ⊢
  clear U2 A2
  go_wp2_with fail
  refine (dec2 T HT.out w3).mono ?_
  rintro e v4 ⟨rfl, hv4⟩
  go_upto_region 5 with fail
  have U5 : Up w (v4.alloc (.cells #[.int .u32 0, .int .u32 0, .int .u8 0, .int .u8 0, .int .u8 0, .int .u16 0, .bool false] 25)) := up_al _ (U3.on hv4)
  have A5 := (A3.up hv4).alloc (.cells #[.int .u32 0, .int .u32 0, .int .u8 0, .int .u8 0, .int .u8 0, .int .u16 0, .bool false] 25)
  have B5 := (B3.up hv4).alloc (.cells #[.int .u32 0, .int .u32 0, .int .u8 0, .int .u8 0, .int .u8 0, .int .u16 0, .bool false] 25)
  generalize (v4.alloc (.cells #[.int .u32 0, .int .u32 0, .int .u8 0, .int .u8 0, .int .u8 0, .int .u16 0, .bool false] 25)) = w5 at U5 A5 B5 ⊢
  generalize v4.heap.size = n2 at ⊢
  clear U3 A3 B3 hv4
  go_wp2_with fail
  refine (dec3 w5).mono ?_
  rintro e v6 ⟨rfl, hv6⟩
  go_upto_region 6 with fail
  have U7 : Up w (v6.alloc (.cells #[.int .u32 0, .int .u32 0, .int .u8 0, .int .u8 0, .int .u8 0, .int .u16 0, .bool false] 25)) := up_al _ (U5.on hv6)
  have A7 := (A5.up hv6).alloc (.cells #[.int .u32 0, .int .u32 0, .int .u8 0, .int .u8 0, .int .u8 0, .int .u16 0, .bool false] 25)
  have B7 := (B5.up hv6).alloc (.cells #[.int .u32 0, .int .u32 0, .int .u8 0, .int .u8 0, .int .u8 0, .int .u16 0, .bool false] 25)
  generalize (v6.alloc (.cells #[.int .u32 0, .int .u32 0, .int .u8 0, .int .u8 0, .int .u8 0, .int .u16 0, .bool false] 25)) = w7 at U7 A7 B7 ⊢
  generalize v6.heap.size = n3 at ⊢
  clear U5 A5 B5 hv6
  obtain ⟨k0, k1, k2, k3, k4, k5, k6⟩ := Box.e7 A7
  go_wp2_with fail
  refine (enc2 w7).mono ?_
  rintro e v8 ⟨rfl, hv8⟩
  have U8 := U7.on hv8
  have A8 := A7.up hv8
  have B8 := B7.up hv8
  clear k0 k1 k2 k3 k4 k5 k6 U7 A7 B7 hv8
  obtain ⟨k0, k1, k2, k3, k4, k5, k6⟩ := Box.e7 A8
  obtain ⟨m0, m1, m2, m3, m4, m5, m6⟩ := Box.e7 B8
  go_wp2
  go_ret
  exact ⟨rfl, U8⟩
end Go.Proofs.Ytolebodpcefcfaa.ip
