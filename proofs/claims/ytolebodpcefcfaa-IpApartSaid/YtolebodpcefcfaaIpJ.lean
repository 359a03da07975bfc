/- Two laws of ip, walked: which bytes a packet has, which head bytes have. Condition: the arguments fit their kinds. -/
import Derived.Test.YtolebodpcefcfaaIpI
namespace Go.Proofs.Ytolebodpcefcfaa.ip
open Go.RowKit Go.Shelf Go.Proofs.Ytolebodpcefcfaa.sm Go.Proofs.Ytolebodpcefcfaa.nb Go.Proofs.Ytolebodpcefcfaa.im
set_option linter.unusedVariables false

theorem EV_some (a b p t s i : Nat) (d : Bool) (l : ByteArray) : ∃ (S : ByteArray) (n : Int), EV a b p t s i d l = .tuple #[.string S, .int .i64 n] := by
  unfold EV; split
  · exact ⟨_, _, rfl⟩
  · exact ⟨_, _, rfl⟩
theorem DV_some (l : List UInt8) : ∃ (x1 x2 x3 x4 x5 x6 : Int) (x7 : Bool) (S : ByteArray) (n : Int), DV l = .tuple #[HV x1 x2 x3 x4 x5 x6 x7, .string S, .int .i64 n] := by
  unfold DV; split
  · exact ⟨_, _, _, _, _, _, _, _, _, rfl⟩
  · exact ⟨_, _, _, _, _, _, _, _, _, rfl⟩

set_option maxHeartbeats 4000000 in
set_option maxRecDepth 100000 in
theorem lawWrites (a b p t s i : Nat) (d : Bool) (l : ByteArray) (w : World) (h : Ok a b p t s i) (hl : l.size ≤ maxLen) :
    Calls Try.prog 3 #[HV a b p t s i d, .string l] w fun e w' => e = .returned (.bool true) ∧ Up w w' := by
  by_cases hlong : 131072 < l.size
  · go_enter Try.func3, Try.ntmps3
    go_wp2_with fail
    refine (aliveC _).mono ?_
    rintro e w1 ⟨rfl, hv⟩
    go_wp2
    go_ret
    exact ⟨rfl, (up_al _ (Below.refl _ _)).on hv⟩
  · obtain ⟨S, n, hE⟩ := EV_some a b p t s i d l
    have HE := Lib.hid hE; clear hE
    have hl' : l.size ≤ 1099511627776 := by omega
    go_enter Try.func3, Try.ntmps3
    go_upto_region 3 with fail
    have U0 : Up w (w.alloc (.cells #[.int .u32 a, .int .u32 b, .int .u8 p, .int .u8 t, .int .u8 s, .int .u16 i, .bool d] 25)) := up_al _ (Below.refl _ _)
    have A0 := Box.new w #[.int .u32 a, .int .u32 b, .int .u8 p, .int .u8 t, .int .u8 s, .int .u16 i, .bool d] 25
    generalize (w.alloc (.cells #[.int .u32 a, .int .u32 b, .int .u8 p, .int .u8 t, .int .u8 s, .int .u16 i, .bool d] 25)) = w0 at U0 A0 ⊢
    generalize w.heap.size = n0 at A0 ⊢
    obtain ⟨k0, k1, k2, k3, k4, k5, k6⟩ := Box.e7 A0
    go_wp2_with fail
    refine (encodeC a b p t s i d l w0 h hl').mono ?_
    rintro e v1 ⟨he, hv1⟩
    rw [HE.out] at he
    subst he
    have U1 := U0.on hv1
    have A1 := A0.up hv1
    clear k0 k1 k2 k3 k4 k5 k6 U0 A0 hv1
    obtain ⟨k0, k1, k2, k3, k4, k5, k6⟩ := Box.e7 A1
    go_wp2_with fail
    refine (refEncode a b p t s i d l v1 h hl').mono ?_
    rintro e v2 ⟨he, hv2⟩
    rw [HE.out] at he
    subst he
    have U2 := U1.on hv2
    clear k0 k1 k2 k3 k4 k5 k6 U1 A1 hv2
    go_wp2_with fail
    refine (aliveC _).mono ?_
    rintro e w1 ⟨rfl, hv⟩
    go_wp2
    go_ret
    exact ⟨rfl, U2.on hv⟩

set_option maxHeartbeats 4000000 in
set_option maxRecDepth 100000 in
theorem lawReads (s : ByteArray) (w : World) (hl : s.size ≤ maxLen) :
    Calls Try.prog 4 #[.string s] w fun e w' => e = .returned (.bool true) ∧ Up w w' := by
  by_cases hlong : 131072 < s.size
  · go_enter Try.func4, Try.ntmps4
    go_wp2_with fail
    refine (aliveC _).mono ?_
    rintro e w1 ⟨rfl, hv⟩
    go_wp2
    go_ret
    exact ⟨rfl, hv⟩
  · obtain ⟨x1, x2, x3, x4, x5, x6, x7, S, n, hE⟩ := DV_some (L s)
    have HE := Lib.hid hE; clear hE
    have hl' : s.size ≤ 1099511627776 := by omega
    go_enter Try.func4, Try.ntmps4
    go_wp2_with fail
    refine (decodeC s w hl').mono ?_
    rintro e v1 ⟨he, hv1⟩
    rw [HE.out] at he
    subst he
    go_upto_region 4 with fail
    have U1 : Up w (v1.alloc (.cells #[.int .u32 x1, .int .u32 x2, .int .u8 x3, .int .u8 x4, .int .u8 x5, .int .u16 x6, .bool x7] 25)) := up_al _ hv1
    have A1 := Box.new v1 #[.int .u32 x1, .int .u32 x2, .int .u8 x3, .int .u8 x4, .int .u8 x5, .int .u16 x6, .bool x7] 25
    generalize (v1.alloc (.cells #[.int .u32 x1, .int .u32 x2, .int .u8 x3, .int .u8 x4, .int .u8 x5, .int .u16 x6, .bool x7] 25)) = w1 at U1 A1 ⊢
    generalize v1.heap.size = n1 at A1 ⊢
    clear hv1
    go_wp2_with fail
    refine (refDecode s w1 hl').mono ?_
    rintro e v2 ⟨he, hv2⟩
    rw [HE.out] at he
    subst he
    go_upto_region 5 with fail
    have U2 : Up w (v2.alloc (.cells #[.int .u32 x1, .int .u32 x2, .int .u8 x3, .int .u8 x4, .int .u8 x5, .int .u16 x6, .bool x7] 25)) := up_al _ (U1.on hv2)
    have A2 := (A1.up hv2).alloc (.cells #[.int .u32 x1, .int .u32 x2, .int .u8 x3, .int .u8 x4, .int .u8 x5, .int .u16 x6, .bool x7] 25)
    have B2 := Box.new v2 #[.int .u32 x1, .int .u32 x2, .int .u8 x3, .int .u8 x4, .int .u8 x5, .int .u16 x6, .bool x7] 25
    generalize (v2.alloc (.cells #[.int .u32 x1, .int .u32 x2, .int .u8 x3, .int .u8 x4, .int .u8 x5, .int .u16 x6, .bool x7] 25)) = w2 at U2 A2 B2 ⊢
    generalize v2.heap.size = n2 at B2 ⊢
    clear U1 A1 hv2
    obtain ⟨k0, k1, k2, k3, k4, k5, k6⟩ := Box.e7 A2
    obtain ⟨m0, m1, m2, m3, m4, m5, m6⟩ := Box.e7 B2
    go_wp2_with fail
    refine (aliveC _).mono ?_
    rintro e w3 ⟨rfl, hv⟩
    go_wp2
    go_ret
    exact ⟨rfl, U2.on hv⟩
end Go.Proofs.Ytolebodpcefcfaa.ip
