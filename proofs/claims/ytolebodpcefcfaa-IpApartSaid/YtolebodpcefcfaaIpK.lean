/- A law of ip, walked: packets whose heads, or loads, are not the same have bytes that are not. Condition: the arguments fit their kinds. -/
import Derived.Test.YtolebodpcefcfaaIpJ
namespace Go.Proofs.Ytolebodpcefcfaa.ip
open Go.RowKit Go.Shelf Go.Proofs.Ytolebodpcefcfaa.sm Go.Proofs.Ytolebodpcefcfaa.nb Go.Proofs.Ytolebodpcefcfaa.im
set_option linter.unusedVariables false

theorem encS (a b p t s i : Nat) (d : Bool) (l S : ByteArray) (w : World) (h : Ok a b p t s i) (hl : l.size ≤ 2048) (hS : S = tx (en a b p t s i d (L l))) :
    Calls Try.prog 8 #[HV a b p t s i d, .string l] w fun e w' => e = .returned (.tuple #[.string S, .int .i64 0]) ∧ Up w w' :=
  (encodeC a b p t s i d l w h (by omega)).mono fun e w' h => ⟨by rw [h.1, EV_ok (by omega), hS], h.2⟩
theorem enS_size {a b p t s i : Nat} {d : Bool} {l S : ByteArray} (hS : S = tx (en a b p t s i d (L l))) : S.size = 20 + l.size := by rw [hS, tx_size, en_len, L_len]
theorem enS_eq {a b p t s i a' b' p' t' s' i' : Nat} {d d' : Bool} {l l' : ByteArray} (h : Ok a b p t s i) (h' : Ok a' b' p' t' s' i')
    (he : tx (en a b p t s i d (L l)) = tx (en a' b' p' t' s' i' d' (L l'))) : a = a' ∧ b = b' ∧ p = p' ∧ t = t' ∧ s = s' ∧ i = i' ∧ d = d' ∧ l = l' := by
  have e := congrArg L he
  rw [L_tx, L_tx] at e
  obtain ⟨h1, h2, h3, h4, h5, h6, h7, h8⟩ := apart h h' e
  exact ⟨h1, h2, h3, h4, h5, h6, h7, ba_eq h8⟩
theorem str_ne {x y : ByteArray} (h : x ≠ y) : (x.toList == y.toList) = false := by
  rw [ByteArray.toList_eq, ByteArray.toList_eq]
  simp only [beq_eq_false_iff_ne]
  exact fun hh => h (ba_eq hh)
theorem nine (a b p t s i a' b' p' t' s' i' : Nat) (d d' : Bool) (la lb : ByteArray) :
    (a = a' ∧ b = b' ∧ p = p' ∧ t = t' ∧ s = s' ∧ i = i' ∧ d = d' ∧ la = lb) ∨
      (¬ a = a') ∨
      (a = a' ∧ ¬ b = b') ∨
      (a = a' ∧ b = b' ∧ ¬ p = p') ∨
      (a = a' ∧ b = b' ∧ p = p' ∧ ¬ t = t') ∨
      (a = a' ∧ b = b' ∧ p = p' ∧ t = t' ∧ ¬ s = s') ∨
      (a = a' ∧ b = b' ∧ p = p' ∧ t = t' ∧ s = s' ∧ ¬ i = i') ∨
      (a = a' ∧ b = b' ∧ p = p' ∧ t = t' ∧ s = s' ∧ i = i' ∧ ¬ d = d') ∨
      (a = a' ∧ b = b' ∧ p = p' ∧ t = t' ∧ s = s' ∧ i = i' ∧ d = d' ∧ ¬ la = lb) := by
  by_cases c0 : a = a'
  case neg => exact .inr <| .inl (c0)
  by_cases c1 : b = b'
  case neg => exact .inr <| .inr <| .inl (⟨c0, c1⟩)
  by_cases c2 : p = p'
  case neg => exact .inr <| .inr <| .inr <| .inl (⟨c0, c1, c2⟩)
  by_cases c3 : t = t'
  case neg => exact .inr <| .inr <| .inr <| .inr <| .inl (⟨c0, c1, c2, c3⟩)
  by_cases c4 : s = s'
  case neg => exact .inr <| .inr <| .inr <| .inr <| .inr <| .inl (⟨c0, c1, c2, c3, c4⟩)
  by_cases c5 : i = i'
  case neg => exact .inr <| .inr <| .inr <| .inr <| .inr <| .inr <| .inl (⟨c0, c1, c2, c3, c4, c5⟩)
  by_cases c6 : d = d'
  case neg => exact .inr <| .inr <| .inr <| .inr <| .inr <| .inr <| .inr <| .inl (⟨c0, c1, c2, c3, c4, c5, c6⟩)
  by_cases c7 : la = lb
  case neg => exact .inr <| .inr <| .inr <| .inr <| .inr <| .inr <| .inr <| .inr <| (⟨c0, c1, c2, c3, c4, c5, c6, c7⟩)
  exact .inl ⟨c0, c1, c2, c3, c4, c5, c6, c7⟩

set_option maxHeartbeats 4000000 in
set_option maxRecDepth 100000 in
theorem apart0 (a b p t s i : Nat) (d : Bool) (a' : Nat) (b' : Nat) (p' : Nat) (t' : Nat) (s' : Nat) (i' : Nat) (d' : Bool) (la : ByteArray) (lb : ByteArray) (w : World) (h : Ok a b p t s i) (h' : Ok a' b' p' t' s' i') (hla : la.size ≤ 2048) (hlb : lb.size ≤ 2048) (c : ¬ a = a') :
    Calls Try.prog 6 #[HV a b p t s i d, HV a' b' p' t' s' i' d', .string la, .string lb] w fun e w' => e = .returned (.bool true) ∧ Up w w' := by
  obtain ⟨S, hS⟩ : ∃ S, S = tx (en a b p t s i d (L la)) := ⟨_, rfl⟩
  have z := enS_size hS
  have HS := Lib.hid hS; clear hS
  obtain ⟨S2, hS2⟩ : ∃ S2, S2 = tx (en a' b' p' t' s' i' d' (L lb)) := ⟨_, rfl⟩
  have HS2 := Lib.hid hS2; clear hS2
  have nS : S ≠ S2 := fun hh => by
    rw [HS.out, HS2.out] at hh
    have q := enS_eq h h' hh
    exact c q.1
  have nT := str_ne nS
  clear nS
  go_enter Try.func6, Try.ntmps6
  go_upto_region 1 with fail
  have U0 : Up w ((w.alloc (.cells #[.int .u32 a, .int .u32 b, .int .u8 p, .int .u8 t, .int .u8 s, .int .u16 i, .bool d] 25)).alloc (.cells #[.int .u32 a', .int .u32 b', .int .u8 p', .int .u8 t', .int .u8 s', .int .u16 i', .bool d'] 25)) := up_al _ (up_al _ (Below.refl _ _))
  have A0 := (Box.new w #[.int .u32 a, .int .u32 b, .int .u8 p, .int .u8 t, .int .u8 s, .int .u16 i, .bool d] 25).alloc (.cells #[.int .u32 a', .int .u32 b', .int .u8 p', .int .u8 t', .int .u8 s', .int .u16 i', .bool d'] 25)
  have B0 := Box.new (w.alloc (.cells #[.int .u32 a, .int .u32 b, .int .u8 p, .int .u8 t, .int .u8 s, .int .u16 i, .bool d] 25)) #[.int .u32 a', .int .u32 b', .int .u8 p', .int .u8 t', .int .u8 s', .int .u16 i', .bool d'] 25
  rw [show (w.alloc (.cells #[.int .u32 a, .int .u32 b, .int .u8 p, .int .u8 t, .int .u8 s, .int .u16 i, .bool d] 25)).heap.size = w.heap.size + 1 by simp] at B0
  generalize ((w.alloc (.cells #[.int .u32 a, .int .u32 b, .int .u8 p, .int .u8 t, .int .u8 s, .int .u16 i, .bool d] 25)).alloc (.cells #[.int .u32 a', .int .u32 b', .int .u8 p', .int .u8 t', .int .u8 s', .int .u16 i', .bool d'] 25)) = w0 at U0 A0 B0 ⊢
  generalize w.heap.size = n0 at A0 B0 ⊢
  obtain ⟨k0, k1, k2, k3, k4, k5, k6⟩ := Box.e7 A0
  go_wp2_with fail
  refine (encS a b p t s i d la S w0 h hla HS.out).mono ?_
  rintro e v1 ⟨rfl, hv1⟩
  have U1 := U0.on hv1
  have A1 := A0.up hv1
  have B1 := B0.up hv1
  clear k0 k1 k2 k3 k4 k5 k6 U0 A0 B0 hv1
  obtain ⟨m0, m1, m2, m3, m4, m5, m6⟩ := Box.e7 B1
  go_wp2_with fail
  refine (encS a' b' p' t' s' i' d' lb S2 v1 h' hlb HS2.out).mono ?_
  rintro e v2 ⟨rfl, hv2⟩
  have U2 := U1.on hv2
  have A2 := A1.up hv2
  have B2 := B1.up hv2
  clear m0 m1 m2 m3 m4 m5 m6 U1 A1 B1 hv2
  obtain ⟨k0, k1, k2, k3, k4, k5, k6⟩ := Box.e7 A2
  obtain ⟨m0, m1, m2, m3, m4, m5, m6⟩ := Box.e7 B2
  go_wp2_with fail
  refine (aliveC _).mono ?_
  rintro e w3 ⟨rfl, hv⟩
  go_wp2
  go_ret
  exact ⟨rfl, U2.on hv⟩

set_option maxHeartbeats 4000000 in
set_option maxRecDepth 100000 in
theorem apart1 (a b p t s i : Nat) (d : Bool) (b' : Nat) (p' : Nat) (t' : Nat) (s' : Nat) (i' : Nat) (d' : Bool) (la : ByteArray) (lb : ByteArray) (w : World) (h : Ok a b p t s i) (h' : Ok a b' p' t' s' i') (hla : la.size ≤ 2048) (hlb : lb.size ≤ 2048) (c : ¬ b = b') :
    Calls Try.prog 6 #[HV a b p t s i d, HV a b' p' t' s' i' d', .string la, .string lb] w fun e w' => e = .returned (.bool true) ∧ Up w w' := by
  obtain ⟨S, hS⟩ : ∃ S, S = tx (en a b p t s i d (L la)) := ⟨_, rfl⟩
  have z := enS_size hS
  have HS := Lib.hid hS; clear hS
  obtain ⟨S2, hS2⟩ : ∃ S2, S2 = tx (en a b' p' t' s' i' d' (L lb)) := ⟨_, rfl⟩
  have HS2 := Lib.hid hS2; clear hS2
  have nS : S ≠ S2 := fun hh => by
    rw [HS.out, HS2.out] at hh
    have q := enS_eq h h' hh
    exact c q.2.1
  have nT := str_ne nS
  clear nS
  go_enter Try.func6, Try.ntmps6
  go_upto_region 1 with fail
  have U0 : Up w ((w.alloc (.cells #[.int .u32 a, .int .u32 b, .int .u8 p, .int .u8 t, .int .u8 s, .int .u16 i, .bool d] 25)).alloc (.cells #[.int .u32 a, .int .u32 b', .int .u8 p', .int .u8 t', .int .u8 s', .int .u16 i', .bool d'] 25)) := up_al _ (up_al _ (Below.refl _ _))
  have A0 := (Box.new w #[.int .u32 a, .int .u32 b, .int .u8 p, .int .u8 t, .int .u8 s, .int .u16 i, .bool d] 25).alloc (.cells #[.int .u32 a, .int .u32 b', .int .u8 p', .int .u8 t', .int .u8 s', .int .u16 i', .bool d'] 25)
  have B0 := Box.new (w.alloc (.cells #[.int .u32 a, .int .u32 b, .int .u8 p, .int .u8 t, .int .u8 s, .int .u16 i, .bool d] 25)) #[.int .u32 a, .int .u32 b', .int .u8 p', .int .u8 t', .int .u8 s', .int .u16 i', .bool d'] 25
  rw [show (w.alloc (.cells #[.int .u32 a, .int .u32 b, .int .u8 p, .int .u8 t, .int .u8 s, .int .u16 i, .bool d] 25)).heap.size = w.heap.size + 1 by simp] at B0
  generalize ((w.alloc (.cells #[.int .u32 a, .int .u32 b, .int .u8 p, .int .u8 t, .int .u8 s, .int .u16 i, .bool d] 25)).alloc (.cells #[.int .u32 a, .int .u32 b', .int .u8 p', .int .u8 t', .int .u8 s', .int .u16 i', .bool d'] 25)) = w0 at U0 A0 B0 ⊢
  generalize w.heap.size = n0 at A0 B0 ⊢
  obtain ⟨k0, k1, k2, k3, k4, k5, k6⟩ := Box.e7 A0
  go_wp2_with fail
  refine (encS a b p t s i d la S w0 h hla HS.out).mono ?_
  rintro e v1 ⟨rfl, hv1⟩
  have U1 := U0.on hv1
  have A1 := A0.up hv1
  have B1 := B0.up hv1
  clear k0 k1 k2 k3 k4 k5 k6 U0 A0 B0 hv1
  obtain ⟨m0, m1, m2, m3, m4, m5, m6⟩ := Box.e7 B1
  go_wp2_with fail
  refine (encS a b' p' t' s' i' d' lb S2 v1 h' hlb HS2.out).mono ?_
  rintro e v2 ⟨rfl, hv2⟩
  have U2 := U1.on hv2
  have A2 := A1.up hv2
  have B2 := B1.up hv2
  clear m0 m1 m2 m3 m4 m5 m6 U1 A1 B1 hv2
  obtain ⟨k0, k1, k2, k3, k4, k5, k6⟩ := Box.e7 A2
  obtain ⟨m0, m1, m2, m3, m4, m5, m6⟩ := Box.e7 B2
  go_wp2_with fail
  refine (aliveC _).mono ?_
  rintro e w3 ⟨rfl, hv⟩
  go_wp2
  go_ret
  exact ⟨rfl, U2.on hv⟩

set_option maxHeartbeats 4000000 in
set_option maxRecDepth 100000 in
theorem apart2 (a b p t s i : Nat) (d : Bool) (p' : Nat) (t' : Nat) (s' : Nat) (i' : Nat) (d' : Bool) (la : ByteArray) (lb : ByteArray) (w : World) (h : Ok a b p t s i) (h' : Ok a b p' t' s' i') (hla : la.size ≤ 2048) (hlb : lb.size ≤ 2048) (c : ¬ p = p') :
    Calls Try.prog 6 #[HV a b p t s i d, HV a b p' t' s' i' d', .string la, .string lb] w fun e w' => e = .returned (.bool true) ∧ Up w w' := by
  obtain ⟨S, hS⟩ : ∃ S, S = tx (en a b p t s i d (L la)) := ⟨_, rfl⟩
  have z := enS_size hS
  have HS := Lib.hid hS; clear hS
  obtain ⟨S2, hS2⟩ : ∃ S2, S2 = tx (en a b p' t' s' i' d' (L lb)) := ⟨_, rfl⟩
  have HS2 := Lib.hid hS2; clear hS2
  have nS : S ≠ S2 := fun hh => by
    rw [HS.out, HS2.out] at hh
    have q := enS_eq h h' hh
    exact c q.2.2.1
  have nT := str_ne nS
  clear nS
  go_enter Try.func6, Try.ntmps6
  go_upto_region 1 with fail
  have U0 : Up w ((w.alloc (.cells #[.int .u32 a, .int .u32 b, .int .u8 p, .int .u8 t, .int .u8 s, .int .u16 i, .bool d] 25)).alloc (.cells #[.int .u32 a, .int .u32 b, .int .u8 p', .int .u8 t', .int .u8 s', .int .u16 i', .bool d'] 25)) := up_al _ (up_al _ (Below.refl _ _))
  have A0 := (Box.new w #[.int .u32 a, .int .u32 b, .int .u8 p, .int .u8 t, .int .u8 s, .int .u16 i, .bool d] 25).alloc (.cells #[.int .u32 a, .int .u32 b, .int .u8 p', .int .u8 t', .int .u8 s', .int .u16 i', .bool d'] 25)
  have B0 := Box.new (w.alloc (.cells #[.int .u32 a, .int .u32 b, .int .u8 p, .int .u8 t, .int .u8 s, .int .u16 i, .bool d] 25)) #[.int .u32 a, .int .u32 b, .int .u8 p', .int .u8 t', .int .u8 s', .int .u16 i', .bool d'] 25
  rw [show (w.alloc (.cells #[.int .u32 a, .int .u32 b, .int .u8 p, .int .u8 t, .int .u8 s, .int .u16 i, .bool d] 25)).heap.size = w.heap.size + 1 by simp] at B0
  generalize ((w.alloc (.cells #[.int .u32 a, .int .u32 b, .int .u8 p, .int .u8 t, .int .u8 s, .int .u16 i, .bool d] 25)).alloc (.cells #[.int .u32 a, .int .u32 b, .int .u8 p', .int .u8 t', .int .u8 s', .int .u16 i', .bool d'] 25)) = w0 at U0 A0 B0 ⊢
  generalize w.heap.size = n0 at A0 B0 ⊢
  obtain ⟨k0, k1, k2, k3, k4, k5, k6⟩ := Box.e7 A0
  go_wp2_with fail
  refine (encS a b p t s i d la S w0 h hla HS.out).mono ?_
  rintro e v1 ⟨rfl, hv1⟩
  have U1 := U0.on hv1
  have A1 := A0.up hv1
  have B1 := B0.up hv1
  clear k0 k1 k2 k3 k4 k5 k6 U0 A0 B0 hv1
  obtain ⟨m0, m1, m2, m3, m4, m5, m6⟩ := Box.e7 B1
  go_wp2_with fail
  refine (encS a b p' t' s' i' d' lb S2 v1 h' hlb HS2.out).mono ?_
  rintro e v2 ⟨rfl, hv2⟩
  have U2 := U1.on hv2
  have A2 := A1.up hv2
  have B2 := B1.up hv2
  clear m0 m1 m2 m3 m4 m5 m6 U1 A1 B1 hv2
  obtain ⟨k0, k1, k2, k3, k4, k5, k6⟩ := Box.e7 A2
  obtain ⟨m0, m1, m2, m3, m4, m5, m6⟩ := Box.e7 B2
  go_wp2_with fail
  refine (aliveC _).mono ?_
  rintro e w3 ⟨rfl, hv⟩
  go_wp2
  go_ret
  exact ⟨rfl, U2.on hv⟩

set_option maxHeartbeats 4000000 in
set_option maxRecDepth 100000 in
theorem apart3 (a b p t s i : Nat) (d : Bool) (t' : Nat) (s' : Nat) (i' : Nat) (d' : Bool) (la : ByteArray) (lb : ByteArray) (w : World) (h : Ok a b p t s i) (h' : Ok a b p t' s' i') (hla : la.size ≤ 2048) (hlb : lb.size ≤ 2048) (c : ¬ t = t') :
    Calls Try.prog 6 #[HV a b p t s i d, HV a b p t' s' i' d', .string la, .string lb] w fun e w' => e = .returned (.bool true) ∧ Up w w' := by
  obtain ⟨S, hS⟩ : ∃ S, S = tx (en a b p t s i d (L la)) := ⟨_, rfl⟩
  have z := enS_size hS
  have HS := Lib.hid hS; clear hS
  obtain ⟨S2, hS2⟩ : ∃ S2, S2 = tx (en a b p t' s' i' d' (L lb)) := ⟨_, rfl⟩
  have HS2 := Lib.hid hS2; clear hS2
  have nS : S ≠ S2 := fun hh => by
    rw [HS.out, HS2.out] at hh
    have q := enS_eq h h' hh
    exact c q.2.2.2.1
  have nT := str_ne nS
  clear nS
  go_enter Try.func6, Try.ntmps6
  go_upto_region 1 with fail
  have U0 : Up w ((w.alloc (.cells #[.int .u32 a, .int .u32 b, .int .u8 p, .int .u8 t, .int .u8 s, .int .u16 i, .bool d] 25)).alloc (.cells #[.int .u32 a, .int .u32 b, .int .u8 p, .int .u8 t', .int .u8 s', .int .u16 i', .bool d'] 25)) := up_al _ (up_al _ (Below.refl _ _))
  have A0 := (Box.new w #[.int .u32 a, .int .u32 b, .int .u8 p, .int .u8 t, .int .u8 s, .int .u16 i, .bool d] 25).alloc (.cells #[.int .u32 a, .int .u32 b, .int .u8 p, .int .u8 t', .int .u8 s', .int .u16 i', .bool d'] 25)
  have B0 := Box.new (w.alloc (.cells #[.int .u32 a, .int .u32 b, .int .u8 p, .int .u8 t, .int .u8 s, .int .u16 i, .bool d] 25)) #[.int .u32 a, .int .u32 b, .int .u8 p, .int .u8 t', .int .u8 s', .int .u16 i', .bool d'] 25
  rw [show (w.alloc (.cells #[.int .u32 a, .int .u32 b, .int .u8 p, .int .u8 t, .int .u8 s, .int .u16 i, .bool d] 25)).heap.size = w.heap.size + 1 by simp] at B0
  generalize ((w.alloc (.cells #[.int .u32 a, .int .u32 b, .int .u8 p, .int .u8 t, .int .u8 s, .int .u16 i, .bool d] 25)).alloc (.cells #[.int .u32 a, .int .u32 b, .int .u8 p, .int .u8 t', .int .u8 s', .int .u16 i', .bool d'] 25)) = w0 at U0 A0 B0 ⊢
  generalize w.heap.size = n0 at A0 B0 ⊢
  obtain ⟨k0, k1, k2, k3, k4, k5, k6⟩ := Box.e7 A0
  go_wp2_with fail
  refine (encS a b p t s i d la S w0 h hla HS.out).mono ?_
  rintro e v1 ⟨rfl, hv1⟩
  have U1 := U0.on hv1
  have A1 := A0.up hv1
  have B1 := B0.up hv1
  clear k0 k1 k2 k3 k4 k5 k6 U0 A0 B0 hv1
  obtain ⟨m0, m1, m2, m3, m4, m5, m6⟩ := Box.e7 B1
  go_wp2_with fail
  refine (encS a b p t' s' i' d' lb S2 v1 h' hlb HS2.out).mono ?_
  rintro e v2 ⟨rfl, hv2⟩
  have U2 := U1.on hv2
  have A2 := A1.up hv2
  have B2 := B1.up hv2
  clear m0 m1 m2 m3 m4 m5 m6 U1 A1 B1 hv2
  obtain ⟨k0, k1, k2, k3, k4, k5, k6⟩ := Box.e7 A2
  obtain ⟨m0, m1, m2, m3, m4, m5, m6⟩ := Box.e7 B2
  go_wp2_with fail
  refine (aliveC _).mono ?_
  rintro e w3 ⟨rfl, hv⟩
  go_wp2
  go_ret
  exact ⟨rfl, U2.on hv⟩

set_option maxHeartbeats 4000000 in
set_option maxRecDepth 100000 in
theorem apart4 (a b p t s i : Nat) (d : Bool) (s' : Nat) (i' : Nat) (d' : Bool) (la : ByteArray) (lb : ByteArray) (w : World) (h : Ok a b p t s i) (h' : Ok a b p t s' i') (hla : la.size ≤ 2048) (hlb : lb.size ≤ 2048) (c : ¬ s = s') :
    Calls Try.prog 6 #[HV a b p t s i d, HV a b p t s' i' d', .string la, .string lb] w fun e w' => e = .returned (.bool true) ∧ Up w w' := by
  obtain ⟨S, hS⟩ : ∃ S, S = tx (en a b p t s i d (L la)) := ⟨_, rfl⟩
  have z := enS_size hS
  have HS := Lib.hid hS; clear hS
  obtain ⟨S2, hS2⟩ : ∃ S2, S2 = tx (en a b p t s' i' d' (L lb)) := ⟨_, rfl⟩
  have HS2 := Lib.hid hS2; clear hS2
  have nS : S ≠ S2 := fun hh => by
    rw [HS.out, HS2.out] at hh
    have q := enS_eq h h' hh
    exact c q.2.2.2.2.1
  have nT := str_ne nS
  clear nS
  go_enter Try.func6, Try.ntmps6
  go_upto_region 1 with fail
  have U0 : Up w ((w.alloc (.cells #[.int .u32 a, .int .u32 b, .int .u8 p, .int .u8 t, .int .u8 s, .int .u16 i, .bool d] 25)).alloc (.cells #[.int .u32 a, .int .u32 b, .int .u8 p, .int .u8 t, .int .u8 s', .int .u16 i', .bool d'] 25)) := up_al _ (up_al _ (Below.refl _ _))
  have A0 := (Box.new w #[.int .u32 a, .int .u32 b, .int .u8 p, .int .u8 t, .int .u8 s, .int .u16 i, .bool d] 25).alloc (.cells #[.int .u32 a, .int .u32 b, .int .u8 p, .int .u8 t, .int .u8 s', .int .u16 i', .bool d'] 25)
  have B0 := Box.new (w.alloc (.cells #[.int .u32 a, .int .u32 b, .int .u8 p, .int .u8 t, .int .u8 s, .int .u16 i, .bool d] 25)) #[.int .u32 a, .int .u32 b, .int .u8 p, .int .u8 t, .int .u8 s', .int .u16 i', .bool d'] 25
  rw [show (w.alloc (.cells #[.int .u32 a, .int .u32 b, .int .u8 p, .int .u8 t, .int .u8 s, .int .u16 i, .bool d] 25)).heap.size = w.heap.size + 1 by simp] at B0
  generalize ((w.alloc (.cells #[.int .u32 a, .int .u32 b, .int .u8 p, .int .u8 t, .int .u8 s, .int .u16 i, .bool d] 25)).alloc (.cells #[.int .u32 a, .int .u32 b, .int .u8 p, .int .u8 t, .int .u8 s', .int .u16 i', .bool d'] 25)) = w0 at U0 A0 B0 ⊢
  generalize w.heap.size = n0 at A0 B0 ⊢
  obtain ⟨k0, k1, k2, k3, k4, k5, k6⟩ := Box.e7 A0
  go_wp2_with fail
  refine (encS a b p t s i d la S w0 h hla HS.out).mono ?_
  rintro e v1 ⟨rfl, hv1⟩
  have U1 := U0.on hv1
  have A1 := A0.up hv1
  have B1 := B0.up hv1
  clear k0 k1 k2 k3 k4 k5 k6 U0 A0 B0 hv1
  obtain ⟨m0, m1, m2, m3, m4, m5, m6⟩ := Box.e7 B1
  go_wp2_with fail
  refine (encS a b p t s' i' d' lb S2 v1 h' hlb HS2.out).mono ?_
  rintro e v2 ⟨rfl, hv2⟩
  have U2 := U1.on hv2
  have A2 := A1.up hv2
  have B2 := B1.up hv2
  clear m0 m1 m2 m3 m4 m5 m6 U1 A1 B1 hv2
  obtain ⟨k0, k1, k2, k3, k4, k5, k6⟩ := Box.e7 A2
  obtain ⟨m0, m1, m2, m3, m4, m5, m6⟩ := Box.e7 B2
  go_wp2_with fail
  refine (aliveC _).mono ?_
  rintro e w3 ⟨rfl, hv⟩
  go_wp2
  go_ret
  exact ⟨rfl, U2.on hv⟩

set_option maxHeartbeats 4000000 in
set_option maxRecDepth 100000 in
theorem apart5 (a b p t s i : Nat) (d : Bool) (i' : Nat) (d' : Bool) (la : ByteArray) (lb : ByteArray) (w : World) (h : Ok a b p t s i) (h' : Ok a b p t s i') (hla : la.size ≤ 2048) (hlb : lb.size ≤ 2048) (c : ¬ i = i') :
    Calls Try.prog 6 #[HV a b p t s i d, HV a b p t s i' d', .string la, .string lb] w fun e w' => e = .returned (.bool true) ∧ Up w w' := by
  obtain ⟨S, hS⟩ : ∃ S, S = tx (en a b p t s i d (L la)) := ⟨_, rfl⟩
  have z := enS_size hS
  have HS := Lib.hid hS; clear hS
  obtain ⟨S2, hS2⟩ : ∃ S2, S2 = tx (en a b p t s i' d' (L lb)) := ⟨_, rfl⟩
  have HS2 := Lib.hid hS2; clear hS2
  have nS : S ≠ S2 := fun hh => by
    rw [HS.out, HS2.out] at hh
    have q := enS_eq h h' hh
    exact c q.2.2.2.2.2.1
  have nT := str_ne nS
  clear nS
  go_enter Try.func6, Try.ntmps6
  go_upto_region 1 with fail
  have U0 : Up w ((w.alloc (.cells #[.int .u32 a, .int .u32 b, .int .u8 p, .int .u8 t, .int .u8 s, .int .u16 i, .bool d] 25)).alloc (.cells #[.int .u32 a, .int .u32 b, .int .u8 p, .int .u8 t, .int .u8 s, .int .u16 i', .bool d'] 25)) := up_al _ (up_al _ (Below.refl _ _))
  have A0 := (Box.new w #[.int .u32 a, .int .u32 b, .int .u8 p, .int .u8 t, .int .u8 s, .int .u16 i, .bool d] 25).alloc (.cells #[.int .u32 a, .int .u32 b, .int .u8 p, .int .u8 t, .int .u8 s, .int .u16 i', .bool d'] 25)
  have B0 := Box.new (w.alloc (.cells #[.int .u32 a, .int .u32 b, .int .u8 p, .int .u8 t, .int .u8 s, .int .u16 i, .bool d] 25)) #[.int .u32 a, .int .u32 b, .int .u8 p, .int .u8 t, .int .u8 s, .int .u16 i', .bool d'] 25
  rw [show (w.alloc (.cells #[.int .u32 a, .int .u32 b, .int .u8 p, .int .u8 t, .int .u8 s, .int .u16 i, .bool d] 25)).heap.size = w.heap.size + 1 by simp] at B0
  generalize ((w.alloc (.cells #[.int .u32 a, .int .u32 b, .int .u8 p, .int .u8 t, .int .u8 s, .int .u16 i, .bool d] 25)).alloc (.cells #[.int .u32 a, .int .u32 b, .int .u8 p, .int .u8 t, .int .u8 s, .int .u16 i', .bool d'] 25)) = w0 at U0 A0 B0 ⊢
  generalize w.heap.size = n0 at A0 B0 ⊢
  obtain ⟨k0, k1, k2, k3, k4, k5, k6⟩ := Box.e7 A0
  go_wp2_with fail
  refine (encS a b p t s i d la S w0 h hla HS.out).mono ?_
  rintro e v1 ⟨rfl, hv1⟩
  have U1 := U0.on hv1
  have A1 := A0.up hv1
  have B1 := B0.up hv1
  clear k0 k1 k2 k3 k4 k5 k6 U0 A0 B0 hv1
  obtain ⟨m0, m1, m2, m3, m4, m5, m6⟩ := Box.e7 B1
  go_wp2_with fail
  refine (encS a b p t s i' d' lb S2 v1 h' hlb HS2.out).mono ?_
  rintro e v2 ⟨rfl, hv2⟩
  have U2 := U1.on hv2
  have A2 := A1.up hv2
  have B2 := B1.up hv2
  clear m0 m1 m2 m3 m4 m5 m6 U1 A1 B1 hv2
  obtain ⟨k0, k1, k2, k3, k4, k5, k6⟩ := Box.e7 A2
  obtain ⟨m0, m1, m2, m3, m4, m5, m6⟩ := Box.e7 B2
  go_wp2_with fail
  refine (aliveC _).mono ?_
  rintro e w3 ⟨rfl, hv⟩
  go_wp2
  go_ret
  exact ⟨rfl, U2.on hv⟩

set_option maxHeartbeats 4000000 in
set_option maxRecDepth 100000 in
theorem apart6 (a b p t s i : Nat) (d : Bool) (d' : Bool) (la : ByteArray) (lb : ByteArray) (w : World) (h : Ok a b p t s i) (h' : Ok a b p t s i) (hla : la.size ≤ 2048) (hlb : lb.size ≤ 2048) (c : ¬ d = d') :
    Calls Try.prog 6 #[HV a b p t s i d, HV a b p t s i d', .string la, .string lb] w fun e w' => e = .returned (.bool true) ∧ Up w w' := by
  obtain ⟨S, hS⟩ : ∃ S, S = tx (en a b p t s i d (L la)) := ⟨_, rfl⟩
  have z := enS_size hS
  have HS := Lib.hid hS; clear hS
  obtain ⟨S2, hS2⟩ : ∃ S2, S2 = tx (en a b p t s i d' (L lb)) := ⟨_, rfl⟩
  have HS2 := Lib.hid hS2; clear hS2
  have nS : S ≠ S2 := fun hh => by
    rw [HS.out, HS2.out] at hh
    have q := enS_eq h h' hh
    exact c q.2.2.2.2.2.2.1
  have nT := str_ne nS
  clear nS
  go_enter Try.func6, Try.ntmps6
  go_upto_region 1 with fail
  have U0 : Up w ((w.alloc (.cells #[.int .u32 a, .int .u32 b, .int .u8 p, .int .u8 t, .int .u8 s, .int .u16 i, .bool d] 25)).alloc (.cells #[.int .u32 a, .int .u32 b, .int .u8 p, .int .u8 t, .int .u8 s, .int .u16 i, .bool d'] 25)) := up_al _ (up_al _ (Below.refl _ _))
  have A0 := (Box.new w #[.int .u32 a, .int .u32 b, .int .u8 p, .int .u8 t, .int .u8 s, .int .u16 i, .bool d] 25).alloc (.cells #[.int .u32 a, .int .u32 b, .int .u8 p, .int .u8 t, .int .u8 s, .int .u16 i, .bool d'] 25)
  have B0 := Box.new (w.alloc (.cells #[.int .u32 a, .int .u32 b, .int .u8 p, .int .u8 t, .int .u8 s, .int .u16 i, .bool d] 25)) #[.int .u32 a, .int .u32 b, .int .u8 p, .int .u8 t, .int .u8 s, .int .u16 i, .bool d'] 25
  rw [show (w.alloc (.cells #[.int .u32 a, .int .u32 b, .int .u8 p, .int .u8 t, .int .u8 s, .int .u16 i, .bool d] 25)).heap.size = w.heap.size + 1 by simp] at B0
  generalize ((w.alloc (.cells #[.int .u32 a, .int .u32 b, .int .u8 p, .int .u8 t, .int .u8 s, .int .u16 i, .bool d] 25)).alloc (.cells #[.int .u32 a, .int .u32 b, .int .u8 p, .int .u8 t, .int .u8 s, .int .u16 i, .bool d'] 25)) = w0 at U0 A0 B0 ⊢
  generalize w.heap.size = n0 at A0 B0 ⊢
  obtain ⟨k0, k1, k2, k3, k4, k5, k6⟩ := Box.e7 A0
  go_wp2_with fail
  refine (encS a b p t s i d la S w0 h hla HS.out).mono ?_
  rintro e v1 ⟨rfl, hv1⟩
  have U1 := U0.on hv1
  have A1 := A0.up hv1
  have B1 := B0.up hv1
  clear k0 k1 k2 k3 k4 k5 k6 U0 A0 B0 hv1
  obtain ⟨m0, m1, m2, m3, m4, m5, m6⟩ := Box.e7 B1
  go_wp2_with fail
  refine (encS a b p t s i d' lb S2 v1 h' hlb HS2.out).mono ?_
  rintro e v2 ⟨rfl, hv2⟩
  have U2 := U1.on hv2
  have A2 := A1.up hv2
  have B2 := B1.up hv2
  clear m0 m1 m2 m3 m4 m5 m6 U1 A1 B1 hv2
  obtain ⟨k0, k1, k2, k3, k4, k5, k6⟩ := Box.e7 A2
  obtain ⟨m0, m1, m2, m3, m4, m5, m6⟩ := Box.e7 B2
  go_wp2_with fail
  refine (aliveC _).mono ?_
  rintro e w3 ⟨rfl, hv⟩
  go_wp2
  go_ret
  exact ⟨rfl, U2.on hv⟩

set_option maxHeartbeats 4000000 in
set_option maxRecDepth 100000 in
theorem apart7 (a b p t s i : Nat) (d : Bool) (la : ByteArray) (lb : ByteArray) (w : World) (h : Ok a b p t s i) (h' : Ok a b p t s i) (hla : la.size ≤ 2048) (hlb : lb.size ≤ 2048) (c : ¬ la = lb) :
    Calls Try.prog 6 #[HV a b p t s i d, HV a b p t s i d, .string la, .string lb] w fun e w' => e = .returned (.bool true) ∧ Up w w' := by
  obtain ⟨S, hS⟩ : ∃ S, S = tx (en a b p t s i d (L la)) := ⟨_, rfl⟩
  have z := enS_size hS
  have HS := Lib.hid hS; clear hS
  obtain ⟨S2, hS2⟩ : ∃ S2, S2 = tx (en a b p t s i d (L lb)) := ⟨_, rfl⟩
  have HS2 := Lib.hid hS2; clear hS2
  have nS : S ≠ S2 := fun hh => by
    rw [HS.out, HS2.out] at hh
    have q := enS_eq h h' hh
    exact c q.2.2.2.2.2.2.2
  have nT := str_ne nS
  clear nS
  have nL := str_ne c
  go_enter Try.func6, Try.ntmps6
  go_upto_region 1 with fail
  have U0 : Up w ((w.alloc (.cells #[.int .u32 a, .int .u32 b, .int .u8 p, .int .u8 t, .int .u8 s, .int .u16 i, .bool d] 25)).alloc (.cells #[.int .u32 a, .int .u32 b, .int .u8 p, .int .u8 t, .int .u8 s, .int .u16 i, .bool d] 25)) := up_al _ (up_al _ (Below.refl _ _))
  have A0 := (Box.new w #[.int .u32 a, .int .u32 b, .int .u8 p, .int .u8 t, .int .u8 s, .int .u16 i, .bool d] 25).alloc (.cells #[.int .u32 a, .int .u32 b, .int .u8 p, .int .u8 t, .int .u8 s, .int .u16 i, .bool d] 25)
  have B0 := Box.new (w.alloc (.cells #[.int .u32 a, .int .u32 b, .int .u8 p, .int .u8 t, .int .u8 s, .int .u16 i, .bool d] 25)) #[.int .u32 a, .int .u32 b, .int .u8 p, .int .u8 t, .int .u8 s, .int .u16 i, .bool d] 25
  rw [show (w.alloc (.cells #[.int .u32 a, .int .u32 b, .int .u8 p, .int .u8 t, .int .u8 s, .int .u16 i, .bool d] 25)).heap.size = w.heap.size + 1 by simp] at B0
  generalize ((w.alloc (.cells #[.int .u32 a, .int .u32 b, .int .u8 p, .int .u8 t, .int .u8 s, .int .u16 i, .bool d] 25)).alloc (.cells #[.int .u32 a, .int .u32 b, .int .u8 p, .int .u8 t, .int .u8 s, .int .u16 i, .bool d] 25)) = w0 at U0 A0 B0 ⊢
  generalize w.heap.size = n0 at A0 B0 ⊢
  obtain ⟨k0, k1, k2, k3, k4, k5, k6⟩ := Box.e7 A0
  go_wp2_with fail
  refine (encS a b p t s i d la S w0 h hla HS.out).mono ?_
  rintro e v1 ⟨rfl, hv1⟩
  have U1 := U0.on hv1
  have A1 := A0.up hv1
  have B1 := B0.up hv1
  clear k0 k1 k2 k3 k4 k5 k6 U0 A0 B0 hv1
  obtain ⟨m0, m1, m2, m3, m4, m5, m6⟩ := Box.e7 B1
  go_wp2_with fail
  refine (encS a b p t s i d lb S2 v1 h' hlb HS2.out).mono ?_
  rintro e v2 ⟨rfl, hv2⟩
  have U2 := U1.on hv2
  have A2 := A1.up hv2
  have B2 := B1.up hv2
  clear m0 m1 m2 m3 m4 m5 m6 U1 A1 B1 hv2
  obtain ⟨k0, k1, k2, k3, k4, k5, k6⟩ := Box.e7 A2
  obtain ⟨m0, m1, m2, m3, m4, m5, m6⟩ := Box.e7 B2
  go_wp2_with fail
  refine (aliveC _).mono ?_
  rintro e w3 ⟨rfl, hv⟩
  go_wp2
  go_ret
  exact ⟨rfl, U2.on hv⟩

set_option maxHeartbeats 4000000 in
set_option maxRecDepth 100000 in
theorem apart8 (a b p t s i : Nat) (d : Bool) (la : ByteArray) (w : World) (h : Ok a b p t s i) (h' : Ok a b p t s i) (hla : la.size ≤ 2048) :
    Calls Try.prog 6 #[HV a b p t s i d, HV a b p t s i d, .string la, .string la] w fun e w' => e = .returned (.bool true) ∧ Up w w' := by
  obtain ⟨S, hS⟩ : ∃ S, S = tx (en a b p t s i d (L la)) := ⟨_, rfl⟩
  have z := enS_size hS
  have HS := Lib.hid hS; clear hS
  go_enter Try.func6, Try.ntmps6
  go_upto_region 1 with fail
  have U0 : Up w ((w.alloc (.cells #[.int .u32 a, .int .u32 b, .int .u8 p, .int .u8 t, .int .u8 s, .int .u16 i, .bool d] 25)).alloc (.cells #[.int .u32 a, .int .u32 b, .int .u8 p, .int .u8 t, .int .u8 s, .int .u16 i, .bool d] 25)) := up_al _ (up_al _ (Below.refl _ _))
  have A0 := (Box.new w #[.int .u32 a, .int .u32 b, .int .u8 p, .int .u8 t, .int .u8 s, .int .u16 i, .bool d] 25).alloc (.cells #[.int .u32 a, .int .u32 b, .int .u8 p, .int .u8 t, .int .u8 s, .int .u16 i, .bool d] 25)
  have B0 := Box.new (w.alloc (.cells #[.int .u32 a, .int .u32 b, .int .u8 p, .int .u8 t, .int .u8 s, .int .u16 i, .bool d] 25)) #[.int .u32 a, .int .u32 b, .int .u8 p, .int .u8 t, .int .u8 s, .int .u16 i, .bool d] 25
  rw [show (w.alloc (.cells #[.int .u32 a, .int .u32 b, .int .u8 p, .int .u8 t, .int .u8 s, .int .u16 i, .bool d] 25)).heap.size = w.heap.size + 1 by simp] at B0
  generalize ((w.alloc (.cells #[.int .u32 a, .int .u32 b, .int .u8 p, .int .u8 t, .int .u8 s, .int .u16 i, .bool d] 25)).alloc (.cells #[.int .u32 a, .int .u32 b, .int .u8 p, .int .u8 t, .int .u8 s, .int .u16 i, .bool d] 25)) = w0 at U0 A0 B0 ⊢
  generalize w.heap.size = n0 at A0 B0 ⊢
  obtain ⟨k0, k1, k2, k3, k4, k5, k6⟩ := Box.e7 A0
  go_wp2_with fail
  refine (encS a b p t s i d la S w0 h hla HS.out).mono ?_
  rintro e v1 ⟨rfl, hv1⟩
  have U1 := U0.on hv1
  have A1 := A0.up hv1
  have B1 := B0.up hv1
  clear k0 k1 k2 k3 k4 k5 k6 U0 A0 B0 hv1
  obtain ⟨m0, m1, m2, m3, m4, m5, m6⟩ := Box.e7 B1
  go_wp2_with fail
  refine (encS a b p t s i d la S v1 h' hla HS.out).mono ?_
  rintro e v2 ⟨rfl, hv2⟩
  have U2 := U1.on hv2
  have A2 := A1.up hv2
  have B2 := B1.up hv2
  clear m0 m1 m2 m3 m4 m5 m6 U1 A1 B1 hv2
  obtain ⟨k0, k1, k2, k3, k4, k5, k6⟩ := Box.e7 A2
  obtain ⟨m0, m1, m2, m3, m4, m5, m6⟩ := Box.e7 B2
  go_wp2_with fail
  refine (aliveC _).mono ?_
  rintro e w3 ⟨rfl, hv⟩
  go_wp2
  go_ret
  exact ⟨rfl, U2.on hv⟩

set_option maxHeartbeats 4000000 in
set_option maxRecDepth 100000 in
theorem lawApart (a b p t s i a' b' p' t' s' i' : Nat) (d d' : Bool) (la lb : ByteArray) (w : World) (h : Ok a b p t s i) (h' : Ok a' b' p' t' s' i') (hmA : la.size ≤ maxLen) (hmB : lb.size ≤ maxLen) :
    Calls Try.prog 6 #[HV a b p t s i d, HV a' b' p' t' s' i' d', .string la, .string lb] w fun e w' => e = .returned (.bool true) ∧ Up w w' := by
  by_cases hla : la.size ≤ 2048
  case neg =>
    have hla' : 2048 < la.size := by omega
    go_enter Try.func6, Try.ntmps6
    go_wp2_with fail
    refine (aliveC _).mono ?_
    rintro e w1 ⟨rfl, hv⟩
    go_wp2
    go_ret
    exact ⟨rfl, (up_al _ (up_al _ (Below.refl _ _))).on hv⟩
  by_cases hlb : lb.size ≤ 2048
  case neg =>
    have hlb' : 2048 < lb.size := by omega
    go_enter Try.func6, Try.ntmps6
    go_wp2_with fail
    refine (aliveC _).mono ?_
    rintro e w1 ⟨rfl, hv⟩
    go_wp2
    go_ret
    exact ⟨rfl, (up_al _ (up_al _ (Below.refl _ _))).on hv⟩
  rcases nine a b p t s i a' b' p' t' s' i' d d' la lb with ⟨rfl, rfl, rfl, rfl, rfl, rfl, rfl, rfl⟩ | c | ⟨rfl, c⟩ | ⟨rfl, rfl, c⟩ | ⟨rfl, rfl, rfl, c⟩ | ⟨rfl, rfl, rfl, rfl, c⟩ | ⟨rfl, rfl, rfl, rfl, rfl, c⟩ | ⟨rfl, rfl, rfl, rfl, rfl, rfl, c⟩ | ⟨rfl, rfl, rfl, rfl, rfl, rfl, rfl, c⟩
  · exact apart8 a b p t s i d la w h h' hla
  · exact apart0 a b p t s i d a' b' p' t' s' i' d' la lb w h h' hla hlb c
  · exact apart1 a b p t s i d b' p' t' s' i' d' la lb w h h' hla hlb c
  · exact apart2 a b p t s i d p' t' s' i' d' la lb w h h' hla hlb c
  · exact apart3 a b p t s i d t' s' i' d' la lb w h h' hla hlb c
  · exact apart4 a b p t s i d s' i' d' la lb w h h' hla hlb c
  · exact apart5 a b p t s i d i' d' la lb w h h' hla hlb c
  · exact apart6 a b p t s i d d' la lb w h h' hla hlb c
  · exact apart7 a b p t s i d  la lb w h h' hla hlb c
end Go.Proofs.Ytolebodpcefcfaa.ip
