/- A law of tcp, walked over the contracts: heads first unlike behind these, or not at all; all ways together. Condition: the contracts. -/
import Derived.Test.YtecogakledajkaaTcpKA
namespace Go.Proofs.Ytecogakledajkaa.tc
open Go.RowKit Go.Shelf Go.Proofs.Ytecogakledajkaa.sm Go.Proofs.Ytecogakledajkaa.nb Go.Proofs.Ytecogakledajkaa.cm
set_option linter.unusedVariables false

set_option maxHeartbeats 8000000 in
set_option maxRecDepth 100000 in
theorem moves6 (x y : Nat) (s : ByteArray) (p q sq ak fl wi ur ur' : Nat) (o : ByteArray) (o' : ByteArray) (w : World) (hs : s.size ≤ 2048) (ho : o.size ≤ 1024) (ho' : o'.size ≤ 1024)
    (HA : Hid (∀ w, Calls Try.prog 7 #[] w fun e w' => e = .returned (.bool true) ∧ Up w w')) (N : Nat) (zs : s.size = N) (x1 x2 x3 x4 x5 x6 x7 : Int) (x8 D : ByteArray) (n : Int) (HP : Hid (Part x y s N x1 x2 x3 x4 x5 x6 x7 x8 D n))
    (SA SB : ByteArray) (ea eb : Int) (CA : Hid (∀ w, Calls Try.prog 8 #[.int .u32 x, .int .u32 y, HV p q sq ak fl wi ur o, .string { data := #[100, 97, 116, 97] }] w fun e w' => e = .returned (.tuple #[.string SA, .int .i64 0]) ∧ Up w w'))
    (CB : Hid (∀ w, Calls Try.prog 8 #[.int .u32 x, .int .u32 y, HV p q sq ak fl wi ur' o', .string { data := #[100, 97, 116, 97] }] w fun e w' => e = .returned (.tuple #[.string SB, .int .i64 0]) ∧ Up w w')) (c : ¬ ur = ur') (hT : (SA.toList == SB.toList) = false) :
    Calls Try.prog 6 #[.int .u32 x, .int .u32 y, .string s, HV p q sq ak fl wi ur o, HV p q sq ak fl wi ur' o'] w fun e w' => e = .returned (.bool true) ∧ Up w w' := by
  go_enter Try.func6, Try.ntmps6
  go_upto_region 1 with fail
  have U0 : Up w ((w.alloc (.cells #[.int .u16 p, .int .u16 q, .int .u32 sq, .int .u32 ak, .int .u8 fl, .int .u16 wi, .int .u16 ur, .string o] 25)).alloc (.cells #[.int .u16 p, .int .u16 q, .int .u32 sq, .int .u32 ak, .int .u8 fl, .int .u16 wi, .int .u16 ur', .string o'] 25)) := up_al _ (up_al _ (Below.refl _ _))
  have A0 := (Box.new w #[.int .u16 p, .int .u16 q, .int .u32 sq, .int .u32 ak, .int .u8 fl, .int .u16 wi, .int .u16 ur, .string o] 25).alloc (.cells #[.int .u16 p, .int .u16 q, .int .u32 sq, .int .u32 ak, .int .u8 fl, .int .u16 wi, .int .u16 ur', .string o'] 25)
  have B0 := Box.new (w.alloc (.cells #[.int .u16 p, .int .u16 q, .int .u32 sq, .int .u32 ak, .int .u8 fl, .int .u16 wi, .int .u16 ur, .string o] 25)) #[.int .u16 p, .int .u16 q, .int .u32 sq, .int .u32 ak, .int .u8 fl, .int .u16 wi, .int .u16 ur', .string o'] 25
  rw [show (w.alloc (.cells #[.int .u16 p, .int .u16 q, .int .u32 sq, .int .u32 ak, .int .u8 fl, .int .u16 wi, .int .u16 ur, .string o] 25)).heap.size = w.heap.size + 1 by simp] at B0
  generalize ((w.alloc (.cells #[.int .u16 p, .int .u16 q, .int .u32 sq, .int .u32 ak, .int .u8 fl, .int .u16 wi, .int .u16 ur, .string o] 25)).alloc (.cells #[.int .u16 p, .int .u16 q, .int .u32 sq, .int .u32 ak, .int .u8 fl, .int .u16 wi, .int .u16 ur', .string o'] 25)) = w0 at U0 A0 B0 ⊢
  generalize w.heap.size = n0 at A0 B0 ⊢
  have g7 := A0.at 7 rfl
  have h7 := B0.at 7 rfl
  go_wp2_with fail
  refine (HP.out.1 w0).mono ?_
  rintro e v1 ⟨rfl, hv1⟩
  clear g7 h7
  go_upto_region 4 with fail
  have U2 : Up w (v1.alloc (.cells #[.int .u16 x1, .int .u16 x2, .int .u32 x3, .int .u32 x4, .int .u8 x5, .int .u16 x6, .int .u16 x7, .string x8] 25)) := up_al _ (U0.on hv1)
  have A2 := (A0.up hv1).alloc (.cells #[.int .u16 x1, .int .u16 x2, .int .u32 x3, .int .u32 x4, .int .u8 x5, .int .u16 x6, .int .u16 x7, .string x8] 25)
  have B2 := (B0.up hv1).alloc (.cells #[.int .u16 x1, .int .u16 x2, .int .u32 x3, .int .u32 x4, .int .u8 x5, .int .u16 x6, .int .u16 x7, .string x8] 25)
  have C2 := Box.new v1 #[.int .u16 x1, .int .u16 x2, .int .u32 x3, .int .u32 x4, .int .u8 x5, .int .u16 x6, .int .u16 x7, .string x8] 25
  generalize (v1.alloc (.cells #[.int .u16 x1, .int .u16 x2, .int .u32 x3, .int .u32 x4, .int .u8 x5, .int .u16 x6, .int .u16 x7, .string x8] 25)) = w2 at U2 A2 B2 C2 ⊢
  generalize v1.heap.size = n1 at C2 ⊢
  clear U0 A0 B0 hv1
  have HAB := Lib.hid (And.intro U2 (And.intro A2 B2))
  clear U2 A2 B2
  go_upto_if 44 with fail
  go_cut [] (fun wc => Hid (Up w wc ∧ Box wc n0 (#[.int .u16 p, .int .u16 q, .int .u32 sq, .int .u32 ak, .int .u8 fl, .int .u16 wi, .int .u16 ur, .string o]).toList ∧ Box wc (n0 + 1) (#[.int .u16 p, .int .u16 q, .int .u32 sq, .int .u32 ak, .int .u8 fl, .int .u16 wi, .int .u16 ur', .string o']).toList))
  case first =>
    rcases HP.out.2 with hn | ⟨rfl, hN, S, hCE, zS, e1, e2, e3⟩
    · go_wp2
      go_meet
      exact HAB
    · obtain ⟨k0, k1, k2, k3, k4, k5, k6, k7⟩ := Box.e8 C2
      have HCE := Lib.hid hCE; clear hCE
      go_wp2_with fail
      refine (HCE.out w2).mono ?_
      rintro e v3 ⟨rfl, hv3⟩
      have HAB3 := Lib.hid (And.intro (HAB.out.1.on hv3) (And.intro (HAB.out.2.1.up hv3) (HAB.out.2.2.up hv3)))
      clear k0 k1 k2 k3 k4 k5 k6 k7 hv3
      have i1 : (16 : Int) ≤ (N : Int) := by omega
      have i2 : (18 : Int) ≤ (N : Int) := by omega
      by_cases hSs : S = s
      · subst hSs
        go_upto_region 6 with fail
        go_quiet (fail)
        go_wp2
        go_meet
        exact ⟨up_drN _ HAB3.out.1, HAB3.out.2.1.drewN _, HAB3.out.2.2.drewN _⟩
      · have e4 : s.extract 16 18 = { data := #[255, 255] } := by rcases e3 with e3 | e3; exact absurd e3 hSs; exact e3
        have e5 := str_ne hSs
        clear e3 hSs
        go_upto_region 6 with fail
        go_quiet (fail)
        go_wp2
        go_meet
        exact ⟨up_drN _ HAB3.out.1, HAB3.out.2.1.drewN _, HAB3.out.2.2.drewN _⟩
  case rest =>
  obtain ⟨U3, A3, B3⟩ := hcut.out
  clear hcut HAB C2
  obtain ⟨k0, k1, k2, k3, k4, k5, k6, k7⟩ := Box.e8 A3
  go_wp2_with fail
  refine (CA.out wc).mono ?_
  rintro e v5 ⟨rfl, hv5⟩
  have U5 := U3.on hv5
  have A5 := A3.up hv5
  have B5 := B3.up hv5
  clear k0 k1 k2 k3 k4 k5 k6 k7 U3 A3 B3 hv5
  obtain ⟨m0, m1, m2, m3, m4, m5, m6, m7⟩ := Box.e8 B5
  go_wp2_with fail
  refine (CB.out v5).mono ?_
  rintro e v6 ⟨rfl, hv6⟩
  have U6 := U5.on hv6
  have A6 := A5.up hv6
  have B6 := B5.up hv6
  clear m0 m1 m2 m3 m4 m5 m6 m7 U5 A5 B5 hv6
  obtain ⟨k0, k1, k2, k3, k4, k5, k6, k7⟩ := Box.e8 A6
  obtain ⟨m0, m1, m2, m3, m4, m5, m6, m7⟩ := Box.e8 B6
  go_wp2_with fail
  refine (HA.out v6).mono ?_
  rintro e v7 ⟨rfl, hv7⟩
  go_wp2
  go_ret
  exact ⟨rfl, U6.on hv7⟩
set_option maxHeartbeats 8000000 in
set_option maxRecDepth 100000 in
theorem moves7 (x y : Nat) (s : ByteArray) (p q sq ak fl wi ur : Nat) (o : ByteArray) (o' : ByteArray) (w : World) (hs : s.size ≤ 2048) (ho : o.size ≤ 1024) (ho' : o'.size ≤ 1024)
    (HA : Hid (∀ w, Calls Try.prog 7 #[] w fun e w' => e = .returned (.bool true) ∧ Up w w')) (N : Nat) (zs : s.size = N) (x1 x2 x3 x4 x5 x6 x7 : Int) (x8 D : ByteArray) (n : Int) (HP : Hid (Part x y s N x1 x2 x3 x4 x5 x6 x7 x8 D n))
    (SA SB : ByteArray) (ea eb : Int) (CA : Hid (∀ w, Calls Try.prog 8 #[.int .u32 x, .int .u32 y, HV p q sq ak fl wi ur o, .string { data := #[100, 97, 116, 97] }] w fun e w' => e = .returned (.tuple #[.string SA, .int .i64 0]) ∧ Up w w'))
    (CB : Hid (∀ w, Calls Try.prog 8 #[.int .u32 x, .int .u32 y, HV p q sq ak fl wi ur o', .string { data := #[100, 97, 116, 97] }] w fun e w' => e = .returned (.tuple #[.string SB, .int .i64 0]) ∧ Up w w')) (c : ¬ o = o') (hT : (SA.toList == SB.toList) = false) :
    Calls Try.prog 6 #[.int .u32 x, .int .u32 y, .string s, HV p q sq ak fl wi ur o, HV p q sq ak fl wi ur o'] w fun e w' => e = .returned (.bool true) ∧ Up w w' := by
  have nO := str_ne c
  go_enter Try.func6, Try.ntmps6
  go_upto_region 1 with fail
  have U0 : Up w ((w.alloc (.cells #[.int .u16 p, .int .u16 q, .int .u32 sq, .int .u32 ak, .int .u8 fl, .int .u16 wi, .int .u16 ur, .string o] 25)).alloc (.cells #[.int .u16 p, .int .u16 q, .int .u32 sq, .int .u32 ak, .int .u8 fl, .int .u16 wi, .int .u16 ur, .string o'] 25)) := up_al _ (up_al _ (Below.refl _ _))
  have A0 := (Box.new w #[.int .u16 p, .int .u16 q, .int .u32 sq, .int .u32 ak, .int .u8 fl, .int .u16 wi, .int .u16 ur, .string o] 25).alloc (.cells #[.int .u16 p, .int .u16 q, .int .u32 sq, .int .u32 ak, .int .u8 fl, .int .u16 wi, .int .u16 ur, .string o'] 25)
  have B0 := Box.new (w.alloc (.cells #[.int .u16 p, .int .u16 q, .int .u32 sq, .int .u32 ak, .int .u8 fl, .int .u16 wi, .int .u16 ur, .string o] 25)) #[.int .u16 p, .int .u16 q, .int .u32 sq, .int .u32 ak, .int .u8 fl, .int .u16 wi, .int .u16 ur, .string o'] 25
  rw [show (w.alloc (.cells #[.int .u16 p, .int .u16 q, .int .u32 sq, .int .u32 ak, .int .u8 fl, .int .u16 wi, .int .u16 ur, .string o] 25)).heap.size = w.heap.size + 1 by simp] at B0
  generalize ((w.alloc (.cells #[.int .u16 p, .int .u16 q, .int .u32 sq, .int .u32 ak, .int .u8 fl, .int .u16 wi, .int .u16 ur, .string o] 25)).alloc (.cells #[.int .u16 p, .int .u16 q, .int .u32 sq, .int .u32 ak, .int .u8 fl, .int .u16 wi, .int .u16 ur, .string o'] 25)) = w0 at U0 A0 B0 ⊢
  generalize w.heap.size = n0 at A0 B0 ⊢
  have g7 := A0.at 7 rfl
  have h7 := B0.at 7 rfl
  go_wp2_with fail
  refine (HP.out.1 w0).mono ?_
  rintro e v1 ⟨rfl, hv1⟩
  clear g7 h7
  go_upto_region 4 with fail
  have U2 : Up w (v1.alloc (.cells #[.int .u16 x1, .int .u16 x2, .int .u32 x3, .int .u32 x4, .int .u8 x5, .int .u16 x6, .int .u16 x7, .string x8] 25)) := up_al _ (U0.on hv1)
  have A2 := (A0.up hv1).alloc (.cells #[.int .u16 x1, .int .u16 x2, .int .u32 x3, .int .u32 x4, .int .u8 x5, .int .u16 x6, .int .u16 x7, .string x8] 25)
  have B2 := (B0.up hv1).alloc (.cells #[.int .u16 x1, .int .u16 x2, .int .u32 x3, .int .u32 x4, .int .u8 x5, .int .u16 x6, .int .u16 x7, .string x8] 25)
  have C2 := Box.new v1 #[.int .u16 x1, .int .u16 x2, .int .u32 x3, .int .u32 x4, .int .u8 x5, .int .u16 x6, .int .u16 x7, .string x8] 25
  generalize (v1.alloc (.cells #[.int .u16 x1, .int .u16 x2, .int .u32 x3, .int .u32 x4, .int .u8 x5, .int .u16 x6, .int .u16 x7, .string x8] 25)) = w2 at U2 A2 B2 C2 ⊢
  generalize v1.heap.size = n1 at C2 ⊢
  clear U0 A0 B0 hv1
  have HAB := Lib.hid (And.intro U2 (And.intro A2 B2))
  clear U2 A2 B2
  go_upto_if 44 with fail
  go_cut [] (fun wc => Hid (Up w wc ∧ Box wc n0 (#[.int .u16 p, .int .u16 q, .int .u32 sq, .int .u32 ak, .int .u8 fl, .int .u16 wi, .int .u16 ur, .string o]).toList ∧ Box wc (n0 + 1) (#[.int .u16 p, .int .u16 q, .int .u32 sq, .int .u32 ak, .int .u8 fl, .int .u16 wi, .int .u16 ur, .string o']).toList))
  case first =>
    rcases HP.out.2 with hn | ⟨rfl, hN, S, hCE, zS, e1, e2, e3⟩
    · go_wp2
      go_meet
      exact HAB
    · obtain ⟨k0, k1, k2, k3, k4, k5, k6, k7⟩ := Box.e8 C2
      have HCE := Lib.hid hCE; clear hCE
      go_wp2_with fail
      refine (HCE.out w2).mono ?_
      rintro e v3 ⟨rfl, hv3⟩
      have HAB3 := Lib.hid (And.intro (HAB.out.1.on hv3) (And.intro (HAB.out.2.1.up hv3) (HAB.out.2.2.up hv3)))
      clear k0 k1 k2 k3 k4 k5 k6 k7 hv3
      have i1 : (16 : Int) ≤ (N : Int) := by omega
      have i2 : (18 : Int) ≤ (N : Int) := by omega
      by_cases hSs : S = s
      · subst hSs
        go_upto_region 6 with fail
        go_quiet (fail)
        go_wp2
        go_meet
        exact ⟨up_drN _ HAB3.out.1, HAB3.out.2.1.drewN _, HAB3.out.2.2.drewN _⟩
      · have e4 : s.extract 16 18 = { data := #[255, 255] } := by rcases e3 with e3 | e3; exact absurd e3 hSs; exact e3
        have e5 := str_ne hSs
        clear e3 hSs
        go_upto_region 6 with fail
        go_quiet (fail)
        go_wp2
        go_meet
        exact ⟨up_drN _ HAB3.out.1, HAB3.out.2.1.drewN _, HAB3.out.2.2.drewN _⟩
  case rest =>
  obtain ⟨U3, A3, B3⟩ := hcut.out
  clear hcut HAB C2
  obtain ⟨k0, k1, k2, k3, k4, k5, k6, k7⟩ := Box.e8 A3
  go_wp2_with fail
  refine (CA.out wc).mono ?_
  rintro e v5 ⟨rfl, hv5⟩
  have U5 := U3.on hv5
  have A5 := A3.up hv5
  have B5 := B3.up hv5
  clear k0 k1 k2 k3 k4 k5 k6 k7 U3 A3 B3 hv5
  obtain ⟨m0, m1, m2, m3, m4, m5, m6, m7⟩ := Box.e8 B5
  go_wp2_with fail
  refine (CB.out v5).mono ?_
  rintro e v6 ⟨rfl, hv6⟩
  have U6 := U5.on hv6
  have A6 := A5.up hv6
  have B6 := B5.up hv6
  clear m0 m1 m2 m3 m4 m5 m6 m7 U5 A5 B5 hv6
  obtain ⟨k0, k1, k2, k3, k4, k5, k6, k7⟩ := Box.e8 A6
  obtain ⟨m0, m1, m2, m3, m4, m5, m6, m7⟩ := Box.e8 B6
  go_wp2_with fail
  refine (HA.out v6).mono ?_
  rintro e v7 ⟨rfl, hv7⟩
  go_wp2
  go_ret
  exact ⟨rfl, U6.on hv7⟩
set_option maxHeartbeats 8000000 in
set_option maxRecDepth 100000 in
theorem moves8 (x y : Nat) (s : ByteArray) (p q sq ak fl wi ur : Nat) (o : ByteArray) (w : World) (hs : s.size ≤ 2048) (ho : o.size ≤ 1024) (ho' : o.size ≤ 1024)
    (HA : Hid (∀ w, Calls Try.prog 7 #[] w fun e w' => e = .returned (.bool true) ∧ Up w w')) (N : Nat) (zs : s.size = N) (x1 x2 x3 x4 x5 x6 x7 : Int) (x8 D : ByteArray) (n : Int) (HP : Hid (Part x y s N x1 x2 x3 x4 x5 x6 x7 x8 D n))
    (SA SB : ByteArray) (ea eb : Int) (CA : Hid (∀ w, Calls Try.prog 8 #[.int .u32 x, .int .u32 y, HV p q sq ak fl wi ur o, .string { data := #[100, 97, 116, 97] }] w fun e w' => e = .returned (.tuple #[.string SA, .int .i64 0]) ∧ Up w w'))
    (CB : Hid (∀ w, Calls Try.prog 8 #[.int .u32 x, .int .u32 y, HV p q sq ak fl wi ur o, .string { data := #[100, 97, 116, 97] }] w fun e w' => e = .returned (.tuple #[.string SA, .int .i64 0]) ∧ Up w w'))  :
    Calls Try.prog 6 #[.int .u32 x, .int .u32 y, .string s, HV p q sq ak fl wi ur o, HV p q sq ak fl wi ur o] w fun e w' => e = .returned (.bool true) ∧ Up w w' := by
  go_enter Try.func6, Try.ntmps6
  go_upto_region 1 with fail
  have U0 : Up w ((w.alloc (.cells #[.int .u16 p, .int .u16 q, .int .u32 sq, .int .u32 ak, .int .u8 fl, .int .u16 wi, .int .u16 ur, .string o] 25)).alloc (.cells #[.int .u16 p, .int .u16 q, .int .u32 sq, .int .u32 ak, .int .u8 fl, .int .u16 wi, .int .u16 ur, .string o] 25)) := up_al _ (up_al _ (Below.refl _ _))
  have A0 := (Box.new w #[.int .u16 p, .int .u16 q, .int .u32 sq, .int .u32 ak, .int .u8 fl, .int .u16 wi, .int .u16 ur, .string o] 25).alloc (.cells #[.int .u16 p, .int .u16 q, .int .u32 sq, .int .u32 ak, .int .u8 fl, .int .u16 wi, .int .u16 ur, .string o] 25)
  have B0 := Box.new (w.alloc (.cells #[.int .u16 p, .int .u16 q, .int .u32 sq, .int .u32 ak, .int .u8 fl, .int .u16 wi, .int .u16 ur, .string o] 25)) #[.int .u16 p, .int .u16 q, .int .u32 sq, .int .u32 ak, .int .u8 fl, .int .u16 wi, .int .u16 ur, .string o] 25
  rw [show (w.alloc (.cells #[.int .u16 p, .int .u16 q, .int .u32 sq, .int .u32 ak, .int .u8 fl, .int .u16 wi, .int .u16 ur, .string o] 25)).heap.size = w.heap.size + 1 by simp] at B0
  generalize ((w.alloc (.cells #[.int .u16 p, .int .u16 q, .int .u32 sq, .int .u32 ak, .int .u8 fl, .int .u16 wi, .int .u16 ur, .string o] 25)).alloc (.cells #[.int .u16 p, .int .u16 q, .int .u32 sq, .int .u32 ak, .int .u8 fl, .int .u16 wi, .int .u16 ur, .string o] 25)) = w0 at U0 A0 B0 ⊢
  generalize w.heap.size = n0 at A0 B0 ⊢
  have g7 := A0.at 7 rfl
  have h7 := B0.at 7 rfl
  go_wp2_with fail
  refine (HP.out.1 w0).mono ?_
  rintro e v1 ⟨rfl, hv1⟩
  clear g7 h7
  go_upto_region 4 with fail
  have U2 : Up w (v1.alloc (.cells #[.int .u16 x1, .int .u16 x2, .int .u32 x3, .int .u32 x4, .int .u8 x5, .int .u16 x6, .int .u16 x7, .string x8] 25)) := up_al _ (U0.on hv1)
  have A2 := (A0.up hv1).alloc (.cells #[.int .u16 x1, .int .u16 x2, .int .u32 x3, .int .u32 x4, .int .u8 x5, .int .u16 x6, .int .u16 x7, .string x8] 25)
  have B2 := (B0.up hv1).alloc (.cells #[.int .u16 x1, .int .u16 x2, .int .u32 x3, .int .u32 x4, .int .u8 x5, .int .u16 x6, .int .u16 x7, .string x8] 25)
  have C2 := Box.new v1 #[.int .u16 x1, .int .u16 x2, .int .u32 x3, .int .u32 x4, .int .u8 x5, .int .u16 x6, .int .u16 x7, .string x8] 25
  generalize (v1.alloc (.cells #[.int .u16 x1, .int .u16 x2, .int .u32 x3, .int .u32 x4, .int .u8 x5, .int .u16 x6, .int .u16 x7, .string x8] 25)) = w2 at U2 A2 B2 C2 ⊢
  generalize v1.heap.size = n1 at C2 ⊢
  clear U0 A0 B0 hv1
  have HAB := Lib.hid (And.intro U2 (And.intro A2 B2))
  clear U2 A2 B2
  go_upto_if 44 with fail
  go_cut [] (fun wc => Hid (Up w wc ∧ Box wc n0 (#[.int .u16 p, .int .u16 q, .int .u32 sq, .int .u32 ak, .int .u8 fl, .int .u16 wi, .int .u16 ur, .string o]).toList ∧ Box wc (n0 + 1) (#[.int .u16 p, .int .u16 q, .int .u32 sq, .int .u32 ak, .int .u8 fl, .int .u16 wi, .int .u16 ur, .string o]).toList))
  case first =>
    rcases HP.out.2 with hn | ⟨rfl, hN, S, hCE, zS, e1, e2, e3⟩
    · go_wp2
      go_meet
      exact HAB
    · obtain ⟨k0, k1, k2, k3, k4, k5, k6, k7⟩ := Box.e8 C2
      have HCE := Lib.hid hCE; clear hCE
      go_wp2_with fail
      refine (HCE.out w2).mono ?_
      rintro e v3 ⟨rfl, hv3⟩
      have HAB3 := Lib.hid (And.intro (HAB.out.1.on hv3) (And.intro (HAB.out.2.1.up hv3) (HAB.out.2.2.up hv3)))
      clear k0 k1 k2 k3 k4 k5 k6 k7 hv3
      have i1 : (16 : Int) ≤ (N : Int) := by omega
      have i2 : (18 : Int) ≤ (N : Int) := by omega
      by_cases hSs : S = s
      · subst hSs
        go_upto_region 6 with fail
        go_quiet (fail)
        go_wp2
        go_meet
        exact ⟨up_drN _ HAB3.out.1, HAB3.out.2.1.drewN _, HAB3.out.2.2.drewN _⟩
      · have e4 : s.extract 16 18 = { data := #[255, 255] } := by rcases e3 with e3 | e3; exact absurd e3 hSs; exact e3
        have e5 := str_ne hSs
        clear e3 hSs
        go_upto_region 6 with fail
        go_quiet (fail)
        go_wp2
        go_meet
        exact ⟨up_drN _ HAB3.out.1, HAB3.out.2.1.drewN _, HAB3.out.2.2.drewN _⟩
  case rest =>
  obtain ⟨U3, A3, B3⟩ := hcut.out
  clear hcut HAB C2
  obtain ⟨k0, k1, k2, k3, k4, k5, k6, k7⟩ := Box.e8 A3
  go_wp2_with fail
  refine (CA.out wc).mono ?_
  rintro e v5 ⟨rfl, hv5⟩
  have U5 := U3.on hv5
  have A5 := A3.up hv5
  have B5 := B3.up hv5
  clear k0 k1 k2 k3 k4 k5 k6 k7 U3 A3 B3 hv5
  obtain ⟨m0, m1, m2, m3, m4, m5, m6, m7⟩ := Box.e8 B5
  go_wp2_with fail
  refine (CB.out v5).mono ?_
  rintro e v6 ⟨rfl, hv6⟩
  have U6 := U5.on hv6
  have A6 := A5.up hv6
  have B6 := B5.up hv6
  clear m0 m1 m2 m3 m4 m5 m6 m7 U5 A5 B5 hv6
  obtain ⟨k0, k1, k2, k3, k4, k5, k6, k7⟩ := Box.e8 A6
  obtain ⟨m0, m1, m2, m3, m4, m5, m6, m7⟩ := Box.e8 B6
  go_wp2_with fail
  refine (HA.out v6).mono ?_
  rintro e v7 ⟨rfl, hv7⟩
  go_wp2
  go_ret
  exact ⟨rfl, U6.on hv7⟩

theorem nine (p q sq ak fl wi ur p' q' sq' ak' fl' wi' ur' : Nat) (o o' : ByteArray) :
    (p = p' ∧ q = q' ∧ sq = sq' ∧ ak = ak' ∧ fl = fl' ∧ wi = wi' ∧ ur = ur' ∧ o = o') ∨
      (¬ p = p') ∨
      (p = p' ∧ ¬ q = q') ∨
      (p = p' ∧ q = q' ∧ ¬ sq = sq') ∨
      (p = p' ∧ q = q' ∧ sq = sq' ∧ ¬ ak = ak') ∨
      (p = p' ∧ q = q' ∧ sq = sq' ∧ ak = ak' ∧ ¬ fl = fl') ∨
      (p = p' ∧ q = q' ∧ sq = sq' ∧ ak = ak' ∧ fl = fl' ∧ ¬ wi = wi') ∨
      (p = p' ∧ q = q' ∧ sq = sq' ∧ ak = ak' ∧ fl = fl' ∧ wi = wi' ∧ ¬ ur = ur') ∨
      (p = p' ∧ q = q' ∧ sq = sq' ∧ ak = ak' ∧ fl = fl' ∧ wi = wi' ∧ ur = ur' ∧ ¬ o = o') := by
  by_cases c0 : p = p'
  case neg => exact .inr <| .inl (c0)
  by_cases c1 : q = q'
  case neg => exact .inr <| .inr <| .inl (⟨c0, c1⟩)
  by_cases c2 : sq = sq'
  case neg => exact .inr <| .inr <| .inr <| .inl (⟨c0, c1, c2⟩)
  by_cases c3 : ak = ak'
  case neg => exact .inr <| .inr <| .inr <| .inr <| .inl (⟨c0, c1, c2, c3⟩)
  by_cases c4 : fl = fl'
  case neg => exact .inr <| .inr <| .inr <| .inr <| .inr <| .inl (⟨c0, c1, c2, c3, c4⟩)
  by_cases c5 : wi = wi'
  case neg => exact .inr <| .inr <| .inr <| .inr <| .inr <| .inr <| .inl (⟨c0, c1, c2, c3, c4, c5⟩)
  by_cases c6 : ur = ur'
  case neg => exact .inr <| .inr <| .inr <| .inr <| .inr <| .inr <| .inr <| .inl (⟨c0, c1, c2, c3, c4, c5, c6⟩)
  by_cases c7 : o = o'
  case neg => exact .inr <| .inr <| .inr <| .inr <| .inr <| .inr <| .inr <| .inr <| ⟨c0, c1, c2, c3, c4, c5, c6, c7⟩
  exact .inl ⟨c0, c1, c2, c3, c4, c5, c6, c7⟩

theorem encD (hE : EncC) (x y p q sq ak fl wi ur : Nat) (o : ByteArray) (hx : x ≤ 4294967295) (hy : y ≤ 4294967295) (h : Ok p q sq ak fl wi ur) (ho : o.size ≤ 1024) :
    (∃ SA ea, (¬ ea = 0) ∧ ∀ w, Calls Try.prog 8 #[.int .u32 x, .int .u32 y, HV p q sq ak fl wi ur o, .string { data := #[100, 97, 116, 97] }] w fun e w' => e = .returned (.tuple #[.string SA, .int .i64 ea]) ∧ Up w w') ∨
    (∃ SA, SA = tx (en x y p q sq ak fl wi ur (L o) (L { data := #[100, 97, 116, 97] })) ∧ ∀ w, Calls Try.prog 8 #[.int .u32 x, .int .u32 y, HV p q sq ak fl wi ur o, .string { data := #[100, 97, 116, 97] }] w fun e w' => e = .returned (.tuple #[.string SA, .int .i64 0]) ∧ Up w w') := by
  by_cases hb : o.size % 4 ≠ 0 ∨ 40 < o.size ∨ 64 ≤ fl
  · exact .inl ⟨ByteArray.empty, 2, by decide, fun w => (hE x y p q sq ak fl wi ur o _ w hx hy h (by omega) (by decide)).mono fun e w' hh => ⟨by rw [hh.1, EV_arg hb], hh.2⟩⟩
  · exact .inr ⟨_, rfl, fun w => (hE x y p q sq ak fl wi ur o _ w hx hy h (by omega) (by decide)).mono fun e w' hh => ⟨by rw [hh.1, EV_ok hb (by have : ByteArray.size { data := #[100, 97, 116, 97] } = 4 := rfl; omega)], hh.2⟩⟩

set_option maxHeartbeats 4000000 in
set_option maxRecDepth 100000 in
theorem lawMoves0 (hE : EncC) (hD : DecC) (x y : Nat) (s : ByteArray) (p q sq ak fl wi ur p' q' sq' ak' fl' wi' ur' : Nat) (o o' : ByteArray) (w : World) (hl : 2048 < s.size ∨ (s.size ≤ 2048 ∧ 1024 < o.size) ∨ (s.size ≤ 2048 ∧ o.size ≤ 1024 ∧ 1024 < o'.size)) (hms : s.size ≤ maxLen) (hmo : o.size ≤ maxLen) (hmo' : o'.size ≤ maxLen) :
    Calls Try.prog 6 #[.int .u32 x, .int .u32 y, .string s, HV p q sq ak fl wi ur o, HV p' q' sq' ak' fl' wi' ur' o'] w fun e w' => e = .returned (.bool true) ∧ Up w w' := by
  have HA := Lib.hid (fun w => aliveC hE hD w)
  clear hE hD
  rcases hl with hl | ⟨hl1, hl⟩ | ⟨hl1, hl2, hl⟩
  all_goals
    go_enter Try.func6, Try.ntmps6
    go_wp2_with fail
    refine (HA.out _).mono ?_
    rintro e w1 ⟨rfl, hv⟩
    go_wp2
    go_ret
    exact ⟨rfl, (up_al _ (up_al _ (Below.refl _ _))).on hv⟩
theorem lawMoves (hE : EncC) (hD : DecC) (x y : Nat) (s : ByteArray) (p q sq ak fl wi ur p' q' sq' ak' fl' wi' ur' : Nat) (o o' : ByteArray) (w : World) (hx : x ≤ 4294967295) (hy : y ≤ 4294967295) (h : Ok p q sq ak fl wi ur) (h' : Ok p' q' sq' ak' fl' wi' ur') (hms : s.size ≤ maxLen) (hmo : o.size ≤ maxLen) (hmo' : o'.size ≤ maxLen) :
    Calls Try.prog 6 #[.int .u32 x, .int .u32 y, .string s, HV p q sq ak fl wi ur o, HV p' q' sq' ak' fl' wi' ur' o'] w fun e w' => e = .returned (.bool true) ∧ Up w w' := by
  by_cases h1 : s.size ≤ 2048
  case neg => exact lawMoves0 hE hD x y s p q sq ak fl wi ur p' q' sq' ak' fl' wi' ur' o o' w (.inl (by omega)) hms hmo hmo'
  by_cases h2 : o.size ≤ 1024
  case neg => exact lawMoves0 hE hD x y s p q sq ak fl wi ur p' q' sq' ak' fl' wi' ur' o o' w (.inr (.inl ⟨h1, by omega⟩)) hms hmo hmo'
  by_cases h3 : o'.size ≤ 1024
  case neg => exact lawMoves0 hE hD x y s p q sq ak fl wi ur p' q' sq' ak' fl' wi' ur' o o' w (.inr (.inr ⟨h1, h2, by omega⟩)) hms hmo hmo'
  have HA := Lib.hid (fun w => aliveC hE hD w)
  obtain ⟨x1, x2, x3, x4, x5, x6, x7, x8, D, n, hP⟩ := part hE hD x y s hx hy h1
  have HP := Lib.hid hP
  rcases encD hE x y p q sq ak fl wi ur o hx hy h h2 with ⟨SA, ea, hea, ca⟩ | ⟨SA, sa, ca⟩
  · rcases encD hE x y p' q' sq' ak' fl' wi' ur' o' hx hy h' h3 with ⟨SB, eb, heb, cb⟩ | ⟨SB, sb, cb⟩
    · exact movesA x y s p q sq ak fl wi ur p' q' sq' ak' fl' wi' ur' o o' w h1 h2 h3 HA s.size rfl x1 x2 x3 x4 x5 x6 x7 x8 D n HP SA SB ea eb (Lib.hid ca) (Lib.hid cb) hea
    · exact movesA x y s p q sq ak fl wi ur p' q' sq' ak' fl' wi' ur' o o' w h1 h2 h3 HA s.size rfl x1 x2 x3 x4 x5 x6 x7 x8 D n HP SA SB ea 0 (Lib.hid ca) (Lib.hid cb) hea
  rcases encD hE x y p' q' sq' ak' fl' wi' ur' o' hx hy h' h3 with ⟨SB, eb, heb, cb⟩ | ⟨SB, sb, cb⟩
  · exact movesB x y s p q sq ak fl wi ur p' q' sq' ak' fl' wi' ur' o o' w h1 h2 h3 HA s.size rfl x1 x2 x3 x4 x5 x6 x7 x8 D n HP SA SB 0 eb (Lib.hid ca) (Lib.hid cb) heb
  rcases nine p q sq ak fl wi ur p' q' sq' ak' fl' wi' ur' o o' with ⟨rfl, rfl, rfl, rfl, rfl, rfl, rfl, rfl⟩ | c | ⟨rfl, c⟩ | ⟨rfl, rfl, c⟩ | ⟨rfl, rfl, rfl, c⟩ | ⟨rfl, rfl, rfl, rfl, c⟩ | ⟨rfl, rfl, rfl, rfl, rfl, c⟩ | ⟨rfl, rfl, rfl, rfl, rfl, rfl, c⟩ | ⟨rfl, rfl, rfl, rfl, rfl, rfl, rfl, c⟩
  · have e : SB = SA := sb.trans sa.symm
    subst e
    exact moves8 x y s p q sq ak fl wi ur o w h1 h2 h2 HA s.size rfl x1 x2 x3 x4 x5 x6 x7 x8 D n HP SB SB 0 0 (Lib.hid ca) (Lib.hid cb)
  · exact moves0 x y s p q sq ak fl wi ur p' q' sq' ak' fl' wi' ur' o o' w h1 h2 h3 HA s.size rfl x1 x2 x3 x4 x5 x6 x7 x8 D n HP SA SB 0 0 (Lib.hid ca) (Lib.hid cb) c (str_ne fun e => c (enS_ne h h' sa sb e).1)
  · exact moves1 x y s p q sq ak fl wi ur q' sq' ak' fl' wi' ur' o o' w h1 h2 h3 HA s.size rfl x1 x2 x3 x4 x5 x6 x7 x8 D n HP SA SB 0 0 (Lib.hid ca) (Lib.hid cb) c (str_ne fun e => c (enS_ne h h' sa sb e).2.1)
  · exact moves2 x y s p q sq ak fl wi ur sq' ak' fl' wi' ur' o o' w h1 h2 h3 HA s.size rfl x1 x2 x3 x4 x5 x6 x7 x8 D n HP SA SB 0 0 (Lib.hid ca) (Lib.hid cb) c (str_ne fun e => c (enS_ne h h' sa sb e).2.2.1)
  · exact moves3 x y s p q sq ak fl wi ur ak' fl' wi' ur' o o' w h1 h2 h3 HA s.size rfl x1 x2 x3 x4 x5 x6 x7 x8 D n HP SA SB 0 0 (Lib.hid ca) (Lib.hid cb) c (str_ne fun e => c (enS_ne h h' sa sb e).2.2.2.1)
  · exact moves4 x y s p q sq ak fl wi ur fl' wi' ur' o o' w h1 h2 h3 HA s.size rfl x1 x2 x3 x4 x5 x6 x7 x8 D n HP SA SB 0 0 (Lib.hid ca) (Lib.hid cb) c (str_ne fun e => c (enS_ne h h' sa sb e).2.2.2.2.1)
  · exact moves5 x y s p q sq ak fl wi ur wi' ur' o o' w h1 h2 h3 HA s.size rfl x1 x2 x3 x4 x5 x6 x7 x8 D n HP SA SB 0 0 (Lib.hid ca) (Lib.hid cb) c (str_ne fun e => c (enS_ne h h' sa sb e).2.2.2.2.2.1)
  · exact moves6 x y s p q sq ak fl wi ur ur' o o' w h1 h2 h3 HA s.size rfl x1 x2 x3 x4 x5 x6 x7 x8 D n HP SA SB 0 0 (Lib.hid ca) (Lib.hid cb) c (str_ne fun e => c (enS_ne h h' sa sb e).2.2.2.2.2.2.1)
  · exact moves7 x y s p q sq ak fl wi ur  o o' w h1 h2 h3 HA s.size rfl x1 x2 x3 x4 x5 x6 x7 x8 D n HP SA SB 0 0 (Lib.hid ca) (Lib.hid cb) c (str_ne fun e => c (enS_ne h h' sa sb e).2.2.2.2.2.2.2)
end Go.Proofs.Ytecogakledajkaa.tc
