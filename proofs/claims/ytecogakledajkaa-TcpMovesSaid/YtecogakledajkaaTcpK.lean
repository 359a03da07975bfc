/- A law of tcp, walked over the contracts: what is read is written again; heads that are not the same have bytes that are not. Condition: the contracts. -/
import Derived.Test.YtecogakledajkaaTcpL
import Derived.Test.YtecogakledajkaaTcpN
namespace Go.Proofs.Ytecogakledajkaa.tc
open Go.RowKit Go.Shelf Go.Proofs.Ytecogakledajkaa.sm Go.Proofs.Ytecogakledajkaa.nb Go.Proofs.Ytecogakledajkaa.cm
set_option linter.unusedVariables false

theorem str_ne {x y : ByteArray} (h : x ≠ y) : (x.toList == y.toList) = false := by
  rw [ByteArray.toList_eq, ByteArray.toList_eq]
  simp only [beq_eq_false_iff_ne]
  exact fun hh => h (ba_eq hh)
theorem apart {x y p q sq ak fl wi ur p' q' sq' ak' fl' wi' ur' : Nat} {o o' d : List UInt8} (h : Ok p q sq ak fl wi ur) (h' : Ok p' q' sq' ak' fl' wi' ur')
    (he : en x y p q sq ak fl wi ur o d = en x y p' q' sq' ak' fl' wi' ur' o' d) : p = p' ∧ q = q' ∧ sq = sq' ∧ ak = ak' ∧ fl = fl' ∧ wi = wi' ∧ ur = ur' ∧ o = o' := by
  obtain ⟨a1, a2, a3, a4, a5, a6, a7⟩ := h
  obtain ⟨b1, b2, b3, b4, b5, b6, b7⟩ := h'
  have e1 := en_p (x := x) (y := y) (q := q) (sq := sq) (ak := ak) (fl := fl) (wi := wi) (ur := ur) (o := o) (d := d) a1
  have f1 := en_p (x := x) (y := y) (q := q') (sq := sq') (ak := ak') (fl := fl') (wi := wi') (ur := ur') (o := o') (d := d) b1
  have e2 := en_q (x := x) (y := y) (p := p) (sq := sq) (ak := ak) (fl := fl) (wi := wi) (ur := ur) (o := o) (d := d) a2
  have f2 := en_q (x := x) (y := y) (p := p') (sq := sq') (ak := ak') (fl := fl') (wi := wi') (ur := ur') (o := o') (d := d) b2
  have e3 := en_sq (x := x) (y := y) (p := p) (q := q) (ak := ak) (fl := fl) (wi := wi) (ur := ur) (o := o) (d := d) a3
  have f3 := en_sq (x := x) (y := y) (p := p') (q := q') (ak := ak') (fl := fl') (wi := wi') (ur := ur') (o := o') (d := d) b3
  have e4 := en_ak (x := x) (y := y) (p := p) (q := q) (sq := sq) (fl := fl) (wi := wi) (ur := ur) (o := o) (d := d) a4
  have f4 := en_ak (x := x) (y := y) (p := p') (q := q') (sq := sq') (fl := fl') (wi := wi') (ur := ur') (o := o') (d := d) b4
  have e5 := en_13 (x := x) (y := y) (p := p) (q := q) (sq := sq) (ak := ak) (wi := wi) (ur := ur) (o := o) (d := d) a5
  have f5 := en_13 (x := x) (y := y) (p := p') (q := q') (sq := sq') (ak := ak') (wi := wi') (ur := ur') (o := o') (d := d) b5
  have e6 := en_wi (x := x) (y := y) (p := p) (q := q) (sq := sq) (ak := ak) (fl := fl) (ur := ur) (o := o) (d := d) a6
  have f6 := en_wi (x := x) (y := y) (p := p') (q := q') (sq := sq') (ak := ak') (fl := fl') (ur := ur') (o := o') (d := d) b6
  have e7 := en_ur (x := x) (y := y) (p := p) (q := q) (sq := sq) (ak := ak) (fl := fl) (wi := wi) (o := o) (d := d) a7
  have f7 := en_ur (x := x) (y := y) (p := p') (q := q') (sq := sq') (ak := ak') (fl := fl') (wi := wi') (o := o') (d := d) b7
  have e8 := en_20 (x := x) (y := y) (p := p) (q := q) (sq := sq) (ak := ak) (fl := fl) (wi := wi) (ur := ur) (o := o) (d := d)
  have f8 := en_20 (x := x) (y := y) (p := p') (q := q') (sq := sq') (ak := ak') (fl := fl') (wi := wi') (ur := ur') (o := o') (d := d)
  rw [he] at e1 e2 e3 e4 e5 e6 e7 e8
  refine ⟨by omega, by omega, by omega, by omega, by omega, by omega, by omega, ?_⟩
  rw [e8] at f8
  exact (List.append_inj' f8 rfl).1
theorem enS_ne {x y p q sq ak fl wi ur p' q' sq' ak' fl' wi' ur' : Nat} {o o' d S S' : ByteArray} (h : Ok p q sq ak fl wi ur) (h' : Ok p' q' sq' ak' fl' wi' ur')
    (hS : S = tx (en x y p q sq ak fl wi ur (L o) (L d))) (hS' : S' = tx (en x y p' q' sq' ak' fl' wi' ur' (L o') (L d))) (he : S = S') : p = p' ∧ q = q' ∧ sq = sq' ∧ ak = ak' ∧ fl = fl' ∧ wi = wi' ∧ ur = ur' ∧ o = o' := by
  rw [hS, hS'] at he
  have e := congrArg L he
  rw [L_tx, L_tx] at e
  obtain ⟨h1, h2, h3, h4, h5, h6, h7, h8⟩ := apart h h' e
  exact ⟨h1, h2, h3, h4, h5, h6, h7, ba_eq h8⟩

/-- what the first part of the law meets -/
def Part (x y : Nat) (s : ByteArray) (N : Nat) (x1 x2 x3 x4 x5 x6 x7 : Int) (x8 D : ByteArray) (n : Int) : Prop :=
  (∀ w, Calls Try.prog 10 #[.int .u32 x, .int .u32 y, .string s] w fun e w' => e = .returned (.tuple #[HV x1 x2 x3 x4 x5 x6 x7 x8, .string D, .int .i64 n]) ∧ Up w w') ∧
  (¬ n = 0 ∨ (n = 0 ∧ 20 ≤ N ∧ ∃ S : ByteArray, (∀ w, Calls Try.prog 8 #[.int .u32 x, .int .u32 y, HV x1 x2 x3 x4 x5 x6 x7 x8, .string D] w fun e w' => e = .returned (.tuple #[.string S, .int .i64 0]) ∧ Up w w') ∧
    S.size = N ∧ S.extract 0 16 = s.extract 0 16 ∧ S.extract 18 N = s.extract 18 N ∧ (S = s ∨ s.extract 16 18 = { data := #[255, 255] })))
theorem part (hE : EncC) (hD : DecC) (x y : Nat) (s : ByteArray) (hx : x ≤ 4294967295) (hy : y ≤ 4294967295) (hs : s.size ≤ 2048) : ∃ x1 x2 x3 x4 x5 x6 x7 x8 D n, Part x y s s.size x1 x2 x3 x4 x5 x6 x7 x8 D n := by
  by_cases h0 : dec x y (L s) = 0
  · obtain ⟨h1, h2, h3, h4, h5⟩ := dec_is0 h0
    obtain ⟨m1, m2, m3, m4⟩ := moves x y (L s) hx hy h0 _ rfl
    have hh : 0 ≤ hl (L s) := by omega
    have hlb : hl (L s) ≤ 60 := by have := bt_bd (L s) 12; unfold hl; omega
    have ho : ((L s).drop 20 |>.take ((hl (L s)).toNat - 20)).length = (hl (L s)).toNat - 20 := by rw [List.length_take, List.length_drop]; omega
    have hmod : (hl (L s)) % 4 = 0 := by unfold hl; omega
    have b13 := bt_bd (L s) 13
    have w0 := wd_bd (L s) 0; have w2 := wd_bd (L s) 2; have w14 := wd_bd (L s) 14; have w18 := wd_bd (L s) 18; have q4 := qd_bd (L s) 4; have q8 := qd_bd (L s) 8
    refine ⟨((wd (L s) 0).toNat : Nat), ((wd (L s) 2).toNat : Nat), ((qd (L s) 4).toNat : Nat), ((qd (L s) 8).toNat : Nat), ((bt (L s) 13).toNat : Nat), ((wd (L s) 14).toNat : Nat), ((wd (L s) 18).toNat : Nat),
      tx ((L s).drop 20 |>.take ((hl (L s)).toNat - 20)), tx ((L s).drop (hl (L s)).toNat), 0, fun w => ?_, .inr ⟨rfl, by rw [L_len] at h1; omega, tx (en x y (wd (L s) 0).toNat (wd (L s) 2).toNat (qd (L s) 4).toNat (qd (L s) 8).toNat (bt (L s) 13).toNat (wd (L s) 14).toNat (wd (L s) 18).toNat ((L s).drop 20 |>.take ((hl (L s)).toNat - 20)) ((L s).drop (hl (L s)).toNat)), fun w => ?_, ?_, ?_, ?_, ?_⟩⟩
    · refine (hD x y s w hx hy (by omega)).mono fun e w' hh => ⟨?_, hh.2⟩
      rw [hh.1, DV_ok h0]
      unfold TV
      rw [Int.toNat_of_nonneg w0.1, Int.toNat_of_nonneg w2.1, Int.toNat_of_nonneg w14.1, Int.toNat_of_nonneg w18.1, Int.toNat_of_nonneg q4.1, Int.toNat_of_nonneg q8.1, Int.toNat_of_nonneg b13.1]
    · refine (hE x y _ _ _ _ _ _ _ _ _ w hx hy (by unfold Ok; omega) (by rw [tx_size, ho]; omega) (by rw [tx_size, List.length_drop, L_len]; omega)).mono fun e w' hh => ⟨?_, hh.2⟩
      rw [hh.1, EV_ok (by rw [tx_size, ho]; omega) (by rw [tx_size, tx_size, ho, List.length_drop, L_len]; omega), L_tx, L_tx]
    · rw [tx_size, m1, L_len]
    · rw [tx_extract, tx_extract, L_tx, List.drop_zero, List.drop_zero, m2]
    · rw [tx_extract, tx_extract, L_tx, m3]
    · rcases m4 with m4 | m4
      · left; rw [m4, tx_L]
      · right; rw [tx_extract, show 18 - 16 = 2 by rfl, m4]; rfl
  · refine ⟨0, 0, 0, 0, 0, 0, 0, { data := #[] }, { data := #[] }, (dec x y (L s) : Nat), fun w => ?_, .inl (by omega)⟩
    exact decErr hD x y s _ w hx hy (by omega) rfl h0
set_option maxHeartbeats 8000000 in
set_option maxRecDepth 100000 in
theorem movesA (x y : Nat) (s : ByteArray) (p q sq ak fl wi ur p' q' sq' ak' fl' wi' ur' : Nat) (o : ByteArray) (o' : ByteArray) (w : World) (hs : s.size ≤ 2048) (ho : o.size ≤ 1024) (ho' : o'.size ≤ 1024)
    (HA : Hid (∀ w, Calls Try.prog 7 #[] w fun e w' => e = .returned (.bool true) ∧ Up w w')) (N : Nat) (zs : s.size = N) (x1 x2 x3 x4 x5 x6 x7 : Int) (x8 D : ByteArray) (n : Int) (HP : Hid (Part x y s N x1 x2 x3 x4 x5 x6 x7 x8 D n))
    (SA SB : ByteArray) (ea eb : Int) (CA : Hid (∀ w, Calls Try.prog 8 #[.int .u32 x, .int .u32 y, HV p q sq ak fl wi ur o, .string { data := #[100, 97, 116, 97] }] w fun e w' => e = .returned (.tuple #[.string SA, .int .i64 ea]) ∧ Up w w'))
    (CB : Hid (∀ w, Calls Try.prog 8 #[.int .u32 x, .int .u32 y, HV p' q' sq' ak' fl' wi' ur' o', .string { data := #[100, 97, 116, 97] }] w fun e w' => e = .returned (.tuple #[.string SB, .int .i64 eb]) ∧ Up w w')) (hea : ¬ ea = 0) :
    Calls Try.prog 6 #[.int .u32 x, .int .u32 y, .string s, HV p q sq ak fl wi ur o, HV p' q' sq' ak' fl' wi' ur' o'] w fun e w' => e = .returned (.bool true) ∧ Up w w' := by
  go_enter Try.func6, Try.ntmps6
  go_upto_region 1 with fail
  have U0 : Up w ((w.alloc (.cells #[.int .u16 p, .int .u16 q, .int .u32 sq, .int .u32 ak, .int .u8 fl, .int .u16 wi, .int .u16 ur, .string o] 25)).alloc (.cells #[.int .u16 p', .int .u16 q', .int .u32 sq', .int .u32 ak', .int .u8 fl', .int .u16 wi', .int .u16 ur', .string o'] 25)) := up_al _ (up_al _ (Below.refl _ _))
  have A0 := (Box.new w #[.int .u16 p, .int .u16 q, .int .u32 sq, .int .u32 ak, .int .u8 fl, .int .u16 wi, .int .u16 ur, .string o] 25).alloc (.cells #[.int .u16 p', .int .u16 q', .int .u32 sq', .int .u32 ak', .int .u8 fl', .int .u16 wi', .int .u16 ur', .string o'] 25)
  have B0 := Box.new (w.alloc (.cells #[.int .u16 p, .int .u16 q, .int .u32 sq, .int .u32 ak, .int .u8 fl, .int .u16 wi, .int .u16 ur, .string o] 25)) #[.int .u16 p', .int .u16 q', .int .u32 sq', .int .u32 ak', .int .u8 fl', .int .u16 wi', .int .u16 ur', .string o'] 25
  rw [show (w.alloc (.cells #[.int .u16 p, .int .u16 q, .int .u32 sq, .int .u32 ak, .int .u8 fl, .int .u16 wi, .int .u16 ur, .string o] 25)).heap.size = w.heap.size + 1 by simp] at B0
  generalize ((w.alloc (.cells #[.int .u16 p, .int .u16 q, .int .u32 sq, .int .u32 ak, .int .u8 fl, .int .u16 wi, .int .u16 ur, .string o] 25)).alloc (.cells #[.int .u16 p', .int .u16 q', .int .u32 sq', .int .u32 ak', .int .u8 fl', .int .u16 wi', .int .u16 ur', .string o'] 25)) = w0 at U0 A0 B0 ⊢
  generalize w.heap.size = n0 at A0 B0 ⊢
  have g7 := A0.at 7 rfl
  have h7 := B0.at 7 rfl
  go_wp2_with fail
  refine (HP.out.1 w0).mono ?_
  rintro e v1 ⟨rfl, hv1⟩
  clear g7 h7
  go_upto_region 4 with fail
  have U2 : Up w (v1.alloc (.cells #[.int .u16 x1, .int .u16 x2, .int .u32 x3, .int .u32 x4, .int .u8 x5, .int .u16 x6, .int .u16 x7, .string x8] 25)) := up_al _ (U0.on hv1)
  have A2 := (A0.up hv1).alloc (.cells #[.int .u16 x1, .int .u16 x2, .int .u32 x3, .int .u32 x4, .int .u8 x5, .int .u16 x6, .int .u16 x7, .string x8] 25)
  have B2 := (B0.up hv1).alloc (.cells #[.int .u16 x1, .int .u16 x2, .int .u32 x3, .int .u32 x4, .int .u8 x5, .int .u16 x6, .int .u16 x7, .string x8] 25)
  have C2 := Box.new v1 #[.int .u16 x1, .int .u16 x2, .int .u32 x3, .int .u32 x4, .int .u8 x5, .int .u16 x6, .int .u16 x7, .string x8] 25
  generalize (v1.alloc (.cells #[.int .u16 x1, .int .u16 x2, .int .u32 x3, .int .u32 x4, .int .u8 x5, .int .u16 x6, .int .u16 x7, .string x8] 25)) = w2 at U2 A2 B2 C2 ⊢
  generalize v1.heap.size = n1 at C2 ⊢
  clear U0 A0 B0 hv1
  have HAB := Lib.hid (And.intro U2 (And.intro A2 B2))
  clear U2 A2 B2
  go_upto_if 44 with fail
  go_cut [] (fun wc => Hid (Up w wc ∧ Box wc n0 (#[.int .u16 p, .int .u16 q, .int .u32 sq, .int .u32 ak, .int .u8 fl, .int .u16 wi, .int .u16 ur, .string o]).toList ∧ Box wc (n0 + 1) (#[.int .u16 p', .int .u16 q', .int .u32 sq', .int .u32 ak', .int .u8 fl', .int .u16 wi', .int .u16 ur', .string o']).toList))
  case first =>
    rcases HP.out.2 with hn | ⟨rfl, hN, S, hCE, zS, e1, e2, e3⟩
    · go_wp2
      go_meet
      exact HAB
    · obtain ⟨k0, k1, k2, k3, k4, k5, k6, k7⟩ := Box.e8 C2
      have HCE := Lib.hid hCE; clear hCE
      go_wp2_with fail
      refine (HCE.out w2).mono ?_
      rintro e v3 ⟨rfl, hv3⟩
      have HAB3 := Lib.hid (And.intro (HAB.out.1.on hv3) (And.intro (HAB.out.2.1.up hv3) (HAB.out.2.2.up hv3)))
      clear k0 k1 k2 k3 k4 k5 k6 k7 hv3
      have i1 : (16 : Int) ≤ (N : Int) := by omega
      have i2 : (18 : Int) ≤ (N : Int) := by omega
      by_cases hSs : S = s
      · subst hSs
        go_upto_region 6 with fail
        go_quiet (fail)
        go_wp2
        go_meet
        exact ⟨up_drN _ HAB3.out.1, HAB3.out.2.1.drewN _, HAB3.out.2.2.drewN _⟩
      · have e4 : s.extract 16 18 = { data := #[255, 255] } := by rcases e3 with e3 | e3; exact absurd e3 hSs; exact e3
        have e5 := str_ne hSs
        clear e3 hSs
        go_upto_region 6 with fail
        go_quiet (fail)
        go_wp2
        go_meet
        exact ⟨up_drN _ HAB3.out.1, HAB3.out.2.1.drewN _, HAB3.out.2.2.drewN _⟩
  case rest =>
  obtain ⟨U3, A3, B3⟩ := hcut.out
  clear hcut HAB C2
  obtain ⟨k0, k1, k2, k3, k4, k5, k6, k7⟩ := Box.e8 A3
  go_wp2_with fail
  refine (CA.out wc).mono ?_
  rintro e v5 ⟨rfl, hv5⟩
  have U5 := U3.on hv5
  have A5 := A3.up hv5
  have B5 := B3.up hv5
  clear k0 k1 k2 k3 k4 k5 k6 k7 U3 A3 B3 hv5
  obtain ⟨m0, m1, m2, m3, m4, m5, m6, m7⟩ := Box.e8 B5
  go_wp2_with fail
  refine (CB.out v5).mono ?_
  rintro e v6 ⟨rfl, hv6⟩
  have U6 := U5.on hv6
  have A6 := A5.up hv6
  have B6 := B5.up hv6
  clear m0 m1 m2 m3 m4 m5 m6 m7 U5 A5 B5 hv6
  obtain ⟨k0, k1, k2, k3, k4, k5, k6, k7⟩ := Box.e8 A6
  obtain ⟨m0, m1, m2, m3, m4, m5, m6, m7⟩ := Box.e8 B6
  go_wp2_with fail
  refine (HA.out v6).mono ?_
  rintro e v7 ⟨rfl, hv7⟩
  go_wp2
  go_ret
  exact ⟨rfl, U6.on hv7⟩
set_option maxHeartbeats 8000000 in
set_option maxRecDepth 100000 in
theorem movesB (x y : Nat) (s : ByteArray) (p q sq ak fl wi ur p' q' sq' ak' fl' wi' ur' : Nat) (o : ByteArray) (o' : ByteArray) (w : World) (hs : s.size ≤ 2048) (ho : o.size ≤ 1024) (ho' : o'.size ≤ 1024)
    (HA : Hid (∀ w, Calls Try.prog 7 #[] w fun e w' => e = .returned (.bool true) ∧ Up w w')) (N : Nat) (zs : s.size = N) (x1 x2 x3 x4 x5 x6 x7 : Int) (x8 D : ByteArray) (n : Int) (HP : Hid (Part x y s N x1 x2 x3 x4 x5 x6 x7 x8 D n))
    (SA SB : ByteArray) (ea eb : Int) (CA : Hid (∀ w, Calls Try.prog 8 #[.int .u32 x, .int .u32 y, HV p q sq ak fl wi ur o, .string { data := #[100, 97, 116, 97] }] w fun e w' => e = .returned (.tuple #[.string SA, .int .i64 0]) ∧ Up w w'))
    (CB : Hid (∀ w, Calls Try.prog 8 #[.int .u32 x, .int .u32 y, HV p' q' sq' ak' fl' wi' ur' o', .string { data := #[100, 97, 116, 97] }] w fun e w' => e = .returned (.tuple #[.string SB, .int .i64 eb]) ∧ Up w w')) (heb : ¬ eb = 0) :
    Calls Try.prog 6 #[.int .u32 x, .int .u32 y, .string s, HV p q sq ak fl wi ur o, HV p' q' sq' ak' fl' wi' ur' o'] w fun e w' => e = .returned (.bool true) ∧ Up w w' := by
  go_enter Try.func6, Try.ntmps6
  go_upto_region 1 with fail
  have U0 : Up w ((w.alloc (.cells #[.int .u16 p, .int .u16 q, .int .u32 sq, .int .u32 ak, .int .u8 fl, .int .u16 wi, .int .u16 ur, .string o] 25)).alloc (.cells #[.int .u16 p', .int .u16 q', .int .u32 sq', .int .u32 ak', .int .u8 fl', .int .u16 wi', .int .u16 ur', .string o'] 25)) := up_al _ (up_al _ (Below.refl _ _))
  have A0 := (Box.new w #[.int .u16 p, .int .u16 q, .int .u32 sq, .int .u32 ak, .int .u8 fl, .int .u16 wi, .int .u16 ur, .string o] 25).alloc (.cells #[.int .u16 p', .int .u16 q', .int .u32 sq', .int .u32 ak', .int .u8 fl', .int .u16 wi', .int .u16 ur', .string o'] 25)
  have B0 := Box.new (w.alloc (.cells #[.int .u16 p, .int .u16 q, .int .u32 sq, .int .u32 ak, .int .u8 fl, .int .u16 wi, .int .u16 ur, .string o] 25)) #[.int .u16 p', .int .u16 q', .int .u32 sq', .int .u32 ak', .int .u8 fl', .int .u16 wi', .int .u16 ur', .string o'] 25
  rw [show (w.alloc (.cells #[.int .u16 p, .int .u16 q, .int .u32 sq, .int .u32 ak, .int .u8 fl, .int .u16 wi, .int .u16 ur, .string o] 25)).heap.size = w.heap.size + 1 by simp] at B0
  generalize ((w.alloc (.cells #[.int .u16 p, .int .u16 q, .int .u32 sq, .int .u32 ak, .int .u8 fl, .int .u16 wi, .int .u16 ur, .string o] 25)).alloc (.cells #[.int .u16 p', .int .u16 q', .int .u32 sq', .int .u32 ak', .int .u8 fl', .int .u16 wi', .int .u16 ur', .string o'] 25)) = w0 at U0 A0 B0 ⊢
  generalize w.heap.size = n0 at A0 B0 ⊢
  have g7 := A0.at 7 rfl
  have h7 := B0.at 7 rfl
  go_wp2_with fail
  refine (HP.out.1 w0).mono ?_
  rintro e v1 ⟨rfl, hv1⟩
  clear g7 h7
  go_upto_region 4 with fail
  have U2 : Up w (v1.alloc (.cells #[.int .u16 x1, .int .u16 x2, .int .u32 x3, .int .u32 x4, .int .u8 x5, .int .u16 x6, .int .u16 x7, .string x8] 25)) := up_al _ (U0.on hv1)
  have A2 := (A0.up hv1).alloc (.cells #[.int .u16 x1, .int .u16 x2, .int .u32 x3, .int .u32 x4, .int .u8 x5, .int .u16 x6, .int .u16 x7, .string x8] 25)
  have B2 := (B0.up hv1).alloc (.cells #[.int .u16 x1, .int .u16 x2, .int .u32 x3, .int .u32 x4, .int .u8 x5, .int .u16 x6, .int .u16 x7, .string x8] 25)
  have C2 := Box.new v1 #[.int .u16 x1, .int .u16 x2, .int .u32 x3, .int .u32 x4, .int .u8 x5, .int .u16 x6, .int .u16 x7, .string x8] 25
  generalize (v1.alloc (.cells #[.int .u16 x1, .int .u16 x2, .int .u32 x3, .int .u32 x4, .int .u8 x5, .int .u16 x6, .int .u16 x7, .string x8] 25)) = w2 at U2 A2 B2 C2 ⊢
  generalize v1.heap.size = n1 at C2 ⊢
  clear U0 A0 B0 hv1
  have HAB := Lib.hid (And.intro U2 (And.intro A2 B2))
  clear U2 A2 B2
  go_upto_if 44 with fail
  go_cut [] (fun wc => Hid (Up w wc ∧ Box wc n0 (#[.int .u16 p, .int .u16 q, .int .u32 sq, .int .u32 ak, .int .u8 fl, .int .u16 wi, .int .u16 ur, .string o]).toList ∧ Box wc (n0 + 1) (#[.int .u16 p', .int .u16 q', .int .u32 sq', .int .u32 ak', .int .u8 fl', .int .u16 wi', .int .u16 ur', .string o']).toList))
  case first =>
    rcases HP.out.2 with hn | ⟨rfl, hN, S, hCE, zS, e1, e2, e3⟩
    · go_wp2
      go_meet
      exact HAB
    · obtain ⟨k0, k1, k2, k3, k4, k5, k6, k7⟩ := Box.e8 C2
      have HCE := Lib.hid hCE; clear hCE
      go_wp2_with fail
      refine (HCE.out w2).mono ?_
      rintro e v3 ⟨rfl, hv3⟩
      have HAB3 := Lib.hid (And.intro (HAB.out.1.on hv3) (And.intro (HAB.out.2.1.up hv3) (HAB.out.2.2.up hv3)))
      clear k0 k1 k2 k3 k4 k5 k6 k7 hv3
      have i1 : (16 : Int) ≤ (N : Int) := by omega
      have i2 : (18 : Int) ≤ (N : Int) := by omega
      by_cases hSs : S = s
      · subst hSs
        go_upto_region 6 with fail
        go_quiet (fail)
        go_wp2
        go_meet
        exact ⟨up_drN _ HAB3.out.1, HAB3.out.2.1.drewN _, HAB3.out.2.2.drewN _⟩
      · have e4 : s.extract 16 18 = { data := #[255, 255] } := by rcases e3 with e3 | e3; exact absurd e3 hSs; exact e3
        have e5 := str_ne hSs
        clear e3 hSs
        go_upto_region 6 with fail
        go_quiet (fail)
        go_wp2
        go_meet
        exact ⟨up_drN _ HAB3.out.1, HAB3.out.2.1.drewN _, HAB3.out.2.2.drewN _⟩
  case rest =>
  obtain ⟨U3, A3, B3⟩ := hcut.out
  clear hcut HAB C2
  obtain ⟨k0, k1, k2, k3, k4, k5, k6, k7⟩ := Box.e8 A3
  go_wp2_with fail
  refine (CA.out wc).mono ?_
  rintro e v5 ⟨rfl, hv5⟩
  have U5 := U3.on hv5
  have A5 := A3.up hv5
  have B5 := B3.up hv5
  clear k0 k1 k2 k3 k4 k5 k6 k7 U3 A3 B3 hv5
  obtain ⟨m0, m1, m2, m3, m4, m5, m6, m7⟩ := Box.e8 B5
  go_wp2_with fail
  refine (CB.out v5).mono ?_
  rintro e v6 ⟨rfl, hv6⟩
  have U6 := U5.on hv6
  have A6 := A5.up hv6
  have B6 := B5.up hv6
  clear m0 m1 m2 m3 m4 m5 m6 m7 U5 A5 B5 hv6
  obtain ⟨k0, k1, k2, k3, k4, k5, k6, k7⟩ := Box.e8 A6
  obtain ⟨m0, m1, m2, m3, m4, m5, m6, m7⟩ := Box.e8 B6
  go_wp2_with fail
  refine (HA.out v6).mono ?_
  rintro e v7 ⟨rfl, hv7⟩
  go_wp2
  go_ret
  exact ⟨rfl, U6.on hv7⟩
set_option maxHeartbeats 8000000 in
set_option maxRecDepth 100000 in
theorem moves0 (x y : Nat) (s : ByteArray) (p q sq ak fl wi ur p' q' sq' ak' fl' wi' ur' : Nat) (o : ByteArray) (o' : ByteArray) (w : World) (hs : s.size ≤ 2048) (ho : o.size ≤ 1024) (ho' : o'.size ≤ 1024)
    (HA : Hid (∀ w, Calls Try.prog 7 #[] w fun e w' => e = .returned (.bool true) ∧ Up w w')) (N : Nat) (zs : s.size = N) (x1 x2 x3 x4 x5 x6 x7 : Int) (x8 D : ByteArray) (n : Int) (HP : Hid (Part x y s N x1 x2 x3 x4 x5 x6 x7 x8 D n))
    (SA SB : ByteArray) (ea eb : Int) (CA : Hid (∀ w, Calls Try.prog 8 #[.int .u32 x, .int .u32 y, HV p q sq ak fl wi ur o, .string { data := #[100, 97, 116, 97] }] w fun e w' => e = .returned (.tuple #[.string SA, .int .i64 0]) ∧ Up w w'))
    (CB : Hid (∀ w, Calls Try.prog 8 #[.int .u32 x, .int .u32 y, HV p' q' sq' ak' fl' wi' ur' o', .string { data := #[100, 97, 116, 97] }] w fun e w' => e = .returned (.tuple #[.string SB, .int .i64 0]) ∧ Up w w')) (c : ¬ p = p') (hT : (SA.toList == SB.toList) = false) :
    Calls Try.prog 6 #[.int .u32 x, .int .u32 y, .string s, HV p q sq ak fl wi ur o, HV p' q' sq' ak' fl' wi' ur' o'] w fun e w' => e = .returned (.bool true) ∧ Up w w' := by
  go_enter Try.func6, Try.ntmps6
  go_upto_region 1 with fail
  have U0 : Up w ((w.alloc (.cells #[.int .u16 p, .int .u16 q, .int .u32 sq, .int .u32 ak, .int .u8 fl, .int .u16 wi, .int .u16 ur, .string o] 25)).alloc (.cells #[.int .u16 p', .int .u16 q', .int .u32 sq', .int .u32 ak', .int .u8 fl', .int .u16 wi', .int .u16 ur', .string o'] 25)) := up_al _ (up_al _ (Below.refl _ _))
  have A0 := (Box.new w #[.int .u16 p, .int .u16 q, .int .u32 sq, .int .u32 ak, .int .u8 fl, .int .u16 wi, .int .u16 ur, .string o] 25).alloc (.cells #[.int .u16 p', .int .u16 q', .int .u32 sq', .int .u32 ak', .int .u8 fl', .int .u16 wi', .int .u16 ur', .string o'] 25)
  have B0 := Box.new (w.alloc (.cells #[.int .u16 p, .int .u16 q, .int .u32 sq, .int .u32 ak, .int .u8 fl, .int .u16 wi, .int .u16 ur, .string o] 25)) #[.int .u16 p', .int .u16 q', .int .u32 sq', .int .u32 ak', .int .u8 fl', .int .u16 wi', .int .u16 ur', .string o'] 25
  rw [show (w.alloc (.cells #[.int .u16 p, .int .u16 q, .int .u32 sq, .int .u32 ak, .int .u8 fl, .int .u16 wi, .int .u16 ur, .string o] 25)).heap.size = w.heap.size + 1 by simp] at B0
  generalize ((w.alloc (.cells #[.int .u16 p, .int .u16 q, .int .u32 sq, .int .u32 ak, .int .u8 fl, .int .u16 wi, .int .u16 ur, .string o] 25)).alloc (.cells #[.int .u16 p', .int .u16 q', .int .u32 sq', .int .u32 ak', .int .u8 fl', .int .u16 wi', .int .u16 ur', .string o'] 25)) = w0 at U0 A0 B0 ⊢
  generalize w.heap.size = n0 at A0 B0 ⊢
  have g7 := A0.at 7 rfl
  have h7 := B0.at 7 rfl
  go_wp2_with fail
  refine (HP.out.1 w0).mono ?_
  rintro e v1 ⟨rfl, hv1⟩
  clear g7 h7
  go_upto_region 4 with fail
  have U2 : Up w (v1.alloc (.cells #[.int .u16 x1, .int .u16 x2, .int .u32 x3, .int .u32 x4, .int .u8 x5, .int .u16 x6, .int .u16 x7, .string x8] 25)) := up_al _ (U0.on hv1)
  have A2 := (A0.up hv1).alloc (.cells #[.int .u16 x1, .int .u16 x2, .int .u32 x3, .int .u32 x4, .int .u8 x5, .int .u16 x6, .int .u16 x7, .string x8] 25)
  have B2 := (B0.up hv1).alloc (.cells #[.int .u16 x1, .int .u16 x2, .int .u32 x3, .int .u32 x4, .int .u8 x5, .int .u16 x6, .int .u16 x7, .string x8] 25)
  have C2 := Box.new v1 #[.int .u16 x1, .int .u16 x2, .int .u32 x3, .int .u32 x4, .int .u8 x5, .int .u16 x6, .int .u16 x7, .string x8] 25
  generalize (v1.alloc (.cells #[.int .u16 x1, .int .u16 x2, .int .u32 x3, .int .u32 x4, .int .u8 x5, .int .u16 x6, .int .u16 x7, .string x8] 25)) = w2 at U2 A2 B2 C2 ⊢
  generalize v1.heap.size = n1 at C2 ⊢
  clear U0 A0 B0 hv1
  have HAB := Lib.hid (And.intro U2 (And.intro A2 B2))
  clear U2 A2 B2
  go_upto_if 44 with fail
  go_cut [] (fun wc => Hid (Up w wc ∧ Box wc n0 (#[.int .u16 p, .int .u16 q, .int .u32 sq, .int .u32 ak, .int .u8 fl, .int .u16 wi, .int .u16 ur, .string o]).toList ∧ Box wc (n0 + 1) (#[.int .u16 p', .int .u16 q', .int .u32 sq', .int .u32 ak', .int .u8 fl', .int .u16 wi', .int .u16 ur', .string o']).toList))
  case first =>
    rcases HP.out.2 with hn | ⟨rfl, hN, S, hCE, zS, e1, e2, e3⟩
    · go_wp2
      go_meet
      exact HAB
    · obtain ⟨k0, k1, k2, k3, k4, k5, k6, k7⟩ := Box.e8 C2
      have HCE := Lib.hid hCE; clear hCE
      go_wp2_with fail
      refine (HCE.out w2).mono ?_
      rintro e v3 ⟨rfl, hv3⟩
      have HAB3 := Lib.hid (And.intro (HAB.out.1.on hv3) (And.intro (HAB.out.2.1.up hv3) (HAB.out.2.2.up hv3)))
      clear k0 k1 k2 k3 k4 k5 k6 k7 hv3
      have i1 : (16 : Int) ≤ (N : Int) := by omega
      have i2 : (18 : Int) ≤ (N : Int) := by omega
      by_cases hSs : S = s
      · subst hSs
        go_upto_region 6 with fail
        go_quiet (fail)
        go_wp2
        go_meet
        exact ⟨up_drN _ HAB3.out.1, HAB3.out.2.1.drewN _, HAB3.out.2.2.drewN _⟩
      · have e4 : s.extract 16 18 = { data := #[255, 255] } := by rcases e3 with e3 | e3; exact absurd e3 hSs; exact e3
        have e5 := str_ne hSs
        clear e3 hSs
        go_upto_region 6 with fail
        go_quiet (fail)
        go_wp2
        go_meet
        exact ⟨up_drN _ HAB3.out.1, HAB3.out.2.1.drewN _, HAB3.out.2.2.drewN _⟩
  case rest =>
  obtain ⟨U3, A3, B3⟩ := hcut.out
  clear hcut HAB C2
  obtain ⟨k0, k1, k2, k3, k4, k5, k6, k7⟩ := Box.e8 A3
  go_wp2_with fail
  refine (CA.out wc).mono ?_
  rintro e v5 ⟨rfl, hv5⟩
  have U5 := U3.on hv5
  have A5 := A3.up hv5
  have B5 := B3.up hv5
  clear k0 k1 k2 k3 k4 k5 k6 k7 U3 A3 B3 hv5
  obtain ⟨m0, m1, m2, m3, m4, m5, m6, m7⟩ := Box.e8 B5
  go_wp2_with fail
  refine (CB.out v5).mono ?_
  rintro e v6 ⟨rfl, hv6⟩
  have U6 := U5.on hv6
  have A6 := A5.up hv6
  have B6 := B5.up hv6
  clear m0 m1 m2 m3 m4 m5 m6 m7 U5 A5 B5 hv6
  obtain ⟨k0, k1, k2, k3, k4, k5, k6, k7⟩ := Box.e8 A6
  obtain ⟨m0, m1, m2, m3, m4, m5, m6, m7⟩ := Box.e8 B6
  go_wp2_with fail
  refine (HA.out v6).mono ?_
  rintro e v7 ⟨rfl, hv7⟩
  go_wp2
  go_ret
  exact ⟨rfl, U6.on hv7⟩
set_option maxHeartbeats 8000000 in
set_option maxRecDepth 100000 in
theorem moves1 (x y : Nat) (s : ByteArray) (p q sq ak fl wi ur q' sq' ak' fl' wi' ur' : Nat) (o : ByteArray) (o' : ByteArray) (w : World) (hs : s.size ≤ 2048) (ho : o.size ≤ 1024) (ho' : o'.size ≤ 1024)
    (HA : Hid (∀ w, Calls Try.prog 7 #[] w fun e w' => e = .returned (.bool true) ∧ Up w w')) (N : Nat) (zs : s.size = N) (x1 x2 x3 x4 x5 x6 x7 : Int) (x8 D : ByteArray) (n : Int) (HP : Hid (Part x y s N x1 x2 x3 x4 x5 x6 x7 x8 D n))
    (SA SB : ByteArray) (ea eb : Int) (CA : Hid (∀ w, Calls Try.prog 8 #[.int .u32 x, .int .u32 y, HV p q sq ak fl wi ur o, .string { data := #[100, 97, 116, 97] }] w fun e w' => e = .returned (.tuple #[.string SA, .int .i64 0]) ∧ Up w w'))
    (CB : Hid (∀ w, Calls Try.prog 8 #[.int .u32 x, .int .u32 y, HV p q' sq' ak' fl' wi' ur' o', .string { data := #[100, 97, 116, 97] }] w fun e w' => e = .returned (.tuple #[.string SB, .int .i64 0]) ∧ Up w w')) (c : ¬ q = q') (hT : (SA.toList == SB.toList) = false) :
    Calls Try.prog 6 #[.int .u32 x, .int .u32 y, .string s, HV p q sq ak fl wi ur o, HV p q' sq' ak' fl' wi' ur' o'] w fun e w' => e = .returned (.bool true) ∧ Up w w' := by
  go_enter Try.func6, Try.ntmps6
  go_upto_region 1 with fail
  have U0 : Up w ((w.alloc (.cells #[.int .u16 p, .int .u16 q, .int .u32 sq, .int .u32 ak, .int .u8 fl, .int .u16 wi, .int .u16 ur, .string o] 25)).alloc (.cells #[.int .u16 p, .int .u16 q', .int .u32 sq', .int .u32 ak', .int .u8 fl', .int .u16 wi', .int .u16 ur', .string o'] 25)) := up_al _ (up_al _ (Below.refl _ _))
  have A0 := (Box.new w #[.int .u16 p, .int .u16 q, .int .u32 sq, .int .u32 ak, .int .u8 fl, .int .u16 wi, .int .u16 ur, .string o] 25).alloc (.cells #[.int .u16 p, .int .u16 q', .int .u32 sq', .int .u32 ak', .int .u8 fl', .int .u16 wi', .int .u16 ur', .string o'] 25)
  have B0 := Box.new (w.alloc (.cells #[.int .u16 p, .int .u16 q, .int .u32 sq, .int .u32 ak, .int .u8 fl, .int .u16 wi, .int .u16 ur, .string o] 25)) #[.int .u16 p, .int .u16 q', .int .u32 sq', .int .u32 ak', .int .u8 fl', .int .u16 wi', .int .u16 ur', .string o'] 25
  rw [show (w.alloc (.cells #[.int .u16 p, .int .u16 q, .int .u32 sq, .int .u32 ak, .int .u8 fl, .int .u16 wi, .int .u16 ur, .string o] 25)).heap.size = w.heap.size + 1 by simp] at B0
  generalize ((w.alloc (.cells #[.int .u16 p, .int .u16 q, .int .u32 sq, .int .u32 ak, .int .u8 fl, .int .u16 wi, .int .u16 ur, .string o] 25)).alloc (.cells #[.int .u16 p, .int .u16 q', .int .u32 sq', .int .u32 ak', .int .u8 fl', .int .u16 wi', .int .u16 ur', .string o'] 25)) = w0 at U0 A0 B0 ⊢
  generalize w.heap.size = n0 at A0 B0 ⊢
  have g7 := A0.at 7 rfl
  have h7 := B0.at 7 rfl
  go_wp2_with fail
  refine (HP.out.1 w0).mono ?_
  rintro e v1 ⟨rfl, hv1⟩
  clear g7 h7
  go_upto_region 4 with fail
  have U2 : Up w (v1.alloc (.cells #[.int .u16 x1, .int .u16 x2, .int .u32 x3, .int .u32 x4, .int .u8 x5, .int .u16 x6, .int .u16 x7, .string x8] 25)) := up_al _ (U0.on hv1)
  have A2 := (A0.up hv1).alloc (.cells #[.int .u16 x1, .int .u16 x2, .int .u32 x3, .int .u32 x4, .int .u8 x5, .int .u16 x6, .int .u16 x7, .string x8] 25)
  have B2 := (B0.up hv1).alloc (.cells #[.int .u16 x1, .int .u16 x2, .int .u32 x3, .int .u32 x4, .int .u8 x5, .int .u16 x6, .int .u16 x7, .string x8] 25)
  have C2 := Box.new v1 #[.int .u16 x1, .int .u16 x2, .int .u32 x3, .int .u32 x4, .int .u8 x5, .int .u16 x6, .int .u16 x7, .string x8] 25
  generalize (v1.alloc (.cells #[.int .u16 x1, .int .u16 x2, .int .u32 x3, .int .u32 x4, .int .u8 x5, .int .u16 x6, .int .u16 x7, .string x8] 25)) = w2 at U2 A2 B2 C2 ⊢
  generalize v1.heap.size = n1 at C2 ⊢
  clear U0 A0 B0 hv1
  have HAB := Lib.hid (And.intro U2 (And.intro A2 B2))
  clear U2 A2 B2
  go_upto_if 44 with fail
  go_cut [] (fun wc => Hid (Up w wc ∧ Box wc n0 (#[.int .u16 p, .int .u16 q, .int .u32 sq, .int .u32 ak, .int .u8 fl, .int .u16 wi, .int .u16 ur, .string o]).toList ∧ Box wc (n0 + 1) (#[.int .u16 p, .int .u16 q', .int .u32 sq', .int .u32 ak', .int .u8 fl', .int .u16 wi', .int .u16 ur', .string o']).toList))
  case first =>
    rcases HP.out.2 with hn | ⟨rfl, hN, S, hCE, zS, e1, e2, e3⟩
    · go_wp2
      go_meet
      exact HAB
    · obtain ⟨k0, k1, k2, k3, k4, k5, k6, k7⟩ := Box.e8 C2
      have HCE := Lib.hid hCE; clear hCE
      go_wp2_with fail
      refine (HCE.out w2).mono ?_
      rintro e v3 ⟨rfl, hv3⟩
      have HAB3 := Lib.hid (And.intro (HAB.out.1.on hv3) (And.intro (HAB.out.2.1.up hv3) (HAB.out.2.2.up hv3)))
      clear k0 k1 k2 k3 k4 k5 k6 k7 hv3
      have i1 : (16 : Int) ≤ (N : Int) := by omega
      have i2 : (18 : Int) ≤ (N : Int) := by omega
      by_cases hSs : S = s
      · subst hSs
        go_upto_region 6 with fail
        go_quiet (fail)
        go_wp2
        go_meet
        exact ⟨up_drN _ HAB3.out.1, HAB3.out.2.1.drewN _, HAB3.out.2.2.drewN _⟩
      · have e4 : s.extract 16 18 = { data := #[255, 255] } := by rcases e3 with e3 | e3; exact absurd e3 hSs; exact e3
        have e5 := str_ne hSs
        clear e3 hSs
        go_upto_region 6 with fail
        go_quiet (fail)
        go_wp2
        go_meet
        exact ⟨up_drN _ HAB3.out.1, HAB3.out.2.1.drewN _, HAB3.out.2.2.drewN _⟩
  case rest =>
  obtain ⟨U3, A3, B3⟩ := hcut.out
  clear hcut HAB C2
  obtain ⟨k0, k1, k2, k3, k4, k5, k6, k7⟩ := Box.e8 A3
  go_wp2_with fail
  refine (CA.out wc).mono ?_
  rintro e v5 ⟨rfl, hv5⟩
  have U5 := U3.on hv5
  have A5 := A3.up hv5
  have B5 := B3.up hv5
  clear k0 k1 k2 k3 k4 k5 k6 k7 U3 A3 B3 hv5
  obtain ⟨m0, m1, m2, m3, m4, m5, m6, m7⟩ := Box.e8 B5
  go_wp2_with fail
  refine (CB.out v5).mono ?_
  rintro e v6 ⟨rfl, hv6⟩
  have U6 := U5.on hv6
  have A6 := A5.up hv6
  have B6 := B5.up hv6
  clear m0 m1 m2 m3 m4 m5 m6 m7 U5 A5 B5 hv6
  obtain ⟨k0, k1, k2, k3, k4, k5, k6, k7⟩ := Box.e8 A6
  obtain ⟨m0, m1, m2, m3, m4, m5, m6, m7⟩ := Box.e8 B6
  go_wp2_with fail
  refine (HA.out v6).mono ?_
  rintro e v7 ⟨rfl, hv7⟩
  go_wp2
  go_ret
  exact ⟨rfl, U6.on hv7⟩
end Go.Proofs.Ytecogakledajkaa.tc
