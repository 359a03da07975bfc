/- A law of opt, walked over the contracts of its functions: what was written is read; what is turned is read as what was there, turned; turned back, it is what it was. Condition: the contracts; the arguments fit their kinds. -/
import Derived.Test.YtdlcglkeinlimaaOptK
import Derived.Deep.RegionHeld3
namespace Go.Proofs.Ytdlcglkeinlimaa.op
open Go.RowKit Go.Shelf Go.Lib Go.Proofs.Ytdlcglkeinlimaa.sm Go.Proofs.Ytdlcglkeinlimaa.nb Go.Proofs.Ytdlcglkeinlimaa.om
set_option linter.unusedVariables false

theorem neg_u32 (b : Nat) (hb : b < M32) : IntKind.u32.wrap (-(b : Int)) = (negM b : Nat) := by
  rw [IntKind.wrap_u32]; unfold negM M32 at *; omega
theorem negM_lt (b : Nat) : negM b < M32 := Nat.mod_lt _ (by decide)
/-- what the law asks of bytes Y that are options -/
structure Bk (Y : ByteArray) (b va ec : Nat) (dm : Nat) (ds : Int) (dk : Bool) (db : List (Nat × Nat)) (dt : Bool) (dv de qv qe : Nat) (U : ByteArray) : Prop where
  d0 : decO (L Y) = ⟨dm, ds, dk, db, dt, dv, de⟩
  t0 : TV (L Y) b va ec = .tuple #[.string U, .int .i64 0]
  z0 : err (L U) = 0
  d1 : decO (L U) = ⟨dm, ds, dk, db.map (trn b), dt, qv, qe⟩
  t1 : TV (L U) (negM b) (negM va) (negM ec) = .tuple #[.string Y, .int .i64 0]
  sz : U.size = Y.size
  hv : qv = if dt then addM dv va else dv
  he : qe = if dt then addM de ec else de
theorem bk_of (Y : ByteArray) (b va ec : Nat) (hb : b < M32) (hva : va < M32) (hec : ec < M32) (h : err (L Y) = 0) : ∃ dm ds dk db dt dv de qv qe U, Bk Y b va ec dm ds dk db dt dv de qv qe U := by
  obtain ⟨dO, hdO⟩ : ∃ d, decO (L Y) = d := ⟨_, rfl⟩
  obtain ⟨dm, ds, dk, db, dt, dv, de⟩ := dO
  obtain ⟨h1, h2, h3⟩ := turn_err (b := b) (v := va) (e := ec) h
  refine ⟨dm, ds, dk, db, dt, dv, de, _, _, tx (turnL b va ec (L Y)), hdO, TV_ok h, by rw [L_tx]; exact h1, by rw [L_tx, h2, hdO]; rfl, ?_, by rw [tx_size, h3, L_len], rfl, rfl⟩
  rw [L_tx, TV_ok h1, turn_undo hb hva hec h, tx_L]
set_option maxHeartbeats 8000000 in
set_option maxRecDepth 100000 in
theorem lawBack (hN : NoneC) (hM : MayC) (hS : SameC) (hE : EncC) (hD : DecC) (hT : TurnC) (m : Nat) (s : Int) (k : Bool) (bs : List (Nat × Nat)) (t : Bool) (v e : Nat) (A : Option Addr) (n c : Nat) (S : ByteArray) (b va ec : Nat) (w : World) (ho : OkA w m s k bs t v e A n) (hz : S.size ≤ maxLen) (hb : b < M32) (hva : va < M32) (hec : ec < M32) :
    Calls Try.prog 5 #[OA m s k A n c t v e, .string S, .int .u32 (b : Nat), .int .u32 (va : Nat), .int .u32 (ec : Nat)] w fun e_ w' => e_ = .returned (.bool true) ∧ Up w w' := by
  have HA := Lib.hid (fun w => aliveC hN hM hS hE hD hT w)
  by_cases hl1 : 100 < n
  · have HL1 : Hid (decide (100 < n) = true) := decide_eq_true hl1
    clear hN hM hS hE hD hT
    go_enter Try.func5, Try.ntmps5
    go_upto_region 1 with fail
    have U0 : Up w (w.alloc (.cells #[.int .u16 (m : Nat), .int .i64 s, .bool k, .slice A n c, .bool t, .int .u32 (v : Nat), .int .u32 (e : Nat)] 26)) := up_al _ (Below.refl _ _)
    have A0 := Box.new w #[.int .u16 (m : Nat), .int .i64 s, .bool k, .slice A n c, .bool t, .int .u32 (v : Nat), .int .u32 (e : Nat)] 26
    generalize (w.alloc (.cells #[.int .u16 (m : Nat), .int .i64 s, .bool k, .slice A n c, .bool t, .int .u32 (v : Nat), .int .u32 (e : Nat)] 26)) = w0 at U0 A0 ⊢
    generalize w.heap.size = n0 at A0 ⊢
    obtain ⟨k0, k1, k2, k3, k4, k5, k6⟩ := Box.e7 A0
    go_wp2_with fail
    refine (longC _ _ _ _ _ _ _ _ _ w0).mono ?_
    rintro e_ w1 ⟨rfl, hv1⟩
    rw [HL1.out]
    go_wp2_with fail
    refine (HA.out _).mono ?_
    rintro e_ w9 ⟨rfl, hv9⟩
    go_wp2
    go_ret
    exact ⟨rfl, (U0.on hv1).on hv9⟩
  have HL1 : Hid (decide (100 < n) = false) := decide_eq_false hl1
  by_cases hl3 : 1024 < S.size
  · have i3 : (1024 : Int) < (S.size : Int) := by omega
    clear hN hM hS hE hD hT
    go_enter Try.func5, Try.ntmps5
    go_upto_region 1 with fail
    have U0 : Up w (w.alloc (.cells #[.int .u16 (m : Nat), .int .i64 s, .bool k, .slice A n c, .bool t, .int .u32 (v : Nat), .int .u32 (e : Nat)] 26)) := up_al _ (Below.refl _ _)
    have A0 := Box.new w #[.int .u16 (m : Nat), .int .i64 s, .bool k, .slice A n c, .bool t, .int .u32 (v : Nat), .int .u32 (e : Nat)] 26
    generalize (w.alloc (.cells #[.int .u16 (m : Nat), .int .i64 s, .bool k, .slice A n c, .bool t, .int .u32 (v : Nat), .int .u32 (e : Nat)] 26)) = w0 at U0 A0 ⊢
    generalize w.heap.size = n0 at A0 ⊢
    obtain ⟨k0, k1, k2, k3, k4, k5, k6⟩ := Box.e7 A0
    go_wp2_with fail
    refine (longC _ _ _ _ _ _ _ _ _ w0).mono ?_
    rintro e_ w1 ⟨rfl, hv1⟩
    rw [HL1.out]
    go_wp2_with fail
    refine (HA.out _).mono ?_
    rintro e_ w9 ⟨rfl, hv9⟩
    go_wp2
    go_ret
    exact ⟨rfl, (U0.on hv1).on hv9⟩
  have i3 : ¬ (1024 : Int) < (S.size : Int) := by omega
  have HDC := Lib.hid hD
  have HTC := Lib.hid hT
  have HE := Lib.hid (fun w' (h : Up w w') => hE m s k bs t v e A n c w' (ho.up h))
  have hSs : S.size ≤ 1048576 := by omega
  obtain ⟨T, z1, hTs, hEV, HEn⟩ : ∃ (T : ByteArray) (z1 : Int), T.size ≤ 1048576 ∧ EVo ⟨m, s, k, bs, t, v, e⟩ = .tuple #[.string T, .int .i64 z1] ∧ ((z1 = 0 ∧ om.May ⟨m, s, k, bs, t, v, e⟩ ∧ T = tx (raw ⟨m, s, k, bs, t, v, e⟩)) ∨ z1 = 2) := by
    by_cases h : om.May ⟨m, s, k, bs, t, v, e⟩
    · exact ⟨_, 0, by rw [tx_size, raw_len]; have := h.2.2.2.2; omega, EVo_ok h, .inl ⟨rfl, h, rfl⟩⟩
    · exact ⟨ByteArray.empty, 2, Nat.zero_le _, EVo_no h, .inr rfl⟩
  have HEV := Lib.hid hEV; clear hEV
  have HEn' := Lib.hid HEn; clear HEn
  go_enter Try.func5, Try.ntmps5
  go_upto_region 1 with fail
  have U0 : Up w (w.alloc (.cells #[.int .u16 (m : Nat), .int .i64 s, .bool k, .slice A n c, .bool t, .int .u32 (v : Nat), .int .u32 (e : Nat)] 26)) := up_al _ (Below.refl _ _)
  have A0 := Box.new w #[.int .u16 (m : Nat), .int .i64 s, .bool k, .slice A n c, .bool t, .int .u32 (v : Nat), .int .u32 (e : Nat)] 26
  generalize (w.alloc (.cells #[.int .u16 (m : Nat), .int .i64 s, .bool k, .slice A n c, .bool t, .int .u32 (v : Nat), .int .u32 (e : Nat)] 26)) = w0 at U0 A0 ⊢
  generalize w.heap.size = n0 at A0 ⊢
  obtain ⟨k0, k1, k2, k3, k4, k5, k6⟩ := Box.e7 A0
  go_wp2_with fail
  refine (longC _ _ _ _ _ _ _ _ _ w0).mono ?_
  rintro e_ w1 ⟨rfl, hv1⟩
  rw [HL1.out]
  have U1 := U0.on hv1
  have A1 := A0.up hv1
  clear k0 k1 k2 k3 k4 k5 k6 A0 U0 hv1
  obtain ⟨k0, k1, k2, k3, k4, k5, k6⟩ := Box.e7 A1
  go_wp2_with fail
  refine (HE.out w1 U1).mono ?_
  rintro e_ w2 ⟨he, hv2⟩
  rw [HEV.out] at he
  subst he
  have U2 := U1.on hv2
  have A2 := A1.up hv2
  clear k0 k1 k2 k3 k4 k5 k6 A1 U1 hv2
  go_upto_if 38 with fail
  go_cut [] (fun wc => Hid (Up w wc))
  case first =>
    rcases HEn'.out with ⟨hz1, hMay, hTr⟩ | hz1
    case inr =>
      subst hz1
      go_wp2_with fail
      go_meet
      exact U2
    case inl =>
      subst hz1
      have hdt := raw_dec hMay ho.1
      have hTl : (L T).length ≤ 40 := by rw [hTr, L_tx, raw_len]; exact hMay.2.2.2.2
      obtain ⟨h0, hdO⟩ := err_0 (l := L T) (by rw [hTr, L_tx]; exact hdt) hTl
      have HZ := Lib.hid h0
      have HdO := Lib.hid hdO
      have q4 : (T.size : Int) % 4 = 0 := by
        have := rawLen_four ⟨m, s, k, bs, t, v, e⟩
        have h : T.size = rawLen ⟨m, s, k, bs, t, v, e⟩ := by rw [hTr, tx_size, raw_len]
        omega
      have q40 : ¬ (40 : Int) < (T.size : Int) := by rw [L_len] at hTl; omega
      clear h0 hdO hdt hTr hMay
      go_wp2_with fail
      refine (HDC.out T _ hTs).mono ?_
      rintro e_ w3 hdz
      obtain ⟨Ap, np, cp, rfl, hok3, hv3⟩ := decZ_ok hdz HdO.out (by rw [L_len]; unfold maxLen; omega)
      rw [HZ.out]
      clear hdz
      go_upto_region 6 with fail
      have U3 : Up w (w3.alloc (.cells #[.int .u16 (m : Nat), .int .i64 s, .bool k, .slice Ap np cp, .bool t, .int .u32 (v : Nat), .int .u32 (e : Nat)] 26)) := up_al _ (U2.on hv3)
      have A3 := (A2.up hv3).alloc (.cells #[.int .u16 (m : Nat), .int .i64 s, .bool k, .slice Ap np cp, .bool t, .int .u32 (v : Nat), .int .u32 (e : Nat)] 26)
      have B3 := Box.new w3 #[.int .u16 (m : Nat), .int .i64 s, .bool k, .slice Ap np cp, .bool t, .int .u32 (v : Nat), .int .u32 (e : Nat)] 26
      have hok4 := hok3.up (up_al (.cells #[.int .u16 (m : Nat), .int .i64 s, .bool k, .slice Ap np cp, .bool t, .int .u32 (v : Nat), .int .u32 (e : Nat)] 26) (Below.refl _ _))
      generalize (w3.alloc (.cells #[.int .u16 (m : Nat), .int .i64 s, .bool k, .slice Ap np cp, .bool t, .int .u32 (v : Nat), .int .u32 (e : Nat)] 26)) = w4 at U3 A3 B3 hok4 ⊢
      generalize w3.heap.size = n13 at B3 ⊢
      clear A2 U2 hv3 hok3
      obtain ⟨k0, k1, k2, k3, k4, k5, k6⟩ := Box.e7 A3
      obtain ⟨p0, p1, p2, p3, p4, p5, p6⟩ := Box.e7 B3
      have HSm : Hid (Calls Try.prog 15 #[OA m s k A n c t v e, OA m s k Ap np cp t v e] w4 fun e_ w' => e_ = .returned (.bool true) ∧ Up w4 w') := by
        unfold Hid
        have h := hS m s k bs t v e A n c m s k bs t v e Ap np cp w4 (ho.up U3) hok4
        rw [same_self] at h
        exact h
      go_wp2_with fail
      refine HSm.out.mono ?_
      rintro e_ w5 ⟨rfl, hv5⟩
      go_wp2_with fail
      go_meet
      exact U3.on hv5
  case rest =>
  have U3 : Up w wc := hcut.out
  clear A2 U2 HEV HEn' HE
  go_wp2_with fail
  go_loopw [1, 15] (fun x i wr => Hid (i = .int .i64 0 ∧ x = .string S ∨ i = .int .i64 1 ∧ x = .string S ∨ i = .int .i64 2 ∧ x = .string T) ∧ Up w wr) (fun _ i _ => 2 - (intOf i).toNat)
  case atStart => exact ⟨.inl ⟨rfl, rfl⟩, U3⟩
  case round =>
    obtain ⟨hrel, hur⟩ := hrel
    clear U3 hcut
    rcases hrel.out with ⟨rfl, rfl⟩ | ⟨rfl, rfl⟩ | ⟨rfl, rfl⟩
    · have hYsz := hSs
      clear hrel
      by_cases hz0 : err (L S) = 0
      case neg =>
        obtain ⟨z, hzz⟩ : ∃ z, err (L S) = z := ⟨_, rfl⟩
        have hz1 : ¬ (z : Int) = 0 := by omega
        have HZ := Lib.hid hzz
        have HTV := Lib.hid (TV_no (b := b) (v := va) (e := ec) hzz (by omega))
        obtain ⟨dO, hdO⟩ : ∃ d, decO (L S) = d := ⟨_, rfl⟩
        obtain ⟨dm, ds, dk, db, dt, dv, de⟩ := dO
        have HdO := Lib.hid hdO; clear hdO hz0 hzz
        go_wp2_with fail
        refine (HDC.out S _ hYsz).mono ?_
        rintro e_ w3 hdz
        obtain ⟨A3, n3, c3, rfl, hok3, hv3⟩ := decZ_ok hdz HdO.out (by rw [L_len]; unfold maxLen; omega)
        rw [HZ.out]
        clear hdz hok3
        go_upto_region 14 with fail
        have U3 : Up w (w3.alloc (.cells #[.int .u16 (dm : Nat), .int .i64 ds, .bool dk, .slice A3 n3 c3, .bool dt, .int .u32 (dv : Nat), .int .u32 (de : Nat)] 26)) := up_al _ (hur.on hv3)
        generalize (w3.alloc (.cells #[.int .u16 (dm : Nat), .int .i64 ds, .bool dk, .slice A3 n3 c3, .bool dt, .int .u32 (dv : Nat), .int .u32 (de : Nat)] 26)) = w4 at U3 ⊢
        clear hv3
        go_wp2_with fail
        refine (HTC.out S _ _ _ _ hYsz hb hva hec).mono ?_
        rintro e_ w5 ⟨he, hv5⟩
        rw [HTV.out] at he
        subst he
        go_wp2_with fail
        go_roundw
        case rel => exact ⟨.inr (.inl ⟨by go_num, rfl⟩), U3.on hv5⟩
        case measure => simp [intOf]
      case pos =>
        obtain ⟨dm, ds, dk, db, dt, dv, de, qv, qe, U, hBk⟩ := bk_of S b va ec hb hva hec hz0
        have HB := Lib.hid hBk
        have hUs := hBk.sz
        have HZ := Lib.hid hz0
        obtain ⟨hrd, hrl⟩ := decO_rdn (L S)
        rw [hBk.d0] at hrd hrl
        clear hBk hz0
        go_wp2_with fail
        refine (HDC.out S _ hYsz).mono ?_
        rintro e_ w3 hdz
        obtain ⟨A3, n3, c3, rfl, hok3, hv3⟩ := decZ_ok hdz HB.out.d0 (by rw [L_len]; unfold maxLen; omega)
        rw [HZ.out]
        clear hdz
        go_upto_region 14 with fail
        have U3 : Up w (w3.alloc (.cells #[.int .u16 (dm : Nat), .int .i64 ds, .bool dk, .slice A3 n3 c3, .bool dt, .int .u32 (dv : Nat), .int .u32 (de : Nat)] 26)) := up_al _ (hur.on hv3)
        have P3 := Box.new w3 #[.int .u16 (dm : Nat), .int .i64 ds, .bool dk, .slice A3 n3 c3, .bool dt, .int .u32 (dv : Nat), .int .u32 (de : Nat)] 26
        have hok4 := hok3.up (up_al (.cells #[.int .u16 (dm : Nat), .int .i64 ds, .bool dk, .slice A3 n3 c3, .bool dt, .int .u32 (dv : Nat), .int .u32 (de : Nat)] 26) (Below.refl _ _))
        generalize (w3.alloc (.cells #[.int .u16 (dm : Nat), .int .i64 ds, .bool dk, .slice A3 n3 c3, .bool dt, .int .u32 (dv : Nat), .int .u32 (de : Nat)] 26)) = w4 at U3 P3 hok4 ⊢
        generalize w3.heap.size = n16 at P3 ⊢
        clear hv3 hok3
        go_wp2_with fail
        refine (HTC.out S _ _ _ _ hYsz hb hva hec).mono ?_
        rintro e_ w5 ⟨he, hv5⟩
        rw [HB.out.t0] at he
        subst he
        have U5 := U3.on hv5
        have P5 := P3.up hv5
        have hok5 := hok4.up hv5
        clear U3 P3 hok4 hv5
        go_wp2_with fail
        refine (HDC.out U _ (by omega)).mono ?_
        rintro e_ w6 hdz
        obtain ⟨A4, n4, c4, rfl, hok6, hv6⟩ := decZ_ok hdz HB.out.d1 (by rw [L_len]; unfold maxLen; omega)
        rw [HB.out.z0]
        clear hdz
        go_upto_region 19 with fail
        have U6 : Up w (w6.alloc (.cells #[.int .u16 (dm : Nat), .int .i64 ds, .bool dk, .slice A4 n4 c4, .bool dt, .int .u32 (qv : Nat), .int .u32 (qe : Nat)] 26)) := up_al _ (U5.on hv6)
        have P6 := (P5.up hv6).alloc (.cells #[.int .u16 (dm : Nat), .int .i64 ds, .bool dk, .slice A4 n4 c4, .bool dt, .int .u32 (qv : Nat), .int .u32 (qe : Nat)] 26)
        have Q6 := Box.new w6 #[.int .u16 (dm : Nat), .int .i64 ds, .bool dk, .slice A4 n4 c4, .bool dt, .int .u32 (qv : Nat), .int .u32 (qe : Nat)] 26
        have hok7 := (hok5.up hv6).up (up_al (.cells #[.int .u16 (dm : Nat), .int .i64 ds, .bool dk, .slice A4 n4 c4, .bool dt, .int .u32 (qv : Nat), .int .u32 (qe : Nat)] 26) (Below.refl _ _))
        have hok8 := hok6.up (up_al (.cells #[.int .u16 (dm : Nat), .int .i64 ds, .bool dk, .slice A4 n4 c4, .bool dt, .int .u32 (qv : Nat), .int .u32 (qe : Nat)] 26) (Below.refl _ _))
        generalize (w6.alloc (.cells #[.int .u16 (dm : Nat), .int .i64 ds, .bool dk, .slice A4 n4 c4, .bool dt, .int .u32 (qv : Nat), .int .u32 (qe : Nat)] 26)) = w7 at U6 P6 Q6 hok7 hok8 ⊢
        generalize w6.heap.size = n20 at Q6 ⊢
        clear U5 P5 hok5 hok6 hv6
        have hng1 := neg_u32 b hb
        have hng2 := neg_u32 va hva
        have hng3 := neg_u32 ec hec
        go_wp2_with fail
        refine (HTC.out U _ _ _ _ (by omega) (negM_lt b) (negM_lt va) (negM_lt ec)).mono ?_
        rintro e_ w8 ⟨he, hv8⟩
        rw [HB.out.t1] at he
        subst he
        have U8 := U6.on hv8
        have P8 := P6.up hv8
        have Q8 := Q6.up hv8
        have hok9 := hok7.up hv8
        have hok10 := hok8.up hv8
        clear U6 P6 Q6 hok7 hok8 hv8 hng1 hng2 hng3
        have HTu : Hid (∀ W, Up w8 W → Calls Try.prog 21 #[OA dm ds dk A3 n3 c3 dt dv de, .int .u32 (b : Nat), .int .u32 (va : Nat), .int .u32 (ec : Nat)] W fun e_ w' => TrZ dm ds dk dt qv qe n3 (db.map (trn b)) W e_ w') := fun W hW => by
          rw [HB.out.hv, HB.out.he]
          exact turnedC dm ds dk dt dv de A3 n3 c3 db b va ec W (hok9.up hW).2.2.1 hok9.2.2.2.1 (by have := hok9.2.2.2.1; rw [L_len] at hrl; (try dsimp only at hrl); omega) hrd.1.2.1 hb hrd.1.2.2.1 hrd.1.2.2.2 hva hec
        have HSm : Hid (∀ W A9 c9, Up w8 W → RdB W A9 (db.map (trn b)) → (db.map (trn b)).length = n3 → Calls Try.prog 15 #[OA dm ds dk A4 n4 c4 dt qv qe, OA dm ds dk A9 n3 c9 dt qv qe] W fun e_ w' => e_ = .returned (.bool true) ∧ Up W w') := fun W A9 c9 hW hr9 hn9 => by
          have h1 := hok10.up hW
          have h2 : OkA W dm ds dk (db.map (trn b)) dt qv qe A9 n3 := ⟨h1.1, h1.2.1, hr9, hn9, by have := h1.2.2.2.1; have := h1.2.2.2.2; omega⟩
          have h := hS dm ds dk (db.map (trn b)) dt qv qe A4 n4 c4 dm ds dk (db.map (trn b)) dt qv qe A9 n3 c9 W h1 h2
          rw [same_self] at h
          exact h
        have HKp : Hid (∀ W, Up w8 W → W.cell? ⟨n16, 0, none⟩ = some (.int .u16 (dm : Nat)) ∧ W.cell? ⟨n16, 1, none⟩ = some (.int .i64 ds) ∧ W.cell? ⟨n16, 2, none⟩ = some (.bool dk) ∧ W.cell? ⟨n16, 3, none⟩ = some (.slice A3 n3 c3) ∧ W.cell? ⟨n16, 4, none⟩ = some (.bool dt) ∧ W.cell? ⟨n16, 5, none⟩ = some (.int .u32 (dv : Nat)) ∧ W.cell? ⟨n16, 6, none⟩ = some (.int .u32 (de : Nat)) ∧ W.cell? ⟨n20, 0, none⟩ = some (.int .u16 (dm : Nat)) ∧ W.cell? ⟨n20, 1, none⟩ = some (.int .i64 ds) ∧ W.cell? ⟨n20, 2, none⟩ = some (.bool dk) ∧ W.cell? ⟨n20, 3, none⟩ = some (.slice A4 n4 c4) ∧ W.cell? ⟨n20, 4, none⟩ = some (.bool dt) ∧ W.cell? ⟨n20, 5, none⟩ = some (.int .u32 (qv : Nat)) ∧ W.cell? ⟨n20, 6, none⟩ = some (.int .u32 (qe : Nat))) := fun W hW => ⟨(P8.up hW).at 0 rfl, (P8.up hW).at 1 rfl, (P8.up hW).at 2 rfl, (P8.up hW).at 3 rfl, (P8.up hW).at 4 rfl, (P8.up hW).at 5 rfl, (P8.up hW).at 6 rfl, (Q8.up hW).at 0 rfl, (Q8.up hW).at 1 rfl, (Q8.up hW).at 2 rfl, (Q8.up hW).at 3 rfl, (Q8.up hW).at 4 rfl, (Q8.up hW).at 5 rfl, (Q8.up hW).at 6 rfl⟩
        obtain ⟨p0, p1, p2, p3, p4, p5, p6⟩ := Box.e7 P8
        obtain ⟨q0, q1, q2, q3, q4, q5, q6⟩ := Box.e7 Q8
        have hu0 : Up w8 w8 := Below.refl _ _
        clear hok9 hok10 P8 Q8 hrd hrl
        go_upto_region 20 with fail
        go_region_held3 (fun W => W.cell? ⟨n16, 0, none⟩ = some (.int .u16 (dm : Nat)) ∧ W.cell? ⟨n16, 1, none⟩ = some (.int .i64 ds) ∧ W.cell? ⟨n16, 2, none⟩ = some (.bool dk) ∧ W.cell? ⟨n16, 3, none⟩ = some (.slice A3 n3 c3) ∧ W.cell? ⟨n16, 4, none⟩ = some (.bool dt) ∧ W.cell? ⟨n16, 5, none⟩ = some (.int .u32 (dv : Nat)) ∧ W.cell? ⟨n16, 6, none⟩ = some (.int .u32 (de : Nat)) ∧ W.cell? ⟨n20, 0, none⟩ = some (.int .u16 (dm : Nat)) ∧ W.cell? ⟨n20, 1, none⟩ = some (.int .i64 ds) ∧ W.cell? ⟨n20, 2, none⟩ = some (.bool dk) ∧ W.cell? ⟨n20, 3, none⟩ = some (.slice A4 n4 c4) ∧ W.cell? ⟨n20, 4, none⟩ = some (.bool dt) ∧ W.cell? ⟨n20, 5, none⟩ = some (.int .u32 (qv : Nat)) ∧ W.cell? ⟨n20, 6, none⟩ = some (.int .u32 (qe : Nat)))
          (first | exact ⟨p0, p1, p2, p3, p4, p5, p6, q0, q1, q2, q3, q4, q5, q6⟩ | exact HKp.out _ (by repeat (first | assumption | exact Below.refl _ _ | apply up_al | apply up_dr | apply up_drN)))
          (first
            | (go_at_call 21; refine (HTu.out _ (by repeat (first | assumption | exact Below.refl _ _ | apply up_al | apply up_dr | apply up_drN))).mono ?_; rintro e_ w9 ⟨A9, c9, rfl, hr9, hn9, hv9⟩; have hu9 : Up w8 w9 := Up.on (by repeat (first | assumption | exact Below.refl _ _ | apply up_al | apply up_dr | apply up_drN)) hv9; have hv0 : Up w9 w9 := Below.refl _ _)
            | (go_at_call 15; refine (HSm.out _ _ _ (by repeat (first | assumption | exact Below.refl _ _ | apply up_al | apply up_dr | apply up_drN)) (hr9.up (by repeat (first | assumption | exact Below.refl _ _ | apply up_al | apply up_dr | apply up_drN))) hn9).mono ?_; rintro e_ w10 ⟨rfl, hv10⟩; have hu10 : Up w8 w10 := Up.on (by repeat (first | assumption | exact Below.refl _ _ | apply up_al | apply up_dr | apply up_drN)) hv10))
        all_goals
          have hu11 := U8.on hu10
          clear HTu HSm HKp hu0 hu9 hv0 p0 p1 p2 p3 p4 p5 p6 q0 q1 q2 q3 q4 q5 q6
          go_wp2
          go_roundw
          case rel => exact ⟨.inr (.inl ⟨by go_num, rfl⟩), hu11⟩
          case measure => simp [intOf]
    · have hYsz := hTs
      clear hrel
      by_cases hz0 : err (L T) = 0
      case neg =>
        obtain ⟨z, hzz⟩ : ∃ z, err (L T) = z := ⟨_, rfl⟩
        have hz1 : ¬ (z : Int) = 0 := by omega
        have HZ := Lib.hid hzz
        have HTV := Lib.hid (TV_no (b := b) (v := va) (e := ec) hzz (by omega))
        obtain ⟨dO, hdO⟩ : ∃ d, decO (L T) = d := ⟨_, rfl⟩
        obtain ⟨dm, ds, dk, db, dt, dv, de⟩ := dO
        have HdO := Lib.hid hdO; clear hdO hz0 hzz
        go_wp2_with fail
        refine (HDC.out T _ hYsz).mono ?_
        rintro e_ w3 hdz
        obtain ⟨A3, n3, c3, rfl, hok3, hv3⟩ := decZ_ok hdz HdO.out (by rw [L_len]; unfold maxLen; omega)
        rw [HZ.out]
        clear hdz hok3
        go_upto_region 14 with fail
        have U3 : Up w (w3.alloc (.cells #[.int .u16 (dm : Nat), .int .i64 ds, .bool dk, .slice A3 n3 c3, .bool dt, .int .u32 (dv : Nat), .int .u32 (de : Nat)] 26)) := up_al _ (hur.on hv3)
        generalize (w3.alloc (.cells #[.int .u16 (dm : Nat), .int .i64 ds, .bool dk, .slice A3 n3 c3, .bool dt, .int .u32 (dv : Nat), .int .u32 (de : Nat)] 26)) = w4 at U3 ⊢
        clear hv3
        go_wp2_with fail
        refine (HTC.out T _ _ _ _ hYsz hb hva hec).mono ?_
        rintro e_ w5 ⟨he, hv5⟩
        rw [HTV.out] at he
        subst he
        go_wp2_with fail
        go_roundw
        case rel => exact ⟨.inr (.inr ⟨by go_num, rfl⟩), U3.on hv5⟩
        case measure => simp [intOf]
      case pos =>
        obtain ⟨dm, ds, dk, db, dt, dv, de, qv, qe, U, hBk⟩ := bk_of T b va ec hb hva hec hz0
        have HB := Lib.hid hBk
        have hUs := hBk.sz
        have HZ := Lib.hid hz0
        obtain ⟨hrd, hrl⟩ := decO_rdn (L T)
        rw [hBk.d0] at hrd hrl
        clear hBk hz0
        go_wp2_with fail
        refine (HDC.out T _ hYsz).mono ?_
        rintro e_ w3 hdz
        obtain ⟨A3, n3, c3, rfl, hok3, hv3⟩ := decZ_ok hdz HB.out.d0 (by rw [L_len]; unfold maxLen; omega)
        rw [HZ.out]
        clear hdz
        go_upto_region 14 with fail
        have U3 : Up w (w3.alloc (.cells #[.int .u16 (dm : Nat), .int .i64 ds, .bool dk, .slice A3 n3 c3, .bool dt, .int .u32 (dv : Nat), .int .u32 (de : Nat)] 26)) := up_al _ (hur.on hv3)
        have P3 := Box.new w3 #[.int .u16 (dm : Nat), .int .i64 ds, .bool dk, .slice A3 n3 c3, .bool dt, .int .u32 (dv : Nat), .int .u32 (de : Nat)] 26
        have hok4 := hok3.up (up_al (.cells #[.int .u16 (dm : Nat), .int .i64 ds, .bool dk, .slice A3 n3 c3, .bool dt, .int .u32 (dv : Nat), .int .u32 (de : Nat)] 26) (Below.refl _ _))
        generalize (w3.alloc (.cells #[.int .u16 (dm : Nat), .int .i64 ds, .bool dk, .slice A3 n3 c3, .bool dt, .int .u32 (dv : Nat), .int .u32 (de : Nat)] 26)) = w4 at U3 P3 hok4 ⊢
        generalize w3.heap.size = n16 at P3 ⊢
        clear hv3 hok3
        go_wp2_with fail
        refine (HTC.out T _ _ _ _ hYsz hb hva hec).mono ?_
        rintro e_ w5 ⟨he, hv5⟩
        rw [HB.out.t0] at he
        subst he
        have U5 := U3.on hv5
        have P5 := P3.up hv5
        have hok5 := hok4.up hv5
        clear U3 P3 hok4 hv5
        go_wp2_with fail
        refine (HDC.out U _ (by omega)).mono ?_
        rintro e_ w6 hdz
        obtain ⟨A4, n4, c4, rfl, hok6, hv6⟩ := decZ_ok hdz HB.out.d1 (by rw [L_len]; unfold maxLen; omega)
        rw [HB.out.z0]
        clear hdz
        go_upto_region 19 with fail
        have U6 : Up w (w6.alloc (.cells #[.int .u16 (dm : Nat), .int .i64 ds, .bool dk, .slice A4 n4 c4, .bool dt, .int .u32 (qv : Nat), .int .u32 (qe : Nat)] 26)) := up_al _ (U5.on hv6)
        have P6 := (P5.up hv6).alloc (.cells #[.int .u16 (dm : Nat), .int .i64 ds, .bool dk, .slice A4 n4 c4, .bool dt, .int .u32 (qv : Nat), .int .u32 (qe : Nat)] 26)
        have Q6 := Box.new w6 #[.int .u16 (dm : Nat), .int .i64 ds, .bool dk, .slice A4 n4 c4, .bool dt, .int .u32 (qv : Nat), .int .u32 (qe : Nat)] 26
        have hok7 := (hok5.up hv6).up (up_al (.cells #[.int .u16 (dm : Nat), .int .i64 ds, .bool dk, .slice A4 n4 c4, .bool dt, .int .u32 (qv : Nat), .int .u32 (qe : Nat)] 26) (Below.refl _ _))
        have hok8 := hok6.up (up_al (.cells #[.int .u16 (dm : Nat), .int .i64 ds, .bool dk, .slice A4 n4 c4, .bool dt, .int .u32 (qv : Nat), .int .u32 (qe : Nat)] 26) (Below.refl _ _))
        generalize (w6.alloc (.cells #[.int .u16 (dm : Nat), .int .i64 ds, .bool dk, .slice A4 n4 c4, .bool dt, .int .u32 (qv : Nat), .int .u32 (qe : Nat)] 26)) = w7 at U6 P6 Q6 hok7 hok8 ⊢
        generalize w6.heap.size = n20 at Q6 ⊢
        clear U5 P5 hok5 hok6 hv6
        have hng1 := neg_u32 b hb
        have hng2 := neg_u32 va hva
        have hng3 := neg_u32 ec hec
        go_wp2_with fail
        refine (HTC.out U _ _ _ _ (by omega) (negM_lt b) (negM_lt va) (negM_lt ec)).mono ?_
        rintro e_ w8 ⟨he, hv8⟩
        rw [HB.out.t1] at he
        subst he
        have U8 := U6.on hv8
        have P8 := P6.up hv8
        have Q8 := Q6.up hv8
        have hok9 := hok7.up hv8
        have hok10 := hok8.up hv8
        clear U6 P6 Q6 hok7 hok8 hv8 hng1 hng2 hng3
        have HTu : Hid (∀ W, Up w8 W → Calls Try.prog 21 #[OA dm ds dk A3 n3 c3 dt dv de, .int .u32 (b : Nat), .int .u32 (va : Nat), .int .u32 (ec : Nat)] W fun e_ w' => TrZ dm ds dk dt qv qe n3 (db.map (trn b)) W e_ w') := fun W hW => by
          rw [HB.out.hv, HB.out.he]
          exact turnedC dm ds dk dt dv de A3 n3 c3 db b va ec W (hok9.up hW).2.2.1 hok9.2.2.2.1 (by have := hok9.2.2.2.1; rw [L_len] at hrl; (try dsimp only at hrl); omega) hrd.1.2.1 hb hrd.1.2.2.1 hrd.1.2.2.2 hva hec
        have HSm : Hid (∀ W A9 c9, Up w8 W → RdB W A9 (db.map (trn b)) → (db.map (trn b)).length = n3 → Calls Try.prog 15 #[OA dm ds dk A4 n4 c4 dt qv qe, OA dm ds dk A9 n3 c9 dt qv qe] W fun e_ w' => e_ = .returned (.bool true) ∧ Up W w') := fun W A9 c9 hW hr9 hn9 => by
          have h1 := hok10.up hW
          have h2 : OkA W dm ds dk (db.map (trn b)) dt qv qe A9 n3 := ⟨h1.1, h1.2.1, hr9, hn9, by have := h1.2.2.2.1; have := h1.2.2.2.2; omega⟩
          have h := hS dm ds dk (db.map (trn b)) dt qv qe A4 n4 c4 dm ds dk (db.map (trn b)) dt qv qe A9 n3 c9 W h1 h2
          rw [same_self] at h
          exact h
        have HKp : Hid (∀ W, Up w8 W → W.cell? ⟨n16, 0, none⟩ = some (.int .u16 (dm : Nat)) ∧ W.cell? ⟨n16, 1, none⟩ = some (.int .i64 ds) ∧ W.cell? ⟨n16, 2, none⟩ = some (.bool dk) ∧ W.cell? ⟨n16, 3, none⟩ = some (.slice A3 n3 c3) ∧ W.cell? ⟨n16, 4, none⟩ = some (.bool dt) ∧ W.cell? ⟨n16, 5, none⟩ = some (.int .u32 (dv : Nat)) ∧ W.cell? ⟨n16, 6, none⟩ = some (.int .u32 (de : Nat)) ∧ W.cell? ⟨n20, 0, none⟩ = some (.int .u16 (dm : Nat)) ∧ W.cell? ⟨n20, 1, none⟩ = some (.int .i64 ds) ∧ W.cell? ⟨n20, 2, none⟩ = some (.bool dk) ∧ W.cell? ⟨n20, 3, none⟩ = some (.slice A4 n4 c4) ∧ W.cell? ⟨n20, 4, none⟩ = some (.bool dt) ∧ W.cell? ⟨n20, 5, none⟩ = some (.int .u32 (qv : Nat)) ∧ W.cell? ⟨n20, 6, none⟩ = some (.int .u32 (qe : Nat))) := fun W hW => ⟨(P8.up hW).at 0 rfl, (P8.up hW).at 1 rfl, (P8.up hW).at 2 rfl, (P8.up hW).at 3 rfl, (P8.up hW).at 4 rfl, (P8.up hW).at 5 rfl, (P8.up hW).at 6 rfl, (Q8.up hW).at 0 rfl, (Q8.up hW).at 1 rfl, (Q8.up hW).at 2 rfl, (Q8.up hW).at 3 rfl, (Q8.up hW).at 4 rfl, (Q8.up hW).at 5 rfl, (Q8.up hW).at 6 rfl⟩
        obtain ⟨p0, p1, p2, p3, p4, p5, p6⟩ := Box.e7 P8
        obtain ⟨q0, q1, q2, q3, q4, q5, q6⟩ := Box.e7 Q8
        have hu0 : Up w8 w8 := Below.refl _ _
        clear hok9 hok10 P8 Q8 hrd hrl
        go_upto_region 20 with fail
        go_region_held3 (fun W => W.cell? ⟨n16, 0, none⟩ = some (.int .u16 (dm : Nat)) ∧ W.cell? ⟨n16, 1, none⟩ = some (.int .i64 ds) ∧ W.cell? ⟨n16, 2, none⟩ = some (.bool dk) ∧ W.cell? ⟨n16, 3, none⟩ = some (.slice A3 n3 c3) ∧ W.cell? ⟨n16, 4, none⟩ = some (.bool dt) ∧ W.cell? ⟨n16, 5, none⟩ = some (.int .u32 (dv : Nat)) ∧ W.cell? ⟨n16, 6, none⟩ = some (.int .u32 (de : Nat)) ∧ W.cell? ⟨n20, 0, none⟩ = some (.int .u16 (dm : Nat)) ∧ W.cell? ⟨n20, 1, none⟩ = some (.int .i64 ds) ∧ W.cell? ⟨n20, 2, none⟩ = some (.bool dk) ∧ W.cell? ⟨n20, 3, none⟩ = some (.slice A4 n4 c4) ∧ W.cell? ⟨n20, 4, none⟩ = some (.bool dt) ∧ W.cell? ⟨n20, 5, none⟩ = some (.int .u32 (qv : Nat)) ∧ W.cell? ⟨n20, 6, none⟩ = some (.int .u32 (qe : Nat)))
          (first | exact ⟨p0, p1, p2, p3, p4, p5, p6, q0, q1, q2, q3, q4, q5, q6⟩ | exact HKp.out _ (by repeat (first | assumption | exact Below.refl _ _ | apply up_al | apply up_dr | apply up_drN)))
          (first
            | (go_at_call 21; refine (HTu.out _ (by repeat (first | assumption | exact Below.refl _ _ | apply up_al | apply up_dr | apply up_drN))).mono ?_; rintro e_ w9 ⟨A9, c9, rfl, hr9, hn9, hv9⟩; have hu9 : Up w8 w9 := Up.on (by repeat (first | assumption | exact Below.refl _ _ | apply up_al | apply up_dr | apply up_drN)) hv9; have hv0 : Up w9 w9 := Below.refl _ _)
            | (go_at_call 15; refine (HSm.out _ _ _ (by repeat (first | assumption | exact Below.refl _ _ | apply up_al | apply up_dr | apply up_drN)) (hr9.up (by repeat (first | assumption | exact Below.refl _ _ | apply up_al | apply up_dr | apply up_drN))) hn9).mono ?_; rintro e_ w10 ⟨rfl, hv10⟩; have hu10 : Up w8 w10 := Up.on (by repeat (first | assumption | exact Below.refl _ _ | apply up_al | apply up_dr | apply up_drN)) hv10))
        all_goals
          have hu11 := U8.on hu10
          clear HTu HSm HKp hu0 hu9 hv0 p0 p1 p2 p3 p4 p5 p6 q0 q1 q2 q3 q4 q5 q6
          go_wp2
          go_roundw
          case rel => exact ⟨.inr (.inr ⟨by go_num, rfl⟩), hu11⟩
          case measure => simp [intOf]
    · go_wp2_with fail
      refine (HA.out _).mono ?_
      rintro e_ w9 ⟨rfl, hv9⟩
      go_wp2
      go_ret
      exact ⟨rfl, hur.on hv9⟩
end Go.Proofs.Ytdlcglkeinlimaa.op
