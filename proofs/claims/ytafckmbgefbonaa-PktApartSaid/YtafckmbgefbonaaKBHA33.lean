/- B H A: contracts, part 33. Condition: as each says. -/
import Derived.Test.YtafckmbgefbonaaKBHA30
import Derived.Test.YtafckmbgefbonaaKBHA31
import Derived.Test.YtafckmbgefbonaaKBHA32
set_option linter.unusedVariables false
set_option linter.unusedSimpArgs false
namespace Go.Proofs.Ytafckmbgefbonaa.pk
open Go.RowKit Go.Shelf Go.Lib Go.Proofs.Ytafckmbgefbonaa.sm Go.Proofs.Ytafckmbgefbonaa.nb Go.Proofs.Ytafckmbgefbonaa.pm
set_option linter.unusedVariables false

theorem decodeC (s : ByteArray) (w : World) (hs : s.size ≤ 1048576) :
    Calls Try.prog 9 #[.string s] w fun e_ w' => DecR (errP (L s)) (decP (L s)) w e_ w' := by
  have HI := fun w => ip.decodeC s w (by omega)
  by_cases h : im.dec (L s) ≠ 0
  · have e : errP (L s) = im.dec (L s) := if_pos h
    rw [decP_bad (by rw [e]; exact h), e]
    rw [ip.DV_err rfl h] at HI
    exact ldec0 s ByteArray.empty 0 0 0 0 0 0 false w _ HI h
  have h := Decidable.not_not.1 h
  have hgx := gx_le (L s); have hgy := gy_le (L s)
  by_cases h9 : bt (L s) 9 ≠ 6
  · have e : errP (L s) = 80 := by unfold errP; rw [if_neg (by omega), if_pos h9]
    rw [decP_bad (by rw [e]; decide), e]
    rw [ip.DV_ok h] at HI
    have e1 : ip.RV (L s) = ip.HV (gx (L s) : Nat) (gy (L s) : Nat) (bt (L s) 9) (bt (L s) 8) (bt (L s) 1) (wd (L s) 4) (decide (wd (L s) 6 ≠ 0)) := by
      rw [nat_of (qd_bd (L s) 12).1, nat_of (qd_bd (L s) 16).1]
    rw [e1] at HI
    exact ldec1 s _ _ _ _ _ _ _ _ w HI h9
  have h9 := Decidable.not_not.1 h9
  rw [DV6 h h9] at HI
  have eP := errP_ok h h9
  have HT := fun w => tc.decC (gx (L s)) (gy (L s)) (tx (gg (L s))) w hgx hgy (Nat.le_trans (tx_gg s hs) (by decide))
  rw [L_tx] at HT
  by_cases hd : cm.dec (gx (L s)) (gy (L s)) (gg (L s)) ≠ 0
  · have e : errP (L s) = cm.dec (gx (L s)) (gy (L s)) (gg (L s)) := by rw [eP]; exact if_pos hd
    rw [decP_bad (by rw [e]; exact hd), e]
    rw [tc.DV_err rfl hd] at HT
    exact ldec2 s _ ByteArray.empty ByteArray.empty _ _ 0 0 0 0 0 0 _ _ _ 0 _ w _ HI HT hd
  have hd := Decidable.not_not.1 hd
  rw [tc.DV_ok hd, TVg] at HT
  have ho : (tx (optsOf (gg (L s)))).size ≤ 1048576 := by
    have h1 := optsOf_len (gg (L s)); have h2 := tx_gg s hs
    rw [tx_size] at h2 ⊢; omega
  have hf : (bt (gg (L s)) 13).toNat ≤ 255 := by have := bt_bd (gg (L s)) 13; omega
  by_cases hq : om.err (optsOf (gg (L s))) ≠ 0
  · have e : errP (L s) = om.err (optsOf (gg (L s))) := by rw [eP]; unfold errG; rw [if_neg (by omega), if_pos hq]
    rw [decP_bad (by rw [e]; exact hq), e]
    exact ldec3 s _ _ _ _ _ _ _ _ _ _ _ _ _ _ _ _ w _ HI HT ho (by rw [L_tx]) hq
  have hq := Decidable.not_not.1 hq
  by_cases hg : flg (bt (gg (L s)) 13).toNat = false
  · have e : errP (L s) = 81 := by rw [eP]; unfold errG; rw [if_neg (by omega), if_neg (by omega), if_pos hg]
    rw [decP_bad (by rw [e]; decide), e]
    exact ldec4 s _ _ _ _ _ _ _ _ _ _ _ _ _ _ _ _ w HI HT ho hf (by rw [L_tx]; exact hq) hg
  have hg' : flg (bt (gg (L s)) 13).toNat = true := by simpa using hg
  by_cases hl : 1460 < ((gg (L s)).drop (cm.hl (gg (L s))).toNat).length
  · have e : errP (L s) = 4 := by rw [eP]; unfold errG; rw [if_neg (by omega), if_neg (by omega), if_neg hg, if_pos hl]
    rw [decP_bad (by rw [e]; decide), e]
    exact ldec5 s _ _ _ _ _ _ _ _ _ _ _ _ _ _ _ _ w HI HT ho hf (by rw [L_tx]; exact hq) hg' (by rw [tx_size]; exact hl)
  have e : errP (L s) = 0 := by rw [eP]; exact errG_ok hd hq hg' (Nat.not_lt.1 hl)
  rw [decP_ok e, e]
  refine (ldec6 s _ _ _ _ _ _ _ _ _ _ _ _ _ _ _ _ w HI HT ho hf (by rw [L_tx]; exact hq) hg' (by rw [tx_size]; exact hl)).mono ?_
  intro e_ w' hr
  rw [L_tx, L_tx] at hr
  exact hr
end Go.Proofs.Ytafckmbgefbonaa.pk

namespace Go.Proofs.Ytafckmbgefbonaa.pk
open Go.RowKit Go.Shelf Go.Lib Go.Proofs.Ytafckmbgefbonaa.sm Go.Proofs.Ytafckmbgefbonaa.nb Go.Proofs.Ytafckmbgefbonaa.pm
set_option linter.unusedVariables false

set_option maxHeartbeats 2000000 in
set_option maxRecDepth 100000 in
theorem mayC (a p b q y z f i m : Nat) (s : Int) (k : Bool) (A : Option Addr) (n c : Nat) (t : Bool) (v e : Nat) (D : List UInt8) (bl : List (Nat × Nat)) (w : World) (hg : GoodS ⟨a, b, p, q, y, z, f, i, ⟨m, s, k, bl, t, v, e⟩, D⟩) (hn : bl.length = n) (hr : op.RdB w A bl) :
    Calls Try.prog 16 #[SA a p b q y z f i m s k A n c t v e (tx D)] w fun e_ w' => e_ = .returned (.bool (maysb ⟨a, b, p, q, y, z, f, i, ⟨m, s, k, bl, t, v, e⟩, D⟩)) ∧ Up w w' := by
  have HM := Lib.hid (show maysb ⟨a, b, p, q, y, z, f, i, ⟨m, s, k, bl, t, v, e⟩, D⟩ = (flg f && op.mayb ⟨m, s, k, bl, t, v, e⟩ && decide ((tx D).size ≤ 1460)) by rw [tx_size]; rfl)
  have hf : f ≤ 255 := hg.1.2.2.2.2.2.2.1
  have HF : Hid (∀ w, Calls Try.prog 23 #[.int .u8 f] w fun e_ w' => e_ = .returned (.bool (flg f)) ∧ Up w w') := fun w => (mayFlagsC f w hf).mono fun _ _ h => ⟨h.1, h.2 ▸ Below.refl _ _⟩
  have HO : Hid (∀ w, op.RdB w A bl → Calls Try.prog 33 #[op.OA m s k A n c t v e] w fun e_ w' => e_ = .returned (.bool (op.mayb ⟨m, s, k, bl, t, v, e⟩)) ∧ Up w w') := fun w hr => op.mayC m s k bl t v e A n c w ⟨hg.1.2.2.2.2.2.2.2.2, hg.2.1, hr, hn, by have := hg.2.2.1; unfold maxLen; dsimp only at this; omega⟩
  generalize tx D = S at HM ⊢
  generalize maysb ⟨a, b, p, q, y, z, f, i, ⟨m, s, k, bl, t, v, e⟩, D⟩ = r at HM ⊢
  generalize flg f = x at HM HF
  generalize op.mayb ⟨m, s, k, bl, t, v, e⟩ = x2 at HM HO
  have HR := Lib.hid hr
  clear hg hr
  go_enter Try.func16, Try.ntmps16
  go_upto_region 1 with fail
  have hA := Box.new w #[.int .u32 a, .int .u16 p, .int .u32 b, .int .u16 q, .int .u32 y, .int .u32 z, .int .u8 f, .int .u16 i, .int .u16 m, .int .i64 s, .bool k, .slice A n c, .bool t, .int .u32 v, .int .u32 e, .string S] 30
  have hu : Up w (w.alloc (.cells #[.int .u32 a, .int .u16 p, .int .u32 b, .int .u16 q, .int .u32 y, .int .u32 z, .int .u8 f, .int .u16 i, .int .u16 m, .int .i64 s, .bool k, .slice A n c, .bool t, .int .u32 v, .int .u32 e, .string S] 30)) := up_al _ (Below.refl _ _)
  generalize (w.alloc (.cells #[.int .u32 a, .int .u16 p, .int .u32 b, .int .u16 q, .int .u32 y, .int .u32 z, .int .u8 f, .int .u16 i, .int .u16 m, .int .i64 s, .bool k, .slice A n c, .bool t, .int .u32 v, .int .u32 e, .string S] 30)) = w0 at hA hu ⊢
  generalize w.heap.size = n0 at hA ⊢
  cases x with
  | false =>
    obtain ⟨k0, k1, k2, k3, k4, k5, k6, k7, k8, k9, k10, k11, k12, k13, k14, k15⟩ := e16 hA
    go_wp2_with fail
    refine (HF.out w0).mono ?_
    rintro e_ w1 ⟨rfl, hv⟩
    clear k0 k1 k2 k3 k4 k5 k6 k7 k8 k9 k10 k11 k12 k13 k14 k15
    obtain ⟨k0, k1, k2, k3, k4, k5, k6, k7, k8, k9, k10, k11, k12, k13, k14, k15⟩ := e16 (hA.up hv)
    go_wp2
    go_ret
    exact ⟨ret_bool (by rw [HM.out]; rfl), hu.on hv⟩
  | true =>
    have h0 := HR.out.up hu
    obtain ⟨k0, k1, k2, k3, k4, k5, k6, k7, k8, k9, k10, k11, k12, k13, k14, k15⟩ := e16 hA
    go_wp2_with fail
    refine (HF.out w0).mono ?_
    rintro e_ w1 ⟨rfl, hv⟩
    clear k0 k1 k2 k3 k4 k5 k6 k7 k8 k9 k10 k11 k12 k13 k14 k15
    have hA1 := hA.up hv
    have h1 := h0.up hv
    have hu1 := hu.on hv
    clear hA h0 hu hv
    obtain ⟨k0, k1, k2, k3, k4, k5, k6, k7, k8, k9, k10, k11, k12, k13, k14, k15⟩ := e16 hA1
    go_wp2_with fail
    refine (HO.out w1 h1).mono ?_
    rintro e_ w2 ⟨rfl, hv⟩
    clear k0 k1 k2 k3 k4 k5 k6 k7 k8 k9 k10 k11 k12 k13 k14 k15
    have hA2 := hA1.up hv
    have hu2 := hu1.on hv
    clear hA1 h1 hu1 hv
    obtain ⟨k0, k1, k2, k3, k4, k5, k6, k7, k8, k9, k10, k11, k12, k13, k14, k15⟩ := e16 hA2
    cases x2 with
    | false =>
      go_wp2
      go_ret
      exact ⟨ret_bool (by rw [HM.out]; rfl), hu2⟩
    | true =>
      by_cases c0 : S.size ≤ 1460
      · have c1 : (S.size : Int) ≤ 1460 := by omega
        have HC := Lib.hid (decide_eq_true c0)
        clear c0
        go_wp2
        go_ret
        exact ⟨ret_bool (by rw [HM.out, HC.out]; rfl), hu2⟩
      · have c1 : ¬ (S.size : Int) ≤ 1460 := by omega
        have HC := Lib.hid (decide_eq_false c0)
        clear c0
        go_wp2
        go_ret
        exact ⟨ret_bool ((decide_eq_false (by omega)).trans (by rw [HM.out, HC.out]; rfl)), hu2⟩
set_option maxHeartbeats 4000000 in
set_option maxRecDepth 100000 in
theorem encodeC0 (a p b q y z f i m : Nat) (s : Int) (k : Bool) (A : Option Addr) (n c : Nat) (t : Bool) (v e : Nat) (D : List UInt8) (bl : List (Nat × Nat)) (w : World) (hg : GoodS ⟨a, b, p, q, y, z, f, i, ⟨m, s, k, bl, t, v, e⟩, D⟩) (hn : bl.length = n) (hr : op.RdB w A bl) (hm : ¬ MayS ⟨a, b, p, q, y, z, f, i, ⟨m, s, k, bl, t, v, e⟩, D⟩) :
    Calls Try.prog 8 #[SA a p b q y z f i m s k A n c t v e (tx D)] w fun e_ w' => e_ = .returned (EVP ⟨a, b, p, q, y, z, f, i, ⟨m, s, k, bl, t, v, e⟩, D⟩) ∧ Up w w' := by
  have HE := Lib.hid (EVP_no hm)
  have HR := Lib.hid hr
  have HY : Hid (∀ w, op.RdB w A bl → Calls Try.prog 16 #[SA a p b q y z f i m s k A n c t v e (tx D)] w fun e_ w' => e_ = .returned (.bool (maysb ⟨a, b, p, q, y, z, f, i, ⟨m, s, k, bl, t, v, e⟩, D⟩)) ∧ Up w w') := fun w hr => mayC a p b q y z f i m s k A n c t v e D bl w hg hn hr
  rw [maysb_f hm] at HY
  generalize EVP ⟨a, b, p, q, y, z, f, i, ⟨m, s, k, bl, t, v, e⟩, D⟩ = r at HE ⊢
  clear hg hr hm
  generalize tx D = S at HY ⊢
  go_enter Try.func8, Try.ntmps8
  go_upto_region 1 with fail
  have hA := Box.new w #[.int .u32 a, .int .u16 p, .int .u32 b, .int .u16 q, .int .u32 y, .int .u32 z, .int .u8 f, .int .u16 i, .int .u16 m, .int .i64 s, .bool k, .slice A n c, .bool t, .int .u32 v, .int .u32 e, .string S] 30
  have hu : Up w (w.alloc (.cells #[.int .u32 a, .int .u16 p, .int .u32 b, .int .u16 q, .int .u32 y, .int .u32 z, .int .u8 f, .int .u16 i, .int .u16 m, .int .i64 s, .bool k, .slice A n c, .bool t, .int .u32 v, .int .u32 e, .string S] 30)) := up_al _ (Below.refl _ _)
  generalize (w.alloc (.cells #[.int .u32 a, .int .u16 p, .int .u32 b, .int .u16 q, .int .u32 y, .int .u32 z, .int .u8 f, .int .u16 i, .int .u16 m, .int .i64 s, .bool k, .slice A n c, .bool t, .int .u32 v, .int .u32 e, .string S] 30)) = w0 at hA hu ⊢
  generalize w.heap.size = n0 at hA ⊢
  have h0 := HR.out.up hu
  obtain ⟨k0, k1, k2, k3, k4, k5, k6, k7, k8, k9, k10, k11, k12, k13, k14, k15⟩ := e16 hA
  go_wp2_with fail
  refine (HY.out w0 h0).mono ?_
  rintro e_ w1 ⟨rfl, hv⟩
  have hA1 := hA.up hv
  have h1 := h0.up hv
  have hu1 := hu.on hv
  clear hA h0 hu hv HY
  clear k0 k1 k2 k3 k4 k5 k6 k7 k8 k9 k10 k11 k12 k13 k14 k15
  go_wp2
  go_ret2
  exact ⟨by rw [HE.out]; rfl, hu1⟩
set_option maxHeartbeats 4000000 in
set_option maxRecDepth 100000 in
theorem encodeC1 (a p b q y z f i m : Nat) (s : Int) (k : Bool) (A : Option Addr) (n c : Nat) (t : Bool) (v e : Nat) (D : List UInt8) (bl : List (Nat × Nat)) (w : World) (hg : GoodS ⟨a, b, p, q, y, z, f, i, ⟨m, s, k, bl, t, v, e⟩, D⟩) (hn : bl.length = n) (hr : op.RdB w A bl) (hm : MayS ⟨a, b, p, q, y, z, f, i, ⟨m, s, k, bl, t, v, e⟩, D⟩) :
    Calls Try.prog 8 #[SA a p b q y z f i m s k A n c t v e (tx D)] w fun e_ w' => e_ = .returned (EVP ⟨a, b, p, q, y, z, f, i, ⟨m, s, k, bl, t, v, e⟩, D⟩) ∧ Up w w' := by
  have HE := Lib.hid (EVP_ok hm)
  have HR := Lib.hid hr
  have HY : Hid (∀ w, op.RdB w A bl → Calls Try.prog 16 #[SA a p b q y z f i m s k A n c t v e (tx D)] w fun e_ w' => e_ = .returned (.bool (maysb ⟨a, b, p, q, y, z, f, i, ⟨m, s, k, bl, t, v, e⟩, D⟩)) ∧ Up w w') := fun w hr => mayC a p b q y z f i m s k A n c t v e D bl w hg hn hr
  rw [maysb_t hm] at HY
  obtain ⟨s1, s2, s3, z1, z2, z3⟩ := enc_steps hm hg.1
  have hok := ok_cm hg.1
  have hoi := ok_im hg.1
  have hwo := hg.1
  dsimp only at s1 s2 s3 z1 z2 z3 hok hoi
  have HO : Hid (∀ w, op.RdB w A bl → Calls Try.prog 17 #[op.OA m s k A n c t v e] w fun e_ w' => e_ = .returned (op.EVo ⟨m, s, k, bl, t, v, e⟩) ∧ Up w w') := fun w hr => op.encC m s k bl t v e A n c w ⟨hg.1.2.2.2.2.2.2.2.2, hg.2.1, hr, hn, by have := hg.2.2.1; unfold maxLen; dsimp only at this; omega⟩
  have HT : Hid (∀ w R S, R.size ≤ 40 → S.size ≤ 1460 → Calls Try.prog 18 #[.int .u32 a, .int .u32 b, tc.HV p q y z f i (0 : Nat) R, .string S] w fun e_ w' => e_ = .returned (tc.EV a b p q y z f i 0 R S) ∧ Up w w') := fun w R S h1 h2 => tc.encodeC a b p q y z f i 0 R S w hwo.1 hwo.2.1 hok (by omega) (by omega)
  have HT2 := Lib.hid (fun w => HT.out w (tx (om.raw ⟨m, s, k, bl, t, v, e⟩)) (tx D) z1 z2)
  have HI : Hid (∀ w X, X.size ≤ 1520 → Calls Try.prog 19 #[ip.HV a b (6 : Nat) (64 : Nat) (0 : Nat) (0 : Nat) true, .string X] w fun e_ w' => e_ = .returned (ip.EV a b 6 64 0 0 true X) ∧ Up w w') := fun w X h => ip.encodeC a b 6 64 0 0 true X w hoi (by omega)
  have HI2 := Lib.hid (fun w => HI.out w (tx (inner ⟨a, b, p, q, y, z, f, i, ⟨m, s, k, bl, t, v, e⟩, D⟩)) z3)
  rw [s1] at HO
  rw [s2] at HT2
  rw [s3] at HI2
  generalize EVP ⟨a, b, p, q, y, z, f, i, ⟨m, s, k, bl, t, v, e⟩, D⟩ = r at HE ⊢
  clear hg hr hm s1 s2 s3 HT HI hok hoi hwo z1 z2 z3
  generalize tx (encS ⟨a, b, p, q, y, z, f, i, ⟨m, s, k, bl, t, v, e⟩, D⟩) = E at HE HI2
  generalize tx (inner ⟨a, b, p, q, y, z, f, i, ⟨m, s, k, bl, t, v, e⟩, D⟩) = X at HT2 HI2
  generalize tx (om.raw ⟨m, s, k, bl, t, v, e⟩) = R at HO HT2
  generalize tx D = S at HY HT2 ⊢
  go_enter Try.func8, Try.ntmps8
  go_upto_region 1 with fail
  have hA := Box.new w #[.int .u32 a, .int .u16 p, .int .u32 b, .int .u16 q, .int .u32 y, .int .u32 z, .int .u8 f, .int .u16 i, .int .u16 m, .int .i64 s, .bool k, .slice A n c, .bool t, .int .u32 v, .int .u32 e, .string S] 30
  have hu : Up w (w.alloc (.cells #[.int .u32 a, .int .u16 p, .int .u32 b, .int .u16 q, .int .u32 y, .int .u32 z, .int .u8 f, .int .u16 i, .int .u16 m, .int .i64 s, .bool k, .slice A n c, .bool t, .int .u32 v, .int .u32 e, .string S] 30)) := up_al _ (Below.refl _ _)
  generalize (w.alloc (.cells #[.int .u32 a, .int .u16 p, .int .u32 b, .int .u16 q, .int .u32 y, .int .u32 z, .int .u8 f, .int .u16 i, .int .u16 m, .int .i64 s, .bool k, .slice A n c, .bool t, .int .u32 v, .int .u32 e, .string S] 30)) = w0 at hA hu ⊢
  generalize w.heap.size = n0 at hA ⊢
  have h0 := HR.out.up hu
  obtain ⟨k0, k1, k2, k3, k4, k5, k6, k7, k8, k9, k10, k11, k12, k13, k14, k15⟩ := e16 hA
  go_wp2_with fail
  refine (HY.out w0 h0).mono ?_
  rintro e_ w1 ⟨rfl, hv⟩
  have hA1 := hA.up hv
  have h1 := h0.up hv
  have hu1 := hu.on hv
  clear hA h0 hu hv HY
  clear k0 k1 k2 k3 k4 k5 k6 k7 k8 k9 k10 k11 k12 k13 k14 k15
  obtain ⟨k0, k1, k2, k3, k4, k5, k6, k7, k8, k9, k10, k11, k12, k13, k14, k15⟩ := e16 hA1
  go_wp2_with fail
  refine (HO.out w1 h1).mono ?_
  rintro e_ w2 ⟨rfl, hv⟩
  have hA2 := hA1.up hv
  have hu2 := hu1.on hv
  clear hA1 h1 hu1 hv k0 k1 k2 k3 k4 k5 k6 k7 k8 k9 k10 k11 k12 k13 k14 k15
  obtain ⟨k0, k1, k2, k3, k4, k5, k6, k7, k8, k9, k10, k11, k12, k13, k14, k15⟩ := e16 hA2
  go_upto_region 7 with fail
  have hT := Box.new w2 #[.int .u16 p, .int .u16 q, .int .u32 y, .int .u32 z, .int .u8 f, .int .u16 i, .int .u16 0, .string R] 53
  have hA3 := hA2.alloc (.cells #[.int .u16 p, .int .u16 q, .int .u32 y, .int .u32 z, .int .u8 f, .int .u16 i, .int .u16 0, .string R] 53)
  have hu3 := up_al (.cells #[.int .u16 p, .int .u16 q, .int .u32 y, .int .u32 z, .int .u8 f, .int .u16 i, .int .u16 0, .string R] 53) hu2
  generalize (w2.alloc (.cells #[.int .u16 p, .int .u16 q, .int .u32 y, .int .u32 z, .int .u8 f, .int .u16 i, .int .u16 0, .string R] 53)) = w3 at hT hA3 hu3 ⊢
  generalize w2.heap.size = t0 at hT ⊢
  clear hA2 hu2 k0 k1 k2 k3 k4 k5 k6 k7 k8 k9 k10 k11 k12 k13 k14 k15 w2
  obtain ⟨k0, k1, k2, k3, k4, k5, k6, k7, k8, k9, k10, k11, k12, k13, k14, k15⟩ := e16 hA3
  obtain ⟨t0, t1, t2, t3, t4, t5, t6, t7, _, _, _, _, _, _, _, _⟩ := tc.Box.c8 hT
  go_wp2_with fail
  refine (HT2.out w3).mono ?_
  rintro e_ w4 ⟨rfl, hv⟩
  have hA4 := hA3.up hv
  have hu4 := hu3.on hv
  clear hA3 hu3 hv hT k0 k1 k2 k3 k4 k5 k6 k7 k8 k9 k10 k11 k12 k13 k14 k15 t0 t1 t2 t3 t4 t5 t6 t7
  obtain ⟨k0, k1, k2, k3, k4, k5, k6, k7, k8, k9, k10, k11, k12, k13, k14, k15⟩ := e16 hA4
  go_wp2_with fail
  refine (HI2.out w4).mono ?_
  rintro e_ w5 ⟨rfl, hv⟩
  have hu5 := hu4.on hv
  go_wp2
  go_ret2
  exact ⟨by rw [HE.out]; rfl, hu5⟩
theorem encodeC (a p b q y z f i m : Nat) (s : Int) (k : Bool) (A : Option Addr) (n c : Nat) (t : Bool) (v e : Nat) (D : List UInt8) (bl : List (Nat × Nat)) (w : World) (hg : GoodS ⟨a, b, p, q, y, z, f, i, ⟨m, s, k, bl, t, v, e⟩, D⟩) (hn : bl.length = n) (hr : op.RdB w A bl) :
    Calls Try.prog 8 #[SA a p b q y z f i m s k A n c t v e (tx D)] w fun e_ w' => e_ = .returned (EVP ⟨a, b, p, q, y, z, f, i, ⟨m, s, k, bl, t, v, e⟩, D⟩) ∧ Up w w' := by
  by_cases hm : MayS ⟨a, b, p, q, y, z, f, i, ⟨m, s, k, bl, t, v, e⟩, D⟩
  · exact encodeC1 a p b q y z f i m s k A n c t v e D bl w hg hn hr hm
  · exact encodeC0 a p b q y z f i m s k A n c t v e D bl w hg hn hr hm
def nx (y n f : Nat) : Nat → Nat
  | 0 => (y + n) % 4294967296
  | 1 => (y + n + f / 2 % 2) % 4294967296
  | _ => (y + n + f / 2 % 2 + f % 2) % 4294967296
theorem nx_lt (y n f j : Nat) : nx y n f j < 4294967296 := by unfold nx; split <;> exact Nat.mod_lt _ (by decide)
set_option maxHeartbeats 2000000 in
set_option maxRecDepth 100000 in
theorem nextC (a p b q y z f i m : Nat) (s : Int) (k : Bool) (A : Option Addr) (n c : Nat) (t : Bool) (v e : Nat) (S : ByteArray) (w : World) (hy : y ≤ 4294967295) (hf : f ≤ 255) (hS : S.size ≤ 1048576) :
    Calls Try.prog 15 #[SA a p b q y z f i m s k A n c t v e S] w fun e_ w' => e_ = .returned (.int .u32 (((y + S.size + f / 2 % 2 + f % 2) % 4294967296 : Nat) : Int)) ∧ Up w w' := by
  have E0 := Lib.hid (show nx y S.size f 0 = (y + S.size) % 4294967296 from rfl)
  have E1 := Lib.hid (show nx y S.size f 1 = (nx y S.size f 0 + f / 2 % 2) % 4294967296 by show (y + S.size + f / 2 % 2) % 4294967296 = ((y + S.size) % 4294967296 + f / 2 % 2) % 4294967296; omega)
  have E2 := Lib.hid (show nx y S.size f 2 = (nx y S.size f 1 + f % 2) % 4294967296 by show (y + S.size + f / 2 % 2 + f % 2) % 4294967296 = ((y + S.size + f / 2 % 2) % 4294967296 + f % 2) % 4294967296; omega)
  have E3 := Lib.hid (show (y + S.size + f / 2 % 2 + f % 2) % 4294967296 = nx y S.size f 2 from rfl)
  have w0 : IntKind.u32.wrap (S.size : Int) = (S.size : Int) := by rw [IntKind.wrap_u32]; omega
  have w1 : IntKind.u32.wrap ((y : Int) + (S.size : Int)) = ((nx y S.size f 0 : Nat) : Int) := by rw [E0.out, IntKind.wrap_u32]; omega
  have w2 : ((y : Int) + (S.size : Int)) % 4294967296 = ((nx y S.size f 0 : Nat) : Int) := by rw [E0.out]; omega
  rw [E3.out]
  have L0 := nx_lt y S.size f 0; have L1 := nx_lt y S.size f 1; have L2 := nx_lt y S.size f 2
  obtain ⟨N, hN⟩ : ∃ N, N = nx y S.size f := ⟨_, rfl⟩
  rw [← hN] at E1 E2 L0 L1 L2 w1 w2 ⊢
  clear E0 E3 hN
  have q2 := f2 f hf
  have q1 := f1 f hf
  go_enter Try.func15, Try.ntmps15
  go_upto_region 1 with fail
  have hA := Box.new w #[.int .u32 a, .int .u16 p, .int .u32 b, .int .u16 q, .int .u32 y, .int .u32 z, .int .u8 f, .int .u16 i, .int .u16 m, .int .i64 s, .bool k, .slice A n c, .bool t, .int .u32 v, .int .u32 e, .string S] 30
  have hu : Up w (w.alloc (.cells #[.int .u32 a, .int .u16 p, .int .u32 b, .int .u16 q, .int .u32 y, .int .u32 z, .int .u8 f, .int .u16 i, .int .u16 m, .int .i64 s, .bool k, .slice A n c, .bool t, .int .u32 v, .int .u32 e, .string S] 30)) := up_al _ (Below.refl _ _)
  generalize (w.alloc (.cells #[.int .u32 a, .int .u16 p, .int .u32 b, .int .u16 q, .int .u32 y, .int .u32 z, .int .u8 f, .int .u16 i, .int .u16 m, .int .i64 s, .bool k, .slice A n c, .bool t, .int .u32 v, .int .u32 e, .string S] 30)) = w0 at hA hu ⊢
  generalize w.heap.size = n0 at hA ⊢
  obtain ⟨k0, k1, k2, k3, k4, k5, k6, k7, k8, k9, k10, k11, k12, k13, k14, k15⟩ := e16 hA
  go_upto_region 3 with fail
  have hL := Box.new w0 #[.int .u8 2, .int .u8 1] 5
  have hA1 := hA.alloc (.cells #[.int .u8 2, .int .u8 1] 5)
  have hu1 := up_al (.cells #[.int .u8 2, .int .u8 1] 5) hu
  generalize (w0.alloc (.cells #[.int .u8 2, .int .u8 1] 5)) = wL at hL hA1 hu1 ⊢
  generalize w0.heap.size = l0 at hL ⊢
  clear hA hu k0 k1 k2 k3 k4 k5 k6 k7 k8 k9 k10 k11 k12 k13 k14 k15
  obtain ⟨k0, k1, k2, k3, k4, k5, k6, k7, k8, k9, k10, k11, k12, k13, k14, k15⟩ := e16 hA1
  have j0 := hL.at 0 rfl
  have j1 := hL.at 1 rfl
  go_loopw [3, 15] (fun c i wr => ∃ j : Nat, j ≤ 2 ∧ i = .int .i64 j ∧ c = .int .u32 (N j : Nat) ∧ wr = wL) (fun _ i _ => 2 - (RowKit.intOf i).toNat)
  case atStart => exact ⟨0, by omega, rfl, rfl, rfl⟩
  case round =>
    obtain ⟨j, hj, rfl, rfl, rfl⟩ := hrel
    rcases (by omega : j = 0 ∨ j = 1 ∨ j = 2) with rfl | rfl | rfl
    · rcases (by omega : f / 2 % 2 = 0 ∨ f / 2 % 2 = 1) with h | h
      · have r : bits .and .u8 (f : Int) 2 = 0 := by rw [q2, h]; rfl
        have HC := Lib.hid (show N 1 = N 0 by rw [E1.out, h]; omega)
        clear q2 q1 h w1 w2
        go_wp2
        go_roundw
        case rel => exact ⟨1, by omega, by go_num, by rw [HC.out], by first | rfl | trivial⟩
        case measure => simp [RowKit.intOf]
      · have r : bits .and .u8 (f : Int) 2 = 2 := by rw [q2, h]; rfl
        have v1 : IntKind.u32.wrap (((N 0 : Nat) : Int) + 1) = ((N 1 : Nat) : Int) := by rw [E1.out, h, IntKind.wrap_u32]; omega
        have v2 : (((N 0 : Nat) : Int) + 1) % 4294967296 = ((N 1 : Nat) : Int) := by rw [E1.out, h]; omega
        clear q2 q1 h w1 w2
        go_wp2
        go_roundw
        case rel => exact ⟨1, by omega, by go_num, by go_num, by first | rfl | trivial⟩
        case measure => simp [RowKit.intOf]
    · rcases (by omega : f % 2 = 0 ∨ f % 2 = 1) with h | h
      · have r : bits .and .u8 (f : Int) 1 = 0 := by rw [q1, h]; rfl
        have HC := Lib.hid (show N 2 = N 1 by rw [E2.out, h]; omega)
        clear q2 q1 h w1 w2
        go_wp2
        go_roundw
        case rel => exact ⟨2, by omega, by go_num, by rw [HC.out], by first | rfl | trivial⟩
        case measure => simp [RowKit.intOf]
      · have r : bits .and .u8 (f : Int) 1 = 1 := by rw [q1, h]; rfl
        have v1 : IntKind.u32.wrap (((N 1 : Nat) : Int) + 1) = ((N 2 : Nat) : Int) := by rw [E2.out, h, IntKind.wrap_u32]; omega
        have v2 : (((N 1 : Nat) : Int) + 1) % 4294967296 = ((N 2 : Nat) : Int) := by rw [E2.out, h]; omega
        clear q2 q1 h w1 w2
        go_wp2
        go_roundw
        case rel => exact ⟨2, by omega, by go_num, by go_num, by first | rfl | trivial⟩
        case measure => simp [RowKit.intOf]
    · clear q2 q1 w1 w2
      go_wp2
      go_ret
      exact ⟨rfl, hu1⟩
end Go.Proofs.Ytafckmbgefbonaa.pk
