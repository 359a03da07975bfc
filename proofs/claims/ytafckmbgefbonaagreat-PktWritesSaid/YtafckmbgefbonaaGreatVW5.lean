/- W: contracts, part 5. Condition: as each says. -/
import Derived.Test.YtafckmbgefbonaaGreatVW2
import Derived.Test.YtafckmbgefbonaaGreatVW3
import Derived.Test.YtafckmbgefbonaaGreatVW4
import Derived.Test.YtafckmbgefbonaaGreatVTRW27
set_option linter.unusedVariables false
set_option linter.unusedSimpArgs false
set_option maxRecDepth 100000
set_option maxHeartbeats 8000000
namespace Go.Proofs.YtafckmbgefbonaaGreat.pk
open RowKit Shelf Lib sm nb pm

theorem refMay (a p b q y z f i m : Nat) (s : Int) (k : Bool) (A : Option Addr) (n c : Nat) (t : Bool) (v e : Nat) (D : List UInt8) (bl : List (Nat × Nat)) (w : World) (hg : GoodS ⟨a, b, p, q, y, z, f, i, ⟨m, s, k, bl, t, v, e⟩, D⟩) (hn : bl.length = n) (hr : op.RdB w A bl) :
  Calls Tryz.prog 11 #[SA a p b q y z f i m s k A n c t v e (tx D)] w fun e_ w' => e_ = .returned (.bool (maysb ⟨a, b, p, q, y, z, f, i, ⟨m, s, k, bl, t, v, e⟩, D⟩)) ∧ Up w w' := by
 have HM := Lib.hid (show maysb ⟨a, b, p, q, y, z, f, i, ⟨m, s, k, bl, t, v, e⟩, D⟩ = (flg f && op.mayb ⟨m, s, k, bl, t, v, e⟩ && decide ((tx D).size ≤ 1460)) by rw [tx_size]; rfl)
 have hf : f ≤ 255 := hg.1.2.2.2.2.2.2.1
 have HF : Hid (∀ w, Calls Tryz.prog 32 #[.int .u8 f] w fun e_ w' => e_ = .returned (.bool (flg f)) ∧ Up w w') := fun w => refFlags f w hf
 have HO : Hid (∀ w, op.RdB w A bl → Calls Tryz.prog 33 #[op.OA m s k A n c t v e] w fun e_ w' => e_ = .returned (.bool (op.mayb ⟨m, s, k, bl, t, v, e⟩)) ∧ Up w w') := fun w hr => op.refMay m s k t v e A n c bl w hg.1.2.2.2.2.2.2.2.2 hn hr
 generalize tx D = S at HM ⊢
 generalize maysb ⟨a, b, p, q, y, z, f, i, ⟨m, s, k, bl, t, v, e⟩, D⟩ = r at HM ⊢
 generalize flg f = x at HM HF
 generalize op.mayb ⟨m, s, k, bl, t, v, e⟩ = x2 at HM HO
 have HR := Lib.hid hr
 clear hg hr
 go_enter Tryz.func11, Tryz.ntmps11
 go_upto_region 1 with fail
 have hA := Box.new w #[.int .u32 a, .int .u16 p, .int .u32 b, .int .u16 q, .int .u32 y, .int .u32 z, .int .u8 f, .int .u16 i, .int .u16 m, .int .i64 s, .bool k, .slice A n c, .bool t, .int .u32 v, .int .u32 e, .string S] 30
 have hu : Up w (w.alloc (.cells #[.int .u32 a, .int .u16 p, .int .u32 b, .int .u16 q, .int .u32 y, .int .u32 z, .int .u8 f, .int .u16 i, .int .u16 m, .int .i64 s, .bool k, .slice A n c, .bool t, .int .u32 v, .int .u32 e, .string S] 30)) := up_al _ bR
 generalize World.alloc w _ = w0 at hA hu ⊢
 generalize w.heap.size = n0 at hA ⊢
 cases x with
 | false =>
  obtain ⟨k0, k1, k2, k3, k4, k5, k6, k7, k8, k9, k10, k11, k12, k13, k14, k15⟩ := e16 hA
  go_wp2_with fail
  refine (HF.out w0).mono ?_
  rintro e_ w1 ⟨rfl, hv⟩
  clear k0 k1 k2 k3 k4 k5 k6 k7 k8 k9 k10 k11 k12 k13 k14 k15
  obtain ⟨k0, k1, k2, k3, k4, k5, k6, k7, k8, k9, k10, k11, k12, k13, k14, k15⟩ := e16 (hA.up hv)
  go_wp2
  go_ret
  exact ⟨ret_bool (by rw [HM.out]; rfl), hu.on hv⟩
 | true =>
  have h0 := HR.out.up hu
  obtain ⟨k0, k1, k2, k3, k4, k5, k6, k7, k8, k9, k10, k11, k12, k13, k14, k15⟩ := e16 hA
  go_wp2_with fail
  refine (HF.out w0).mono ?_
  rintro e_ w1 ⟨rfl, hv⟩
  clear k0 k1 k2 k3 k4 k5 k6 k7 k8 k9 k10 k11 k12 k13 k14 k15
  have hA1 := hA.up hv
  have h1 := h0.up hv
  have hu1 := hu.on hv
  clear hA h0 hu hv
  obtain ⟨k0, k1, k2, k3, k4, k5, k6, k7, k8, k9, k10, k11, k12, k13, k14, k15⟩ := e16 hA1
  go_wp2_with fail
  refine (HO.out w1 h1).mono ?_
  rintro e_ w2 ⟨rfl, hv⟩
  clear k0 k1 k2 k3 k4 k5 k6 k7 k8 k9 k10 k11 k12 k13 k14 k15
  have hA2 := hA1.up hv
  have hu2 := hu1.on hv
  clear hA1 h1 hu1 hv
  obtain ⟨k0, k1, k2, k3, k4, k5, k6, k7, k8, k9, k10, k11, k12, k13, k14, k15⟩ := e16 hA2
  cases x2 with
  | false =>
   go_wp2
   go_ret
   exact ⟨ret_bool (by rw [HM.out]; rfl), hu2⟩
  | true =>
   by_cases c0 : S.size ≤ 1460
   ·have c1 : (S.size : Int) ≤ 1460 := by omega
    have HC := Lib.hid (decide_eq_true c0)
    clear c0
    go_wp2
    go_ret
    exact ⟨ret_bool (by rw [HM.out, HC.out]; rfl), hu2⟩
   ·have c1 : ¬ (S.size : Int) ≤ 1460 := by omega
    have HC := Lib.hid (decide_eq_false c0)
    clear c0
    go_wp2
    go_ret
    exact ⟨ret_bool ((decide_eq_false (by omega)).trans (by rw [HM.out, HC.out]; rfl)), hu2⟩
theorem refEncode0 (a p b q y z f i m : Nat) (s : Int) (k : Bool) (A : Option Addr) (n c : Nat) (t : Bool) (v e : Nat) (D : List UInt8) (bl : List (Nat × Nat)) (w : World) (hg : GoodS ⟨a, b, p, q, y, z, f, i, ⟨m, s, k, bl, t, v, e⟩, D⟩) (hn : bl.length = n) (hr : op.RdB w A bl) (hm : ¬ MayS ⟨a, b, p, q, y, z, f, i, ⟨m, s, k, bl, t, v, e⟩, D⟩) :
  Calls Tryz.prog 9 #[SA a p b q y z f i m s k A n c t v e (tx D)] w fun e_ w' => e_ = .returned (EVP ⟨a, b, p, q, y, z, f, i, ⟨m, s, k, bl, t, v, e⟩, D⟩) ∧ Up w w' := by
 have HE := Lib.hid (EVP_no hm)
 have HR := Lib.hid hr
 have HY : Hid (∀ w, op.RdB w A bl → Calls Tryz.prog 11 #[SA a p b q y z f i m s k A n c t v e (tx D)] w fun e_ w' => e_ = .returned (.bool (maysb ⟨a, b, p, q, y, z, f, i, ⟨m, s, k, bl, t, v, e⟩, D⟩)) ∧ Up w w') := fun w hr => refMay a p b q y z f i m s k A n c t v e D bl w hg hn hr
 rw [maysb_f hm] at HY
 generalize EVP ⟨a, b, p, q, y, z, f, i, ⟨m, s, k, bl, t, v, e⟩, D⟩ = r at HE ⊢
 clear hg hr hm
 generalize tx D = S at HY ⊢
 go_enter Tryz.func9, Tryz.ntmps9
 go_upto_region 1 with fail
 have hA := Box.new w #[.int .u32 a, .int .u16 p, .int .u32 b, .int .u16 q, .int .u32 y, .int .u32 z, .int .u8 f, .int .u16 i, .int .u16 m, .int .i64 s, .bool k, .slice A n c, .bool t, .int .u32 v, .int .u32 e, .string S] 30
 have hu : Up w (w.alloc (.cells #[.int .u32 a, .int .u16 p, .int .u32 b, .int .u16 q, .int .u32 y, .int .u32 z, .int .u8 f, .int .u16 i, .int .u16 m, .int .i64 s, .bool k, .slice A n c, .bool t, .int .u32 v, .int .u32 e, .string S] 30)) := up_al _ bR
 generalize World.alloc w _ = w0 at hA hu ⊢
 generalize w.heap.size = n0 at hA ⊢
 have h0 := HR.out.up hu
 obtain ⟨k0, k1, k2, k3, k4, k5, k6, k7, k8, k9, k10, k11, k12, k13, k14, k15⟩ := e16 hA
 go_wp2_with fail
 refine (HY.out w0 h0).mono ?_
 rintro e_ w1 ⟨rfl, hv⟩
 have hA1 := hA.up hv
 have h1 := h0.up hv
 have hu1 := hu.on hv
 clear hA h0 hu hv HY
 clear k0 k1 k2 k3 k4 k5 k6 k7 k8 k9 k10 k11 k12 k13 k14 k15
 go_wp2
 go_ret2
 exact ⟨by rw [HE.out]; rfl, hu1⟩
theorem refEncode1 (a p b q y z f i m : Nat) (s : Int) (k : Bool) (A : Option Addr) (n c : Nat) (t : Bool) (v e : Nat) (D : List UInt8) (bl : List (Nat × Nat)) (w : World) (hg : GoodS ⟨a, b, p, q, y, z, f, i, ⟨m, s, k, bl, t, v, e⟩, D⟩) (hn : bl.length = n) (hr : op.RdB w A bl) (hm : MayS ⟨a, b, p, q, y, z, f, i, ⟨m, s, k, bl, t, v, e⟩, D⟩) :
  Calls Tryz.prog 9 #[SA a p b q y z f i m s k A n c t v e (tx D)] w fun e_ w' => e_ = .returned (EVP ⟨a, b, p, q, y, z, f, i, ⟨m, s, k, bl, t, v, e⟩, D⟩) ∧ Up w w' := by
 have HE := Lib.hid (EVP_ok hm)
 have HR := Lib.hid hr
 have HY : Hid (∀ w, op.RdB w A bl → Calls Tryz.prog 11 #[SA a p b q y z f i m s k A n c t v e (tx D)] w fun e_ w' => e_ = .returned (.bool (maysb ⟨a, b, p, q, y, z, f, i, ⟨m, s, k, bl, t, v, e⟩, D⟩)) ∧ Up w w') := fun w hr => refMay a p b q y z f i m s k A n c t v e D bl w hg hn hr
 rw [maysb_t hm] at HY
 obtain ⟨s1, s2, s3, z1, z2, z3⟩ := enc_steps hm hg.1
 have hok := ok_cm hg.1
 have hoi := ok_im hg.1
 have hwo := hg.1
 dsimp only at s1 s2 s3 z1 z2 z3 hok hoi
 have HO : Hid (∀ w, op.RdB w A bl → Calls Tryz.prog 27 #[op.OA m s k A n c t v e] w fun e_ w' => e_ = .returned (op.EVo ⟨m, s, k, bl, t, v, e⟩) ∧ Up w w') := fun w hr => op.refEncode m s k t v e A n c bl w hg.1.2.2.2.2.2.2.2.2 hn hr
 have HT : Hid (∀ w R S, R.size ≤ 40 → S.size ≤ 1460 → Calls Tryz.prog 28 #[.int .u32 a, .int .u32 b, tc.HV p q y z f i (0 : Nat) R, .string S] w fun e_ w' => e_ = .returned (tc.EV a b p q y z f i 0 R S) ∧ Up w w') := fun w R S h1 h2 => tc.refEncode a b p q y z f i 0 R S w hwo.1 hwo.2.1 hok (by omega) (by omega)
 have HT2 := Lib.hid (fun w => HT.out w (tx (om.raw ⟨m, s, k, bl, t, v, e⟩)) (tx D) z1 z2)
 have HI : Hid (∀ w X, X.size ≤ 1520 → Calls Tryz.prog 29 #[ip.HV a b (6 : Nat) (64 : Nat) (0 : Nat) (0 : Nat) true, .string X] w fun e_ w' => e_ = .returned (ip.EV a b 6 64 0 0 true X) ∧ Up w w') := fun w X h => ip.refEncode a b 6 64 0 0 true X w hoi (by omega)
 have HI2 := Lib.hid (fun w => HI.out w (tx (inner ⟨a, b, p, q, y, z, f, i, ⟨m, s, k, bl, t, v, e⟩, D⟩)) z3)
 rw [s1] at HO
 rw [s2] at HT2
 rw [s3] at HI2
 generalize EVP ⟨a, b, p, q, y, z, f, i, ⟨m, s, k, bl, t, v, e⟩, D⟩ = r at HE ⊢
 clear hg hr hm s1 s2 s3 HT HI hok hoi hwo z1 z2 z3
 generalize tx (encS ⟨a, b, p, q, y, z, f, i, ⟨m, s, k, bl, t, v, e⟩, D⟩) = E at HE HI2
 generalize tx (inner ⟨a, b, p, q, y, z, f, i, ⟨m, s, k, bl, t, v, e⟩, D⟩) = X at HT2 HI2
 generalize tx (om.raw ⟨m, s, k, bl, t, v, e⟩) = R at HO HT2
 generalize tx D = S at HY HT2 ⊢
 go_enter Tryz.func9, Tryz.ntmps9
 go_upto_region 1 with fail
 have hA := Box.new w #[.int .u32 a, .int .u16 p, .int .u32 b, .int .u16 q, .int .u32 y, .int .u32 z, .int .u8 f, .int .u16 i, .int .u16 m, .int .i64 s, .bool k, .slice A n c, .bool t, .int .u32 v, .int .u32 e, .string S] 30
 have hu : Up w (w.alloc (.cells #[.int .u32 a, .int .u16 p, .int .u32 b, .int .u16 q, .int .u32 y, .int .u32 z, .int .u8 f, .int .u16 i, .int .u16 m, .int .i64 s, .bool k, .slice A n c, .bool t, .int .u32 v, .int .u32 e, .string S] 30)) := up_al _ bR
 generalize World.alloc w _ = w0 at hA hu ⊢
 generalize w.heap.size = n0 at hA ⊢
 have h0 := HR.out.up hu
 obtain ⟨k0, k1, k2, k3, k4, k5, k6, k7, k8, k9, k10, k11, k12, k13, k14, k15⟩ := e16 hA
 go_wp2_with fail
 refine (HY.out w0 h0).mono ?_
 rintro e_ w1 ⟨rfl, hv⟩
 have hA1 := hA.up hv
 have h1 := h0.up hv
 have hu1 := hu.on hv
 clear hA h0 hu hv HY
 clear k0 k1 k2 k3 k4 k5 k6 k7 k8 k9 k10 k11 k12 k13 k14 k15
 obtain ⟨k0, k1, k2, k3, k4, k5, k6, k7, k8, k9, k10, k11, k12, k13, k14, k15⟩ := e16 hA1
 go_wp2_with fail
 refine (HO.out w1 h1).mono ?_
 rintro e_ w2 ⟨rfl, hv⟩
 have hA2 := hA1.up hv
 have hu2 := hu1.on hv
 clear hA1 h1 hu1 hv k0 k1 k2 k3 k4 k5 k6 k7 k8 k9 k10 k11 k12 k13 k14 k15
 obtain ⟨k0, k1, k2, k3, k4, k5, k6, k7, k8, k9, k10, k11, k12, k13, k14, k15⟩ := e16 hA2
 go_wp2_with fail
 refine (HT2.out w2).mono ?_
 rintro e_ w4 ⟨rfl, hv⟩
 have hA4 := hA2.up hv
 have hu4 := hu2.on hv
 clear hA2 hu2 hv k0 k1 k2 k3 k4 k5 k6 k7 k8 k9 k10 k11 k12 k13 k14 k15
 obtain ⟨k0, k1, k2, k3, k4, k5, k6, k7, k8, k9, k10, k11, k12, k13, k14, k15⟩ := e16 hA4
 go_wp2_with fail
 refine (HI2.out w4).mono ?_
 rintro e_ w5 ⟨rfl, hv⟩
 have hu5 := hu4.on hv
 go_wp2
 go_ret2
 exact ⟨by rw [HE.out]; rfl, hu5⟩
theorem refEncode (a p b q y z f i m : Nat) (s : Int) (k : Bool) (A : Option Addr) (n c : Nat) (t : Bool) (v e : Nat) (D : List UInt8) (bl : List (Nat × Nat)) (w : World) (hg : GoodS ⟨a, b, p, q, y, z, f, i, ⟨m, s, k, bl, t, v, e⟩, D⟩) (hn : bl.length = n) (hr : op.RdB w A bl) :
  Calls Tryz.prog 9 #[SA a p b q y z f i m s k A n c t v e (tx D)] w fun e_ w' => e_ = .returned (EVP ⟨a, b, p, q, y, z, f, i, ⟨m, s, k, bl, t, v, e⟩, D⟩) ∧ Up w w' := by
 by_cases hm : MayS ⟨a, b, p, q, y, z, f, i, ⟨m, s, k, bl, t, v, e⟩, D⟩
 ·exact refEncode1 a p b q y z f i m s k A n c t v e D bl w hg hn hr hm
 ·exact refEncode0 a p b q y z f i m s k A n c t v e D bl w hg hn hr hm
end Go.Proofs.YtafckmbgefbonaaGreat.pk
