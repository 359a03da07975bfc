/- B: contracts, part 2. Condition: as each says. -/
import Derived.Test.YtafckmbgefbonaaKBA3
set_option linter.unusedVariables false
set_option linter.unusedSimpArgs false
namespace Go.Proofs.Ytafckmbgefbonaa.pk
open Go.RowKit Go.Shelf Go.Lib Go.Proofs.Ytafckmbgefbonaa.sm Go.Proofs.Ytafckmbgefbonaa.nb Go.Proofs.Ytafckmbgefbonaa.pm
set_option linter.unusedVariables false

set_option maxHeartbeats 8000000 in
set_option maxRecDepth 100000 in
theorem back10 (g : Sg) (A : Option Addr) (n c : Nat) (s : ByteArray) (a1 p1 b1 q1 y1 z1 v1 ec : Nat) (up dn : Int) (w : World) (hg : SegX w g A n) (hz : s.size ≤ maxLen) (hX : WfX ⟨a1, b1, p1, q1, y1, z1, v1, ec, up, dn⟩) (c0' : heavy g = false) (c1 : ¬ 4096 < s.size)
    (hm : MayS g) (he : errP (L s) ≠ 0) :
    Calls Try.prog 3 #[SGV g A n c, .string s, SHV a1 p1 b1 q1 y1 z1 v1 ec up dn] w fun e_ w' => e_ = .returned (.bool true) ∧ Up w w' := by
  have HG := Lib.hid hg
  have c2 : ¬ (4096 : Int) < (s.size : Int) := by omega
  have hh : g.dt.length ≤ 4096 ∧ g.op.bl.length ≤ 100 := by have := c0'; unfold heavy at this; simp at this; omega
  have gg := HG.out.good hh.1 hh.2
  have H1 := Lib.hid (fun w (h : SegV w (SGV g A n c) g) => encV w h gg)
  obtain ⟨t0_, ht0⟩ : ∃ t, tS ⟨a1, b1, p1, q1, y1, z1, v1, ec, up, dn⟩ g = t := ⟨_, rfl⟩
  have hED := enc_dec hm gg.1
  have HDP : Hid (∀ w, Calls Try.prog 9 #[.string (tx (encS g))] w fun e_ w' => ∃ x, e_ = .returned (.tuple #[x, .int .i64 ((0 : Nat) : Int)]) ∧ SegV w' x g ∧ Up w w') := fun w => by
    have hz : (tx (encS g)).size ≤ 1048576 := by rw [tx_size, enc_len]; have := raw40 hm; have := hm.2.2; omega
    have := decodeC (tx (encS g)) w hz
    rw [L_tx, decP_ok hED.1, hED.2, hED.1] at this
    exact this
  have HRP : Hid (∀ w, Calls Try.prog 10 #[.string (tx (encS g)), SHV a1 p1 b1 q1 y1 z1 v1 ec up dn] w fun e_ w' => e_ = .returned (.tuple #[.string (tx (encS t0_)), .int .i64 0]) ∧ Up w w') := fun w => by
    have hz : (tx (encS g)).size ≤ 1048576 := by rw [tx_size, enc_len]; have := raw40 hm; have := hm.2.2; omega
    have := rewriteC (tx (encS g)) a1 p1 b1 q1 y1 z1 v1 ec up dn w hz hX
    have e : RWV (L (tx (encS g))) ⟨a1, b1, p1, q1, y1, z1, v1, ec, up, dn⟩ = .tuple #[.string (tx (encS t0_)), .int .i64 0] := by
      unfold RWV; rw [L_tx, if_pos hED.1, rw_enc hm gg.1 hX, ht0]
    rw [e] at this
    exact this
  have HEQ : Hid (∀ w x, SegV w x t0_ → Calls Try.prog 8 #[x] w fun e_ w' => e_ = .returned (.tuple #[.string (tx (encS t0_)), .int .i64 0]) ∧ Up w w') := fun w x h => by
    have := encV w h (by rw [← ht0]; exact good_t hX gg)
    rw [EVP_ok (by rw [← ht0]; exact tS_may hm)] at this
    exact this
  have H3 := Lib.hid (fun w (h : SegV w (SGV g A n c) g) => turnedC a1 p1 b1 q1 y1 z1 v1 ec up dn w h gg hX)
  rw [ht0] at H3
  rw [EVP_ok hm] at H1
  clear hED ht0
  generalize tx (encS g) = SP at *
  generalize tx (encS t0_) = SQ at *
  have HR : Hid (∀ w, Calls Try.prog 10 #[.string s, SHV a1 p1 b1 q1 y1 z1 v1 ec up dn] w fun e_ w' => e_ = .returned (.tuple #[.string ByteArray.empty, .int .i64 (errP (L s) : Nat)]) ∧ Up w w') := fun w => by
    have := rewriteC s a1 p1 b1 q1 y1 z1 v1 ec up dn w (by omega) hX
    have e : RWV (L s) ⟨a1, b1, p1, q1, y1, z1, v1, ec, up, dn⟩ = .tuple #[.string ByteArray.empty, .int .i64 (errP (L s) : Nat)] := if_neg he
    rw [e] at this
    exact this
  have HD : Hid (∀ w, Calls Try.prog 9 #[.string s] w fun e_ w' => ∃ x, e_ = .returned (.tuple #[x, .int .i64 (errP (L s) : Nat)]) ∧ SegV w' x zeroS ∧ Up w w') := fun w => by
    have := decodeC s w (by omega)
    rw [decP_bad he] at this
    exact this
  generalize errP (L s) = E at *
  have hE : ¬ (E : Int) = 0 := by omega
  generalize zeroS = q at *
  clear hg hX hm he hh hz
  go_enter Try.func3, Try.ntmps3
  go_upto_region 1 with fail
  have hA_1 := (Box.new w #[.int .u32 g.sa, .int .u16 g.sp, .int .u32 g.da, .int .u16 g.dp, .int .u32 g.sq, .int .u32 g.ak, .int .u8 g.fl, .int .u16 g.wi, .int .u16 g.op.mss, .int .i64 g.op.sc, .bool g.op.sk, .slice A n c, .bool g.op.tm, .int .u32 g.op.va, .int .u32 g.op.ec, .string (tx g.dt)] 30).alloc (.cells #[.int .u32 a1, .int .u16 p1, .int .u32 b1, .int .u16 q1, .int .u32 y1, .int .u32 z1, .int .u32 v1, .int .u32 ec, .int .i64 up, .int .i64 dn] 32)
  have hX_2 := Box.new (w.alloc (.cells #[.int .u32 g.sa, .int .u16 g.sp, .int .u32 g.da, .int .u16 g.dp, .int .u32 g.sq, .int .u32 g.ak, .int .u8 g.fl, .int .u16 g.wi, .int .u16 g.op.mss, .int .i64 g.op.sc, .bool g.op.sk, .slice A n c, .bool g.op.tm, .int .u32 g.op.va, .int .u32 g.op.ec, .string (tx g.dt)] 30)) #[.int .u32 a1, .int .u16 p1, .int .u32 b1, .int .u16 q1, .int .u32 y1, .int .u32 z1, .int .u32 v1, .int .u32 ec, .int .i64 up, .int .i64 dn] 32
  rw [show (w.alloc (.cells #[.int .u32 g.sa, .int .u16 g.sp, .int .u32 g.da, .int .u16 g.dp, .int .u32 g.sq, .int .u32 g.ak, .int .u8 g.fl, .int .u16 g.wi, .int .u16 g.op.mss, .int .i64 g.op.sc, .bool g.op.sk, .slice A n c, .bool g.op.tm, .int .u32 g.op.va, .int .u32 g.op.ec, .string (tx g.dt)] 30)).heap.size = w.heap.size + 1 by simp] at hX_2
  have hv2 : Up w ((w.alloc (.cells #[.int .u32 g.sa, .int .u16 g.sp, .int .u32 g.da, .int .u16 g.dp, .int .u32 g.sq, .int .u32 g.ak, .int .u8 g.fl, .int .u16 g.wi, .int .u16 g.op.mss, .int .i64 g.op.sc, .bool g.op.sk, .slice A n c, .bool g.op.tm, .int .u32 g.op.va, .int .u32 g.op.ec, .string (tx g.dt)] 30)).alloc (.cells #[.int .u32 a1, .int .u16 p1, .int .u32 b1, .int .u16 q1, .int .u32 y1, .int .u32 z1, .int .u32 v1, .int .u32 ec, .int .i64 up, .int .i64 dn] 32)) := (up_al _ (up_al _ (Below.refl _ _)))
  generalize ((w.alloc (.cells #[.int .u32 g.sa, .int .u16 g.sp, .int .u32 g.da, .int .u16 g.dp, .int .u32 g.sq, .int .u32 g.ak, .int .u8 g.fl, .int .u16 g.wi, .int .u16 g.op.mss, .int .i64 g.op.sc, .bool g.op.sk, .slice A n c, .bool g.op.tm, .int .u32 g.op.va, .int .u32 g.op.ec, .string (tx g.dt)] 30)).alloc (.cells #[.int .u32 a1, .int .u16 p1, .int .u32 b1, .int .u16 q1, .int .u32 y1, .int .u32 z1, .int .u32 v1, .int .u32 ec, .int .i64 up, .int .i64 dn] 32)) = w2 at hA_1 hX_2 hv2 ⊢
  generalize w.heap.size = n0 at hA_1 hX_2 ⊢
  have hu2 := hv2
  clear hv2
  have k0 := hA_1.at 0 rfl; have k1 := hA_1.at 1 rfl; have k2 := hA_1.at 2 rfl; have k3 := hA_1.at 3 rfl; have k4 := hA_1.at 4 rfl; have k5 := hA_1.at 5 rfl; have k6 := hA_1.at 6 rfl; have k7 := hA_1.at 7 rfl; have k8 := hA_1.at 8 rfl; have k9 := hA_1.at 9 rfl; have k10 := hA_1.at 10 rfl; have k11 := hA_1.at 11 rfl; have k12 := hA_1.at 12 rfl; have k13 := hA_1.at 13 rfl; have k14 := hA_1.at 14 rfl; have k15 := hA_1.at 15 rfl; have l0 := hX_2.at 0 rfl; have l1 := hX_2.at 1 rfl; have l2 := hX_2.at 2 rfl; have l3 := hX_2.at 3 rfl; have l4 := hX_2.at 4 rfl; have l5 := hX_2.at 5 rfl; have l6 := hX_2.at 6 rfl; have l7 := hX_2.at 7 rfl; have l8 := hX_2.at 8 rfl; have l9 := hX_2.at 9 rfl
  as_aux_lemma =>
  go_wp2_with fail
  refine (heavyV w2 ((HG.out.up hu2).seg c)).mono ?_
  rintro e_ w3 ⟨rfl, hv3⟩
  (try generalize (Value.agg #[.int .u32 g.sa, .int .u16 g.sp, .int .u32 g.da, .int .u16 g.dp, .int .u32 g.sq, .int .u32 g.ak, .int .u8 g.fl, .int .u16 g.wi, .int .u16 g.op.mss, .int .i64 g.op.sc, .bool g.op.sk, .slice A n c, .bool g.op.tm, .int .u32 g.op.va, .int .u32 g.op.ec, .string (tx g.dt)]) = XV3_0)
  (try generalize (Value.agg #[.int .u32 a1, .int .u16 p1, .int .u32 b1, .int .u16 q1, .int .u32 y1, .int .u32 z1, .int .u32 v1, .int .u32 ec, .int .i64 up, .int .i64 dn]) = XV3_1)
  (try generalize (Value.agg #[.int .u32 g.sa, .int .u16 g.sp, .int .u32 g.da, .int .u16 g.dp, .int .u32 g.sq, .int .u32 g.ak, .int .u8 g.fl, .int .u16 g.wi, .int .u16 g.op.mss, .int .i64 g.op.sc, .bool g.op.sk, .slice A1 n1 c1, .bool g.op.tm, .int .u32 g.op.va, .int .u32 g.op.ec, .string (tx g.dt)]) = XV3_2)
  (try generalize (Value.agg #[.int .u32 q.sa, .int .u16 q.sp, .int .u32 q.da, .int .u16 q.dp, .int .u32 q.sq, .int .u32 q.ak, .int .u8 q.fl, .int .u16 q.wi, .int .u16 q.op.mss, .int .i64 q.op.sc, .bool q.op.sk, .slice A2 n2 c2, .bool q.op.tm, .int .u32 q.op.va, .int .u32 q.op.ec, .string (tx q.dt)]) = XV3_3)
  (try generalize (Value.agg #[.int .u32 t.sa, .int .u16 t.sp, .int .u32 t.da, .int .u16 t.dp, .int .u32 t.sq, .int .u32 t.ak, .int .u8 t.fl, .int .u16 t.wi, .int .u16 t.op.mss, .int .i64 t.op.sc, .bool t.op.sk, .slice A3 n3 c3, .bool t.op.tm, .int .u32 t.op.va, .int .u32 t.op.ec, .string (tx t.dt)]) = XV3_4)
  rw [c0']
  clear k0 k1 k2 k3 k4 k5 k6 k7 k8 k9 k10 k11 k12 k13 k14 k15 l0 l1 l2 l3 l4 l5 l6 l7 l8 l9
  have hu3 := hu2.on hv3
  have hA_3 := hA_1.up hv3
  have hX_3 := hX_2.up hv3
  clear hA_1 hX_2 hu2 hv3
  have k0 := hA_3.at 0 rfl; have k1 := hA_3.at 1 rfl; have k2 := hA_3.at 2 rfl; have k3 := hA_3.at 3 rfl; have k4 := hA_3.at 4 rfl; have k5 := hA_3.at 5 rfl; have k6 := hA_3.at 6 rfl; have k7 := hA_3.at 7 rfl; have k8 := hA_3.at 8 rfl; have k9 := hA_3.at 9 rfl; have k10 := hA_3.at 10 rfl; have k11 := hA_3.at 11 rfl; have k12 := hA_3.at 12 rfl; have k13 := hA_3.at 13 rfl; have k14 := hA_3.at 14 rfl; have k15 := hA_3.at 15 rfl
  as_aux_lemma =>
  go_wp2_with fail
  refine (H1.out w3 ((HG.out.up hu3).seg c)).mono ?_
  rintro e_ w4 ⟨rfl, hv4⟩
  (try generalize (Value.agg #[.int .u32 g.sa, .int .u16 g.sp, .int .u32 g.da, .int .u16 g.dp, .int .u32 g.sq, .int .u32 g.ak, .int .u8 g.fl, .int .u16 g.wi, .int .u16 g.op.mss, .int .i64 g.op.sc, .bool g.op.sk, .slice A n c, .bool g.op.tm, .int .u32 g.op.va, .int .u32 g.op.ec, .string (tx g.dt)]) = XV4_0)
  (try generalize (Value.agg #[.int .u32 a1, .int .u16 p1, .int .u32 b1, .int .u16 q1, .int .u32 y1, .int .u32 z1, .int .u32 v1, .int .u32 ec, .int .i64 up, .int .i64 dn]) = XV4_1)
  (try generalize (Value.agg #[.int .u32 g.sa, .int .u16 g.sp, .int .u32 g.da, .int .u16 g.dp, .int .u32 g.sq, .int .u32 g.ak, .int .u8 g.fl, .int .u16 g.wi, .int .u16 g.op.mss, .int .i64 g.op.sc, .bool g.op.sk, .slice A1 n1 c1, .bool g.op.tm, .int .u32 g.op.va, .int .u32 g.op.ec, .string (tx g.dt)]) = XV4_2)
  (try generalize (Value.agg #[.int .u32 q.sa, .int .u16 q.sp, .int .u32 q.da, .int .u16 q.dp, .int .u32 q.sq, .int .u32 q.ak, .int .u8 q.fl, .int .u16 q.wi, .int .u16 q.op.mss, .int .i64 q.op.sc, .bool q.op.sk, .slice A2 n2 c2, .bool q.op.tm, .int .u32 q.op.va, .int .u32 q.op.ec, .string (tx q.dt)]) = XV4_3)
  (try generalize (Value.agg #[.int .u32 t.sa, .int .u16 t.sp, .int .u32 t.da, .int .u16 t.dp, .int .u32 t.sq, .int .u32 t.ak, .int .u8 t.fl, .int .u16 t.wi, .int .u16 t.op.mss, .int .i64 t.op.sc, .bool t.op.sk, .slice A3 n3 c3, .bool t.op.tm, .int .u32 t.op.va, .int .u32 t.op.ec, .string (tx t.dt)]) = XV4_4)
  clear k0 k1 k2 k3 k4 k5 k6 k7 k8 k9 k10 k11 k12 k13 k14 k15
  have hu4 := hu3.on hv4
  have hA_4 := hA_3.up hv4
  have hX_4 := hX_3.up hv4
  clear hA_3 hX_3 hu3 hv4
  as_aux_lemma =>
  go_wp2_with fail
  refine (HDP.out w4).mono ?_
  rintro e_ w5 ⟨x1, rfl, ⟨A1, n1, c1, rfl, hl1, hr1⟩, hv5⟩
  (try generalize (Value.agg #[.int .u32 g.sa, .int .u16 g.sp, .int .u32 g.da, .int .u16 g.dp, .int .u32 g.sq, .int .u32 g.ak, .int .u8 g.fl, .int .u16 g.wi, .int .u16 g.op.mss, .int .i64 g.op.sc, .bool g.op.sk, .slice A n c, .bool g.op.tm, .int .u32 g.op.va, .int .u32 g.op.ec, .string (tx g.dt)]) = XV5_0)
  (try generalize (Value.agg #[.int .u32 a1, .int .u16 p1, .int .u32 b1, .int .u16 q1, .int .u32 y1, .int .u32 z1, .int .u32 v1, .int .u32 ec, .int .i64 up, .int .i64 dn]) = XV5_1)
  (try generalize (Value.agg #[.int .u32 g.sa, .int .u16 g.sp, .int .u32 g.da, .int .u16 g.dp, .int .u32 g.sq, .int .u32 g.ak, .int .u8 g.fl, .int .u16 g.wi, .int .u16 g.op.mss, .int .i64 g.op.sc, .bool g.op.sk, .slice A1 n1 c1, .bool g.op.tm, .int .u32 g.op.va, .int .u32 g.op.ec, .string (tx g.dt)]) = XV5_2)
  (try generalize (Value.agg #[.int .u32 q.sa, .int .u16 q.sp, .int .u32 q.da, .int .u16 q.dp, .int .u32 q.sq, .int .u32 q.ak, .int .u8 q.fl, .int .u16 q.wi, .int .u16 q.op.mss, .int .i64 q.op.sc, .bool q.op.sk, .slice A2 n2 c2, .bool q.op.tm, .int .u32 q.op.va, .int .u32 q.op.ec, .string (tx q.dt)]) = XV5_3)
  (try generalize (Value.agg #[.int .u32 t.sa, .int .u16 t.sp, .int .u32 t.da, .int .u16 t.dp, .int .u32 t.sq, .int .u32 t.ak, .int .u8 t.fl, .int .u16 t.wi, .int .u16 t.op.mss, .int .i64 t.op.sc, .bool t.op.sk, .slice A3 n3 c3, .bool t.op.tm, .int .u32 t.op.va, .int .u32 t.op.ec, .string (tx t.dt)]) = XV5_4)
  as_aux_lemma =>
  go_upto_region 6 with fail
  have hu5 := hu4.on hv5
  have hA_5 := hA_4.up hv5
  have hX_5 := hX_4.up hv5
  clear hA_4 hX_4 hu4 hv5
  have hT_6 := Box.new w5 #[.int .u32 g.sa, .int .u16 g.sp, .int .u32 g.da, .int .u16 g.dp, .int .u32 g.sq, .int .u32 g.ak, .int .u8 g.fl, .int .u16 g.wi, .int .u16 g.op.mss, .int .i64 g.op.sc, .bool g.op.sk, .slice A1 n1 c1, .bool g.op.tm, .int .u32 g.op.va, .int .u32 g.op.ec, .string (tx g.dt)] 30
  have hv6 : Up w5 (w5.alloc (.cells #[.int .u32 g.sa, .int .u16 g.sp, .int .u32 g.da, .int .u16 g.dp, .int .u32 g.sq, .int .u32 g.ak, .int .u8 g.fl, .int .u16 g.wi, .int .u16 g.op.mss, .int .i64 g.op.sc, .bool g.op.sk, .slice A1 n1 c1, .bool g.op.tm, .int .u32 g.op.va, .int .u32 g.op.ec, .string (tx g.dt)] 30)) := up_al _ (Below.refl _ _)
  generalize (w5.alloc (.cells #[.int .u32 g.sa, .int .u16 g.sp, .int .u32 g.da, .int .u16 g.dp, .int .u32 g.sq, .int .u32 g.ak, .int .u8 g.fl, .int .u16 g.wi, .int .u16 g.op.mss, .int .i64 g.op.sc, .bool g.op.sk, .slice A1 n1 c1, .bool g.op.tm, .int .u32 g.op.va, .int .u32 g.op.ec, .string (tx g.dt)] 30)) = w6 at hT_6 hv6 ⊢
  generalize w5.heap.size = bT at hT_6 ⊢
  have hu6 := hu5.on hv6
  have hA_6 := hA_5.up hv6
  have hX_6 := hX_5.up hv6
  have hr1_6 := hr1.up hv6
  clear hA_5 hX_5 hr1 hu5 hv6
  have k0 := hX_6.at 0 rfl; have k1 := hX_6.at 1 rfl; have k2 := hX_6.at 2 rfl; have k3 := hX_6.at 3 rfl; have k4 := hX_6.at 4 rfl; have k5 := hX_6.at 5 rfl; have k6 := hX_6.at 6 rfl; have k7 := hX_6.at 7 rfl; have k8 := hX_6.at 8 rfl; have k9 := hX_6.at 9 rfl
  as_aux_lemma =>
  go_wp2_with fail
  refine (HRP.out w6).mono ?_
  rintro e_ w7 ⟨rfl, hv7⟩
  (try generalize (Value.agg #[.int .u32 g.sa, .int .u16 g.sp, .int .u32 g.da, .int .u16 g.dp, .int .u32 g.sq, .int .u32 g.ak, .int .u8 g.fl, .int .u16 g.wi, .int .u16 g.op.mss, .int .i64 g.op.sc, .bool g.op.sk, .slice A n c, .bool g.op.tm, .int .u32 g.op.va, .int .u32 g.op.ec, .string (tx g.dt)]) = XV7_0)
  (try generalize (Value.agg #[.int .u32 a1, .int .u16 p1, .int .u32 b1, .int .u16 q1, .int .u32 y1, .int .u32 z1, .int .u32 v1, .int .u32 ec, .int .i64 up, .int .i64 dn]) = XV7_1)
  (try generalize (Value.agg #[.int .u32 g.sa, .int .u16 g.sp, .int .u32 g.da, .int .u16 g.dp, .int .u32 g.sq, .int .u32 g.ak, .int .u8 g.fl, .int .u16 g.wi, .int .u16 g.op.mss, .int .i64 g.op.sc, .bool g.op.sk, .slice A1 n1 c1, .bool g.op.tm, .int .u32 g.op.va, .int .u32 g.op.ec, .string (tx g.dt)]) = XV7_2)
  (try generalize (Value.agg #[.int .u32 q.sa, .int .u16 q.sp, .int .u32 q.da, .int .u16 q.dp, .int .u32 q.sq, .int .u32 q.ak, .int .u8 q.fl, .int .u16 q.wi, .int .u16 q.op.mss, .int .i64 q.op.sc, .bool q.op.sk, .slice A2 n2 c2, .bool q.op.tm, .int .u32 q.op.va, .int .u32 q.op.ec, .string (tx q.dt)]) = XV7_3)
  (try generalize (Value.agg #[.int .u32 t.sa, .int .u16 t.sp, .int .u32 t.da, .int .u16 t.dp, .int .u32 t.sq, .int .u32 t.ak, .int .u8 t.fl, .int .u16 t.wi, .int .u16 t.op.mss, .int .i64 t.op.sc, .bool t.op.sk, .slice A3 n3 c3, .bool t.op.tm, .int .u32 t.op.va, .int .u32 t.op.ec, .string (tx t.dt)]) = XV7_4)
  clear k0 k1 k2 k3 k4 k5 k6 k7 k8 k9
  have hu7 := hu6.on hv7
  have hA_7 := hA_6.up hv7
  have hX_7 := hX_6.up hv7
  have hT_7 := hT_6.up hv7
  have hr1_7 := hr1_6.up hv7
  clear hA_6 hX_6 hT_6 hr1_6 hu6 hv7
  have k0 := hA_7.at 0 rfl; have k1 := hA_7.at 1 rfl; have k2 := hA_7.at 2 rfl; have k3 := hA_7.at 3 rfl; have k4 := hA_7.at 4 rfl; have k5 := hA_7.at 5 rfl; have k6 := hA_7.at 6 rfl; have k7 := hA_7.at 7 rfl; have k8 := hA_7.at 8 rfl; have k9 := hA_7.at 9 rfl; have k10 := hA_7.at 10 rfl; have k11 := hA_7.at 11 rfl; have k12 := hA_7.at 12 rfl; have k13 := hA_7.at 13 rfl; have k14 := hA_7.at 14 rfl; have k15 := hA_7.at 15 rfl; have l0 := hX_7.at 0 rfl; have l1 := hX_7.at 1 rfl; have l2 := hX_7.at 2 rfl; have l3 := hX_7.at 3 rfl; have l4 := hX_7.at 4 rfl; have l5 := hX_7.at 5 rfl; have l6 := hX_7.at 6 rfl; have l7 := hX_7.at 7 rfl; have l8 := hX_7.at 8 rfl; have l9 := hX_7.at 9 rfl
  as_aux_lemma =>
  go_wp2_with fail
  refine (H3.out w7 ((HG.out.up hu7).seg c)).mono ?_
  rintro e_ w8 ⟨X1, rfl, hX1, hv8⟩
  (try generalize (Value.agg #[.int .u32 g.sa, .int .u16 g.sp, .int .u32 g.da, .int .u16 g.dp, .int .u32 g.sq, .int .u32 g.ak, .int .u8 g.fl, .int .u16 g.wi, .int .u16 g.op.mss, .int .i64 g.op.sc, .bool g.op.sk, .slice A n c, .bool g.op.tm, .int .u32 g.op.va, .int .u32 g.op.ec, .string (tx g.dt)]) = XV8_0)
  (try generalize (Value.agg #[.int .u32 a1, .int .u16 p1, .int .u32 b1, .int .u16 q1, .int .u32 y1, .int .u32 z1, .int .u32 v1, .int .u32 ec, .int .i64 up, .int .i64 dn]) = XV8_1)
  (try generalize (Value.agg #[.int .u32 g.sa, .int .u16 g.sp, .int .u32 g.da, .int .u16 g.dp, .int .u32 g.sq, .int .u32 g.ak, .int .u8 g.fl, .int .u16 g.wi, .int .u16 g.op.mss, .int .i64 g.op.sc, .bool g.op.sk, .slice A1 n1 c1, .bool g.op.tm, .int .u32 g.op.va, .int .u32 g.op.ec, .string (tx g.dt)]) = XV8_2)
  (try generalize (Value.agg #[.int .u32 q.sa, .int .u16 q.sp, .int .u32 q.da, .int .u16 q.dp, .int .u32 q.sq, .int .u32 q.ak, .int .u8 q.fl, .int .u16 q.wi, .int .u16 q.op.mss, .int .i64 q.op.sc, .bool q.op.sk, .slice A2 n2 c2, .bool q.op.tm, .int .u32 q.op.va, .int .u32 q.op.ec, .string (tx q.dt)]) = XV8_3)
  (try generalize (Value.agg #[.int .u32 t.sa, .int .u16 t.sp, .int .u32 t.da, .int .u16 t.dp, .int .u32 t.sq, .int .u32 t.ak, .int .u8 t.fl, .int .u16 t.wi, .int .u16 t.op.mss, .int .i64 t.op.sc, .bool t.op.sk, .slice A3 n3 c3, .bool t.op.tm, .int .u32 t.op.va, .int .u32 t.op.ec, .string (tx t.dt)]) = XV8_4)
  clear k0 k1 k2 k3 k4 k5 k6 k7 k8 k9 k10 k11 k12 k13 k14 k15 l0 l1 l2 l3 l4 l5 l6 l7 l8 l9
  have hu8 := hu7.on hv8
  have hA_8 := hA_7.up hv8
  have hX_8 := hX_7.up hv8
  have hT_8 := hT_7.up hv8
  have hr1_8 := hr1_7.up hv8
  clear hA_7 hX_7 hT_7 hr1_7 hu7 hv8
  as_aux_lemma =>
  go_wp2_with fail
  refine (HEQ.out w8 _ hX1).mono ?_
  rintro e_ w9 ⟨rfl, hv9⟩
  (try generalize (Value.agg #[.int .u32 g.sa, .int .u16 g.sp, .int .u32 g.da, .int .u16 g.dp, .int .u32 g.sq, .int .u32 g.ak, .int .u8 g.fl, .int .u16 g.wi, .int .u16 g.op.mss, .int .i64 g.op.sc, .bool g.op.sk, .slice A n c, .bool g.op.tm, .int .u32 g.op.va, .int .u32 g.op.ec, .string (tx g.dt)]) = XV9_0)
  (try generalize (Value.agg #[.int .u32 a1, .int .u16 p1, .int .u32 b1, .int .u16 q1, .int .u32 y1, .int .u32 z1, .int .u32 v1, .int .u32 ec, .int .i64 up, .int .i64 dn]) = XV9_1)
  (try generalize (Value.agg #[.int .u32 g.sa, .int .u16 g.sp, .int .u32 g.da, .int .u16 g.dp, .int .u32 g.sq, .int .u32 g.ak, .int .u8 g.fl, .int .u16 g.wi, .int .u16 g.op.mss, .int .i64 g.op.sc, .bool g.op.sk, .slice A1 n1 c1, .bool g.op.tm, .int .u32 g.op.va, .int .u32 g.op.ec, .string (tx g.dt)]) = XV9_2)
  (try generalize (Value.agg #[.int .u32 q.sa, .int .u16 q.sp, .int .u32 q.da, .int .u16 q.dp, .int .u32 q.sq, .int .u32 q.ak, .int .u8 q.fl, .int .u16 q.wi, .int .u16 q.op.mss, .int .i64 q.op.sc, .bool q.op.sk, .slice A2 n2 c2, .bool q.op.tm, .int .u32 q.op.va, .int .u32 q.op.ec, .string (tx q.dt)]) = XV9_3)
  (try generalize (Value.agg #[.int .u32 t.sa, .int .u16 t.sp, .int .u32 t.da, .int .u16 t.dp, .int .u32 t.sq, .int .u32 t.ak, .int .u8 t.fl, .int .u16 t.wi, .int .u16 t.op.mss, .int .i64 t.op.sc, .bool t.op.sk, .slice A3 n3 c3, .bool t.op.tm, .int .u32 t.op.va, .int .u32 t.op.ec, .string (tx t.dt)]) = XV9_4)
  clear hX1
  have hu9 := hu8.on hv9
  have hA_9 := hA_8.up hv9
  have hX_9 := hX_8.up hv9
  have hT_9 := hT_8.up hv9
  have hr1_9 := hr1_8.up hv9
  clear hA_8 hX_8 hT_8 hr1_8 hu8 hv9
  have k0 := hA_9.at 0 rfl; have k1 := hA_9.at 1 rfl; have k2 := hA_9.at 2 rfl; have k3 := hA_9.at 3 rfl; have k4 := hA_9.at 4 rfl; have k5 := hA_9.at 5 rfl; have k6 := hA_9.at 6 rfl; have k7 := hA_9.at 7 rfl; have k8 := hA_9.at 8 rfl; have k9 := hA_9.at 9 rfl; have k10 := hA_9.at 10 rfl; have k11 := hA_9.at 11 rfl; have k12 := hA_9.at 12 rfl; have k13 := hA_9.at 13 rfl; have k14 := hA_9.at 14 rfl; have k15 := hA_9.at 15 rfl; have l0 := hT_9.at 0 rfl; have l1 := hT_9.at 1 rfl; have l2 := hT_9.at 2 rfl; have l3 := hT_9.at 3 rfl; have l4 := hT_9.at 4 rfl; have l5 := hT_9.at 5 rfl; have l6 := hT_9.at 6 rfl; have l7 := hT_9.at 7 rfl; have l8 := hT_9.at 8 rfl; have l9 := hT_9.at 9 rfl; have l10 := hT_9.at 10 rfl; have l11 := hT_9.at 11 rfl; have l12 := hT_9.at 12 rfl; have l13 := hT_9.at 13 rfl; have l14 := hT_9.at 14 rfl; have l15 := hT_9.at 15 rfl
  as_aux_lemma =>
  go_wp2_with fail
  refine (sameC w9 ((HG.out.up hu9).seg c) ⟨A1, n1, c1, rfl, hl1, hr1_9⟩ gg gg).mono ?_
  rintro e_ w10 ⟨rfl, hv10⟩
  (try generalize (Value.agg #[.int .u32 g.sa, .int .u16 g.sp, .int .u32 g.da, .int .u16 g.dp, .int .u32 g.sq, .int .u32 g.ak, .int .u8 g.fl, .int .u16 g.wi, .int .u16 g.op.mss, .int .i64 g.op.sc, .bool g.op.sk, .slice A n c, .bool g.op.tm, .int .u32 g.op.va, .int .u32 g.op.ec, .string (tx g.dt)]) = XV10_0)
  (try generalize (Value.agg #[.int .u32 a1, .int .u16 p1, .int .u32 b1, .int .u16 q1, .int .u32 y1, .int .u32 z1, .int .u32 v1, .int .u32 ec, .int .i64 up, .int .i64 dn]) = XV10_1)
  (try generalize (Value.agg #[.int .u32 g.sa, .int .u16 g.sp, .int .u32 g.da, .int .u16 g.dp, .int .u32 g.sq, .int .u32 g.ak, .int .u8 g.fl, .int .u16 g.wi, .int .u16 g.op.mss, .int .i64 g.op.sc, .bool g.op.sk, .slice A1 n1 c1, .bool g.op.tm, .int .u32 g.op.va, .int .u32 g.op.ec, .string (tx g.dt)]) = XV10_2)
  (try generalize (Value.agg #[.int .u32 q.sa, .int .u16 q.sp, .int .u32 q.da, .int .u16 q.dp, .int .u32 q.sq, .int .u32 q.ak, .int .u8 q.fl, .int .u16 q.wi, .int .u16 q.op.mss, .int .i64 q.op.sc, .bool q.op.sk, .slice A2 n2 c2, .bool q.op.tm, .int .u32 q.op.va, .int .u32 q.op.ec, .string (tx q.dt)]) = XV10_3)
  (try generalize (Value.agg #[.int .u32 t.sa, .int .u16 t.sp, .int .u32 t.da, .int .u16 t.dp, .int .u32 t.sq, .int .u32 t.ak, .int .u8 t.fl, .int .u16 t.wi, .int .u16 t.op.mss, .int .i64 t.op.sc, .bool t.op.sk, .slice A3 n3 c3, .bool t.op.tm, .int .u32 t.op.va, .int .u32 t.op.ec, .string (tx t.dt)]) = XV10_4)
  rw [sameS_t rfl]
  clear k0 k1 k2 k3 k4 k5 k6 k7 k8 k9 k10 k11 k12 k13 k14 k15 l0 l1 l2 l3 l4 l5 l6 l7 l8 l9 l10 l11 l12 l13 l14 l15
  have hu10 := hu9.on hv10
  have hA_10 := hA_9.up hv10
  have hX_10 := hX_9.up hv10
  have hT_10 := hT_9.up hv10
  have hr1_10 := hr1_9.up hv10
  clear hA_9 hX_9 hT_9 hr1_9 hu9 hv10
  as_aux_lemma =>
    go_wp2_with fail
    refine (HD.out w10).mono ?_
    rintro e_ w11 ⟨x2, rfl, ⟨A2, n2, c2, rfl, hl2, hr2⟩, hv11⟩
    (try generalize (Value.agg #[.int .u32 g.sa, .int .u16 g.sp, .int .u32 g.da, .int .u16 g.dp, .int .u32 g.sq, .int .u32 g.ak, .int .u8 g.fl, .int .u16 g.wi, .int .u16 g.op.mss, .int .i64 g.op.sc, .bool g.op.sk, .slice A n c, .bool g.op.tm, .int .u32 g.op.va, .int .u32 g.op.ec, .string (tx g.dt)]) = XV11_0)
    (try generalize (Value.agg #[.int .u32 a1, .int .u16 p1, .int .u32 b1, .int .u16 q1, .int .u32 y1, .int .u32 z1, .int .u32 v1, .int .u32 ec, .int .i64 up, .int .i64 dn]) = XV11_1)
    (try generalize (Value.agg #[.int .u32 g.sa, .int .u16 g.sp, .int .u32 g.da, .int .u16 g.dp, .int .u32 g.sq, .int .u32 g.ak, .int .u8 g.fl, .int .u16 g.wi, .int .u16 g.op.mss, .int .i64 g.op.sc, .bool g.op.sk, .slice A1 n1 c1, .bool g.op.tm, .int .u32 g.op.va, .int .u32 g.op.ec, .string (tx g.dt)]) = XV11_2)
    (try generalize (Value.agg #[.int .u32 q.sa, .int .u16 q.sp, .int .u32 q.da, .int .u16 q.dp, .int .u32 q.sq, .int .u32 q.ak, .int .u8 q.fl, .int .u16 q.wi, .int .u16 q.op.mss, .int .i64 q.op.sc, .bool q.op.sk, .slice A2 n2 c2, .bool q.op.tm, .int .u32 q.op.va, .int .u32 q.op.ec, .string (tx q.dt)]) = XV11_3)
    (try generalize (Value.agg #[.int .u32 t.sa, .int .u16 t.sp, .int .u32 t.da, .int .u16 t.dp, .int .u32 t.sq, .int .u32 t.ak, .int .u8 t.fl, .int .u16 t.wi, .int .u16 t.op.mss, .int .i64 t.op.sc, .bool t.op.sk, .slice A3 n3 c3, .bool t.op.tm, .int .u32 t.op.va, .int .u32 t.op.ec, .string (tx t.dt)]) = XV11_4)
    as_aux_lemma =>
    go_upto_region 11 with fail
    have hu11 := hu10.on hv11
    have hA_11 := hA_10.up hv11
    have hX_11 := hX_10.up hv11
    clear hA_10 hX_10 hu10 hv11
    have hD_12 := Box.new w11 #[.int .u32 q.sa, .int .u16 q.sp, .int .u32 q.da, .int .u16 q.dp, .int .u32 q.sq, .int .u32 q.ak, .int .u8 q.fl, .int .u16 q.wi, .int .u16 q.op.mss, .int .i64 q.op.sc, .bool q.op.sk, .slice A2 n2 c2, .bool q.op.tm, .int .u32 q.op.va, .int .u32 q.op.ec, .string (tx q.dt)] 30
    have hv12 : Up w11 (w11.alloc (.cells #[.int .u32 q.sa, .int .u16 q.sp, .int .u32 q.da, .int .u16 q.dp, .int .u32 q.sq, .int .u32 q.ak, .int .u8 q.fl, .int .u16 q.wi, .int .u16 q.op.mss, .int .i64 q.op.sc, .bool q.op.sk, .slice A2 n2 c2, .bool q.op.tm, .int .u32 q.op.va, .int .u32 q.op.ec, .string (tx q.dt)] 30)) := up_al _ (Below.refl _ _)
    generalize (w11.alloc (.cells #[.int .u32 q.sa, .int .u16 q.sp, .int .u32 q.da, .int .u16 q.dp, .int .u32 q.sq, .int .u32 q.ak, .int .u8 q.fl, .int .u16 q.wi, .int .u16 q.op.mss, .int .i64 q.op.sc, .bool q.op.sk, .slice A2 n2 c2, .bool q.op.tm, .int .u32 q.op.va, .int .u32 q.op.ec, .string (tx q.dt)] 30)) = w12 at hD_12 hv12 ⊢
    generalize w11.heap.size = bD at hD_12 ⊢
    have hu12 := hu11.on hv12
    have hA_12 := hA_11.up hv12
    have hX_12 := hX_11.up hv12
    have hr2_12 := hr2.up hv12
    clear hA_11 hX_11 hr2 hu11 hv12
    have k0 := hX_12.at 0 rfl; have k1 := hX_12.at 1 rfl; have k2 := hX_12.at 2 rfl; have k3 := hX_12.at 3 rfl; have k4 := hX_12.at 4 rfl; have k5 := hX_12.at 5 rfl; have k6 := hX_12.at 6 rfl; have k7 := hX_12.at 7 rfl; have k8 := hX_12.at 8 rfl; have k9 := hX_12.at 9 rfl
    as_aux_lemma =>
    go_wp2_with fail
    refine (HR.out w12).mono ?_
    rintro e_ w13 ⟨rfl, hv13⟩
    (try generalize (Value.agg #[.int .u32 g.sa, .int .u16 g.sp, .int .u32 g.da, .int .u16 g.dp, .int .u32 g.sq, .int .u32 g.ak, .int .u8 g.fl, .int .u16 g.wi, .int .u16 g.op.mss, .int .i64 g.op.sc, .bool g.op.sk, .slice A n c, .bool g.op.tm, .int .u32 g.op.va, .int .u32 g.op.ec, .string (tx g.dt)]) = XV13_0)
    (try generalize (Value.agg #[.int .u32 a1, .int .u16 p1, .int .u32 b1, .int .u16 q1, .int .u32 y1, .int .u32 z1, .int .u32 v1, .int .u32 ec, .int .i64 up, .int .i64 dn]) = XV13_1)
    (try generalize (Value.agg #[.int .u32 g.sa, .int .u16 g.sp, .int .u32 g.da, .int .u16 g.dp, .int .u32 g.sq, .int .u32 g.ak, .int .u8 g.fl, .int .u16 g.wi, .int .u16 g.op.mss, .int .i64 g.op.sc, .bool g.op.sk, .slice A1 n1 c1, .bool g.op.tm, .int .u32 g.op.va, .int .u32 g.op.ec, .string (tx g.dt)]) = XV13_2)
    (try generalize (Value.agg #[.int .u32 q.sa, .int .u16 q.sp, .int .u32 q.da, .int .u16 q.dp, .int .u32 q.sq, .int .u32 q.ak, .int .u8 q.fl, .int .u16 q.wi, .int .u16 q.op.mss, .int .i64 q.op.sc, .bool q.op.sk, .slice A2 n2 c2, .bool q.op.tm, .int .u32 q.op.va, .int .u32 q.op.ec, .string (tx q.dt)]) = XV13_3)
    (try generalize (Value.agg #[.int .u32 t.sa, .int .u16 t.sp, .int .u32 t.da, .int .u16 t.dp, .int .u32 t.sq, .int .u32 t.ak, .int .u8 t.fl, .int .u16 t.wi, .int .u16 t.op.mss, .int .i64 t.op.sc, .bool t.op.sk, .slice A3 n3 c3, .bool t.op.tm, .int .u32 t.op.va, .int .u32 t.op.ec, .string (tx t.dt)]) = XV13_4)
    clear k0 k1 k2 k3 k4 k5 k6 k7 k8 k9
    have hu13 := hu12.on hv13
    have hA_13 := hA_12.up hv13
    have hX_13 := hX_12.up hv13
    have hD_13 := hD_12.up hv13
    have hr2_13 := hr2_12.up hv13
    clear hA_12 hX_12 hD_12 hr2_12 hu12 hv13
    as_aux_lemma =>
    go_wp2_with fail
    refine (aliveC w13).mono ?_
    rintro e_ w14 ⟨rfl, hv14⟩
    (try generalize (Value.agg #[.int .u32 g.sa, .int .u16 g.sp, .int .u32 g.da, .int .u16 g.dp, .int .u32 g.sq, .int .u32 g.ak, .int .u8 g.fl, .int .u16 g.wi, .int .u16 g.op.mss, .int .i64 g.op.sc, .bool g.op.sk, .slice A n c, .bool g.op.tm, .int .u32 g.op.va, .int .u32 g.op.ec, .string (tx g.dt)]) = XV14_0)
    (try generalize (Value.agg #[.int .u32 a1, .int .u16 p1, .int .u32 b1, .int .u16 q1, .int .u32 y1, .int .u32 z1, .int .u32 v1, .int .u32 ec, .int .i64 up, .int .i64 dn]) = XV14_1)
    (try generalize (Value.agg #[.int .u32 g.sa, .int .u16 g.sp, .int .u32 g.da, .int .u16 g.dp, .int .u32 g.sq, .int .u32 g.ak, .int .u8 g.fl, .int .u16 g.wi, .int .u16 g.op.mss, .int .i64 g.op.sc, .bool g.op.sk, .slice A1 n1 c1, .bool g.op.tm, .int .u32 g.op.va, .int .u32 g.op.ec, .string (tx g.dt)]) = XV14_2)
    (try generalize (Value.agg #[.int .u32 q.sa, .int .u16 q.sp, .int .u32 q.da, .int .u16 q.dp, .int .u32 q.sq, .int .u32 q.ak, .int .u8 q.fl, .int .u16 q.wi, .int .u16 q.op.mss, .int .i64 q.op.sc, .bool q.op.sk, .slice A2 n2 c2, .bool q.op.tm, .int .u32 q.op.va, .int .u32 q.op.ec, .string (tx q.dt)]) = XV14_3)
    (try generalize (Value.agg #[.int .u32 t.sa, .int .u16 t.sp, .int .u32 t.da, .int .u16 t.dp, .int .u32 t.sq, .int .u32 t.ak, .int .u8 t.fl, .int .u16 t.wi, .int .u16 t.op.mss, .int .i64 t.op.sc, .bool t.op.sk, .slice A3 n3 c3, .bool t.op.tm, .int .u32 t.op.va, .int .u32 t.op.ec, .string (tx t.dt)]) = XV14_4)
    have hu14 := hu13.on hv14
    have hA_14 := hA_13.up hv14
    have hX_14 := hX_13.up hv14
    have hD_14 := hD_13.up hv14
    have hr2_14 := hr2_13.up hv14
    clear hA_13 hX_13 hD_13 hr2_13 hu13 hv14
    go_wp2
    go_ret
    exact ⟨rfl, hu14⟩
end Go.Proofs.Ytafckmbgefbonaa.pk
