/- B: contracts, part 1. Condition: as each says. -/
import Derived.Test.YtafckmbgefbonaaKBA3
set_option linter.unusedVariables false
set_option linter.unusedSimpArgs false
namespace Go.Proofs.Ytafckmbgefbonaa.pk
open Go.RowKit Go.Shelf Go.Lib Go.Proofs.Ytafckmbgefbonaa.sm Go.Proofs.Ytafckmbgefbonaa.nb Go.Proofs.Ytafckmbgefbonaa.pm
set_option linter.unusedVariables false

set_option maxHeartbeats 8000000 in
set_option maxRecDepth 100000 in
theorem back01 (g : Sg) (A : Option Addr) (n c : Nat) (s : ByteArray) (a1 p1 b1 q1 y1 z1 v1 ec : Nat) (up dn : Int) (w : World) (hg : SegX w g A n) (hz : s.size ≤ maxLen) (hX : WfX ⟨a1, b1, p1, q1, y1, z1, v1, ec, up, dn⟩) (c0' : heavy g = false) (c1 : ¬ 4096 < s.size)
    (hm : ¬ MayS g) (he : errP (L s) = 0) :
    Calls Try.prog 3 #[SGV g A n c, .string s, SHV a1 p1 b1 q1 y1 z1 v1 ec up dn] w fun e_ w' => e_ = .returned (.bool true) ∧ Up w w' := by
  have HG := Lib.hid hg
  have c2 : ¬ (4096 : Int) < (s.size : Int) := by omega
  have hh : g.dt.length ≤ 4096 ∧ g.op.bl.length ≤ 100 := by have := c0'; unfold heavy at this; simp at this; omega
  have gg := HG.out.good hh.1 hh.2
  have H1 := Lib.hid (fun w (h : SegV w (SGV g A n c) g) => encV w h gg)
  obtain ⟨t0_, ht0⟩ : ∃ t, tS ⟨a1, b1, p1, q1, y1, z1, v1, ec, up, dn⟩ g = t := ⟨_, rfl⟩
  rw [EVP_no hm] at H1
  have hTU := turned hX he
  have hq0 : GoodS (valP (L s)) := by have := good_dec (L s) (by rw [L_len]; omega); rwa [decP_ok he] at this
  have HR : Hid (∀ w, Calls Try.prog 10 #[.string s, SHV a1 p1 b1 q1 y1 z1 v1 ec up dn] w fun e_ w' => e_ = .returned (.tuple #[.string (tx (rwP ⟨a1, b1, p1, q1, y1, z1, v1, ec, up, dn⟩ (L s))), .int .i64 0]) ∧ Up w w') := fun w => by
    have := rewriteC s a1 p1 b1 q1 y1 z1 v1 ec up dn w (by omega) hX
    have e : RWV (L s) ⟨a1, b1, p1, q1, y1, z1, v1, ec, up, dn⟩ = .tuple #[.string (tx (rwP ⟨a1, b1, p1, q1, y1, z1, v1, ec, up, dn⟩ (L s))), .int .i64 0] := if_pos he
    rw [e] at this
    exact this
  have HD : Hid (∀ w, Calls Try.prog 9 #[.string s] w fun e_ w' => ∃ x, e_ = .returned (.tuple #[x, .int .i64 ((0 : Nat) : Int)]) ∧ SegV w' x (valP (L s)) ∧ Up w w') := fun w => by
    have := decodeC s w (by omega)
    rw [decP_ok he, he] at this
    exact this
  have hRz : (tx (rwP ⟨a1, b1, p1, q1, y1, z1, v1, ec, up, dn⟩ (L s))).size = s.size := by rw [tx_size, hTU.2.2, L_len]
  have HDR : Hid (∀ w, Calls Try.prog 9 #[.string (tx (rwP ⟨a1, b1, p1, q1, y1, z1, v1, ec, up, dn⟩ (L s)))] w fun e_ w' => ∃ x, e_ = .returned (.tuple #[x, .int .i64 ((0 : Nat) : Int)]) ∧ SegV w' x (tS ⟨a1, b1, p1, q1, y1, z1, v1, ec, up, dn⟩ (valP (L s))) ∧ Up w w') := fun w => by
    have := decodeC (tx (rwP ⟨a1, b1, p1, q1, y1, z1, v1, ec, up, dn⟩ (L s))) w (by rw [hRz]; omega)
    rw [L_tx, decP_ok hTU.1, hTU.2.1, hTU.1] at this
    exact this
  have H4 := Lib.hid (fun w x (h : SegV w x (valP (L s))) => turnedC a1 p1 b1 q1 y1 z1 v1 ec up dn w h hq0 hX)
  have gt := good_t hX hq0
  generalize tS ⟨a1, b1, p1, q1, y1, z1, v1, ec, up, dn⟩ (valP (L s)) = t at *
  generalize valP (L s) = q at *
  generalize tx (rwP ⟨a1, b1, p1, q1, y1, z1, v1, ec, up, dn⟩ (L s)) = R2 at *
  obtain ⟨M, hM⟩ : ∃ M, M = s.size := ⟨_, rfl⟩
  rw [← hM] at hRz
  have hMs := hM.symm
  clear hM
  clear hg hX hm he hh hz
  go_enter Try.func3, Try.ntmps3
  go_upto_region 1 with fail
  have hA_1 := (Box.new w #[.int .u32 g.sa, .int .u16 g.sp, .int .u32 g.da, .int .u16 g.dp, .int .u32 g.sq, .int .u32 g.ak, .int .u8 g.fl, .int .u16 g.wi, .int .u16 g.op.mss, .int .i64 g.op.sc, .bool g.op.sk, .slice A n c, .bool g.op.tm, .int .u32 g.op.va, .int .u32 g.op.ec, .string (tx g.dt)] 30).alloc (.cells #[.int .u32 a1, .int .u16 p1, .int .u32 b1, .int .u16 q1, .int .u32 y1, .int .u32 z1, .int .u32 v1, .int .u32 ec, .int .i64 up, .int .i64 dn] 32)
  have hX_2 := Box.new (w.alloc (.cells #[.int .u32 g.sa, .int .u16 g.sp, .int .u32 g.da, .int .u16 g.dp, .int .u32 g.sq, .int .u32 g.ak, .int .u8 g.fl, .int .u16 g.wi, .int .u16 g.op.mss, .int .i64 g.op.sc, .bool g.op.sk, .slice A n c, .bool g.op.tm, .int .u32 g.op.va, .int .u32 g.op.ec, .string (tx g.dt)] 30)) #[.int .u32 a1, .int .u16 p1, .int .u32 b1, .int .u16 q1, .int .u32 y1, .int .u32 z1, .int .u32 v1, .int .u32 ec, .int .i64 up, .int .i64 dn] 32
  rw [show (w.alloc (.cells #[.int .u32 g.sa, .int .u16 g.sp, .int .u32 g.da, .int .u16 g.dp, .int .u32 g.sq, .int .u32 g.ak, .int .u8 g.fl, .int .u16 g.wi, .int .u16 g.op.mss, .int .i64 g.op.sc, .bool g.op.sk, .slice A n c, .bool g.op.tm, .int .u32 g.op.va, .int .u32 g.op.ec, .string (tx g.dt)] 30)).heap.size = w.heap.size + 1 by simp] at hX_2
  have hv2 : Up w ((w.alloc (.cells #[.int .u32 g.sa, .int .u16 g.sp, .int .u32 g.da, .int .u16 g.dp, .int .u32 g.sq, .int .u32 g.ak, .int .u8 g.fl, .int .u16 g.wi, .int .u16 g.op.mss, .int .i64 g.op.sc, .bool g.op.sk, .slice A n c, .bool g.op.tm, .int .u32 g.op.va, .int .u32 g.op.ec, .string (tx g.dt)] 30)).alloc (.cells #[.int .u32 a1, .int .u16 p1, .int .u32 b1, .int .u16 q1, .int .u32 y1, .int .u32 z1, .int .u32 v1, .int .u32 ec, .int .i64 up, .int .i64 dn] 32)) := (up_al _ (up_al _ (Below.refl _ _)))
  generalize ((w.alloc (.cells #[.int .u32 g.sa, .int .u16 g.sp, .int .u32 g.da, .int .u16 g.dp, .int .u32 g.sq, .int .u32 g.ak, .int .u8 g.fl, .int .u16 g.wi, .int .u16 g.op.mss, .int .i64 g.op.sc, .bool g.op.sk, .slice A n c, .bool g.op.tm, .int .u32 g.op.va, .int .u32 g.op.ec, .string (tx g.dt)] 30)).alloc (.cells #[.int .u32 a1, .int .u16 p1, .int .u32 b1, .int .u16 q1, .int .u32 y1, .int .u32 z1, .int .u32 v1, .int .u32 ec, .int .i64 up, .int .i64 dn] 32)) = w2 at hA_1 hX_2 hv2 ⊢
  generalize w.heap.size = n0 at hA_1 hX_2 ⊢
  have hu2 := hv2
  clear hv2
  have k0 := hA_1.at 0 rfl; have k1 := hA_1.at 1 rfl; have k2 := hA_1.at 2 rfl; have k3 := hA_1.at 3 rfl; have k4 := hA_1.at 4 rfl; have k5 := hA_1.at 5 rfl; have k6 := hA_1.at 6 rfl; have k7 := hA_1.at 7 rfl; have k8 := hA_1.at 8 rfl; have k9 := hA_1.at 9 rfl; have k10 := hA_1.at 10 rfl; have k11 := hA_1.at 11 rfl; have k12 := hA_1.at 12 rfl; have k13 := hA_1.at 13 rfl; have k14 := hA_1.at 14 rfl; have k15 := hA_1.at 15 rfl; have l0 := hX_2.at 0 rfl; have l1 := hX_2.at 1 rfl; have l2 := hX_2.at 2 rfl; have l3 := hX_2.at 3 rfl; have l4 := hX_2.at 4 rfl; have l5 := hX_2.at 5 rfl; have l6 := hX_2.at 6 rfl; have l7 := hX_2.at 7 rfl; have l8 := hX_2.at 8 rfl; have l9 := hX_2.at 9 rfl
  go_wp2_with fail
  refine (heavyV w2 ((HG.out.up hu2).seg c)).mono ?_
  rintro e_ w3 ⟨rfl, hv3⟩
  (try generalize (Value.agg #[.int .u32 g.sa, .int .u16 g.sp, .int .u32 g.da, .int .u16 g.dp, .int .u32 g.sq, .int .u32 g.ak, .int .u8 g.fl, .int .u16 g.wi, .int .u16 g.op.mss, .int .i64 g.op.sc, .bool g.op.sk, .slice A n c, .bool g.op.tm, .int .u32 g.op.va, .int .u32 g.op.ec, .string (tx g.dt)]) = XV3_0)
  (try generalize (Value.agg #[.int .u32 a1, .int .u16 p1, .int .u32 b1, .int .u16 q1, .int .u32 y1, .int .u32 z1, .int .u32 v1, .int .u32 ec, .int .i64 up, .int .i64 dn]) = XV3_1)
  (try generalize (Value.agg #[.int .u32 g.sa, .int .u16 g.sp, .int .u32 g.da, .int .u16 g.dp, .int .u32 g.sq, .int .u32 g.ak, .int .u8 g.fl, .int .u16 g.wi, .int .u16 g.op.mss, .int .i64 g.op.sc, .bool g.op.sk, .slice A1 n1 c1, .bool g.op.tm, .int .u32 g.op.va, .int .u32 g.op.ec, .string (tx g.dt)]) = XV3_2)
  (try generalize (Value.agg #[.int .u32 q.sa, .int .u16 q.sp, .int .u32 q.da, .int .u16 q.dp, .int .u32 q.sq, .int .u32 q.ak, .int .u8 q.fl, .int .u16 q.wi, .int .u16 q.op.mss, .int .i64 q.op.sc, .bool q.op.sk, .slice A2 n2 c2, .bool q.op.tm, .int .u32 q.op.va, .int .u32 q.op.ec, .string (tx q.dt)]) = XV3_3)
  (try generalize (Value.agg #[.int .u32 t.sa, .int .u16 t.sp, .int .u32 t.da, .int .u16 t.dp, .int .u32 t.sq, .int .u32 t.ak, .int .u8 t.fl, .int .u16 t.wi, .int .u16 t.op.mss, .int .i64 t.op.sc, .bool t.op.sk, .slice A3 n3 c3, .bool t.op.tm, .int .u32 t.op.va, .int .u32 t.op.ec, .string (tx t.dt)]) = XV3_4)
  rw [c0']
  clear k0 k1 k2 k3 k4 k5 k6 k7 k8 k9 k10 k11 k12 k13 k14 k15 l0 l1 l2 l3 l4 l5 l6 l7 l8 l9
  have hu3 := hu2.on hv3
  have hA_3 := hA_1.up hv3
  have hX_3 := hX_2.up hv3
  clear hA_1 hX_2 hu2 hv3
  have k0 := hA_3.at 0 rfl; have k1 := hA_3.at 1 rfl; have k2 := hA_3.at 2 rfl; have k3 := hA_3.at 3 rfl; have k4 := hA_3.at 4 rfl; have k5 := hA_3.at 5 rfl; have k6 := hA_3.at 6 rfl; have k7 := hA_3.at 7 rfl; have k8 := hA_3.at 8 rfl; have k9 := hA_3.at 9 rfl; have k10 := hA_3.at 10 rfl; have k11 := hA_3.at 11 rfl; have k12 := hA_3.at 12 rfl; have k13 := hA_3.at 13 rfl; have k14 := hA_3.at 14 rfl; have k15 := hA_3.at 15 rfl
  go_wp2_with fail
  refine (H1.out w3 ((HG.out.up hu3).seg c)).mono ?_
  rintro e_ w4 ⟨rfl, hv4⟩
  (try generalize (Value.agg #[.int .u32 g.sa, .int .u16 g.sp, .int .u32 g.da, .int .u16 g.dp, .int .u32 g.sq, .int .u32 g.ak, .int .u8 g.fl, .int .u16 g.wi, .int .u16 g.op.mss, .int .i64 g.op.sc, .bool g.op.sk, .slice A n c, .bool g.op.tm, .int .u32 g.op.va, .int .u32 g.op.ec, .string (tx g.dt)]) = XV4_0)
  (try generalize (Value.agg #[.int .u32 a1, .int .u16 p1, .int .u32 b1, .int .u16 q1, .int .u32 y1, .int .u32 z1, .int .u32 v1, .int .u32 ec, .int .i64 up, .int .i64 dn]) = XV4_1)
  (try generalize (Value.agg #[.int .u32 g.sa, .int .u16 g.sp, .int .u32 g.da, .int .u16 g.dp, .int .u32 g.sq, .int .u32 g.ak, .int .u8 g.fl, .int .u16 g.wi, .int .u16 g.op.mss, .int .i64 g.op.sc, .bool g.op.sk, .slice A1 n1 c1, .bool g.op.tm, .int .u32 g.op.va, .int .u32 g.op.ec, .string (tx g.dt)]) = XV4_2)
  (try generalize (Value.agg #[.int .u32 q.sa, .int .u16 q.sp, .int .u32 q.da, .int .u16 q.dp, .int .u32 q.sq, .int .u32 q.ak, .int .u8 q.fl, .int .u16 q.wi, .int .u16 q.op.mss, .int .i64 q.op.sc, .bool q.op.sk, .slice A2 n2 c2, .bool q.op.tm, .int .u32 q.op.va, .int .u32 q.op.ec, .string (tx q.dt)]) = XV4_3)
  (try generalize (Value.agg #[.int .u32 t.sa, .int .u16 t.sp, .int .u32 t.da, .int .u16 t.dp, .int .u32 t.sq, .int .u32 t.ak, .int .u8 t.fl, .int .u16 t.wi, .int .u16 t.op.mss, .int .i64 t.op.sc, .bool t.op.sk, .slice A3 n3 c3, .bool t.op.tm, .int .u32 t.op.va, .int .u32 t.op.ec, .string (tx t.dt)]) = XV4_4)
  clear k0 k1 k2 k3 k4 k5 k6 k7 k8 k9 k10 k11 k12 k13 k14 k15
  have hu4 := hu3.on hv4
  have hA_4 := hA_3.up hv4
  have hX_4 := hX_3.up hv4
  clear hA_3 hX_3 hu3 hv4
  go_wp2_with fail
  refine (HD.out w4).mono ?_
  rintro e_ w5 ⟨x2, rfl, ⟨A2, n2, c2, rfl, hl2, hr2⟩, hv5⟩
  (try generalize (Value.agg #[.int .u32 g.sa, .int .u16 g.sp, .int .u32 g.da, .int .u16 g.dp, .int .u32 g.sq, .int .u32 g.ak, .int .u8 g.fl, .int .u16 g.wi, .int .u16 g.op.mss, .int .i64 g.op.sc, .bool g.op.sk, .slice A n c, .bool g.op.tm, .int .u32 g.op.va, .int .u32 g.op.ec, .string (tx g.dt)]) = XV5_0)
  (try generalize (Value.agg #[.int .u32 a1, .int .u16 p1, .int .u32 b1, .int .u16 q1, .int .u32 y1, .int .u32 z1, .int .u32 v1, .int .u32 ec, .int .i64 up, .int .i64 dn]) = XV5_1)
  (try generalize (Value.agg #[.int .u32 g.sa, .int .u16 g.sp, .int .u32 g.da, .int .u16 g.dp, .int .u32 g.sq, .int .u32 g.ak, .int .u8 g.fl, .int .u16 g.wi, .int .u16 g.op.mss, .int .i64 g.op.sc, .bool g.op.sk, .slice A1 n1 c1, .bool g.op.tm, .int .u32 g.op.va, .int .u32 g.op.ec, .string (tx g.dt)]) = XV5_2)
  (try generalize (Value.agg #[.int .u32 q.sa, .int .u16 q.sp, .int .u32 q.da, .int .u16 q.dp, .int .u32 q.sq, .int .u32 q.ak, .int .u8 q.fl, .int .u16 q.wi, .int .u16 q.op.mss, .int .i64 q.op.sc, .bool q.op.sk, .slice A2 n2 c2, .bool q.op.tm, .int .u32 q.op.va, .int .u32 q.op.ec, .string (tx q.dt)]) = XV5_3)
  (try generalize (Value.agg #[.int .u32 t.sa, .int .u16 t.sp, .int .u32 t.da, .int .u16 t.dp, .int .u32 t.sq, .int .u32 t.ak, .int .u8 t.fl, .int .u16 t.wi, .int .u16 t.op.mss, .int .i64 t.op.sc, .bool t.op.sk, .slice A3 n3 c3, .bool t.op.tm, .int .u32 t.op.va, .int .u32 t.op.ec, .string (tx t.dt)]) = XV5_4)
  go_upto_region 11 with fail
  have hu5 := hu4.on hv5
  have hA_5 := hA_4.up hv5
  have hX_5 := hX_4.up hv5
  clear hA_4 hX_4 hu4 hv5
  have hD_6 := Box.new w5 #[.int .u32 q.sa, .int .u16 q.sp, .int .u32 q.da, .int .u16 q.dp, .int .u32 q.sq, .int .u32 q.ak, .int .u8 q.fl, .int .u16 q.wi, .int .u16 q.op.mss, .int .i64 q.op.sc, .bool q.op.sk, .slice A2 n2 c2, .bool q.op.tm, .int .u32 q.op.va, .int .u32 q.op.ec, .string (tx q.dt)] 30
  have hv6 : Up w5 (w5.alloc (.cells #[.int .u32 q.sa, .int .u16 q.sp, .int .u32 q.da, .int .u16 q.dp, .int .u32 q.sq, .int .u32 q.ak, .int .u8 q.fl, .int .u16 q.wi, .int .u16 q.op.mss, .int .i64 q.op.sc, .bool q.op.sk, .slice A2 n2 c2, .bool q.op.tm, .int .u32 q.op.va, .int .u32 q.op.ec, .string (tx q.dt)] 30)) := up_al _ (Below.refl _ _)
  generalize (w5.alloc (.cells #[.int .u32 q.sa, .int .u16 q.sp, .int .u32 q.da, .int .u16 q.dp, .int .u32 q.sq, .int .u32 q.ak, .int .u8 q.fl, .int .u16 q.wi, .int .u16 q.op.mss, .int .i64 q.op.sc, .bool q.op.sk, .slice A2 n2 c2, .bool q.op.tm, .int .u32 q.op.va, .int .u32 q.op.ec, .string (tx q.dt)] 30)) = w6 at hD_6 hv6 ⊢
  generalize w5.heap.size = bD at hD_6 ⊢
  have hu6 := hu5.on hv6
  have hA_6 := hA_5.up hv6
  have hX_6 := hX_5.up hv6
  have hr2_6 := hr2.up hv6
  clear hA_5 hX_5 hr2 hu5 hv6
  have k0 := hX_6.at 0 rfl; have k1 := hX_6.at 1 rfl; have k2 := hX_6.at 2 rfl; have k3 := hX_6.at 3 rfl; have k4 := hX_6.at 4 rfl; have k5 := hX_6.at 5 rfl; have k6 := hX_6.at 6 rfl; have k7 := hX_6.at 7 rfl; have k8 := hX_6.at 8 rfl; have k9 := hX_6.at 9 rfl
  go_wp2_with fail
  refine (HR.out w6).mono ?_
  rintro e_ w7 ⟨rfl, hv7⟩
  (try generalize (Value.agg #[.int .u32 g.sa, .int .u16 g.sp, .int .u32 g.da, .int .u16 g.dp, .int .u32 g.sq, .int .u32 g.ak, .int .u8 g.fl, .int .u16 g.wi, .int .u16 g.op.mss, .int .i64 g.op.sc, .bool g.op.sk, .slice A n c, .bool g.op.tm, .int .u32 g.op.va, .int .u32 g.op.ec, .string (tx g.dt)]) = XV7_0)
  (try generalize (Value.agg #[.int .u32 a1, .int .u16 p1, .int .u32 b1, .int .u16 q1, .int .u32 y1, .int .u32 z1, .int .u32 v1, .int .u32 ec, .int .i64 up, .int .i64 dn]) = XV7_1)
  (try generalize (Value.agg #[.int .u32 g.sa, .int .u16 g.sp, .int .u32 g.da, .int .u16 g.dp, .int .u32 g.sq, .int .u32 g.ak, .int .u8 g.fl, .int .u16 g.wi, .int .u16 g.op.mss, .int .i64 g.op.sc, .bool g.op.sk, .slice A1 n1 c1, .bool g.op.tm, .int .u32 g.op.va, .int .u32 g.op.ec, .string (tx g.dt)]) = XV7_2)
  (try generalize (Value.agg #[.int .u32 q.sa, .int .u16 q.sp, .int .u32 q.da, .int .u16 q.dp, .int .u32 q.sq, .int .u32 q.ak, .int .u8 q.fl, .int .u16 q.wi, .int .u16 q.op.mss, .int .i64 q.op.sc, .bool q.op.sk, .slice A2 n2 c2, .bool q.op.tm, .int .u32 q.op.va, .int .u32 q.op.ec, .string (tx q.dt)]) = XV7_3)
  (try generalize (Value.agg #[.int .u32 t.sa, .int .u16 t.sp, .int .u32 t.da, .int .u16 t.dp, .int .u32 t.sq, .int .u32 t.ak, .int .u8 t.fl, .int .u16 t.wi, .int .u16 t.op.mss, .int .i64 t.op.sc, .bool t.op.sk, .slice A3 n3 c3, .bool t.op.tm, .int .u32 t.op.va, .int .u32 t.op.ec, .string (tx t.dt)]) = XV7_4)
  clear k0 k1 k2 k3 k4 k5 k6 k7 k8 k9
  have hu7 := hu6.on hv7
  have hA_7 := hA_6.up hv7
  have hX_7 := hX_6.up hv7
  have hD_7 := hD_6.up hv7
  have hr2_7 := hr2_6.up hv7
  clear hA_6 hX_6 hD_6 hr2_6 hu6 hv7
  go_wp2_with fail
  refine (HDR.out w7).mono ?_
  rintro e_ w8 ⟨x3, rfl, ⟨A3, n3, c3, rfl, hl3, hr3⟩, hv8⟩
  (try generalize (Value.agg #[.int .u32 g.sa, .int .u16 g.sp, .int .u32 g.da, .int .u16 g.dp, .int .u32 g.sq, .int .u32 g.ak, .int .u8 g.fl, .int .u16 g.wi, .int .u16 g.op.mss, .int .i64 g.op.sc, .bool g.op.sk, .slice A n c, .bool g.op.tm, .int .u32 g.op.va, .int .u32 g.op.ec, .string (tx g.dt)]) = XV8_0)
  (try generalize (Value.agg #[.int .u32 a1, .int .u16 p1, .int .u32 b1, .int .u16 q1, .int .u32 y1, .int .u32 z1, .int .u32 v1, .int .u32 ec, .int .i64 up, .int .i64 dn]) = XV8_1)
  (try generalize (Value.agg #[.int .u32 g.sa, .int .u16 g.sp, .int .u32 g.da, .int .u16 g.dp, .int .u32 g.sq, .int .u32 g.ak, .int .u8 g.fl, .int .u16 g.wi, .int .u16 g.op.mss, .int .i64 g.op.sc, .bool g.op.sk, .slice A1 n1 c1, .bool g.op.tm, .int .u32 g.op.va, .int .u32 g.op.ec, .string (tx g.dt)]) = XV8_2)
  (try generalize (Value.agg #[.int .u32 q.sa, .int .u16 q.sp, .int .u32 q.da, .int .u16 q.dp, .int .u32 q.sq, .int .u32 q.ak, .int .u8 q.fl, .int .u16 q.wi, .int .u16 q.op.mss, .int .i64 q.op.sc, .bool q.op.sk, .slice A2 n2 c2, .bool q.op.tm, .int .u32 q.op.va, .int .u32 q.op.ec, .string (tx q.dt)]) = XV8_3)
  (try generalize (Value.agg #[.int .u32 t.sa, .int .u16 t.sp, .int .u32 t.da, .int .u16 t.dp, .int .u32 t.sq, .int .u32 t.ak, .int .u8 t.fl, .int .u16 t.wi, .int .u16 t.op.mss, .int .i64 t.op.sc, .bool t.op.sk, .slice A3 n3 c3, .bool t.op.tm, .int .u32 t.op.va, .int .u32 t.op.ec, .string (tx t.dt)]) = XV8_4)
  go_upto_region 16 with fail
  have hu8 := hu7.on hv8
  have hA_8 := hA_7.up hv8
  have hX_8 := hX_7.up hv8
  have hD_8 := hD_7.up hv8
  have hr2_8 := hr2_7.up hv8
  clear hA_7 hX_7 hD_7 hr2_7 hu7 hv8
  have hU_9 := Box.new w8 #[.int .u32 t.sa, .int .u16 t.sp, .int .u32 t.da, .int .u16 t.dp, .int .u32 t.sq, .int .u32 t.ak, .int .u8 t.fl, .int .u16 t.wi, .int .u16 t.op.mss, .int .i64 t.op.sc, .bool t.op.sk, .slice A3 n3 c3, .bool t.op.tm, .int .u32 t.op.va, .int .u32 t.op.ec, .string (tx t.dt)] 30
  have hv9 : Up w8 (w8.alloc (.cells #[.int .u32 t.sa, .int .u16 t.sp, .int .u32 t.da, .int .u16 t.dp, .int .u32 t.sq, .int .u32 t.ak, .int .u8 t.fl, .int .u16 t.wi, .int .u16 t.op.mss, .int .i64 t.op.sc, .bool t.op.sk, .slice A3 n3 c3, .bool t.op.tm, .int .u32 t.op.va, .int .u32 t.op.ec, .string (tx t.dt)] 30)) := up_al _ (Below.refl _ _)
  generalize (w8.alloc (.cells #[.int .u32 t.sa, .int .u16 t.sp, .int .u32 t.da, .int .u16 t.dp, .int .u32 t.sq, .int .u32 t.ak, .int .u8 t.fl, .int .u16 t.wi, .int .u16 t.op.mss, .int .i64 t.op.sc, .bool t.op.sk, .slice A3 n3 c3, .bool t.op.tm, .int .u32 t.op.va, .int .u32 t.op.ec, .string (tx t.dt)] 30)) = w9 at hU_9 hv9 ⊢
  generalize w8.heap.size = bU at hU_9 ⊢
  have hu9 := hu8.on hv9
  have hA_9 := hA_8.up hv9
  have hX_9 := hX_8.up hv9
  have hD_9 := hD_8.up hv9
  have hr2_9 := hr2_8.up hv9
  have hr3_9 := hr3.up hv9
  clear hA_8 hX_8 hD_8 hr2_8 hr3 hu8 hv9
  refine wp_region_rel2h (fun W => Up w9 W) (fun W W' => Up W W') (Ys [Det (.int .i64 ((0 : Nat) : Int)),
    Det (.bool false),
    Det (.bool false),
    Det ((.agg #[.int .u32 t.sa, .int .u16 t.sp, .int .u32 t.da, .int .u16 t.dp, .int .u32 t.sq, .int .u32 t.ak, .int .u8 t.fl, .int .u16 t.wi, .int .u16 t.op.mss, .int .i64 t.op.sc, .bool t.op.sk, .slice A3 n3 c3, .bool t.op.tm, .int .u32 t.op.va, .int .u32 t.op.ec, .string (tx t.dt)])),
    Det ((.agg #[.int .u32 q.sa, .int .u16 q.sp, .int .u32 q.da, .int .u16 q.dp, .int .u32 q.sq, .int .u32 q.ak, .int .u8 q.fl, .int .u16 q.wi, .int .u16 q.op.mss, .int .i64 q.op.sc, .bool q.op.sk, .slice A2 n2 c2, .bool q.op.tm, .int .u32 q.op.va, .int .u32 q.op.ec, .string (tx q.dt)])),
    Det ((.agg #[.int .u32 a1, .int .u16 p1, .int .u32 b1, .int .u16 q1, .int .u32 y1, .int .u32 z1, .int .u32 v1, .int .u32 ec, .int .i64 up, .int .i64 dn])),
    TkV t,
    Det (.bool true),
    Det (.bool false),
    Det (.bool false),
    Det (.bool false),
    Det (.string R2),
    Det (.int .i64 M),
    Det (.string s),
    Det (.int .i64 M),
    Det (.bool false),
    Det (.bool false)]) (by kernel_rfl) (by kernel_rfl) (up_dr (Below.refl _ _)) (Stable.ys ⟨Det.st _, Det.st _, Det.st _, Det.st _, Det.st _, Det.st _, TkV.st t, Det.st _, Det.st _, Det.st _, Det.st _, Det.st _, Det.st _, Det.st _, Det.st _, Det.st _, Det.st _, trivial⟩) [(2, false), (10, false)] (by kernel_rfl) (by intro p hp v w h; simp only [List.mem_cons, List.not_mem_nil, or_false] at hp; rcases hp with rfl | rfl <;> exact h) ?_ ?_
  ·
    refine obligs_cons ?_ ?_
    · as_aux_lemma =>
        intro aa ww hC hdep hvar KK hK
        have d20 : aa.tmps.getD 20 undef = .int .i64 ((0 : Nat) : Int) := hvar 20 (slotOk_spec (by kernel_rfl))
        have d20_ := d20; rw [Array.getD_eq_getD_getElem?] at d20_
        clear hdep hvar
        (unfold opTo; go_simp; try simp only [opUpon])
        exact hK _ _ rfl hC (Below.refl _ _)
    refine obligs_cons ?_ ?_
    · as_aux_lemma =>
        intro aa ww hC hdep hvar KK hK
        have d96 : aa.tmps.getD 96 undef = .int .i64 ((0 : Nat) : Int) := dep_of hdep 0 96 (by kernel_rfl)
        have d96_ := d96; rw [Array.getD_eq_getD_getElem?] at d96_
        clear hdep hvar
        (unfold opTo; go_simp; try simp only [opUpon])
        exact hK _ _ rfl hC (Below.refl _ _)
    refine obligs_cons ?_ ?_
    · as_aux_lemma =>
        intro aa ww hC hdep hvar KK hK
        have d97 : aa.tmps.getD 97 undef = .bool false := dep_of hdep 1 97 (by kernel_rfl)
        have d97_ := d97; rw [Array.getD_eq_getD_getElem?] at d97_
        clear hdep hvar
        (unfold opTo; go_simp; try simp only [opUpon])
        exact hK _ _ rfl hC (Below.refl _ _)
    refine obligs_cons ?_ ?_
    · as_aux_lemma =>
        intro aa ww hC hdep hvar KK hK
        have d19 : aa.tmps.getD 19 undef = .pointer (some ⟨bU, 0, none⟩) := hvar 19 (slotOk_spec (by kernel_rfl))
        have d19_ := d19; rw [Array.getD_eq_getD_getElem?] at d19_
        clear hdep hvar
        have hb := hU_9.up hC
        have cc0 := hb.at 0 rfl; have cc1 := hb.at 1 rfl; have cc2 := hb.at 2 rfl; have cc3 := hb.at 3 rfl; have cc4 := hb.at 4 rfl; have cc5 := hb.at 5 rfl; have cc6 := hb.at 6 rfl; have cc7 := hb.at 7 rfl; have cc8 := hb.at 8 rfl; have cc9 := hb.at 9 rfl; have cc10 := hb.at 10 rfl; have cc11 := hb.at 11 rfl; have cc12 := hb.at 12 rfl; have cc13 := hb.at 13 rfl; have cc14 := hb.at 14 rfl; have cc15 := hb.at 15 rfl
        (unfold opTo; go_simp; try simp only [opUpon])
        exact hK _ _ rfl hC (Below.refl _ _)
    refine obligs_cons ?_ ?_
    · as_aux_lemma =>
        intro aa ww hC hdep hvar KK hK
        have d15 : aa.tmps.getD 15 undef = .pointer (some ⟨bD, 0, none⟩) := hvar 15 (slotOk_spec (by kernel_rfl))
        have d15_ := d15; rw [Array.getD_eq_getD_getElem?] at d15_
        clear hdep hvar
        have hb := hD_9.up hC
        have cc0 := hb.at 0 rfl; have cc1 := hb.at 1 rfl; have cc2 := hb.at 2 rfl; have cc3 := hb.at 3 rfl; have cc4 := hb.at 4 rfl; have cc5 := hb.at 5 rfl; have cc6 := hb.at 6 rfl; have cc7 := hb.at 7 rfl; have cc8 := hb.at 8 rfl; have cc9 := hb.at 9 rfl; have cc10 := hb.at 10 rfl; have cc11 := hb.at 11 rfl; have cc12 := hb.at 12 rfl; have cc13 := hb.at 13 rfl; have cc14 := hb.at 14 rfl; have cc15 := hb.at 15 rfl
        (unfold opTo; go_simp; try simp only [opUpon])
        exact hK _ _ rfl hC (Below.refl _ _)
    refine obligs_cons ?_ ?_
    · as_aux_lemma =>
        intro aa ww hC hdep hvar KK hK
        have d5 : aa.tmps.getD 5 undef = .pointer (some ⟨(n0 + 1), 0, none⟩) := hvar 5 (slotOk_spec (by kernel_rfl))
        have d5_ := d5; rw [Array.getD_eq_getD_getElem?] at d5_
        clear hdep hvar
        have hb := hX_9.up hC
        have cc0 := hb.at 0 rfl; have cc1 := hb.at 1 rfl; have cc2 := hb.at 2 rfl; have cc3 := hb.at 3 rfl; have cc4 := hb.at 4 rfl; have cc5 := hb.at 5 rfl; have cc6 := hb.at 6 rfl; have cc7 := hb.at 7 rfl; have cc8 := hb.at 8 rfl; have cc9 := hb.at 9 rfl
        (unfold opTo; go_simp; try simp only [opUpon])
        exact hK _ _ rfl hC (Below.refl _ _)
    refine obligs_cons ?_ ?_
    · as_aux_lemma =>
        intro aa ww hC hdep hvar KK hK
        have d100 : aa.tmps.getD 100 undef = (.agg #[.int .u32 q.sa, .int .u16 q.sp, .int .u32 q.da, .int .u16 q.dp, .int .u32 q.sq, .int .u32 q.ak, .int .u8 q.fl, .int .u16 q.wi, .int .u16 q.op.mss, .int .i64 q.op.sc, .bool q.op.sk, .slice A2 n2 c2, .bool q.op.tm, .int .u32 q.op.va, .int .u32 q.op.ec, .string (tx q.dt)]) := dep_of hdep 4 100 (by kernel_rfl)
        have d101 : aa.tmps.getD 101 undef = (.agg #[.int .u32 a1, .int .u16 p1, .int .u32 b1, .int .u16 q1, .int .u32 y1, .int .u32 z1, .int .u32 v1, .int .u32 ec, .int .i64 up, .int .i64 dn]) := dep_of hdep 5 101 (by kernel_rfl)
        have d100_ := d100; rw [Array.getD_eq_getD_getElem?] at d100_
        have d101_ := d101; rw [Array.getD_eq_getD_getElem?] at d101_
        clear hdep hvar
        (unfold opTo; go_simp; try simp only [opUpon])
        refine (H4.out _ _ ⟨A2, n2, c2, rfl, hl2, hr2_9.up hC⟩).mono ?_; rintro e w9 ⟨X, rfl, hX9, hu9⟩; exact ⟨_, rfl, hK _ _ hX9 (Up.on hC hu9) hu9⟩
    refine obligs_cons ?_ ?_
    · as_aux_lemma =>
        intro aa ww hC hdep hvar KK hK
        have d99 : aa.tmps.getD 99 undef = (.agg #[.int .u32 t.sa, .int .u16 t.sp, .int .u32 t.da, .int .u16 t.dp, .int .u32 t.sq, .int .u32 t.ak, .int .u8 t.fl, .int .u16 t.wi, .int .u16 t.op.mss, .int .i64 t.op.sc, .bool t.op.sk, .slice A3 n3 c3, .bool t.op.tm, .int .u32 t.op.va, .int .u32 t.op.ec, .string (tx t.dt)]) := dep_of hdep 3 99 (by kernel_rfl)
        have g102 : TkV t (aa.tmps.getD 102 undef) ww := dep_of hdep 6 102 (by kernel_rfl); generalize hx102 : aa.tmps.getD 102 undef = X102 at g102; have d102 := hx102; clear hx102
        have d99_ := d99; rw [Array.getD_eq_getD_getElem?] at d99_
        have d102_ := d102; rw [Array.getD_eq_getD_getElem?] at d102_
        clear hdep hvar
        (unfold opTo; go_simp; try simp only [opUpon])
        refine (sameC _ (g := t) ⟨A3, n3, c3, rfl, hl3, hr3_9.up hC⟩ g102 gt gt).mono ?_; rintro e w9 ⟨rfl, hu9⟩; rw [sameS_t rfl]; exact ⟨_, rfl, hK _ _ rfl (Up.on hC hu9) hu9⟩
    refine obligs_cons ?_ ?_
    · as_aux_lemma =>
        intro aa ww hC hdep hvar KK hK
        have d103 : aa.tmps.getD 103 undef = .bool true := dep_of hdep 7 103 (by kernel_rfl)
        have d103_ := d103; rw [Array.getD_eq_getD_getElem?] at d103_
        clear hdep hvar
        (unfold opTo; go_simp; try simp only [opUpon])
        exact hK _ _ rfl hC (Below.refl _ _)
    refine obligs_cons ?_ ?_
    · as_aux_lemma =>
        intro aa ww hC hdep hvar KK hK
        have d98 : aa.tmps.getD 98 undef = .bool false := dep_of hdep 2 98 (by kernel_rfl)
        have d104 : aa.tmps.getD 104 undef = .bool false := dep_of hdep 8 104 (by kernel_rfl)
        have d98_ := d98; rw [Array.getD_eq_getD_getElem?] at d98_
        have d104_ := d104; rw [Array.getD_eq_getD_getElem?] at d104_
        clear hdep hvar
        (unfold opTo; go_simp; try simp only [opUpon])
        exact hK _ _ rfl hC (Below.refl _ _)
    refine obligs_cons ?_ ?_
    · as_aux_lemma =>
        intro aa ww hC hdep hvar KK hK
        have d105 : aa.tmps.getD 105 undef = .bool false := dep_of hdep 9 105 (by kernel_rfl)
        have d105_ := d105; rw [Array.getD_eq_getD_getElem?] at d105_
        clear hdep hvar
        (unfold opTo; go_simp; try simp only [opUpon])
        exact hK _ _ rfl hC (Below.refl _ _)
    refine obligs_cons ?_ ?_
    · as_aux_lemma =>
        intro aa ww hC hdep hvar KK hK
        have d17 : aa.tmps.getD 17 undef = .string R2 := hvar 17 (slotOk_spec (by kernel_rfl))
        have d17_ := d17; rw [Array.getD_eq_getD_getElem?] at d17_
        clear hdep hvar
        (unfold opTo; go_simp; try simp only [opUpon])
        exact hK _ _ rfl hC (Below.refl _ _)
    refine obligs_cons ?_ ?_
    · as_aux_lemma =>
        intro aa ww hC hdep hvar KK hK
        have d107 : aa.tmps.getD 107 undef = .string R2 := dep_of hdep 11 107 (by kernel_rfl)
        have d107_ := d107; rw [Array.getD_eq_getD_getElem?] at d107_
        clear hdep hvar
        (unfold opTo; go_simp; try simp only [opUpon])
        exact hK _ _ rfl hC (Below.refl _ _)
    refine obligs_cons ?_ ?_
    · as_aux_lemma =>
        intro aa ww hC hdep hvar KK hK
        have d1 : aa.tmps.getD 1 undef = .string s := hvar 1 (slotOk_spec (by kernel_rfl))
        have d1_ := d1; rw [Array.getD_eq_getD_getElem?] at d1_
        clear hdep hvar
        (unfold opTo; go_simp; try simp only [opUpon])
        exact hK _ _ rfl hC (Below.refl _ _)
    refine obligs_cons ?_ ?_
    · as_aux_lemma =>
        intro aa ww hC hdep hvar KK hK
        have d109 : aa.tmps.getD 109 undef = .string s := dep_of hdep 13 109 (by kernel_rfl)
        have d109_ := d109; rw [Array.getD_eq_getD_getElem?] at d109_
        clear hdep hvar
        (unfold opTo; go_simp; try simp only [opUpon])
        exact hK _ _ rfl hC (Below.refl _ _)
    refine obligs_cons ?_ ?_
    · as_aux_lemma =>
        intro aa ww hC hdep hvar KK hK
        have d108 : aa.tmps.getD 108 undef = .int .i64 M := dep_of hdep 12 108 (by kernel_rfl)
        have d110 : aa.tmps.getD 110 undef = .int .i64 M := dep_of hdep 14 110 (by kernel_rfl)
        have d108_ := d108; rw [Array.getD_eq_getD_getElem?] at d108_
        have d110_ := d110; rw [Array.getD_eq_getD_getElem?] at d110_
        clear hdep hvar
        (unfold opTo; go_simp; try simp only [opUpon])
        exact hK _ _ rfl hC (Below.refl _ _)
    refine obligs_cons ?_ ?_
    · as_aux_lemma =>
        intro aa ww hC hdep hvar KK hK
        have d106 : aa.tmps.getD 106 undef = .bool false := dep_of hdep 10 106 (by kernel_rfl)
        have d111 : aa.tmps.getD 111 undef = .bool false := dep_of hdep 15 111 (by kernel_rfl)
        have d106_ := d106; rw [Array.getD_eq_getD_getElem?] at d106_
        have d111_ := d111; rw [Array.getD_eq_getD_getElem?] at d111_
        clear hdep hvar
        (unfold opTo; go_simp; try simp only [opUpon])
        exact hK _ _ rfl hC (Below.refl _ _)
    exact obligs_nil
  intro vals ww hC hY
  have e0 : vals 0 = .int .i64 ((0 : Nat) : Int) := hY 0 _ _ rfl rfl
  have e1 : vals 1 = .bool false := hY 1 _ _ rfl rfl
  have e2 : vals 2 = .bool false := hY 2 _ _ rfl rfl
  have e3 : vals 3 = (.agg #[.int .u32 t.sa, .int .u16 t.sp, .int .u32 t.da, .int .u16 t.dp, .int .u32 t.sq, .int .u32 t.ak, .int .u8 t.fl, .int .u16 t.wi, .int .u16 t.op.mss, .int .i64 t.op.sc, .bool t.op.sk, .slice A3 n3 c3, .bool t.op.tm, .int .u32 t.op.va, .int .u32 t.op.ec, .string (tx t.dt)]) := hY 3 _ _ rfl rfl
  have e4 : vals 4 = (.agg #[.int .u32 q.sa, .int .u16 q.sp, .int .u32 q.da, .int .u16 q.dp, .int .u32 q.sq, .int .u32 q.ak, .int .u8 q.fl, .int .u16 q.wi, .int .u16 q.op.mss, .int .i64 q.op.sc, .bool q.op.sk, .slice A2 n2 c2, .bool q.op.tm, .int .u32 q.op.va, .int .u32 q.op.ec, .string (tx q.dt)]) := hY 4 _ _ rfl rfl
  have e5 : vals 5 = (.agg #[.int .u32 a1, .int .u16 p1, .int .u32 b1, .int .u16 q1, .int .u32 y1, .int .u32 z1, .int .u32 v1, .int .u32 ec, .int .i64 up, .int .i64 dn]) := hY 5 _ _ rfl rfl
  have q6 : TkV t (vals 6) ww := hY 6 _ _ rfl rfl; generalize hx6 : vals 6 = X6 at q6; have e6 := hx6; clear hx6
  have e7 : vals 7 = .bool true := hY 7 _ _ rfl rfl
  have e8 : vals 8 = .bool false := hY 8 _ _ rfl rfl
  have e9 : vals 9 = .bool false := hY 9 _ _ rfl rfl
  have e10 : vals 10 = .bool false := hY 10 _ _ rfl rfl
  have e11 : vals 11 = .string R2 := hY 11 _ _ rfl rfl
  have e12 : vals 12 = .int .i64 M := hY 12 _ _ rfl rfl
  have e13 : vals 13 = .string s := hY 13 _ _ rfl rfl
  have e14 : vals 14 = .int .i64 M := hY 14 _ _ rfl rfl
  have e15 : vals 15 = .bool false := hY 15 _ _ rfl rfl
  have e16 : vals 16 = .bool false := hY 16 _ _ rfl rfl
  clear hY
  (try simp only [List.append_eq, List.cons_append, List.nil_append])
  simp only [putAll, Act.put, List.setIfInBounds_toArray, List.set_cons_zero, List.set_cons_succ, e0, e1, e2, e3, e4, e5, e6, e7, e8, e9, e10, e11, e12, e13, e14, e15, e16]
  clear e0 e1 e2 e3 e4 e5 e6 e7 e8 e9 e10 e11 e12 e13 e14 e15 e16
  have huE := hu9.on hC
  generalize ww = wE at huE ⊢
  go_wp2_with fail
  refine (aliveC wE).mono ?_
  rintro e_ w10 ⟨rfl, hv10⟩
  (try generalize (Value.agg #[.int .u32 g.sa, .int .u16 g.sp, .int .u32 g.da, .int .u16 g.dp, .int .u32 g.sq, .int .u32 g.ak, .int .u8 g.fl, .int .u16 g.wi, .int .u16 g.op.mss, .int .i64 g.op.sc, .bool g.op.sk, .slice A n c, .bool g.op.tm, .int .u32 g.op.va, .int .u32 g.op.ec, .string (tx g.dt)]) = XV10_0)
  (try generalize (Value.agg #[.int .u32 a1, .int .u16 p1, .int .u32 b1, .int .u16 q1, .int .u32 y1, .int .u32 z1, .int .u32 v1, .int .u32 ec, .int .i64 up, .int .i64 dn]) = XV10_1)
  (try generalize (Value.agg #[.int .u32 g.sa, .int .u16 g.sp, .int .u32 g.da, .int .u16 g.dp, .int .u32 g.sq, .int .u32 g.ak, .int .u8 g.fl, .int .u16 g.wi, .int .u16 g.op.mss, .int .i64 g.op.sc, .bool g.op.sk, .slice A1 n1 c1, .bool g.op.tm, .int .u32 g.op.va, .int .u32 g.op.ec, .string (tx g.dt)]) = XV10_2)
  (try generalize (Value.agg #[.int .u32 q.sa, .int .u16 q.sp, .int .u32 q.da, .int .u16 q.dp, .int .u32 q.sq, .int .u32 q.ak, .int .u8 q.fl, .int .u16 q.wi, .int .u16 q.op.mss, .int .i64 q.op.sc, .bool q.op.sk, .slice A2 n2 c2, .bool q.op.tm, .int .u32 q.op.va, .int .u32 q.op.ec, .string (tx q.dt)]) = XV10_3)
  (try generalize (Value.agg #[.int .u32 t.sa, .int .u16 t.sp, .int .u32 t.da, .int .u16 t.dp, .int .u32 t.sq, .int .u32 t.ak, .int .u8 t.fl, .int .u16 t.wi, .int .u16 t.op.mss, .int .i64 t.op.sc, .bool t.op.sk, .slice A3 n3 c3, .bool t.op.tm, .int .u32 t.op.va, .int .u32 t.op.ec, .string (tx t.dt)]) = XV10_4)
  have hu10 := huE.on hv10
  clear huE hv10
  go_wp2
  go_ret
  exact ⟨rfl, hu10⟩
set_option maxHeartbeats 8000000 in
set_option maxRecDepth 100000 in
theorem back00 (g : Sg) (A : Option Addr) (n c : Nat) (s : ByteArray) (a1 p1 b1 q1 y1 z1 v1 ec : Nat) (up dn : Int) (w : World) (hg : SegX w g A n) (hz : s.size ≤ maxLen) (hX : WfX ⟨a1, b1, p1, q1, y1, z1, v1, ec, up, dn⟩) (c0' : heavy g = false) (c1 : ¬ 4096 < s.size)
    (hm : ¬ MayS g) (he : errP (L s) ≠ 0) :
    Calls Try.prog 3 #[SGV g A n c, .string s, SHV a1 p1 b1 q1 y1 z1 v1 ec up dn] w fun e_ w' => e_ = .returned (.bool true) ∧ Up w w' := by
  have HG := Lib.hid hg
  have c2 : ¬ (4096 : Int) < (s.size : Int) := by omega
  have hh : g.dt.length ≤ 4096 ∧ g.op.bl.length ≤ 100 := by have := c0'; unfold heavy at this; simp at this; omega
  have gg := HG.out.good hh.1 hh.2
  have H1 := Lib.hid (fun w (h : SegV w (SGV g A n c) g) => encV w h gg)
  obtain ⟨t0_, ht0⟩ : ∃ t, tS ⟨a1, b1, p1, q1, y1, z1, v1, ec, up, dn⟩ g = t := ⟨_, rfl⟩
  rw [EVP_no hm] at H1
  have HR : Hid (∀ w, Calls Try.prog 10 #[.string s, SHV a1 p1 b1 q1 y1 z1 v1 ec up dn] w fun e_ w' => e_ = .returned (.tuple #[.string ByteArray.empty, .int .i64 (errP (L s) : Nat)]) ∧ Up w w') := fun w => by
    have := rewriteC s a1 p1 b1 q1 y1 z1 v1 ec up dn w (by omega) hX
    have e : RWV (L s) ⟨a1, b1, p1, q1, y1, z1, v1, ec, up, dn⟩ = .tuple #[.string ByteArray.empty, .int .i64 (errP (L s) : Nat)] := if_neg he
    rw [e] at this
    exact this
  have HD : Hid (∀ w, Calls Try.prog 9 #[.string s] w fun e_ w' => ∃ x, e_ = .returned (.tuple #[x, .int .i64 (errP (L s) : Nat)]) ∧ SegV w' x zeroS ∧ Up w w') := fun w => by
    have := decodeC s w (by omega)
    rw [decP_bad he] at this
    exact this
  generalize errP (L s) = E at *
  have hE : ¬ (E : Int) = 0 := by omega
  generalize zeroS = q at *
  clear hg hX hm he hh hz
  go_enter Try.func3, Try.ntmps3
  go_upto_region 1 with fail
  have hA_1 := (Box.new w #[.int .u32 g.sa, .int .u16 g.sp, .int .u32 g.da, .int .u16 g.dp, .int .u32 g.sq, .int .u32 g.ak, .int .u8 g.fl, .int .u16 g.wi, .int .u16 g.op.mss, .int .i64 g.op.sc, .bool g.op.sk, .slice A n c, .bool g.op.tm, .int .u32 g.op.va, .int .u32 g.op.ec, .string (tx g.dt)] 30).alloc (.cells #[.int .u32 a1, .int .u16 p1, .int .u32 b1, .int .u16 q1, .int .u32 y1, .int .u32 z1, .int .u32 v1, .int .u32 ec, .int .i64 up, .int .i64 dn] 32)
  have hX_2 := Box.new (w.alloc (.cells #[.int .u32 g.sa, .int .u16 g.sp, .int .u32 g.da, .int .u16 g.dp, .int .u32 g.sq, .int .u32 g.ak, .int .u8 g.fl, .int .u16 g.wi, .int .u16 g.op.mss, .int .i64 g.op.sc, .bool g.op.sk, .slice A n c, .bool g.op.tm, .int .u32 g.op.va, .int .u32 g.op.ec, .string (tx g.dt)] 30)) #[.int .u32 a1, .int .u16 p1, .int .u32 b1, .int .u16 q1, .int .u32 y1, .int .u32 z1, .int .u32 v1, .int .u32 ec, .int .i64 up, .int .i64 dn] 32
  rw [show (w.alloc (.cells #[.int .u32 g.sa, .int .u16 g.sp, .int .u32 g.da, .int .u16 g.dp, .int .u32 g.sq, .int .u32 g.ak, .int .u8 g.fl, .int .u16 g.wi, .int .u16 g.op.mss, .int .i64 g.op.sc, .bool g.op.sk, .slice A n c, .bool g.op.tm, .int .u32 g.op.va, .int .u32 g.op.ec, .string (tx g.dt)] 30)).heap.size = w.heap.size + 1 by simp] at hX_2
  have hv2 : Up w ((w.alloc (.cells #[.int .u32 g.sa, .int .u16 g.sp, .int .u32 g.da, .int .u16 g.dp, .int .u32 g.sq, .int .u32 g.ak, .int .u8 g.fl, .int .u16 g.wi, .int .u16 g.op.mss, .int .i64 g.op.sc, .bool g.op.sk, .slice A n c, .bool g.op.tm, .int .u32 g.op.va, .int .u32 g.op.ec, .string (tx g.dt)] 30)).alloc (.cells #[.int .u32 a1, .int .u16 p1, .int .u32 b1, .int .u16 q1, .int .u32 y1, .int .u32 z1, .int .u32 v1, .int .u32 ec, .int .i64 up, .int .i64 dn] 32)) := (up_al _ (up_al _ (Below.refl _ _)))
  generalize ((w.alloc (.cells #[.int .u32 g.sa, .int .u16 g.sp, .int .u32 g.da, .int .u16 g.dp, .int .u32 g.sq, .int .u32 g.ak, .int .u8 g.fl, .int .u16 g.wi, .int .u16 g.op.mss, .int .i64 g.op.sc, .bool g.op.sk, .slice A n c, .bool g.op.tm, .int .u32 g.op.va, .int .u32 g.op.ec, .string (tx g.dt)] 30)).alloc (.cells #[.int .u32 a1, .int .u16 p1, .int .u32 b1, .int .u16 q1, .int .u32 y1, .int .u32 z1, .int .u32 v1, .int .u32 ec, .int .i64 up, .int .i64 dn] 32)) = w2 at hA_1 hX_2 hv2 ⊢
  generalize w.heap.size = n0 at hA_1 hX_2 ⊢
  have hu2 := hv2
  clear hv2
  have k0 := hA_1.at 0 rfl; have k1 := hA_1.at 1 rfl; have k2 := hA_1.at 2 rfl; have k3 := hA_1.at 3 rfl; have k4 := hA_1.at 4 rfl; have k5 := hA_1.at 5 rfl; have k6 := hA_1.at 6 rfl; have k7 := hA_1.at 7 rfl; have k8 := hA_1.at 8 rfl; have k9 := hA_1.at 9 rfl; have k10 := hA_1.at 10 rfl; have k11 := hA_1.at 11 rfl; have k12 := hA_1.at 12 rfl; have k13 := hA_1.at 13 rfl; have k14 := hA_1.at 14 rfl; have k15 := hA_1.at 15 rfl; have l0 := hX_2.at 0 rfl; have l1 := hX_2.at 1 rfl; have l2 := hX_2.at 2 rfl; have l3 := hX_2.at 3 rfl; have l4 := hX_2.at 4 rfl; have l5 := hX_2.at 5 rfl; have l6 := hX_2.at 6 rfl; have l7 := hX_2.at 7 rfl; have l8 := hX_2.at 8 rfl; have l9 := hX_2.at 9 rfl
  go_wp2_with fail
  refine (heavyV w2 ((HG.out.up hu2).seg c)).mono ?_
  rintro e_ w3 ⟨rfl, hv3⟩
  (try generalize (Value.agg #[.int .u32 g.sa, .int .u16 g.sp, .int .u32 g.da, .int .u16 g.dp, .int .u32 g.sq, .int .u32 g.ak, .int .u8 g.fl, .int .u16 g.wi, .int .u16 g.op.mss, .int .i64 g.op.sc, .bool g.op.sk, .slice A n c, .bool g.op.tm, .int .u32 g.op.va, .int .u32 g.op.ec, .string (tx g.dt)]) = XV3_0)
  (try generalize (Value.agg #[.int .u32 a1, .int .u16 p1, .int .u32 b1, .int .u16 q1, .int .u32 y1, .int .u32 z1, .int .u32 v1, .int .u32 ec, .int .i64 up, .int .i64 dn]) = XV3_1)
  (try generalize (Value.agg #[.int .u32 g.sa, .int .u16 g.sp, .int .u32 g.da, .int .u16 g.dp, .int .u32 g.sq, .int .u32 g.ak, .int .u8 g.fl, .int .u16 g.wi, .int .u16 g.op.mss, .int .i64 g.op.sc, .bool g.op.sk, .slice A1 n1 c1, .bool g.op.tm, .int .u32 g.op.va, .int .u32 g.op.ec, .string (tx g.dt)]) = XV3_2)
  (try generalize (Value.agg #[.int .u32 q.sa, .int .u16 q.sp, .int .u32 q.da, .int .u16 q.dp, .int .u32 q.sq, .int .u32 q.ak, .int .u8 q.fl, .int .u16 q.wi, .int .u16 q.op.mss, .int .i64 q.op.sc, .bool q.op.sk, .slice A2 n2 c2, .bool q.op.tm, .int .u32 q.op.va, .int .u32 q.op.ec, .string (tx q.dt)]) = XV3_3)
  (try generalize (Value.agg #[.int .u32 t.sa, .int .u16 t.sp, .int .u32 t.da, .int .u16 t.dp, .int .u32 t.sq, .int .u32 t.ak, .int .u8 t.fl, .int .u16 t.wi, .int .u16 t.op.mss, .int .i64 t.op.sc, .bool t.op.sk, .slice A3 n3 c3, .bool t.op.tm, .int .u32 t.op.va, .int .u32 t.op.ec, .string (tx t.dt)]) = XV3_4)
  rw [c0']
  clear k0 k1 k2 k3 k4 k5 k6 k7 k8 k9 k10 k11 k12 k13 k14 k15 l0 l1 l2 l3 l4 l5 l6 l7 l8 l9
  have hu3 := hu2.on hv3
  have hA_3 := hA_1.up hv3
  have hX_3 := hX_2.up hv3
  clear hA_1 hX_2 hu2 hv3
  have k0 := hA_3.at 0 rfl; have k1 := hA_3.at 1 rfl; have k2 := hA_3.at 2 rfl; have k3 := hA_3.at 3 rfl; have k4 := hA_3.at 4 rfl; have k5 := hA_3.at 5 rfl; have k6 := hA_3.at 6 rfl; have k7 := hA_3.at 7 rfl; have k8 := hA_3.at 8 rfl; have k9 := hA_3.at 9 rfl; have k10 := hA_3.at 10 rfl; have k11 := hA_3.at 11 rfl; have k12 := hA_3.at 12 rfl; have k13 := hA_3.at 13 rfl; have k14 := hA_3.at 14 rfl; have k15 := hA_3.at 15 rfl
  go_wp2_with fail
  refine (H1.out w3 ((HG.out.up hu3).seg c)).mono ?_
  rintro e_ w4 ⟨rfl, hv4⟩
  (try generalize (Value.agg #[.int .u32 g.sa, .int .u16 g.sp, .int .u32 g.da, .int .u16 g.dp, .int .u32 g.sq, .int .u32 g.ak, .int .u8 g.fl, .int .u16 g.wi, .int .u16 g.op.mss, .int .i64 g.op.sc, .bool g.op.sk, .slice A n c, .bool g.op.tm, .int .u32 g.op.va, .int .u32 g.op.ec, .string (tx g.dt)]) = XV4_0)
  (try generalize (Value.agg #[.int .u32 a1, .int .u16 p1, .int .u32 b1, .int .u16 q1, .int .u32 y1, .int .u32 z1, .int .u32 v1, .int .u32 ec, .int .i64 up, .int .i64 dn]) = XV4_1)
  (try generalize (Value.agg #[.int .u32 g.sa, .int .u16 g.sp, .int .u32 g.da, .int .u16 g.dp, .int .u32 g.sq, .int .u32 g.ak, .int .u8 g.fl, .int .u16 g.wi, .int .u16 g.op.mss, .int .i64 g.op.sc, .bool g.op.sk, .slice A1 n1 c1, .bool g.op.tm, .int .u32 g.op.va, .int .u32 g.op.ec, .string (tx g.dt)]) = XV4_2)
  (try generalize (Value.agg #[.int .u32 q.sa, .int .u16 q.sp, .int .u32 q.da, .int .u16 q.dp, .int .u32 q.sq, .int .u32 q.ak, .int .u8 q.fl, .int .u16 q.wi, .int .u16 q.op.mss, .int .i64 q.op.sc, .bool q.op.sk, .slice A2 n2 c2, .bool q.op.tm, .int .u32 q.op.va, .int .u32 q.op.ec, .string (tx q.dt)]) = XV4_3)
  (try generalize (Value.agg #[.int .u32 t.sa, .int .u16 t.sp, .int .u32 t.da, .int .u16 t.dp, .int .u32 t.sq, .int .u32 t.ak, .int .u8 t.fl, .int .u16 t.wi, .int .u16 t.op.mss, .int .i64 t.op.sc, .bool t.op.sk, .slice A3 n3 c3, .bool t.op.tm, .int .u32 t.op.va, .int .u32 t.op.ec, .string (tx t.dt)]) = XV4_4)
  clear k0 k1 k2 k3 k4 k5 k6 k7 k8 k9 k10 k11 k12 k13 k14 k15
  have hu4 := hu3.on hv4
  have hA_4 := hA_3.up hv4
  have hX_4 := hX_3.up hv4
  clear hA_3 hX_3 hu3 hv4
  go_wp2_with fail
  refine (HD.out w4).mono ?_
  rintro e_ w5 ⟨x2, rfl, ⟨A2, n2, c2, rfl, hl2, hr2⟩, hv5⟩
  (try generalize (Value.agg #[.int .u32 g.sa, .int .u16 g.sp, .int .u32 g.da, .int .u16 g.dp, .int .u32 g.sq, .int .u32 g.ak, .int .u8 g.fl, .int .u16 g.wi, .int .u16 g.op.mss, .int .i64 g.op.sc, .bool g.op.sk, .slice A n c, .bool g.op.tm, .int .u32 g.op.va, .int .u32 g.op.ec, .string (tx g.dt)]) = XV5_0)
  (try generalize (Value.agg #[.int .u32 a1, .int .u16 p1, .int .u32 b1, .int .u16 q1, .int .u32 y1, .int .u32 z1, .int .u32 v1, .int .u32 ec, .int .i64 up, .int .i64 dn]) = XV5_1)
  (try generalize (Value.agg #[.int .u32 g.sa, .int .u16 g.sp, .int .u32 g.da, .int .u16 g.dp, .int .u32 g.sq, .int .u32 g.ak, .int .u8 g.fl, .int .u16 g.wi, .int .u16 g.op.mss, .int .i64 g.op.sc, .bool g.op.sk, .slice A1 n1 c1, .bool g.op.tm, .int .u32 g.op.va, .int .u32 g.op.ec, .string (tx g.dt)]) = XV5_2)
  (try generalize (Value.agg #[.int .u32 q.sa, .int .u16 q.sp, .int .u32 q.da, .int .u16 q.dp, .int .u32 q.sq, .int .u32 q.ak, .int .u8 q.fl, .int .u16 q.wi, .int .u16 q.op.mss, .int .i64 q.op.sc, .bool q.op.sk, .slice A2 n2 c2, .bool q.op.tm, .int .u32 q.op.va, .int .u32 q.op.ec, .string (tx q.dt)]) = XV5_3)
  (try generalize (Value.agg #[.int .u32 t.sa, .int .u16 t.sp, .int .u32 t.da, .int .u16 t.dp, .int .u32 t.sq, .int .u32 t.ak, .int .u8 t.fl, .int .u16 t.wi, .int .u16 t.op.mss, .int .i64 t.op.sc, .bool t.op.sk, .slice A3 n3 c3, .bool t.op.tm, .int .u32 t.op.va, .int .u32 t.op.ec, .string (tx t.dt)]) = XV5_4)
  go_upto_region 11 with fail
  have hu5 := hu4.on hv5
  have hA_5 := hA_4.up hv5
  have hX_5 := hX_4.up hv5
  clear hA_4 hX_4 hu4 hv5
  have hD_6 := Box.new w5 #[.int .u32 q.sa, .int .u16 q.sp, .int .u32 q.da, .int .u16 q.dp, .int .u32 q.sq, .int .u32 q.ak, .int .u8 q.fl, .int .u16 q.wi, .int .u16 q.op.mss, .int .i64 q.op.sc, .bool q.op.sk, .slice A2 n2 c2, .bool q.op.tm, .int .u32 q.op.va, .int .u32 q.op.ec, .string (tx q.dt)] 30
  have hv6 : Up w5 (w5.alloc (.cells #[.int .u32 q.sa, .int .u16 q.sp, .int .u32 q.da, .int .u16 q.dp, .int .u32 q.sq, .int .u32 q.ak, .int .u8 q.fl, .int .u16 q.wi, .int .u16 q.op.mss, .int .i64 q.op.sc, .bool q.op.sk, .slice A2 n2 c2, .bool q.op.tm, .int .u32 q.op.va, .int .u32 q.op.ec, .string (tx q.dt)] 30)) := up_al _ (Below.refl _ _)
  generalize (w5.alloc (.cells #[.int .u32 q.sa, .int .u16 q.sp, .int .u32 q.da, .int .u16 q.dp, .int .u32 q.sq, .int .u32 q.ak, .int .u8 q.fl, .int .u16 q.wi, .int .u16 q.op.mss, .int .i64 q.op.sc, .bool q.op.sk, .slice A2 n2 c2, .bool q.op.tm, .int .u32 q.op.va, .int .u32 q.op.ec, .string (tx q.dt)] 30)) = w6 at hD_6 hv6 ⊢
  generalize w5.heap.size = bD at hD_6 ⊢
  have hu6 := hu5.on hv6
  have hA_6 := hA_5.up hv6
  have hX_6 := hX_5.up hv6
  have hr2_6 := hr2.up hv6
  clear hA_5 hX_5 hr2 hu5 hv6
  have k0 := hX_6.at 0 rfl; have k1 := hX_6.at 1 rfl; have k2 := hX_6.at 2 rfl; have k3 := hX_6.at 3 rfl; have k4 := hX_6.at 4 rfl; have k5 := hX_6.at 5 rfl; have k6 := hX_6.at 6 rfl; have k7 := hX_6.at 7 rfl; have k8 := hX_6.at 8 rfl; have k9 := hX_6.at 9 rfl
  go_wp2_with fail
  refine (HR.out w6).mono ?_
  rintro e_ w7 ⟨rfl, hv7⟩
  (try generalize (Value.agg #[.int .u32 g.sa, .int .u16 g.sp, .int .u32 g.da, .int .u16 g.dp, .int .u32 g.sq, .int .u32 g.ak, .int .u8 g.fl, .int .u16 g.wi, .int .u16 g.op.mss, .int .i64 g.op.sc, .bool g.op.sk, .slice A n c, .bool g.op.tm, .int .u32 g.op.va, .int .u32 g.op.ec, .string (tx g.dt)]) = XV7_0)
  (try generalize (Value.agg #[.int .u32 a1, .int .u16 p1, .int .u32 b1, .int .u16 q1, .int .u32 y1, .int .u32 z1, .int .u32 v1, .int .u32 ec, .int .i64 up, .int .i64 dn]) = XV7_1)
  (try generalize (Value.agg #[.int .u32 g.sa, .int .u16 g.sp, .int .u32 g.da, .int .u16 g.dp, .int .u32 g.sq, .int .u32 g.ak, .int .u8 g.fl, .int .u16 g.wi, .int .u16 g.op.mss, .int .i64 g.op.sc, .bool g.op.sk, .slice A1 n1 c1, .bool g.op.tm, .int .u32 g.op.va, .int .u32 g.op.ec, .string (tx g.dt)]) = XV7_2)
  (try generalize (Value.agg #[.int .u32 q.sa, .int .u16 q.sp, .int .u32 q.da, .int .u16 q.dp, .int .u32 q.sq, .int .u32 q.ak, .int .u8 q.fl, .int .u16 q.wi, .int .u16 q.op.mss, .int .i64 q.op.sc, .bool q.op.sk, .slice A2 n2 c2, .bool q.op.tm, .int .u32 q.op.va, .int .u32 q.op.ec, .string (tx q.dt)]) = XV7_3)
  (try generalize (Value.agg #[.int .u32 t.sa, .int .u16 t.sp, .int .u32 t.da, .int .u16 t.dp, .int .u32 t.sq, .int .u32 t.ak, .int .u8 t.fl, .int .u16 t.wi, .int .u16 t.op.mss, .int .i64 t.op.sc, .bool t.op.sk, .slice A3 n3 c3, .bool t.op.tm, .int .u32 t.op.va, .int .u32 t.op.ec, .string (tx t.dt)]) = XV7_4)
  clear k0 k1 k2 k3 k4 k5 k6 k7 k8 k9
  have hu7 := hu6.on hv7
  have hA_7 := hA_6.up hv7
  have hX_7 := hX_6.up hv7
  have hD_7 := hD_6.up hv7
  have hr2_7 := hr2_6.up hv7
  clear hA_6 hX_6 hD_6 hr2_6 hu6 hv7
  go_wp2_with fail
  refine (aliveC w7).mono ?_
  rintro e_ w8 ⟨rfl, hv8⟩
  (try generalize (Value.agg #[.int .u32 g.sa, .int .u16 g.sp, .int .u32 g.da, .int .u16 g.dp, .int .u32 g.sq, .int .u32 g.ak, .int .u8 g.fl, .int .u16 g.wi, .int .u16 g.op.mss, .int .i64 g.op.sc, .bool g.op.sk, .slice A n c, .bool g.op.tm, .int .u32 g.op.va, .int .u32 g.op.ec, .string (tx g.dt)]) = XV8_0)
  (try generalize (Value.agg #[.int .u32 a1, .int .u16 p1, .int .u32 b1, .int .u16 q1, .int .u32 y1, .int .u32 z1, .int .u32 v1, .int .u32 ec, .int .i64 up, .int .i64 dn]) = XV8_1)
  (try generalize (Value.agg #[.int .u32 g.sa, .int .u16 g.sp, .int .u32 g.da, .int .u16 g.dp, .int .u32 g.sq, .int .u32 g.ak, .int .u8 g.fl, .int .u16 g.wi, .int .u16 g.op.mss, .int .i64 g.op.sc, .bool g.op.sk, .slice A1 n1 c1, .bool g.op.tm, .int .u32 g.op.va, .int .u32 g.op.ec, .string (tx g.dt)]) = XV8_2)
  (try generalize (Value.agg #[.int .u32 q.sa, .int .u16 q.sp, .int .u32 q.da, .int .u16 q.dp, .int .u32 q.sq, .int .u32 q.ak, .int .u8 q.fl, .int .u16 q.wi, .int .u16 q.op.mss, .int .i64 q.op.sc, .bool q.op.sk, .slice A2 n2 c2, .bool q.op.tm, .int .u32 q.op.va, .int .u32 q.op.ec, .string (tx q.dt)]) = XV8_3)
  (try generalize (Value.agg #[.int .u32 t.sa, .int .u16 t.sp, .int .u32 t.da, .int .u16 t.dp, .int .u32 t.sq, .int .u32 t.ak, .int .u8 t.fl, .int .u16 t.wi, .int .u16 t.op.mss, .int .i64 t.op.sc, .bool t.op.sk, .slice A3 n3 c3, .bool t.op.tm, .int .u32 t.op.va, .int .u32 t.op.ec, .string (tx t.dt)]) = XV8_4)
  have hu8 := hu7.on hv8
  have hA_8 := hA_7.up hv8
  have hX_8 := hX_7.up hv8
  have hD_8 := hD_7.up hv8
  have hr2_8 := hr2_7.up hv8
  clear hA_7 hX_7 hD_7 hr2_7 hu7 hv8
  go_wp2
  go_ret
  exact ⟨rfl, hu8⟩
end Go.Proofs.Ytafckmbgefbonaa.pk
