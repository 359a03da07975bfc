/- R: contracts, part 1. Condition: as each says. -/
import Derived.Test.YtafckmbgefbonaaGreatVTR6
import Derived.Test.YtafckmbgefbonaaGreatVTRW37
set_option linter.unusedVariables false
set_option linter.unusedSimpArgs false
set_option maxRecDepth 100000
set_option maxHeartbeats 8000000
namespace Go.Proofs.YtafckmbgefbonaaGreat.pk
open RowKit Shelf Lib sm nb pm

theorem lawReads (s : ByteArray) (w : World) (hz : s.size ≤ maxLen) : Calls Tryz.prog 4 #[.string s] w fun e_ w' => e_ = .returned (.bool true) ∧ Up w w' := by
 by_cases c0 : 4096 < s.size
 ·have c1 : (4096 : Int) < (s.size : Int) := by omega
  go_enter Tryz.func4, Tryz.ntmps4
  go_wp2_with fail
  refine (aliveC _).mono ?_
  rintro e_ w1 ⟨rfl, hu⟩
  go_wp2
  go_ret
  exact ⟨rfl, hu⟩
 ·have c1 : ¬ (4096 : Int) < (s.size : Int) := by omega
  have HD := Lib.hid (fun w => decodeC s w (by omega))
  have HR := Lib.hid (fun w => refDecode s w (by omega))
  have hgd := good_dec (L s) (by rw [L_len]; omega)
  generalize decP (L s) = g at HD HR hgd
  generalize errP (L s) = N at HD HR
  have hu0 : Up w w := Below.refl _ _
  go_enter Tryz.func4, Tryz.ntmps4
  go_wp2_with fail
  refine (HD.out w).mono ?_
  rintro e_ w1 ⟨x1, rfl, ⟨A1, n1, c1, rfl, hl1, hr1⟩, hv1⟩
  go_upto_region 4 with fail
  have hu1 := hu0.on hv1
  clear hu0 hv1
  have hA_2 := Box.new w1 #[.int .u32 g.sa, .int .u16 g.sp, .int .u32 g.da, .int .u16 g.dp, .int .u32 g.sq, .int .u32 g.ak, .int .u8 g.fl, .int .u16 g.wi, .int .u16 g.op.mss, .int .i64 g.op.sc, .bool g.op.sk, .slice A1 n1 c1, .bool g.op.tm, .int .u32 g.op.va, .int .u32 g.op.ec, .string (tx g.dt)] 30
  have hv2 : Up w1 (w1.alloc (.cells #[.int .u32 g.sa, .int .u16 g.sp, .int .u32 g.da, .int .u16 g.dp, .int .u32 g.sq, .int .u32 g.ak, .int .u8 g.fl, .int .u16 g.wi, .int .u16 g.op.mss, .int .i64 g.op.sc, .bool g.op.sk, .slice A1 n1 c1, .bool g.op.tm, .int .u32 g.op.va, .int .u32 g.op.ec, .string (tx g.dt)] 30)) := up_al _ bR
  generalize World.alloc w1 _ = w2 at hA_2 hv2 ⊢
  generalize w1.heap.size = bA at hA_2 ⊢
  have hu2 := hu1.on hv2
  have hr1_2 := hr1.up hv2
  clear hr1 hu1 hv2
  go_wp2_with fail
  refine (HR.out w2).mono ?_
  rintro e_ w3 ⟨x2, rfl, ⟨A2, n2, c2, rfl, hl2, hr2⟩, hv3⟩
  go_upto_region 5 with fail
  have hu3 := hu2.on hv3
  have hA_3 := hA_2.up hv3
  have hr1_3 := hr1_2.up hv3
  clear hA_2 hr1_2 hu2 hv3
  have hB_4 := Box.new w3 #[.int .u32 g.sa, .int .u16 g.sp, .int .u32 g.da, .int .u16 g.dp, .int .u32 g.sq, .int .u32 g.ak, .int .u8 g.fl, .int .u16 g.wi, .int .u16 g.op.mss, .int .i64 g.op.sc, .bool g.op.sk, .slice A2 n2 c2, .bool g.op.tm, .int .u32 g.op.va, .int .u32 g.op.ec, .string (tx g.dt)] 30
  have hv4 : Up w3 (w3.alloc (.cells #[.int .u32 g.sa, .int .u16 g.sp, .int .u32 g.da, .int .u16 g.dp, .int .u32 g.sq, .int .u32 g.ak, .int .u8 g.fl, .int .u16 g.wi, .int .u16 g.op.mss, .int .i64 g.op.sc, .bool g.op.sk, .slice A2 n2 c2, .bool g.op.tm, .int .u32 g.op.va, .int .u32 g.op.ec, .string (tx g.dt)] 30)) := up_al _ bR
  generalize World.alloc w3 _ = w4 at hB_4 hv4 ⊢
  generalize w3.heap.size = bB at hB_4 ⊢
  have hu4 := hu3.on hv4
  have hA_4 := hA_3.up hv4
  have hr1_4 := hr1_3.up hv4
  have hr2_4 := hr2.up hv4
  clear hA_3 hr1_3 hr2 hu3 hv4
  obtain ⟨k0, k1, k2, k3, k4, k5, k6, k7, k8, k9, k10, k11, k12, k13, k14, k15⟩ := bx16 hA_4; obtain ⟨l0, l1, l2, l3, l4, l5, l6, l7, l8, l9, l10, l11, l12, l13, l14, l15⟩ := bx16 hB_4
  go_wp2_with fail
  refine (refSameV w4 ⟨A1, n1, c1, rfl, hl1, hr1_4⟩ ⟨A2, n2, c2, rfl, hl2, hr2_4⟩ (by have := hgd.2.2.1; unfold maxLen; omega)).mono ?_
  rintro e_ w5 ⟨rfl, hv5⟩
  rw [sameS_t rfl]
  clear k0 k1 k2 k3 k4 k5 k6 k7 k8 k9 k10 k11 k12 k13 k14 k15 l0 l1 l2 l3 l4 l5 l6 l7 l8 l9 l10 l11 l12 l13 l14 l15
  have hu5 := hu4.on hv5
  have hA_5 := hA_4.up hv5
  have hB_5 := hB_4.up hv5
  have hr1_5 := hr1_4.up hv5
  have hr2_5 := hr2_4.up hv5
  clear hA_4 hB_4 hr1_4 hr2_4 hu4 hv5
  go_wp2_with fail
  refine (aliveC w5).mono ?_
  rintro e_ w6 ⟨rfl, hv6⟩
  have hu6 := hu5.on hv6
  have hA_6 := hA_5.up hv6
  have hB_6 := hB_5.up hv6
  have hr1_6 := hr1_5.up hv6
  have hr2_6 := hr2_5.up hv6
  clear hA_5 hB_5 hr1_5 hr2_5 hu5 hv6
  go_wp2
  go_ret
  exact ⟨rfl, hu6⟩
end Go.Proofs.YtafckmbgefbonaaGreat.pk
