/- W: contracts, part 6. Condition: as each says. -/
import Derived.Test.YtafckmbgefbonaaGreatVTW1
import Derived.Test.YtafckmbgefbonaaGreatVTW3
import Derived.Test.YtafckmbgefbonaaGreatVW5
import Derived.Test.YtafckmbgefbonaaGreatVTW4
import Derived.Test.YtafckmbgefbonaaGreatVTRW37
set_option linter.unusedVariables false
set_option linter.unusedSimpArgs false
set_option maxRecDepth 100000
set_option maxHeartbeats 8000000
namespace Go.Proofs.YtafckmbgefbonaaGreat.pk
open RowKit Shelf Lib sm nb pm

theorem refMayV {x : Value} {g : Sg} (w : World) (h : SegV w x g) (hg : GoodS g) : Calls Tryz.prog 11 #[x] w fun e_ w' => e_ = .returned (.bool (maysb g)) ∧ Up w w' := by
 obtain ⟨A, n, c, rfl, hn, hr⟩ := h
 obtain ⟨a, b, p, q, y, z, f, i, ⟨m, s, k, bl, t, v, e⟩, D⟩ := g
 exact refMay a p b q y z f i m s k A n c t v e D bl w hg hn hr
theorem refEncV {x : Value} {g : Sg} (w : World) (h : SegV w x g) (hg : GoodS g) : Calls Tryz.prog 9 #[x] w fun e_ w' => e_ = .returned (EVP g) ∧ Up w w' := by
 obtain ⟨A, n, c, rfl, hn, hr⟩ := h
 obtain ⟨a, b, p, q, y, z, f, i, ⟨m, s, k, bl, t, v, e⟩, D⟩ := g
 exact refEncode a p b q y z f i m s k A n c t v e D bl w hg hn hr
theorem refNextV {x : Value} {g : Sg} (w : World) (h : SegV w x g) (hg : GoodS g) : Calls Tryz.prog 15 #[x] w fun e_ w' => e_ = .returned (.int .u32 (next g : Nat)) ∧ Up w w' := by
 obtain ⟨A, n, c, rfl, hn, hr⟩ := h
 obtain ⟨a, b, p, q, y, z, f, i, ⟨m, s, k, bl, t, v, e⟩, D⟩ := g
 have := refNext a p b q y z f i m s k A n c t v e (tx D) w hg.1.2.2.2.2.1 hg.1.2.2.2.2.2.2.1 (by rw [tx_size]; exact hg.2.2.2)
 rw [tx_size] at this
 exact this
theorem EVP_some (g : Sg) : ∃ (S : ByteArray) (n : Int), EVP g = .tuple #[.string S, .int .i64 n] := by
 by_cases h : MayS g
 ·exact ⟨_, _, EVP_ok h⟩
 ·exact ⟨_, _, EVP_no h⟩
end Go.Proofs.YtafckmbgefbonaaGreat.pk

namespace Go.Proofs.YtafckmbgefbonaaGreat.pk
open RowKit Shelf Lib sm nb pm

theorem lawWrites (g : Sg) (A : Option Addr) (n c : Nat) (h : Sg) (A2 : Option Addr) (n2 c2 : Nat) (w : World) (hg : SegX w g A n) (hh : SegX w h A2 n2) :
  Calls Tryz.prog 3 #[SGV g A n c, SGV h A2 n2 c2] w fun e_ w' => e_ = .returned (.bool true) ∧ Up w w' := by
 have HG := Lib.hid hg
 have HH := Lib.hid hh
 clear hg hh
 go_enter Tryz.func3, Tryz.ntmps3
 go_upto_region 1 with fail
 have hA_1 := (Box.new w #[.int .u32 g.sa, .int .u16 g.sp, .int .u32 g.da, .int .u16 g.dp, .int .u32 g.sq, .int .u32 g.ak, .int .u8 g.fl, .int .u16 g.wi, .int .u16 g.op.mss, .int .i64 g.op.sc, .bool g.op.sk, .slice A n c, .bool g.op.tm, .int .u32 g.op.va, .int .u32 g.op.ec, .string (tx g.dt)] 30).alloc (.cells #[.int .u32 h.sa, .int .u16 h.sp, .int .u32 h.da, .int .u16 h.dp, .int .u32 h.sq, .int .u32 h.ak, .int .u8 h.fl, .int .u16 h.wi, .int .u16 h.op.mss, .int .i64 h.op.sc, .bool h.op.sk, .slice A2 n2 c2, .bool h.op.tm, .int .u32 h.op.va, .int .u32 h.op.ec, .string (tx h.dt)] 30)
 have hB_2 := Box.new (w.alloc (.cells #[.int .u32 g.sa, .int .u16 g.sp, .int .u32 g.da, .int .u16 g.dp, .int .u32 g.sq, .int .u32 g.ak, .int .u8 g.fl, .int .u16 g.wi, .int .u16 g.op.mss, .int .i64 g.op.sc, .bool g.op.sk, .slice A n c, .bool g.op.tm, .int .u32 g.op.va, .int .u32 g.op.ec, .string (tx g.dt)] 30)) #[.int .u32 h.sa, .int .u16 h.sp, .int .u32 h.da, .int .u16 h.dp, .int .u32 h.sq, .int .u32 h.ak, .int .u8 h.fl, .int .u16 h.wi, .int .u16 h.op.mss, .int .i64 h.op.sc, .bool h.op.sk, .slice A2 n2 c2, .bool h.op.tm, .int .u32 h.op.va, .int .u32 h.op.ec, .string (tx h.dt)] 30
 rw [show (w.alloc (.cells #[.int .u32 g.sa, .int .u16 g.sp, .int .u32 g.da, .int .u16 g.dp, .int .u32 g.sq, .int .u32 g.ak, .int .u8 g.fl, .int .u16 g.wi, .int .u16 g.op.mss, .int .i64 g.op.sc, .bool g.op.sk, .slice A n c, .bool g.op.tm, .int .u32 g.op.va, .int .u32 g.op.ec, .string (tx g.dt)] 30)).heap.size = w.heap.size + 1 by simp] at hB_2
 have hv2 : Up w ((w.alloc (.cells #[.int .u32 g.sa, .int .u16 g.sp, .int .u32 g.da, .int .u16 g.dp, .int .u32 g.sq, .int .u32 g.ak, .int .u8 g.fl, .int .u16 g.wi, .int .u16 g.op.mss, .int .i64 g.op.sc, .bool g.op.sk, .slice A n c, .bool g.op.tm, .int .u32 g.op.va, .int .u32 g.op.ec, .string (tx g.dt)] 30)).alloc (.cells #[.int .u32 h.sa, .int .u16 h.sp, .int .u32 h.da, .int .u16 h.dp, .int .u32 h.sq, .int .u32 h.ak, .int .u8 h.fl, .int .u16 h.wi, .int .u16 h.op.mss, .int .i64 h.op.sc, .bool h.op.sk, .slice A2 n2 c2, .bool h.op.tm, .int .u32 h.op.va, .int .u32 h.op.ec, .string (tx h.dt)] 30)) := (up_al _ (up_al _ bR))
 generalize ((w.alloc (.cells #[.int .u32 g.sa, .int .u16 g.sp, .int .u32 g.da, .int .u16 g.dp, .int .u32 g.sq, .int .u32 g.ak, .int .u8 g.fl, .int .u16 g.wi, .int .u16 g.op.mss, .int .i64 g.op.sc, .bool g.op.sk, .slice A n c, .bool g.op.tm, .int .u32 g.op.va, .int .u32 g.op.ec, .string (tx g.dt)] 30)).alloc (.cells #[.int .u32 h.sa, .int .u16 h.sp, .int .u32 h.da, .int .u16 h.dp, .int .u32 h.sq, .int .u32 h.ak, .int .u8 h.fl, .int .u16 h.wi, .int .u16 h.op.mss, .int .i64 h.op.sc, .bool h.op.sk, .slice A2 n2 c2, .bool h.op.tm, .int .u32 h.op.va, .int .u32 h.op.ec, .string (tx h.dt)] 30)) = w2 at hA_1 hB_2 hv2 ⊢
 generalize w.heap.size = n0 at hA_1 hB_2 ⊢
 have hu2 := hv2
 clear hv2
 obtain ⟨k0, k1, k2, k3, k4, k5, k6, k7, k8, k9, k10, k11, k12, k13, k14, k15⟩ := bx16 hA_1; obtain ⟨l0, l1, l2, l3, l4, l5, l6, l7, l8, l9, l10, l11, l12, l13, l14, l15⟩ := bx16 hB_2
 go_wp2_with fail
 refine (heavyV w2 ((HG.out.up hu2).seg c)).mono ?_
 rintro e_ w3 ⟨rfl, hv3⟩
 clear k0 k1 k2 k3 k4 k5 k6 k7 k8 k9 k10 k11 k12 k13 k14 k15 l0 l1 l2 l3 l4 l5 l6 l7 l8 l9 l10 l11 l12 l13 l14 l15
 have hu3 := hu2.on hv3
 have hA_3 := hA_1.up hv3
 have hB_3 := hB_2.up hv3
 clear hA_1 hB_2 hu2 hv3
 by_cases c0 : heavy g = true
 ·rw [c0]
  go_wp2_with fail
  refine (aliveC w3).mono ?_
  rintro e_ w4 ⟨rfl, hv4⟩
  have hu4 := hu3.on hv4
  have hA_4 := hA_3.up hv4
  have hB_4 := hB_3.up hv4
  clear hA_3 hB_3 hu3 hv4
  go_wp2
  go_ret
  exact ⟨rfl, hu4⟩
 ·have c0' : heavy g = false := by simpa using c0
  rw [c0']
  obtain ⟨k0, k1, k2, k3, k4, k5, k6, k7, k8, k9, k10, k11, k12, k13, k14, k15⟩ := bx16 hA_3; obtain ⟨l0, l1, l2, l3, l4, l5, l6, l7, l8, l9, l10, l11, l12, l13, l14, l15⟩ := bx16 hB_3
  go_wp2_with fail
  refine (heavyV w3 ((HH.out.up hu3).seg c2)).mono ?_
  rintro e_ w4 ⟨rfl, hv4⟩
  clear k0 k1 k2 k3 k4 k5 k6 k7 k8 k9 k10 k11 k12 k13 k14 k15 l0 l1 l2 l3 l4 l5 l6 l7 l8 l9 l10 l11 l12 l13 l14 l15
  have hu4 := hu3.on hv4
  have hA_4 := hA_3.up hv4
  have hB_4 := hB_3.up hv4
  clear hA_3 hB_3 hu3 hv4
  by_cases c1 : heavy h = true
  ·rw [c1]
   go_wp2_with fail
   refine (aliveC w4).mono ?_
   rintro e_ w5 ⟨rfl, hv5⟩
   have hu5 := hu4.on hv5
   have hA_5 := hA_4.up hv5
   have hB_5 := hB_4.up hv5
   clear hA_4 hB_4 hu4 hv5
   go_wp2
   go_ret
   exact ⟨rfl, hu5⟩
  ·have c1' : heavy h = false := by simpa using c1
   rw [c1']
   have h1 : g.dt.length ≤ 4096 ∧ g.op.bl.length ≤ 100 := by unfold heavy at c0'; simp at c0'; omega
   have h2 : h.dt.length ≤ 4096 ∧ h.op.bl.length ≤ 100 := by unfold heavy at c1'; simp at c1'; omega
   have gg := HG.out.good h1.1 h1.2
   have gh := HH.out.good h2.1 h2.2
   obtain ⟨SR, NR, hRW⟩ := EVP_some g
   have H1 := Lib.hid (fun w (h : SegV w (SGV g A n c) g) => encV w h gg)
   have H2 := Lib.hid (fun w (h : SegV w (SGV g A n c) g) => refEncV w h gg)
   rw [hRW] at H1 H2
   have hgm : g.op.bl.length ≤ maxLen := by unfold maxLen; omega
   clear hRW c0 c0' c1 c1' h1 h2
   obtain ⟨k0, k1, k2, k3, k4, k5, k6, k7, k8, k9, k10, k11, k12, k13, k14, k15⟩ := bx16 hA_4
   go_wp2_with fail
   refine (H1.out w4 ((HG.out.up hu4).seg c)).mono ?_
   rintro e_ w5 ⟨rfl, hv5⟩
   clear k0 k1 k2 k3 k4 k5 k6 k7 k8 k9 k10 k11 k12 k13 k14 k15
   have hu5 := hu4.on hv5
   have hA_5 := hA_4.up hv5
   have hB_5 := hB_4.up hv5
   clear hA_4 hB_4 hu4 hv5
   obtain ⟨k0, k1, k2, k3, k4, k5, k6, k7, k8, k9, k10, k11, k12, k13, k14, k15⟩ := bx16 hA_5
   go_wp2_with fail
   refine (H2.out w5 ((HG.out.up hu5).seg c)).mono ?_
   rintro e_ w6 ⟨rfl, hv6⟩
   clear k0 k1 k2 k3 k4 k5 k6 k7 k8 k9 k10 k11 k12 k13 k14 k15
   have hu6 := hu5.on hv6
   have hA_6 := hA_5.up hv6
   have hB_6 := hB_5.up hv6
   clear hA_5 hB_5 hu5 hv6
   go_upto_region 5 with fail
   refine wp_region_rel2h (fun W => Up w6 W) (fun W W' => Up W W') (Ys [Det ((.agg #[.int .u32 g.sa, .int .u16 g.sp, .int .u32 g.da, .int .u16 g.dp, .int .u32 g.sq, .int .u32 g.ak, .int .u8 g.fl, .int .u16 g.wi, .int .u16 g.op.mss, .int .i64 g.op.sc, .bool g.op.sk, .slice A n c, .bool g.op.tm, .int .u32 g.op.va, .int .u32 g.op.ec, .string (tx g.dt)])),
  Det (.bool (maysb g)),
  Det ((.agg #[.int .u32 g.sa, .int .u16 g.sp, .int .u32 g.da, .int .u16 g.dp, .int .u32 g.sq, .int .u32 g.ak, .int .u8 g.fl, .int .u16 g.wi, .int .u16 g.op.mss, .int .i64 g.op.sc, .bool g.op.sk, .slice A n c, .bool g.op.tm, .int .u32 g.op.va, .int .u32 g.op.ec, .string (tx g.dt)])),
  Det (.bool (maysb g)),
  Det (.bool true),
  Det (.bool true),
  Det ((.agg #[.int .u32 g.sa, .int .u16 g.sp, .int .u32 g.da, .int .u16 g.dp, .int .u32 g.sq, .int .u32 g.ak, .int .u8 g.fl, .int .u16 g.wi, .int .u16 g.op.mss, .int .i64 g.op.sc, .bool g.op.sk, .slice A n c, .bool g.op.tm, .int .u32 g.op.va, .int .u32 g.op.ec, .string (tx g.dt)])),
  Det ((.agg #[.int .u32 h.sa, .int .u16 h.sp, .int .u32 h.da, .int .u16 h.dp, .int .u32 h.sq, .int .u32 h.ak, .int .u8 h.fl, .int .u16 h.wi, .int .u16 h.op.mss, .int .i64 h.op.sc, .bool h.op.sk, .slice A2 n2 c2, .bool h.op.tm, .int .u32 h.op.va, .int .u32 h.op.ec, .string (tx h.dt)])),
  Det (.bool (sameS g h)),
  Det ((.agg #[.int .u32 g.sa, .int .u16 g.sp, .int .u32 g.da, .int .u16 g.dp, .int .u32 g.sq, .int .u32 g.ak, .int .u8 g.fl, .int .u16 g.wi, .int .u16 g.op.mss, .int .i64 g.op.sc, .bool g.op.sk, .slice A n c, .bool g.op.tm, .int .u32 g.op.va, .int .u32 g.op.ec, .string (tx g.dt)])),
  Det ((.agg #[.int .u32 h.sa, .int .u16 h.sp, .int .u32 h.da, .int .u16 h.dp, .int .u32 h.sq, .int .u32 h.ak, .int .u8 h.fl, .int .u16 h.wi, .int .u16 h.op.mss, .int .i64 h.op.sc, .bool h.op.sk, .slice A2 n2 c2, .bool h.op.tm, .int .u32 h.op.va, .int .u32 h.op.ec, .string (tx h.dt)])),
  Det (.bool (sameS g h)),
  Det (.bool true),
  Det (.bool true),
  Det (.bool true),
  Det ((.agg #[.int .u32 g.sa, .int .u16 g.sp, .int .u32 g.da, .int .u16 g.dp, .int .u32 g.sq, .int .u32 g.ak, .int .u8 g.fl, .int .u16 g.wi, .int .u16 g.op.mss, .int .i64 g.op.sc, .bool g.op.sk, .slice A n c, .bool g.op.tm, .int .u32 g.op.va, .int .u32 g.op.ec, .string (tx g.dt)])),
  Det ((.agg #[.int .u32 g.sa, .int .u16 g.sp, .int .u32 g.da, .int .u16 g.dp, .int .u32 g.sq, .int .u32 g.ak, .int .u8 g.fl, .int .u16 g.wi, .int .u16 g.op.mss, .int .i64 g.op.sc, .bool g.op.sk, .slice A n c, .bool g.op.tm, .int .u32 g.op.va, .int .u32 g.op.ec, .string (tx g.dt)])),
  Det (.bool true),
  Det (.bool true),
  Det (.bool true),
  Det (.string SR),
  Det (.string SR),
  Det (.bool true),
  Det (.bool true),
  Det (.bool true),
  Det (.int .i64 NR),
  Det (.int .i64 NR),
  Det (.bool true),
  Det (.bool true),
  Det (.bool true),
  Det ((.agg #[.int .u32 g.sa, .int .u16 g.sp, .int .u32 g.da, .int .u16 g.dp, .int .u32 g.sq, .int .u32 g.ak, .int .u8 g.fl, .int .u16 g.wi, .int .u16 g.op.mss, .int .i64 g.op.sc, .bool g.op.sk, .slice A n c, .bool g.op.tm, .int .u32 g.op.va, .int .u32 g.op.ec, .string (tx g.dt)])),
  Det (.int .u32 (next g : Nat)),
  Det ((.agg #[.int .u32 g.sa, .int .u16 g.sp, .int .u32 g.da, .int .u16 g.dp, .int .u32 g.sq, .int .u32 g.ak, .int .u8 g.fl, .int .u16 g.wi, .int .u16 g.op.mss, .int .i64 g.op.sc, .bool g.op.sk, .slice A n c, .bool g.op.tm, .int .u32 g.op.va, .int .u32 g.op.ec, .string (tx g.dt)])),
  Det (.int .u32 (next g : Nat)),
  Det (.bool true),
  Det (.bool true),
  Det (.bool true),
  Det (.bool true),
  Det (.bool true),
  Det (.bool true)]) (by kernel_rfl) (by kernel_rfl) (up_dr bR) (Stable.ys ⟨Det.st _, Det.st _, Det.st _, Det.st _, Det.st _, Det.st _, Det.st _, Det.st _, Det.st _, Det.st _, Det.st _, Det.st _, Det.st _, Det.st _, Det.st _, Det.st _, Det.st _, Det.st _, Det.st _, Det.st _, Det.st _, Det.st _, Det.st _, Det.st _, Det.st _, Det.st _, Det.st _, Det.st _, Det.st _, Det.st _, Det.st _, Det.st _, Det.st _, Det.st _, Det.st _, Det.st _, Det.st _, Det.st _, Det.st _, Det.st _, trivial⟩) [(5, true), (14, true), (19, true), (24, true), (29, true), (36, true)] (by kernel_rfl) (by intro p hp v w h; simp only [List.mem_cons, List.not_mem_nil, or_false] at hp; rcases hp with rfl | rfl | rfl | rfl | rfl | rfl <;> exact h) ?_ ?_
   ·
    refine oC ?_ ?_
    ·as_aux_lemma =>
      intro aa ww hC hdep hv KK hK
      have d2 : aa.tmps.getD 2 undef = .pointer (some ⟨n0, 0, none⟩) := hv 2 (slotOk_spec (by kernel_rfl))
      have d2_ := gD d2
      clear hdep hv
      have hb := hA_6.up hC
      obtain ⟨cc0, cc1, cc2, cc3, cc4, cc5, cc6, cc7, cc8, cc9, cc10, cc11, cc12, cc13, cc14, cc15⟩ := bx16 hb
      (unfold opTo; go_simp; try simp only [opUpon])
      exact hK _ _ rfl hC bR
    refine oC ?_ ?_
    ·as_aux_lemma =>
      intro aa ww hC hdep hv KK hK
      have d26 : aa.tmps.getD 26 undef = (.agg #[.int .u32 g.sa, .int .u16 g.sp, .int .u32 g.da, .int .u16 g.dp, .int .u32 g.sq, .int .u32 g.ak, .int .u8 g.fl, .int .u16 g.wi, .int .u16 g.op.mss, .int .i64 g.op.sc, .bool g.op.sk, .slice A n c, .bool g.op.tm, .int .u32 g.op.va, .int .u32 g.op.ec, .string (tx g.dt)]) := dep_of hdep 0 26 (by kernel_rfl)
      have d26_ := gD d26
      clear hdep hv
      (unfold opTo; go_simp; try simp only [opUpon])
      exact (mayV _ ((HG.out.up (hu6.on hC)).seg c) gg).mono fun e w9 h => ⟨_, h.1, hK _ _ rfl (Up.on hC h.2) h.2⟩
    refine oC ?_ ?_
    ·as_aux_lemma =>
      intro aa ww hC hdep hv KK hK
      have d2 : aa.tmps.getD 2 undef = .pointer (some ⟨n0, 0, none⟩) := hv 2 (slotOk_spec (by kernel_rfl))
      have d2_ := gD d2
      clear hdep hv
      have hb := hA_6.up hC
      obtain ⟨cc0, cc1, cc2, cc3, cc4, cc5, cc6, cc7, cc8, cc9, cc10, cc11, cc12, cc13, cc14, cc15⟩ := bx16 hb
      (unfold opTo; go_simp; try simp only [opUpon])
      exact hK _ _ rfl hC bR
    refine oC ?_ ?_
    ·as_aux_lemma =>
      intro aa ww hC hdep hv KK hK
      have d28 : aa.tmps.getD 28 undef = (.agg #[.int .u32 g.sa, .int .u16 g.sp, .int .u32 g.da, .int .u16 g.dp, .int .u32 g.sq, .int .u32 g.ak, .int .u8 g.fl, .int .u16 g.wi, .int .u16 g.op.mss, .int .i64 g.op.sc, .bool g.op.sk, .slice A n c, .bool g.op.tm, .int .u32 g.op.va, .int .u32 g.op.ec, .string (tx g.dt)]) := dep_of hdep 2 28 (by kernel_rfl)
      have d28_ := gD d28
      clear hdep hv
      (unfold opTo; go_simp; try simp only [opUpon])
      exact (refMayV _ ((HG.out.up (hu6.on hC)).seg c) gg).mono fun e w9 h => ⟨_, h.1, hK _ _ rfl (Up.on hC h.2) h.2⟩
    refine oC ?_ ?_
    ·as_aux_lemma =>
      intro aa ww hC hdep hv KK hK
      have d27 : aa.tmps.getD 27 undef = .bool (maysb g) := dep_of hdep 1 27 (by kernel_rfl)
      have d29 : aa.tmps.getD 29 undef = .bool (maysb g) := dep_of hdep 3 29 (by kernel_rfl)
      have d27_ := gD d27
      have d29_ := gD d29
      clear hdep hv
      (unfold opTo; go_simp; try simp only [opUpon])
      exact hK _ _ rfl hC bR
    refine oC ?_ ?_
    ·as_aux_lemma =>
      intro aa ww hC hdep hv KK hK
      have d30 : aa.tmps.getD 30 undef = .bool true := dep_of hdep 4 30 (by kernel_rfl)
      have d30_ := gD d30
      clear hdep hv
      (unfold opTo; go_simp; try simp only [opUpon])
      exact hK _ _ rfl hC bR
    refine oC ?_ ?_
    ·as_aux_lemma =>
      intro aa ww hC hdep hv KK hK
      have d2 : aa.tmps.getD 2 undef = .pointer (some ⟨n0, 0, none⟩) := hv 2 (slotOk_spec (by kernel_rfl))
      have d2_ := gD d2
      clear hdep hv
      have hb := hA_6.up hC
      obtain ⟨cc0, cc1, cc2, cc3, cc4, cc5, cc6, cc7, cc8, cc9, cc10, cc11, cc12, cc13, cc14, cc15⟩ := bx16 hb
      (unfold opTo; go_simp; try simp only [opUpon])
      exact hK _ _ rfl hC bR
    refine oC ?_ ?_
    ·as_aux_lemma =>
      intro aa ww hC hdep hv KK hK
      have d3 : aa.tmps.getD 3 undef = .pointer (some ⟨(n0 + 1), 0, none⟩) := hv 3 (slotOk_spec (by kernel_rfl))
      have d3_ := gD d3
      clear hdep hv
      have hb := hB_6.up hC
      obtain ⟨cc0, cc1, cc2, cc3, cc4, cc5, cc6, cc7, cc8, cc9, cc10, cc11, cc12, cc13, cc14, cc15⟩ := bx16 hb
      (unfold opTo; go_simp; try simp only [opUpon])
      exact hK _ _ rfl hC bR
    refine oC ?_ ?_
    ·as_aux_lemma =>
      intro aa ww hC hdep hv KK hK
      have d32 : aa.tmps.getD 32 undef = (.agg #[.int .u32 g.sa, .int .u16 g.sp, .int .u32 g.da, .int .u16 g.dp, .int .u32 g.sq, .int .u32 g.ak, .int .u8 g.fl, .int .u16 g.wi, .int .u16 g.op.mss, .int .i64 g.op.sc, .bool g.op.sk, .slice A n c, .bool g.op.tm, .int .u32 g.op.va, .int .u32 g.op.ec, .string (tx g.dt)]) := dep_of hdep 6 32 (by kernel_rfl)
      have d33 : aa.tmps.getD 33 undef = (.agg #[.int .u32 h.sa, .int .u16 h.sp, .int .u32 h.da, .int .u16 h.dp, .int .u32 h.sq, .int .u32 h.ak, .int .u8 h.fl, .int .u16 h.wi, .int .u16 h.op.mss, .int .i64 h.op.sc, .bool h.op.sk, .slice A2 n2 c2, .bool h.op.tm, .int .u32 h.op.va, .int .u32 h.op.ec, .string (tx h.dt)]) := dep_of hdep 7 33 (by kernel_rfl)
      have d32_ := gD d32
      have d33_ := gD d33
      clear hdep hv
      (unfold opTo; go_simp; try simp only [opUpon])
      exact (sameC _ ((HG.out.up (hu6.on hC)).seg c) ((HH.out.up (hu6.on hC)).seg c2) gg gh).mono fun e w9 h => ⟨_, h.1, hK _ _ rfl (Up.on hC h.2) h.2⟩
    refine oC ?_ ?_
    ·as_aux_lemma =>
      intro aa ww hC hdep hv KK hK
      have d2 : aa.tmps.getD 2 undef = .pointer (some ⟨n0, 0, none⟩) := hv 2 (slotOk_spec (by kernel_rfl))
      have d2_ := gD d2
      clear hdep hv
      have hb := hA_6.up hC
      obtain ⟨cc0, cc1, cc2, cc3, cc4, cc5, cc6, cc7, cc8, cc9, cc10, cc11, cc12, cc13, cc14, cc15⟩ := bx16 hb
      (unfold opTo; go_simp; try simp only [opUpon])
      exact hK _ _ rfl hC bR
    refine oC ?_ ?_
    ·as_aux_lemma =>
      intro aa ww hC hdep hv KK hK
      have d3 : aa.tmps.getD 3 undef = .pointer (some ⟨(n0 + 1), 0, none⟩) := hv 3 (slotOk_spec (by kernel_rfl))
      have d3_ := gD d3
      clear hdep hv
      have hb := hB_6.up hC
      obtain ⟨cc0, cc1, cc2, cc3, cc4, cc5, cc6, cc7, cc8, cc9, cc10, cc11, cc12, cc13, cc14, cc15⟩ := bx16 hb
      (unfold opTo; go_simp; try simp only [opUpon])
      exact hK _ _ rfl hC bR
    refine oC ?_ ?_
    ·as_aux_lemma =>
      intro aa ww hC hdep hv KK hK
      have d35 : aa.tmps.getD 35 undef = (.agg #[.int .u32 g.sa, .int .u16 g.sp, .int .u32 g.da, .int .u16 g.dp, .int .u32 g.sq, .int .u32 g.ak, .int .u8 g.fl, .int .u16 g.wi, .int .u16 g.op.mss, .int .i64 g.op.sc, .bool g.op.sk, .slice A n c, .bool g.op.tm, .int .u32 g.op.va, .int .u32 g.op.ec, .string (tx g.dt)]) := dep_of hdep 9 35 (by kernel_rfl)
      have d36 : aa.tmps.getD 36 undef = (.agg #[.int .u32 h.sa, .int .u16 h.sp, .int .u32 h.da, .int .u16 h.dp, .int .u32 h.sq, .int .u32 h.ak, .int .u8 h.fl, .int .u16 h.wi, .int .u16 h.op.mss, .int .i64 h.op.sc, .bool h.op.sk, .slice A2 n2 c2, .bool h.op.tm, .int .u32 h.op.va, .int .u32 h.op.ec, .string (tx h.dt)]) := dep_of hdep 10 36 (by kernel_rfl)
      have d35_ := gD d35
      have d36_ := gD d36
      clear hdep hv
      (unfold opTo; go_simp; try simp only [opUpon])
      exact (refSameV _ ((HG.out.up (hu6.on hC)).seg c) ((HH.out.up (hu6.on hC)).seg c2) hgm).mono fun e w9 h => ⟨_, h.1, hK _ _ rfl (Up.on hC h.2) h.2⟩
    refine oC ?_ ?_
    ·as_aux_lemma =>
      intro aa ww hC hdep hv KK hK
      have d34 : aa.tmps.getD 34 undef = .bool (sameS g h) := dep_of hdep 8 34 (by kernel_rfl)
      have d37 : aa.tmps.getD 37 undef = .bool (sameS g h) := dep_of hdep 11 37 (by kernel_rfl)
      have d34_ := gD d34
      have d37_ := gD d37
      clear hdep hv
      (unfold opTo; go_simp; try simp only [opUpon])
      exact hK _ _ rfl hC bR
    refine oC ?_ ?_
    ·as_aux_lemma =>
      intro aa ww hC hdep hv KK hK
      have d31 : aa.tmps.getD 31 undef = .bool true := dep_of hdep 5 31 (by kernel_rfl)
      have d38 : aa.tmps.getD 38 undef = .bool true := dep_of hdep 12 38 (by kernel_rfl)
      have d31_ := gD d31
      have d38_ := gD d38
      clear hdep hv
      (unfold opTo; go_simp; try simp only [opUpon])
      exact hK _ _ rfl hC bR
    refine oC ?_ ?_
    ·as_aux_lemma =>
      intro aa ww hC hdep hv KK hK
      have d39 : aa.tmps.getD 39 undef = .bool true := dep_of hdep 13 39 (by kernel_rfl)
      have d39_ := gD d39
      clear hdep hv
      (unfold opTo; go_simp; try simp only [opUpon])
      exact hK _ _ rfl hC bR
    refine oC ?_ ?_
    ·as_aux_lemma =>
      intro aa ww hC hdep hv KK hK
      have d2 : aa.tmps.getD 2 undef = .pointer (some ⟨n0, 0, none⟩) := hv 2 (slotOk_spec (by kernel_rfl))
      have d2_ := gD d2
      clear hdep hv
      have hb := hA_6.up hC
      obtain ⟨cc0, cc1, cc2, cc3, cc4, cc5, cc6, cc7, cc8, cc9, cc10, cc11, cc12, cc13, cc14, cc15⟩ := bx16 hb
      (unfold opTo; go_simp; try simp only [opUpon])
      exact hK _ _ rfl hC bR
    refine oC ?_ ?_
    ·as_aux_lemma =>
      intro aa ww hC hdep hv KK hK
      have d2 : aa.tmps.getD 2 undef = .pointer (some ⟨n0, 0, none⟩) := hv 2 (slotOk_spec (by kernel_rfl))
      have d2_ := gD d2
      clear hdep hv
      have hb := hA_6.up hC
      obtain ⟨cc0, cc1, cc2, cc3, cc4, cc5, cc6, cc7, cc8, cc9, cc10, cc11, cc12, cc13, cc14, cc15⟩ := bx16 hb
      (unfold opTo; go_simp; try simp only [opUpon])
      exact hK _ _ rfl hC bR
    refine oC ?_ ?_
    ·as_aux_lemma =>
      intro aa ww hC hdep hv KK hK
      have d41 : aa.tmps.getD 41 undef = (.agg #[.int .u32 g.sa, .int .u16 g.sp, .int .u32 g.da, .int .u16 g.dp, .int .u32 g.sq, .int .u32 g.ak, .int .u8 g.fl, .int .u16 g.wi, .int .u16 g.op.mss, .int .i64 g.op.sc, .bool g.op.sk, .slice A n c, .bool g.op.tm, .int .u32 g.op.va, .int .u32 g.op.ec, .string (tx g.dt)]) := dep_of hdep 15 41 (by kernel_rfl)
      have d42 : aa.tmps.getD 42 undef = (.agg #[.int .u32 g.sa, .int .u16 g.sp, .int .u32 g.da, .int .u16 g.dp, .int .u32 g.sq, .int .u32 g.ak, .int .u8 g.fl, .int .u16 g.wi, .int .u16 g.op.mss, .int .i64 g.op.sc, .bool g.op.sk, .slice A n c, .bool g.op.tm, .int .u32 g.op.va, .int .u32 g.op.ec, .string (tx g.dt)]) := dep_of hdep 16 42 (by kernel_rfl)
      have d41_ := gD d41
      have d42_ := gD d42
      clear hdep hv
      (unfold opTo; go_simp; try simp only [opUpon])
      refine (sameC _ ((HG.out.up (hu6.on hC)).seg c) ((HG.out.up (hu6.on hC)).seg c) gg gg).mono ?_; rintro e w9 ⟨rfl, hu9⟩; rw [sameS_t rfl]; exact ⟨_, rfl, hK _ _ rfl (Up.on hC hu9) hu9⟩
    refine oC ?_ ?_
    ·as_aux_lemma =>
      intro aa ww hC hdep hv KK hK
      have d40 : aa.tmps.getD 40 undef = .bool true := dep_of hdep 14 40 (by kernel_rfl)
      have d43 : aa.tmps.getD 43 undef = .bool true := dep_of hdep 17 43 (by kernel_rfl)
      have d40_ := gD d40
      have d43_ := gD d43
      clear hdep hv
      (unfold opTo; go_simp; try simp only [opUpon])
      exact hK _ _ rfl hC bR
    refine oC ?_ ?_
    ·as_aux_lemma =>
      intro aa ww hC hdep hv KK hK
      have d44 : aa.tmps.getD 44 undef = .bool true := dep_of hdep 18 44 (by kernel_rfl)
      have d44_ := gD d44
      clear hdep hv
      (unfold opTo; go_simp; try simp only [opUpon])
      exact hK _ _ rfl hC bR
    refine oC ?_ ?_
    ·as_aux_lemma =>
      intro aa ww hC hdep hv KK hK
      have d5 : aa.tmps.getD 5 undef = .string SR := hv 5 (slotOk_spec (by kernel_rfl))
      have d5_ := gD d5
      clear hdep hv
      (unfold opTo; go_simp; try simp only [opUpon])
      exact hK _ _ rfl hC bR
    refine oC ?_ ?_
    ·as_aux_lemma =>
      intro aa ww hC hdep hv KK hK
      have d7 : aa.tmps.getD 7 undef = .string SR := hv 7 (slotOk_spec (by kernel_rfl))
      have d7_ := gD d7
      clear hdep hv
      (unfold opTo; go_simp; try simp only [opUpon])
      exact hK _ _ rfl hC bR
    refine oC ?_ ?_
    ·as_aux_lemma =>
      intro aa ww hC hdep hv KK hK
      have d46 : aa.tmps.getD 46 undef = .string SR := dep_of hdep 20 46 (by kernel_rfl)
      have d47 : aa.tmps.getD 47 undef = .string SR := dep_of hdep 21 47 (by kernel_rfl)
      have d46_ := gD d46
      have d47_ := gD d47
      clear hdep hv
      (unfold opTo; go_simp; try simp only [opUpon])
      exact hK _ _ rfl hC bR
    refine oC ?_ ?_
    ·as_aux_lemma =>
      intro aa ww hC hdep hv KK hK
      have d45 : aa.tmps.getD 45 undef = .bool true := dep_of hdep 19 45 (by kernel_rfl)
      have d48 : aa.tmps.getD 48 undef = .bool true := dep_of hdep 22 48 (by kernel_rfl)
      have d45_ := gD d45
      have d48_ := gD d48
      clear hdep hv
      (unfold opTo; go_simp; try simp only [opUpon])
      exact hK _ _ rfl hC bR
    refine oC ?_ ?_
    ·as_aux_lemma =>
      intro aa ww hC hdep hv KK hK
      have d49 : aa.tmps.getD 49 undef = .bool true := dep_of hdep 23 49 (by kernel_rfl)
      have d49_ := gD d49
      clear hdep hv
      (unfold opTo; go_simp; try simp only [opUpon])
      exact hK _ _ rfl hC bR
    refine oC ?_ ?_
    ·as_aux_lemma =>
      intro aa ww hC hdep hv KK hK
      have d6 : aa.tmps.getD 6 undef = .int .i64 NR := hv 6 (slotOk_spec (by kernel_rfl))
      have d6_ := gD d6
      clear hdep hv
      (unfold opTo; go_simp; try simp only [opUpon])
      exact hK _ _ rfl hC bR
    refine oC ?_ ?_
    ·as_aux_lemma =>
      intro aa ww hC hdep hv KK hK
      have d8 : aa.tmps.getD 8 undef = .int .i64 NR := hv 8 (slotOk_spec (by kernel_rfl))
      have d8_ := gD d8
      clear hdep hv
      (unfold opTo; go_simp; try simp only [opUpon])
      exact hK _ _ rfl hC bR
    refine oC ?_ ?_
    ·as_aux_lemma =>
      intro aa ww hC hdep hv KK hK
      have d51 : aa.tmps.getD 51 undef = .int .i64 NR := dep_of hdep 25 51 (by kernel_rfl)
      have d52 : aa.tmps.getD 52 undef = .int .i64 NR := dep_of hdep 26 52 (by kernel_rfl)
      have d51_ := gD d51
      have d52_ := gD d52
      clear hdep hv
      (unfold opTo; go_simp; try simp only [opUpon])
      exact hK _ _ rfl hC bR
    refine oC ?_ ?_
    ·as_aux_lemma =>
      intro aa ww hC hdep hv KK hK
      have d50 : aa.tmps.getD 50 undef = .bool true := dep_of hdep 24 50 (by kernel_rfl)
      have d53 : aa.tmps.getD 53 undef = .bool true := dep_of hdep 27 53 (by kernel_rfl)
      have d50_ := gD d50
      have d53_ := gD d53
      clear hdep hv
      (unfold opTo; go_simp; try simp only [opUpon])
      exact hK _ _ rfl hC bR
    refine oC ?_ ?_
    ·as_aux_lemma =>
      intro aa ww hC hdep hv KK hK
      have d54 : aa.tmps.getD 54 undef = .bool true := dep_of hdep 28 54 (by kernel_rfl)
      have d54_ := gD d54
      clear hdep hv
      (unfold opTo; go_simp; try simp only [opUpon])
      exact hK _ _ rfl hC bR
    refine oC ?_ ?_
    ·as_aux_lemma =>
      intro aa ww hC hdep hv KK hK
      have d2 : aa.tmps.getD 2 undef = .pointer (some ⟨n0, 0, none⟩) := hv 2 (slotOk_spec (by kernel_rfl))
      have d2_ := gD d2
      clear hdep hv
      have hb := hA_6.up hC
      obtain ⟨cc0, cc1, cc2, cc3, cc4, cc5, cc6, cc7, cc8, cc9, cc10, cc11, cc12, cc13, cc14, cc15⟩ := bx16 hb
      (unfold opTo; go_simp; try simp only [opUpon])
      exact hK _ _ rfl hC bR
    refine oC ?_ ?_
    ·as_aux_lemma =>
      intro aa ww hC hdep hv KK hK
      have d56 : aa.tmps.getD 56 undef = (.agg #[.int .u32 g.sa, .int .u16 g.sp, .int .u32 g.da, .int .u16 g.dp, .int .u32 g.sq, .int .u32 g.ak, .int .u8 g.fl, .int .u16 g.wi, .int .u16 g.op.mss, .int .i64 g.op.sc, .bool g.op.sk, .slice A n c, .bool g.op.tm, .int .u32 g.op.va, .int .u32 g.op.ec, .string (tx g.dt)]) := dep_of hdep 30 56 (by kernel_rfl)
      have d56_ := gD d56
      clear hdep hv
      (unfold opTo; go_simp; try simp only [opUpon])
      exact (nextV _ ((HG.out.up (hu6.on hC)).seg c) gg).mono fun e w9 h => ⟨_, h.1, hK _ _ rfl (Up.on hC h.2) h.2⟩
    refine oC ?_ ?_
    ·as_aux_lemma =>
      intro aa ww hC hdep hv KK hK
      have d2 : aa.tmps.getD 2 undef = .pointer (some ⟨n0, 0, none⟩) := hv 2 (slotOk_spec (by kernel_rfl))
      have d2_ := gD d2
      clear hdep hv
      have hb := hA_6.up hC
      obtain ⟨cc0, cc1, cc2, cc3, cc4, cc5, cc6, cc7, cc8, cc9, cc10, cc11, cc12, cc13, cc14, cc15⟩ := bx16 hb
      (unfold opTo; go_simp; try simp only [opUpon])
      exact hK _ _ rfl hC bR
    refine oC ?_ ?_
    ·as_aux_lemma =>
      intro aa ww hC hdep hv KK hK
      have d58 : aa.tmps.getD 58 undef = (.agg #[.int .u32 g.sa, .int .u16 g.sp, .int .u32 g.da, .int .u16 g.dp, .int .u32 g.sq, .int .u32 g.ak, .int .u8 g.fl, .int .u16 g.wi, .int .u16 g.op.mss, .int .i64 g.op.sc, .bool g.op.sk, .slice A n c, .bool g.op.tm, .int .u32 g.op.va, .int .u32 g.op.ec, .string (tx g.dt)]) := dep_of hdep 32 58 (by kernel_rfl)
      have d58_ := gD d58
      clear hdep hv
      (unfold opTo; go_simp; try simp only [opUpon])
      exact (refNextV _ ((HG.out.up (hu6.on hC)).seg c) gg).mono fun e w9 h => ⟨_, h.1, hK _ _ rfl (Up.on hC h.2) h.2⟩
    refine oC ?_ ?_
    ·as_aux_lemma =>
      intro aa ww hC hdep hv KK hK
      have d57 : aa.tmps.getD 57 undef = .int .u32 (next g : Nat) := dep_of hdep 31 57 (by kernel_rfl)
      have d59 : aa.tmps.getD 59 undef = .int .u32 (next g : Nat) := dep_of hdep 33 59 (by kernel_rfl)
      have d57_ := gD d57
      have d59_ := gD d59
      clear hdep hv
      (unfold opTo; go_simp; try simp only [opUpon])
      exact hK _ _ rfl hC bR
    refine oC ?_ ?_
    ·as_aux_lemma =>
      intro aa ww hC hdep hv KK hK
      have d55 : aa.tmps.getD 55 undef = .bool true := dep_of hdep 29 55 (by kernel_rfl)
      have d60 : aa.tmps.getD 60 undef = .bool true := dep_of hdep 34 60 (by kernel_rfl)
      have d55_ := gD d55
      have d60_ := gD d60
      clear hdep hv
      (unfold opTo; go_simp; try simp only [opUpon])
      exact hK _ _ rfl hC bR
    refine oC ?_ ?_
    ·as_aux_lemma =>
      intro aa ww hC hdep hv KK hK
      have d61 : aa.tmps.getD 61 undef = .bool true := dep_of hdep 35 61 (by kernel_rfl)
      have d61_ := gD d61
      clear hdep hv
      (unfold opTo; go_simp; try simp only [opUpon])
      exact hK _ _ rfl hC bR
    refine oC ?_ ?_
    ·as_aux_lemma =>
      intro aa ww hC hdep hv KK hK
      clear hdep hv
      (unfold opTo; go_simp; try simp only [opUpon])
      exact (aliveC _).mono fun e w9 h => ⟨_, h.1, hK _ _ rfl (Up.on hC h.2) h.2⟩
    refine oC ?_ ?_
    ·as_aux_lemma =>
      intro aa ww hC hdep hv KK hK
      have d62 : aa.tmps.getD 62 undef = .bool true := dep_of hdep 36 62 (by kernel_rfl)
      have d63 : aa.tmps.getD 63 undef = .bool true := dep_of hdep 37 63 (by kernel_rfl)
      have d62_ := gD d62
      have d63_ := gD d63
      clear hdep hv
      (unfold opTo; go_simp; try simp only [opUpon])
      exact hK _ _ rfl hC bR
    refine oC ?_ ?_
    ·as_aux_lemma =>
      intro aa ww hC hdep hv KK hK
      have d64 : aa.tmps.getD 64 undef = .bool true := dep_of hdep 38 64 (by kernel_rfl)
      have d64_ := gD d64
      clear hdep hv
      (unfold opTo; go_simp; try simp only [opUpon])
      exact hK _ _ rfl hC bR
    exact obligs_nil
   intro vals ww hC hY
   have e0 : vals 0 = (.agg #[.int .u32 g.sa, .int .u16 g.sp, .int .u32 g.da, .int .u16 g.dp, .int .u32 g.sq, .int .u32 g.ak, .int .u8 g.fl, .int .u16 g.wi, .int .u16 g.op.mss, .int .i64 g.op.sc, .bool g.op.sk, .slice A n c, .bool g.op.tm, .int .u32 g.op.va, .int .u32 g.op.ec, .string (tx g.dt)]) := hY 0 _ _ rfl rfl
   have e1 : vals 1 = .bool (maysb g) := hY 1 _ _ rfl rfl
   have e2 : vals 2 = (.agg #[.int .u32 g.sa, .int .u16 g.sp, .int .u32 g.da, .int .u16 g.dp, .int .u32 g.sq, .int .u32 g.ak, .int .u8 g.fl, .int .u16 g.wi, .int .u16 g.op.mss, .int .i64 g.op.sc, .bool g.op.sk, .slice A n c, .bool g.op.tm, .int .u32 g.op.va, .int .u32 g.op.ec, .string (tx g.dt)]) := hY 2 _ _ rfl rfl
   have e3 : vals 3 = .bool (maysb g) := hY 3 _ _ rfl rfl
   have e4 : vals 4 = .bool true := hY 4 _ _ rfl rfl
   have e5 : vals 5 = .bool true := hY 5 _ _ rfl rfl
   have e6 : vals 6 = (.agg #[.int .u32 g.sa, .int .u16 g.sp, .int .u32 g.da, .int .u16 g.dp, .int .u32 g.sq, .int .u32 g.ak, .int .u8 g.fl, .int .u16 g.wi, .int .u16 g.op.mss, .int .i64 g.op.sc, .bool g.op.sk, .slice A n c, .bool g.op.tm, .int .u32 g.op.va, .int .u32 g.op.ec, .string (tx g.dt)]) := hY 6 _ _ rfl rfl
   have e7 : vals 7 = (.agg #[.int .u32 h.sa, .int .u16 h.sp, .int .u32 h.da, .int .u16 h.dp, .int .u32 h.sq, .int .u32 h.ak, .int .u8 h.fl, .int .u16 h.wi, .int .u16 h.op.mss, .int .i64 h.op.sc, .bool h.op.sk, .slice A2 n2 c2, .bool h.op.tm, .int .u32 h.op.va, .int .u32 h.op.ec, .string (tx h.dt)]) := hY 7 _ _ rfl rfl
   have e8 : vals 8 = .bool (sameS g h) := hY 8 _ _ rfl rfl
   have e9 : vals 9 = (.agg #[.int .u32 g.sa, .int .u16 g.sp, .int .u32 g.da, .int .u16 g.dp, .int .u32 g.sq, .int .u32 g.ak, .int .u8 g.fl, .int .u16 g.wi, .int .u16 g.op.mss, .int .i64 g.op.sc, .bool g.op.sk, .slice A n c, .bool g.op.tm, .int .u32 g.op.va, .int .u32 g.op.ec, .string (tx g.dt)]) := hY 9 _ _ rfl rfl
   have e10 : vals 10 = (.agg #[.int .u32 h.sa, .int .u16 h.sp, .int .u32 h.da, .int .u16 h.dp, .int .u32 h.sq, .int .u32 h.ak, .int .u8 h.fl, .int .u16 h.wi, .int .u16 h.op.mss, .int .i64 h.op.sc, .bool h.op.sk, .slice A2 n2 c2, .bool h.op.tm, .int .u32 h.op.va, .int .u32 h.op.ec, .string (tx h.dt)]) := hY 10 _ _ rfl rfl
   have e11 : vals 11 = .bool (sameS g h) := hY 11 _ _ rfl rfl
   have e12 : vals 12 = .bool true := hY 12 _ _ rfl rfl
   have e13 : vals 13 = .bool true := hY 13 _ _ rfl rfl
   have e14 : vals 14 = .bool true := hY 14 _ _ rfl rfl
   have e15 : vals 15 = (.agg #[.int .u32 g.sa, .int .u16 g.sp, .int .u32 g.da, .int .u16 g.dp, .int .u32 g.sq, .int .u32 g.ak, .int .u8 g.fl, .int .u16 g.wi, .int .u16 g.op.mss, .int .i64 g.op.sc, .bool g.op.sk, .slice A n c, .bool g.op.tm, .int .u32 g.op.va, .int .u32 g.op.ec, .string (tx g.dt)]) := hY 15 _ _ rfl rfl
   have e16 : vals 16 = (.agg #[.int .u32 g.sa, .int .u16 g.sp, .int .u32 g.da, .int .u16 g.dp, .int .u32 g.sq, .int .u32 g.ak, .int .u8 g.fl, .int .u16 g.wi, .int .u16 g.op.mss, .int .i64 g.op.sc, .bool g.op.sk, .slice A n c, .bool g.op.tm, .int .u32 g.op.va, .int .u32 g.op.ec, .string (tx g.dt)]) := hY 16 _ _ rfl rfl
   have e17 : vals 17 = .bool true := hY 17 _ _ rfl rfl
   have e18 : vals 18 = .bool true := hY 18 _ _ rfl rfl
   have e19 : vals 19 = .bool true := hY 19 _ _ rfl rfl
   have e20 : vals 20 = .string SR := hY 20 _ _ rfl rfl
   have e21 : vals 21 = .string SR := hY 21 _ _ rfl rfl
   have e22 : vals 22 = .bool true := hY 22 _ _ rfl rfl
   have e23 : vals 23 = .bool true := hY 23 _ _ rfl rfl
   have e24 : vals 24 = .bool true := hY 24 _ _ rfl rfl
   have e25 : vals 25 = .int .i64 NR := hY 25 _ _ rfl rfl
   have e26 : vals 26 = .int .i64 NR := hY 26 _ _ rfl rfl
   have e27 : vals 27 = .bool true := hY 27 _ _ rfl rfl
   have e28 : vals 28 = .bool true := hY 28 _ _ rfl rfl
   have e29 : vals 29 = .bool true := hY 29 _ _ rfl rfl
   have e30 : vals 30 = (.agg #[.int .u32 g.sa, .int .u16 g.sp, .int .u32 g.da, .int .u16 g.dp, .int .u32 g.sq, .int .u32 g.ak, .int .u8 g.fl, .int .u16 g.wi, .int .u16 g.op.mss, .int .i64 g.op.sc, .bool g.op.sk, .slice A n c, .bool g.op.tm, .int .u32 g.op.va, .int .u32 g.op.ec, .string (tx g.dt)]) := hY 30 _ _ rfl rfl
   have e31 : vals 31 = .int .u32 (next g : Nat) := hY 31 _ _ rfl rfl
   have e32 : vals 32 = (.agg #[.int .u32 g.sa, .int .u16 g.sp, .int .u32 g.da, .int .u16 g.dp, .int .u32 g.sq, .int .u32 g.ak, .int .u8 g.fl, .int .u16 g.wi, .int .u16 g.op.mss, .int .i64 g.op.sc, .bool g.op.sk, .slice A n c, .bool g.op.tm, .int .u32 g.op.va, .int .u32 g.op.ec, .string (tx g.dt)]) := hY 32 _ _ rfl rfl
   have e33 : vals 33 = .int .u32 (next g : Nat) := hY 33 _ _ rfl rfl
   have e34 : vals 34 = .bool true := hY 34 _ _ rfl rfl
   have e35 : vals 35 = .bool true := hY 35 _ _ rfl rfl
   have e36 : vals 36 = .bool true := hY 36 _ _ rfl rfl
   have e37 : vals 37 = .bool true := hY 37 _ _ rfl rfl
   have e38 : vals 38 = .bool true := hY 38 _ _ rfl rfl
   have e39 : vals 39 = .bool true := hY 39 _ _ rfl rfl
   clear hY
   (try simp only [List.append_eq, List.cons_append, List.nil_append])
   simp only [putAll, Act.put, List.setIfInBounds_toArray, List.set_cons_zero, List.set_cons_succ, e0, e1, e2, e3, e4, e5, e6, e7, e8, e9, e10, e11, e12, e13, e14, e15, e16, e17, e18, e19, e20, e21, e22, e23, e24, e25, e26, e27, e28, e29, e30, e31, e32, e33, e34, e35, e36, e37, e38, e39]
   clear e0 e1 e2 e3 e4 e5 e6 e7 e8 e9 e10 e11 e12 e13 e14 e15 e16 e17 e18 e19 e20 e21 e22 e23 e24 e25 e26 e27 e28 e29 e30 e31 e32 e33 e34 e35 e36 e37 e38 e39
   have huE := hu6.on hC
   generalize ww = wE at huE ⊢
   go_wp2
   go_ret
   exact ⟨rfl, huE⟩
end Go.Proofs.YtafckmbgefbonaaGreat.pk
