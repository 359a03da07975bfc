/- T: contracts, part 8. Condition: as each says. -/
import Derived.Test.YtafckmbgefbonaaGreatVT6
import Derived.Test.YtafckmbgefbonaaGreatVTW1
import Derived.Test.YtafckmbgefbonaaGreatVT7
import Derived.Test.YtafckmbgefbonaaGreatVTW4
import Derived.Test.YtafckmbgefbonaaGreatVTRW37
set_option linter.unusedVariables false
set_option linter.unusedSimpArgs false
set_option maxRecDepth 100000
set_option maxHeartbeats 8000000
namespace Go.Proofs.YtafckmbgefbonaaGreat.pk
open RowKit Shelf Lib sm nb pm

theorem refTurnedV {x : Value} {g : Sg} (a1 p1 b1 q1 y1 z1 v1 ec : Nat) (up dn : Int) (w : World) (h : SegV w x g) (hg : GoodS g) (hX : WfX ⟨a1, b1, p1, q1, y1, z1, v1, ec, up, dn⟩) (hup : -9223372036854775808 ≤ up ∧ up ≤ 9223372036854775807) (hdn : -9223372036854775808 ≤ dn ∧ dn ≤ 9223372036854775807) :
  Calls Tryz.prog 21 #[x, SHV a1 p1 b1 q1 y1 z1 v1 ec up dn] w fun e_ w' => ∃ X, e_ = .returned X ∧ SegV w' X (tS ⟨a1, b1, p1, q1, y1, z1, v1, ec, up, dn⟩ g) ∧ Up w w' := by
 obtain ⟨A, n, c, rfl, hn, hr⟩ := h
 obtain ⟨a, b, p, q, y, z, f, i, ⟨m, s, k, bl, t, v, e⟩, D⟩ := g
 have hop := hg.1.2.2.2.2.2.2.2.2
 have hn' : bl.length = n := hn
 have := refTurned a p b q y z f i m s k A n c t v e (tx D) bl a1 p1 b1 q1 y1 z1 v1 ec up dn w hg.1.2.2.2.2.1 hg.1.2.2.2.2.2.1 hg.1.2.2.2.2.2.2.1 hg.1.2.2.2.2.2.2.2.1 (by have := hop.2.2.1; unfold om.M32 at this; dsimp only at this; omega) (by have := hop.2.2.2; unfold om.M32 at this; dsimp only at this; omega) hop.2.1 hn (by have := hg.2.2.1; dsimp only at this; omega) hr hX.2.2.2.2.1 hX.2.2.2.2.2.1 hX.2.2.2.2.2.2.1 hX.2.2.2.2.2.2.2 hup hdn
 rw [L_tx] at this
 exact this
theorem RWV_some (l : List UInt8) (x : Sh) : ∃ (S : ByteArray) (n : Int), RWV l x = .tuple #[.string S, .int .i64 n] := by
 unfold RWV; split
 ·exact ⟨_, _, rfl⟩
 ·exact ⟨_, _, rfl⟩
end Go.Proofs.YtafckmbgefbonaaGreat.pk

namespace Go.Proofs.YtafckmbgefbonaaGreat.pk
open RowKit Shelf Lib sm nb pm

def TkV (t : Sg) (v : Value) (w : World) : Prop := SegV w v t
theorem TkV.st (t : Sg) : ∀ v w w', TkV t v w → Up w w' → TkV t v w' := fun _ _ _ h u => SegV.up h u
theorem lawTurns (g : Sg) (A : Option Addr) (n c : Nat) (s : ByteArray) (a1 p1 b1 q1 y1 z1 v1 ec : Nat) (up dn : Int) (w : World) (hg : SegX w g A n) (hz : s.size ≤ maxLen) (hX : WfX ⟨a1, b1, p1, q1, y1, z1, v1, ec, up, dn⟩) (hup : -9223372036854775808 ≤ up ∧ up ≤ 9223372036854775807) (hdn : -9223372036854775808 ≤ dn ∧ dn ≤ 9223372036854775807) :
  Calls Tryz.prog 5 #[SGV g A n c, .string s, SHV a1 p1 b1 q1 y1 z1 v1 ec up dn] w fun e_ w' => e_ = .returned (.bool true) ∧ Up w w' := by
 have HG := Lib.hid hg
 clear hg
 go_enter Tryz.func5, Tryz.ntmps5
 go_upto_region 1 with fail
 have hA_1 := (Box.new w #[.int .u32 g.sa, .int .u16 g.sp, .int .u32 g.da, .int .u16 g.dp, .int .u32 g.sq, .int .u32 g.ak, .int .u8 g.fl, .int .u16 g.wi, .int .u16 g.op.mss, .int .i64 g.op.sc, .bool g.op.sk, .slice A n c, .bool g.op.tm, .int .u32 g.op.va, .int .u32 g.op.ec, .string (tx g.dt)] 30).alloc (.cells #[.int .u32 a1, .int .u16 p1, .int .u32 b1, .int .u16 q1, .int .u32 y1, .int .u32 z1, .int .u32 v1, .int .u32 ec, .int .i64 up, .int .i64 dn] 46)
 have hX_2 := Box.new (w.alloc (.cells #[.int .u32 g.sa, .int .u16 g.sp, .int .u32 g.da, .int .u16 g.dp, .int .u32 g.sq, .int .u32 g.ak, .int .u8 g.fl, .int .u16 g.wi, .int .u16 g.op.mss, .int .i64 g.op.sc, .bool g.op.sk, .slice A n c, .bool g.op.tm, .int .u32 g.op.va, .int .u32 g.op.ec, .string (tx g.dt)] 30)) #[.int .u32 a1, .int .u16 p1, .int .u32 b1, .int .u16 q1, .int .u32 y1, .int .u32 z1, .int .u32 v1, .int .u32 ec, .int .i64 up, .int .i64 dn] 46
 rw [show (w.alloc (.cells #[.int .u32 g.sa, .int .u16 g.sp, .int .u32 g.da, .int .u16 g.dp, .int .u32 g.sq, .int .u32 g.ak, .int .u8 g.fl, .int .u16 g.wi, .int .u16 g.op.mss, .int .i64 g.op.sc, .bool g.op.sk, .slice A n c, .bool g.op.tm, .int .u32 g.op.va, .int .u32 g.op.ec, .string (tx g.dt)] 30)).heap.size = w.heap.size + 1 by simp] at hX_2
 have hv2 : Up w ((w.alloc (.cells #[.int .u32 g.sa, .int .u16 g.sp, .int .u32 g.da, .int .u16 g.dp, .int .u32 g.sq, .int .u32 g.ak, .int .u8 g.fl, .int .u16 g.wi, .int .u16 g.op.mss, .int .i64 g.op.sc, .bool g.op.sk, .slice A n c, .bool g.op.tm, .int .u32 g.op.va, .int .u32 g.op.ec, .string (tx g.dt)] 30)).alloc (.cells #[.int .u32 a1, .int .u16 p1, .int .u32 b1, .int .u16 q1, .int .u32 y1, .int .u32 z1, .int .u32 v1, .int .u32 ec, .int .i64 up, .int .i64 dn] 46)) := (up_al _ (up_al _ bR))
 generalize ((w.alloc (.cells #[.int .u32 g.sa, .int .u16 g.sp, .int .u32 g.da, .int .u16 g.dp, .int .u32 g.sq, .int .u32 g.ak, .int .u8 g.fl, .int .u16 g.wi, .int .u16 g.op.mss, .int .i64 g.op.sc, .bool g.op.sk, .slice A n c, .bool g.op.tm, .int .u32 g.op.va, .int .u32 g.op.ec, .string (tx g.dt)] 30)).alloc (.cells #[.int .u32 a1, .int .u16 p1, .int .u32 b1, .int .u16 q1, .int .u32 y1, .int .u32 z1, .int .u32 v1, .int .u32 ec, .int .i64 up, .int .i64 dn] 46)) = w2 at hA_1 hX_2 hv2 ⊢
 generalize w.heap.size = n0 at hA_1 hX_2 ⊢
 have hu2 := hv2
 clear hv2
 obtain ⟨k0, k1, k2, k3, k4, k5, k6, k7, k8, k9, k10, k11, k12, k13, k14, k15⟩ := bx16 hA_1; obtain ⟨l0, l1, l2, l3, l4, l5, l6, l7, l8, l9⟩ := bx10 hX_2
 go_wp2_with fail
 refine (heavyV w2 ((HG.out.up hu2).seg c)).mono ?_
 rintro e_ w3 ⟨rfl, hv3⟩
 clear k0 k1 k2 k3 k4 k5 k6 k7 k8 k9 k10 k11 k12 k13 k14 k15 l0 l1 l2 l3 l4 l5 l6 l7 l8 l9
 have hu3 := hu2.on hv3
 have hA_3 := hA_1.up hv3
 have hX_3 := hX_2.up hv3
 clear hA_1 hX_2 hu2 hv3
 by_cases c0 : heavy g = true
 ·rw [c0]
  go_wp2_with fail
  refine (aliveC w3).mono ?_
  rintro e_ w4 ⟨rfl, hv4⟩
  have hu4 := hu3.on hv4
  have hA_4 := hA_3.up hv4
  have hX_4 := hX_3.up hv4
  clear hA_3 hX_3 hu3 hv4
  go_wp2
  go_ret
  exact ⟨rfl, hu4⟩
 ·have c0' : heavy g = false := by simpa using c0
  rw [c0']
  by_cases c1 : 4096 < s.size
  ·have c2 : (4096 : Int) < (s.size : Int) := by omega
   go_wp2_with fail
   refine (aliveC w3).mono ?_
   rintro e_ w4 ⟨rfl, hv4⟩
   have hu4 := hu3.on hv4
   have hA_4 := hA_3.up hv4
   have hX_4 := hX_3.up hv4
   clear hA_3 hX_3 hu3 hv4
   go_wp2
   go_ret
   exact ⟨rfl, hu4⟩
  ·have c2 : ¬ (4096 : Int) < (s.size : Int) := by omega
   have hh : g.dt.length ≤ 4096 ∧ g.op.bl.length ≤ 100 := by unfold heavy at c0'; simp at c0'; omega
   have hgd := HG.out.good hh.1 hh.2
   obtain ⟨SR, NR, hRW⟩ := RWV_some (L s) ⟨a1, b1, p1, q1, y1, z1, v1, ec, up, dn⟩
   have H1 := Lib.hid (fun w => rewriteC s a1 p1 b1 q1 y1 z1 v1 ec up dn w (by omega) hX)
   have H2 := Lib.hid (fun w => refRewrite s a1 p1 b1 q1 y1 z1 v1 ec up dn w (by omega) hX hup hdn)
   rw [hRW] at H1 H2
   have H3 := Lib.hid (fun w (h : SegV w (SGV g A n c) g) => turnedC a1 p1 b1 q1 y1 z1 v1 ec up dn w h hgd hX)
   have H4 := Lib.hid (fun w (h : SegV w (SGV g A n c) g) => refTurnedV a1 p1 b1 q1 y1 z1 v1 ec up dn w h hgd hX hup hdn)
   have hgt := good_t hX hgd
   generalize tS ⟨a1, b1, p1, q1, y1, z1, v1, ec, up, dn⟩ g = t at H3 H4 hgt
   clear hRW c0 c0' hh
   obtain ⟨k0, k1, k2, k3, k4, k5, k6, k7, k8, k9⟩ := bx10 hX_3
   go_wp2_with fail
   refine (H1.out w3).mono ?_
   rintro e_ w4 ⟨rfl, hv4⟩
   clear k0 k1 k2 k3 k4 k5 k6 k7 k8 k9
   have hu4 := hu3.on hv4
   have hA_4 := hA_3.up hv4
   have hX_4 := hX_3.up hv4
   clear hA_3 hX_3 hu3 hv4
   obtain ⟨k0, k1, k2, k3, k4, k5, k6, k7, k8, k9⟩ := bx10 hX_4
   go_wp2_with fail
   refine (H2.out w4).mono ?_
   rintro e_ w5 ⟨rfl, hv5⟩
   clear k0 k1 k2 k3 k4 k5 k6 k7 k8 k9
   have hu5 := hu4.on hv5
   have hA_5 := hA_4.up hv5
   have hX_5 := hX_4.up hv5
   clear hA_4 hX_4 hu4 hv5
   go_upto_region 5 with fail
   refine wp_region_rel2h (fun W => Up w5 W) (fun W W' => Up W W') (Ys [Det ((.agg #[.int .u32 g.sa, .int .u16 g.sp, .int .u32 g.da, .int .u16 g.dp, .int .u32 g.sq, .int .u32 g.ak, .int .u8 g.fl, .int .u16 g.wi, .int .u16 g.op.mss, .int .i64 g.op.sc, .bool g.op.sk, .slice A n c, .bool g.op.tm, .int .u32 g.op.va, .int .u32 g.op.ec, .string (tx g.dt)])),
  Det ((.agg #[.int .u32 a1, .int .u16 p1, .int .u32 b1, .int .u16 q1, .int .u32 y1, .int .u32 z1, .int .u32 v1, .int .u32 ec, .int .i64 up, .int .i64 dn])),
  TkV t,
  Det ((.agg #[.int .u32 g.sa, .int .u16 g.sp, .int .u32 g.da, .int .u16 g.dp, .int .u32 g.sq, .int .u32 g.ak, .int .u8 g.fl, .int .u16 g.wi, .int .u16 g.op.mss, .int .i64 g.op.sc, .bool g.op.sk, .slice A n c, .bool g.op.tm, .int .u32 g.op.va, .int .u32 g.op.ec, .string (tx g.dt)])),
  Det ((.agg #[.int .u32 a1, .int .u16 p1, .int .u32 b1, .int .u16 q1, .int .u32 y1, .int .u32 z1, .int .u32 v1, .int .u32 ec, .int .i64 up, .int .i64 dn])),
  TkV t,
  Det (.bool true),
  Det (.bool true),
  Det (.string SR),
  Det (.string SR),
  Det (.bool true),
  Det (.bool true),
  Det (.bool true),
  Det (.int .i64 NR),
  Det (.int .i64 NR),
  Det (.bool true),
  Det (.bool true),
  Det (.bool true),
  Det (.bool true),
  Det (.bool true),
  Det (.bool true)]) (by kernel_rfl) (by kernel_rfl) (up_dr bR) (Stable.ys ⟨Det.st _, Det.st _, TkV.st t, Det.st _, Det.st _, TkV.st t, Det.st _, Det.st _, Det.st _, Det.st _, Det.st _, Det.st _, Det.st _, Det.st _, Det.st _, Det.st _, Det.st _, Det.st _, Det.st _, Det.st _, Det.st _, trivial⟩) [(7, true), (12, true), (17, true)] (by kernel_rfl) (by intro p hp v w h; simp only [List.mem_cons, List.not_mem_nil, or_false] at hp; rcases hp with rfl | rfl | rfl <;> exact h) ?_ ?_
   ·
    refine oC ?_ ?_
    ·as_aux_lemma =>
      intro aa ww hC hdep hv KK hK
      have d3 : aa.tmps.getD 3 undef = .pointer (some ⟨n0, 0, none⟩) := hv 3 (slotOk_spec (by kernel_rfl))
      have d3_ := gD d3
      clear hdep hv
      have hb := hA_5.up hC
      obtain ⟨cc0, cc1, cc2, cc3, cc4, cc5, cc6, cc7, cc8, cc9, cc10, cc11, cc12, cc13, cc14, cc15⟩ := bx16 hb
      (unfold opTo; go_simp; try simp only [opUpon])
      exact hK _ _ rfl hC bR
    refine oC ?_ ?_
    ·as_aux_lemma =>
      intro aa ww hC hdep hv KK hK
      have d5 : aa.tmps.getD 5 undef = .pointer (some ⟨(n0 + 1), 0, none⟩) := hv 5 (slotOk_spec (by kernel_rfl))
      have d5_ := gD d5
      clear hdep hv
      have hb := hX_5.up hC
      obtain ⟨cc0, cc1, cc2, cc3, cc4, cc5, cc6, cc7, cc8, cc9⟩ := bx10 hb
      (unfold opTo; go_simp; try simp only [opUpon])
      exact hK _ _ rfl hC bR
    refine oC ?_ ?_
    ·as_aux_lemma =>
      intro aa ww hC hdep hv KK hK
      have d31 : aa.tmps.getD 31 undef = (.agg #[.int .u32 g.sa, .int .u16 g.sp, .int .u32 g.da, .int .u16 g.dp, .int .u32 g.sq, .int .u32 g.ak, .int .u8 g.fl, .int .u16 g.wi, .int .u16 g.op.mss, .int .i64 g.op.sc, .bool g.op.sk, .slice A n c, .bool g.op.tm, .int .u32 g.op.va, .int .u32 g.op.ec, .string (tx g.dt)]) := dep_of hdep 0 31 (by kernel_rfl)
      have d32 : aa.tmps.getD 32 undef = (.agg #[.int .u32 a1, .int .u16 p1, .int .u32 b1, .int .u16 q1, .int .u32 y1, .int .u32 z1, .int .u32 v1, .int .u32 ec, .int .i64 up, .int .i64 dn]) := dep_of hdep 1 32 (by kernel_rfl)
      have d31_ := gD d31
      have d32_ := gD d32
      clear hdep hv
      (unfold opTo; go_simp; try simp only [opUpon])
      refine (H3.out _ ((HG.out.up (hu5.on hC)).seg c)).mono ?_; rintro e w9 ⟨X, rfl, hX9, hu9⟩; exact ⟨_, rfl, hK _ _ hX9 (Up.on hC hu9) hu9⟩
    refine oC ?_ ?_
    ·as_aux_lemma =>
      intro aa ww hC hdep hv KK hK
      have d3 : aa.tmps.getD 3 undef = .pointer (some ⟨n0, 0, none⟩) := hv 3 (slotOk_spec (by kernel_rfl))
      have d3_ := gD d3
      clear hdep hv
      have hb := hA_5.up hC
      obtain ⟨cc0, cc1, cc2, cc3, cc4, cc5, cc6, cc7, cc8, cc9, cc10, cc11, cc12, cc13, cc14, cc15⟩ := bx16 hb
      (unfold opTo; go_simp; try simp only [opUpon])
      exact hK _ _ rfl hC bR
    refine oC ?_ ?_
    ·as_aux_lemma =>
      intro aa ww hC hdep hv KK hK
      have d5 : aa.tmps.getD 5 undef = .pointer (some ⟨(n0 + 1), 0, none⟩) := hv 5 (slotOk_spec (by kernel_rfl))
      have d5_ := gD d5
      clear hdep hv
      have hb := hX_5.up hC
      obtain ⟨cc0, cc1, cc2, cc3, cc4, cc5, cc6, cc7, cc8, cc9⟩ := bx10 hb
      (unfold opTo; go_simp; try simp only [opUpon])
      exact hK _ _ rfl hC bR
    refine oC ?_ ?_
    ·as_aux_lemma =>
      intro aa ww hC hdep hv KK hK
      have d34 : aa.tmps.getD 34 undef = (.agg #[.int .u32 g.sa, .int .u16 g.sp, .int .u32 g.da, .int .u16 g.dp, .int .u32 g.sq, .int .u32 g.ak, .int .u8 g.fl, .int .u16 g.wi, .int .u16 g.op.mss, .int .i64 g.op.sc, .bool g.op.sk, .slice A n c, .bool g.op.tm, .int .u32 g.op.va, .int .u32 g.op.ec, .string (tx g.dt)]) := dep_of hdep 3 34 (by kernel_rfl)
      have d35 : aa.tmps.getD 35 undef = (.agg #[.int .u32 a1, .int .u16 p1, .int .u32 b1, .int .u16 q1, .int .u32 y1, .int .u32 z1, .int .u32 v1, .int .u32 ec, .int .i64 up, .int .i64 dn]) := dep_of hdep 4 35 (by kernel_rfl)
      have d34_ := gD d34
      have d35_ := gD d35
      clear hdep hv
      (unfold opTo; go_simp; try simp only [opUpon])
      refine (H4.out _ ((HG.out.up (hu5.on hC)).seg c)).mono ?_; rintro e w9 ⟨X, rfl, hX9, hu9⟩; exact ⟨_, rfl, hK _ _ hX9 (Up.on hC hu9) hu9⟩
    refine oC ?_ ?_
    ·as_aux_lemma =>
      intro aa ww hC hdep hv KK hK
      have g33 : TkV t (aa.tmps.getD 33 undef) ww := dep_of hdep 2 33 (by kernel_rfl); generalize hx33 : aa.tmps.getD 33 undef = X33 at g33; have d33 := hx33; clear hx33
      have g36 : TkV t (aa.tmps.getD 36 undef) ww := dep_of hdep 5 36 (by kernel_rfl); generalize hx36 : aa.tmps.getD 36 undef = X36 at g36; have d36 := hx36; clear hx36
      have d33_ := gD d33
      have d36_ := gD d36
      clear hdep hv
      (unfold opTo; go_simp; try simp only [opUpon])
      refine (refSameV _ g33 g36 (by have := hgt.2.2.1; unfold maxLen; omega)).mono ?_; rintro e w9 ⟨rfl, hu9⟩; rw [sameS_t rfl]; exact ⟨_, rfl, hK _ _ rfl (Up.on hC hu9) hu9⟩
    refine oC ?_ ?_
    ·as_aux_lemma =>
      intro aa ww hC hdep hv KK hK
      have d37 : aa.tmps.getD 37 undef = .bool true := dep_of hdep 6 37 (by kernel_rfl)
      have d37_ := gD d37
      clear hdep hv
      (unfold opTo; go_simp; try simp only [opUpon])
      exact hK _ _ rfl hC bR
    refine oC ?_ ?_
    ·as_aux_lemma =>
      intro aa ww hC hdep hv KK hK
      have d7 : aa.tmps.getD 7 undef = .string SR := hv 7 (slotOk_spec (by kernel_rfl))
      have d7_ := gD d7
      clear hdep hv
      (unfold opTo; go_simp; try simp only [opUpon])
      exact hK _ _ rfl hC bR
    refine oC ?_ ?_
    ·as_aux_lemma =>
      intro aa ww hC hdep hv KK hK
      have d9 : aa.tmps.getD 9 undef = .string SR := hv 9 (slotOk_spec (by kernel_rfl))
      have d9_ := gD d9
      clear hdep hv
      (unfold opTo; go_simp; try simp only [opUpon])
      exact hK _ _ rfl hC bR
    refine oC ?_ ?_
    ·as_aux_lemma =>
      intro aa ww hC hdep hv KK hK
      have d39 : aa.tmps.getD 39 undef = .string SR := dep_of hdep 8 39 (by kernel_rfl)
      have d40 : aa.tmps.getD 40 undef = .string SR := dep_of hdep 9 40 (by kernel_rfl)
      have d39_ := gD d39
      have d40_ := gD d40
      clear hdep hv
      (unfold opTo; go_simp; try simp only [opUpon])
      exact hK _ _ rfl hC bR
    refine oC ?_ ?_
    ·as_aux_lemma =>
      intro aa ww hC hdep hv KK hK
      have d38 : aa.tmps.getD 38 undef = .bool true := dep_of hdep 7 38 (by kernel_rfl)
      have d41 : aa.tmps.getD 41 undef = .bool true := dep_of hdep 10 41 (by kernel_rfl)
      have d38_ := gD d38
      have d41_ := gD d41
      clear hdep hv
      (unfold opTo; go_simp; try simp only [opUpon])
      exact hK _ _ rfl hC bR
    refine oC ?_ ?_
    ·as_aux_lemma =>
      intro aa ww hC hdep hv KK hK
      have d42 : aa.tmps.getD 42 undef = .bool true := dep_of hdep 11 42 (by kernel_rfl)
      have d42_ := gD d42
      clear hdep hv
      (unfold opTo; go_simp; try simp only [opUpon])
      exact hK _ _ rfl hC bR
    refine oC ?_ ?_
    ·as_aux_lemma =>
      intro aa ww hC hdep hv KK hK
      have d8 : aa.tmps.getD 8 undef = .int .i64 NR := hv 8 (slotOk_spec (by kernel_rfl))
      have d8_ := gD d8
      clear hdep hv
      (unfold opTo; go_simp; try simp only [opUpon])
      exact hK _ _ rfl hC bR
    refine oC ?_ ?_
    ·as_aux_lemma =>
      intro aa ww hC hdep hv KK hK
      have d10 : aa.tmps.getD 10 undef = .int .i64 NR := hv 10 (slotOk_spec (by kernel_rfl))
      have d10_ := gD d10
      clear hdep hv
      (unfold opTo; go_simp; try simp only [opUpon])
      exact hK _ _ rfl hC bR
    refine oC ?_ ?_
    ·as_aux_lemma =>
      intro aa ww hC hdep hv KK hK
      have d44 : aa.tmps.getD 44 undef = .int .i64 NR := dep_of hdep 13 44 (by kernel_rfl)
      have d45 : aa.tmps.getD 45 undef = .int .i64 NR := dep_of hdep 14 45 (by kernel_rfl)
      have d44_ := gD d44
      have d45_ := gD d45
      clear hdep hv
      (unfold opTo; go_simp; try simp only [opUpon])
      exact hK _ _ rfl hC bR
    refine oC ?_ ?_
    ·as_aux_lemma =>
      intro aa ww hC hdep hv KK hK
      have d43 : aa.tmps.getD 43 undef = .bool true := dep_of hdep 12 43 (by kernel_rfl)
      have d46 : aa.tmps.getD 46 undef = .bool true := dep_of hdep 15 46 (by kernel_rfl)
      have d43_ := gD d43
      have d46_ := gD d46
      clear hdep hv
      (unfold opTo; go_simp; try simp only [opUpon])
      exact hK _ _ rfl hC bR
    refine oC ?_ ?_
    ·as_aux_lemma =>
      intro aa ww hC hdep hv KK hK
      have d47 : aa.tmps.getD 47 undef = .bool true := dep_of hdep 16 47 (by kernel_rfl)
      have d47_ := gD d47
      clear hdep hv
      (unfold opTo; go_simp; try simp only [opUpon])
      exact hK _ _ rfl hC bR
    refine oC ?_ ?_
    ·as_aux_lemma =>
      intro aa ww hC hdep hv KK hK
      clear hdep hv
      (unfold opTo; go_simp; try simp only [opUpon])
      exact (aliveC _).mono fun e w9 h => ⟨_, h.1, hK _ _ rfl (Up.on hC h.2) h.2⟩
    refine oC ?_ ?_
    ·as_aux_lemma =>
      intro aa ww hC hdep hv KK hK
      have d48 : aa.tmps.getD 48 undef = .bool true := dep_of hdep 17 48 (by kernel_rfl)
      have d49 : aa.tmps.getD 49 undef = .bool true := dep_of hdep 18 49 (by kernel_rfl)
      have d48_ := gD d48
      have d49_ := gD d49
      clear hdep hv
      (unfold opTo; go_simp; try simp only [opUpon])
      exact hK _ _ rfl hC bR
    refine oC ?_ ?_
    ·as_aux_lemma =>
      intro aa ww hC hdep hv KK hK
      have d50 : aa.tmps.getD 50 undef = .bool true := dep_of hdep 19 50 (by kernel_rfl)
      have d50_ := gD d50
      clear hdep hv
      (unfold opTo; go_simp; try simp only [opUpon])
      exact hK _ _ rfl hC bR
    exact obligs_nil
   intro vals ww hC hY
   have e0 : vals 0 = (.agg #[.int .u32 g.sa, .int .u16 g.sp, .int .u32 g.da, .int .u16 g.dp, .int .u32 g.sq, .int .u32 g.ak, .int .u8 g.fl, .int .u16 g.wi, .int .u16 g.op.mss, .int .i64 g.op.sc, .bool g.op.sk, .slice A n c, .bool g.op.tm, .int .u32 g.op.va, .int .u32 g.op.ec, .string (tx g.dt)]) := hY 0 _ _ rfl rfl
   have e1 : vals 1 = (.agg #[.int .u32 a1, .int .u16 p1, .int .u32 b1, .int .u16 q1, .int .u32 y1, .int .u32 z1, .int .u32 v1, .int .u32 ec, .int .i64 up, .int .i64 dn]) := hY 1 _ _ rfl rfl
   have q2 : TkV t (vals 2) ww := hY 2 _ _ rfl rfl; generalize hx2 : vals 2 = X2 at q2; have e2 := hx2; clear hx2
   have e3 : vals 3 = (.agg #[.int .u32 g.sa, .int .u16 g.sp, .int .u32 g.da, .int .u16 g.dp, .int .u32 g.sq, .int .u32 g.ak, .int .u8 g.fl, .int .u16 g.wi, .int .u16 g.op.mss, .int .i64 g.op.sc, .bool g.op.sk, .slice A n c, .bool g.op.tm, .int .u32 g.op.va, .int .u32 g.op.ec, .string (tx g.dt)]) := hY 3 _ _ rfl rfl
   have e4 : vals 4 = (.agg #[.int .u32 a1, .int .u16 p1, .int .u32 b1, .int .u16 q1, .int .u32 y1, .int .u32 z1, .int .u32 v1, .int .u32 ec, .int .i64 up, .int .i64 dn]) := hY 4 _ _ rfl rfl
   have q5 : TkV t (vals 5) ww := hY 5 _ _ rfl rfl; generalize hx5 : vals 5 = X5 at q5; have e5 := hx5; clear hx5
   have e6 : vals 6 = .bool true := hY 6 _ _ rfl rfl
   have e7 : vals 7 = .bool true := hY 7 _ _ rfl rfl
   have e8 : vals 8 = .string SR := hY 8 _ _ rfl rfl
   have e9 : vals 9 = .string SR := hY 9 _ _ rfl rfl
   have e10 : vals 10 = .bool true := hY 10 _ _ rfl rfl
   have e11 : vals 11 = .bool true := hY 11 _ _ rfl rfl
   have e12 : vals 12 = .bool true := hY 12 _ _ rfl rfl
   have e13 : vals 13 = .int .i64 NR := hY 13 _ _ rfl rfl
   have e14 : vals 14 = .int .i64 NR := hY 14 _ _ rfl rfl
   have e15 : vals 15 = .bool true := hY 15 _ _ rfl rfl
   have e16 : vals 16 = .bool true := hY 16 _ _ rfl rfl
   have e17 : vals 17 = .bool true := hY 17 _ _ rfl rfl
   have e18 : vals 18 = .bool true := hY 18 _ _ rfl rfl
   have e19 : vals 19 = .bool true := hY 19 _ _ rfl rfl
   have e20 : vals 20 = .bool true := hY 20 _ _ rfl rfl
   clear hY
   (try simp only [List.append_eq, List.cons_append, List.nil_append])
   simp only [putAll, Act.put, List.setIfInBounds_toArray, List.set_cons_zero, List.set_cons_succ, e0, e1, e2, e3, e4, e5, e6, e7, e8, e9, e10, e11, e12, e13, e14, e15, e16, e17, e18, e19, e20]
   clear e0 e1 e2 e3 e4 e5 e6 e7 e8 e9 e10 e11 e12 e13 e14 e15 e16 e17 e18 e19 e20
   have huE := hu5.on hC
   generalize ww = wE at huE ⊢
   go_wp2
   go_ret
   exact ⟨rfl, huE⟩
end Go.Proofs.YtafckmbgefbonaaGreat.pk
