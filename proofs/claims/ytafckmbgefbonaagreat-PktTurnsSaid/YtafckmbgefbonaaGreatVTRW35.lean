/- T R W: contracts, part 35. Condition: as each says. -/
import Derived.Test.YtafckmbgefbonaaGreatVTRW20
import Derived.Test.YtafckmbgefbonaaGreatVTRW32
import Derived.Test.YtafckmbgefbonaaGreatVTRW34
set_option linter.unusedVariables false
set_option linter.unusedSimpArgs false
set_option maxRecDepth 100000
set_option maxHeartbeats 8000000
namespace Go.Proofs.YtafckmbgefbonaaGreat.pk
open RowKit Shelf Lib sm nb pm

theorem opts_at {l : List UInt8} (h : errP l = 0) : l.length = 40 + (optsOf (l.drop 20)).length + (valP l).dt.length ∧ (l.drop 40).take (optsOf (l.drop 20)).length = optsOf (l.drop 20) := by
 obtain ⟨i1, i2, i3⟩ := errP_is0 h
 obtain ⟨g1, g2, g3, g4⟩ := errG_is0 i3
 obtain ⟨k1, k2, k3, k4, k5⟩ := cm.dec_is0 g1
 have hlen : (l.drop 20).length = l.length - 20 := List.length_drop
 have hb12 := bt_bd (l.drop 20) 12
 obtain ⟨n, n1, n2, n3, n4⟩ : ∃ n : Nat, cm.hl (l.drop 20) = (n : Int) ∧ 20 ≤ n ∧ n ≤ l.length - 20 ∧ n % 4 = 0 := by
  refine ⟨(cm.hl (l.drop 20)).toNat, ?_⟩
  unfold cm.hl at *
  omega
 have nn : (cm.hl (l.drop 20)).toNat = n := by omega
 have hO : (optsOf (l.drop 20)).length = n - 20 := by unfold optsOf; rw [nn, List.length_take, List.length_drop, hlen]; omega
 have hD : (valP l).dt.length = l.length - 20 - n := by show ((l.drop 20).drop (cm.hl (l.drop 20)).toNat).length = _; rw [nn, List.length_drop, hlen]
 refine ⟨by rw [hO, hD]; omega, ?_⟩
 rw [hO]
 unfold optsOf
 rw [nn, List.drop_drop]
section
variable {w0 : World} {B n cap ch sh ph cg sg pg b6 : Nat} {vs : List Value} {t : St} {W : World}
theorem new_ne (hs : RS w0 B n cap ch sh ph cg sg pg b6 vs t W) : W.heap.size ≠ ch ∧ W.heap.size ≠ cg ∧ W.heap.size ≠ B := by
 have := hs.h1.1; have := hs.g1.1; have := hs.x.1; omega
theorem put4HG (k : Nat) (K : Int) (v : Nat) (hK : K = (k : Int)) (hf : RF w0 B n cap ch sh ph cg sg pg b6) (hs : RS w0 B n cap ch sh ph cg sg pg b6 vs t W) (hv : v ≤ 4294967295) (hk : k + 4 ≤ n) :
  Calls Tryz.prog 43 #[.slice (some ⟨B, 0, none⟩) n cap, .int .i64 K, .int .u32 v, .slice (some ⟨W.heap.size, 0, none⟩) 2 2] (W.alloc (.cells #[cloV ch sh ph, cloV cg sg pg] 79)) fun e W' => (∃ r, e = .returned r) ∧ RS w0 B n cap ch sh ph cg sg pg b6 vs (layS [true, false] k (B32 v) t) W' := by
 subst hK
 obtain ⟨n1, n2, n3⟩ := new_ne hs
 exact put4C [true, false] k v W.heap.size hf (hs.on (up_al _ bR)) (Box.new W #[cloV ch sh ph, cloV cg sg pg] 79) n1 n2 n3 hv hk 2 rfl (by decide)
theorem put4G (k : Nat) (K : Int) (v : Nat) (hK : K = (k : Int)) (hf : RF w0 B n cap ch sh ph cg sg pg b6) (hs : RS w0 B n cap ch sh ph cg sg pg b6 vs t W) (hv : v ≤ 4294967295) (hk : k + 4 ≤ n) :
  Calls Tryz.prog 43 #[.slice (some ⟨B, 0, none⟩) n cap, .int .i64 K, .int .u32 v, .slice (some ⟨W.heap.size, 0, none⟩) 1 1] (W.alloc (.cells #[cloV cg sg pg] 79)) fun e W' => (∃ r, e = .returned r) ∧ RS w0 B n cap ch sh ph cg sg pg b6 vs (layS [false] k (B32 v) t) W' := by
 subst hK
 obtain ⟨n1, n2, n3⟩ := new_ne hs
 exact put4C [false] k v W.heap.size hf (hs.on (up_al _ bR)) (Box.new W #[cloV cg sg pg] 79) n1 n2 n3 hv hk 1 rfl (by decide)
theorem put2G (k : Nat) (K : Int) (v : Nat) (hK : K = (k : Int)) (hf : RF w0 B n cap ch sh ph cg sg pg b6) (hs : RS w0 B n cap ch sh ph cg sg pg b6 vs t W) (hv : v ≤ 65535) (hk : k + 2 ≤ n) :
  Calls Tryz.prog 44 #[.slice (some ⟨B, 0, none⟩) n cap, .int .i64 K, .int .u16 v, .slice (some ⟨W.heap.size, 0, none⟩) 1 1] (W.alloc (.cells #[cloV cg sg pg] 79)) fun e W' => (∃ r, e = .returned r) ∧ RS w0 B n cap ch sh ph cg sg pg b6 vs (layS [false] k (B16 v) t) W' := by
 subst hK
 obtain ⟨n1, n2, n3⟩ := new_ne hs
 exact put2C [false] k v W.heap.size hf (hs.on (up_al _ bR)) (Box.new W #[cloV cg sg pg] 79) n1 n2 n3 hv hk 1 rfl (by decide)
theorem layG (k : Nat) (K : Int) (N : ByteArray) (hK : K = (k : Int)) (hf : RF w0 B n cap ch sh ph cg sg pg b6) (hs : RS w0 B n cap ch sh ph cg sg pg b6 vs t W) (m : Nat) (hm : N.size = m) (hk : k + m ≤ n) :
  Calls Tryz.prog 45 #[.slice (some ⟨B, 0, none⟩) n cap, .int .i64 K, .string N, .slice (some ⟨W.heap.size, 0, none⟩) 1 1] (W.alloc (.cells #[cloV cg sg pg] 79)) fun e W' => (∃ r, e = .returned r) ∧ RS w0 B n cap ch sh ph cg sg pg b6 vs (layS [false] k (L N) t) W' := by
 subst hK
 obtain ⟨n1, n2, n3⟩ := new_ne hs
 exact layA [false] k N W.heap.size hf (hs.on (up_al _ bR)) (Box.new W #[cloV cg sg pg] 79) n1 n2 n3 m hm hk 1 rfl (by decide)
end
theorem lrewrite0 (x : ByteArray) (a1 p1 b1 q1 y1 z1 v1 ee1 : Nat) (up dn : Int) (w : World) (hx : x.size ≤ 1048576) (he : errP (L x) ≠ 0) :
  Calls Tryz.prog 18 #[.string x, SHV a1 p1 b1 q1 y1 z1 v1 ee1 up dn] w fun e_ w' => e_ = .returned (RWV (L x) ⟨a1, b1, p1, q1, y1, z1, v1, ee1, up, dn⟩) ∧ Up w w' := by
 have HV : Hid (RWV (L x) ⟨a1, b1, p1, q1, y1, z1, v1, ee1, up, dn⟩ = .tuple #[.string ByteArray.empty, .int .i64 (errP (L x) : Nat)]) := if_neg he
 have HD := Lib.hid (fun w => decodeC x w hx)
 rw [decP_bad he] at HD
 generalize errP (L x) = n at HV HD he
 have c0 : ¬ (n : Int) = 0 := by omega
 go_enter Tryz.func18, Tryz.ntmps18
 go_upto_region 1 with fail
 have hu := up_al (w := w) (.cells #[.int .u32 a1, .int .u16 p1, .int .u32 b1, .int .u16 q1, .int .u32 y1, .int .u32 z1, .int .u32 v1, .int .u32 ee1, .int .i64 up, .int .i64 dn] 46) bR
 generalize (w.alloc (.cells #[.int .u32 a1, .int .u16 p1, .int .u32 b1, .int .u16 q1, .int .u32 y1, .int .u32 z1, .int .u32 v1, .int .u32 ee1, .int .i64 up, .int .i64 dn] 46)) = w0 at hu ⊢
 go_wp2_with fail
 refine (HD.out w0).mono ?_
 rintro e w1 ⟨X, rfl, ⟨A, nn, cc, rfl, hl, hr⟩, hv⟩
 have hu1 := hu.on hv
 clear hu hv
 go_upto_region 2 with fail
 generalize hw2 : World.alloc w1 _ = w2
 have hu2 : Up w w2 := hw2 ▸ up_al _ hu1
 clear hw2
 go_wp2_with fail
 go_ret2
 exact ⟨by rw [HV.out]; rfl, hu2⟩
theorem lrewrite1 (x : ByteArray) (a1 p1 b1 q1 y1 z1 v1 ee1 : Nat) (up dn : Int) (w : World) (hx : x.size ≤ 1048576) (he : errP (L x) = 0) (hX : WfX ⟨a1, b1, p1, q1, y1, z1, v1, ee1, up, dn⟩) :
  Calls Tryz.prog 18 #[.string x, SHV a1 p1 b1 q1 y1 z1 v1 ee1 up dn] w fun e_ w' => e_ = .returned (RWV (L x) ⟨a1, b1, p1, q1, y1, z1, v1, ee1, up, dn⟩) ∧ Up w w' := by
 have HV : Hid (RWV (L x) ⟨a1, b1, p1, q1, y1, z1, v1, ee1, up, dn⟩ = .tuple #[.string (tx (rwP ⟨a1, b1, p1, q1, y1, z1, v1, ee1, up, dn⟩ (L x))), .int .i64 0]) := if_pos he
 have HD := Lib.hid (fun w => decodeC x w hx)
 have hgd := good_dec (L x) hx
 rw [decP_ok he] at HD hgd
 rw [he] at HD
 obtain ⟨i1, i2, i3⟩ := errP_is0 he
 obtain ⟨g1, g2, g3, g4⟩ := errG_is0 i3
 obtain ⟨o1, o2⟩ := opts_at he
 obtain ⟨r1, r2, r3⟩ := room he
 rw [L_len] at o1
 have hx6 : z1 ≤ 4294967295 := hX.2.2.2.2.2.1
 have hx7 : v1 ≤ 4294967295 := hX.2.2.2.2.2.2.1
 have hx8 : ee1 ≤ 4294967295 := hX.2.2.2.2.2.2.2
 have HRW := Lib.hid (rw_steps hX he)
 dsimp only at HRW
 obtain ⟨o, ho⟩ : ∃ o, o = tx (om.turnL z1 v1 ee1 (optsOf ((L x).drop 20))) := ⟨_, rfl⟩
 have hT : op.TV (optsOf ((L x).drop 20)) z1 v1 ee1 = .tuple #[.string o, .int .i64 0] := by rw [op.TV_ok g2, ho]
 have hlo : L o = om.turnL z1 v1 ee1 (optsOf ((L x).drop 20)) := by rw [ho, L_tx]
 have hzo : o.size = (optsOf ((L x).drop 20)).length := by rw [← L_len, hlo]; exact (om.turn_err g2).2.2
 rw [← hlo] at HRW
 rw [← hzo] at o1 o2 r3
 obtain ⟨O, hO⟩ : ∃ O, O = x.extract 40 (40 + o.size) := ⟨_, rfl⟩
 have hLO : L O = optsOf ((L x).drop 20) := by rw [hO, L_extract, show 40 + o.size - 40 = o.size by omega, o2]
 have HTn := Lib.hid (fun w => op.turnC O z1 v1 ee1 w (by rw [← L_len, hLO, ← hzo]; omega) (by unfold om.M32; omega) (by unfold om.M32; omega) (by unfold om.M32; omega))
 rw [hLO, hT] at HTn
 have HO := Lib.hid hO
 obtain ⟨G, hG⟩ : ∃ G, valP (L x) = G := ⟨_, rfl⟩
 rw [hG] at HD hgd HRW o1
 have HTu := Lib.hid (fun v w (h : SegV w v G) => turnedC a1 p1 b1 q1 y1 z1 v1 ee1 up dn w h hgd hX)
 have hgt := good_t hX hgd
 obtain ⟨t, ht⟩ : ∃ t, t = tS ⟨a1, b1, p1, q1, y1, z1, v1, ee1, up, dn⟩ G := ⟨_, rfl⟩
 rw [← ht] at HTu HRW hgt
 obtain ⟨⟨m1, m2, m3, m4, m5, m6, m7, m8, m9⟩, _⟩ := hgt
 obtain ⟨D, hD⟩ : ∃ D, D = G.dt.length := ⟨_, rfl⟩
 have hDz : (tx G.dt).size = D := by rw [tx_size, hD]
 rw [← hD] at o1
 obtain ⟨pe, hpe⟩ : ∃ pe, pe = 40 + o.size := ⟨_, rfl⟩
 have y1_ : IntKind.i64.wrap ((x.size : Int) - (D : Int)) = (pe : Int) := by rw [IntWalk.i64_in _ (by omega)]; omega
 have y0_ : IntKind.i64.wrap (pe : Int) = (pe : Int) := IntWalk.i64_in _ (by omega)
 have y2_ : (x.size : Int) - (D : Int) = (pe : Int) := by omega
 have y3_ : (40 : Int) ≤ (pe : Int) := by omega
 have y4_ : (pe : Int) ≤ (x.size : Int) := by omega
 have y5_ : x.extract 40 pe = O := by rw [HO.out, hpe]
 have hoz : 40 + o.size ≤ x.size := by omega
 have w10 := nat_of (wd_bd (L x) 10).1
 have w36 := nat_of (wd_bd (L x) 36).1
 have b10 := (wd_bd (L x) 10).2
 have b36 := (wd_bd (L x) 36).2
 clear he i1 i2 i3 g1 g2 g3 g4 r1 r2 o1 o2 hT hlo hzo hO hLO ho hG ht hD hX hpe hgd HO
 go_enter Tryz.func18, Tryz.ntmps18
 go_upto_region 1 with fail
 have hB := Box.new w #[.int .u32 a1, .int .u16 p1, .int .u32 b1, .int .u16 q1, .int .u32 y1, .int .u32 z1, .int .u32 v1, .int .u32 ee1, .int .i64 up, .int .i64 dn] 46
 have hu := upM hB bR
 generalize World.alloc w _ = w0 at hB hu ⊢
 obtain ⟨n0, hn0⟩ : ∃ n0, n0 = w.heap.size := ⟨_, rfl⟩
 have hle : w.heap.size ≤ n0 := by omega
 rw [← hn0] at hB ⊢
 clear hn0
 go_wp2_with fail
 refine (HD.out w0).mono ?_
 rintro e_ w1 ⟨X, rfl, ⟨A, nn, cc, rfl, hl, hr⟩, hv⟩
 have hu1 := hu.on hv
 have hB1 := hB.up hv
 clear hu hv hB HD
 go_upto_region 2 with fail
 have hn01 := hB1.1
 have hS2 := Box.new w1 #[.int .u32 G.sa, .int .u16 G.sp, .int .u32 G.da, .int .u16 G.dp, .int .u32 G.sq, .int .u32 G.ak, .int .u8 G.fl, .int .u16 G.wi, .int .u16 G.op.mss, .int .i64 G.op.sc, .bool G.op.sk, .slice A nn cc, .bool G.op.tm, .int .u32 G.op.va, .int .u32 G.op.ec, .string (tx G.dt)] 30
 have hB2 := alN hS2 hB1
 have hr2 := hr.up (up_al (.cells #[.int .u32 G.sa, .int .u16 G.sp, .int .u32 G.da, .int .u16 G.dp, .int .u32 G.sq, .int .u32 G.ak, .int .u8 G.fl, .int .u16 G.wi, .int .u16 G.op.mss, .int .i64 G.op.sc, .bool G.op.sk, .slice A nn cc, .bool G.op.tm, .int .u32 G.op.va, .int .u32 G.op.ec, .string (tx G.dt)] 30) (Below.refl _ w1))
 have hu2 := upM hS2 hu1
 generalize World.alloc w1 _ = w2 at hS2 hB2 hr2 hu2 ⊢
 generalize w1.heap.size = s0 at hS2 hn01 ⊢
 clear hB1 hu1 hr w1
 go_upto_region 4 with fail
 refine wp_region_rel2 (fun W => Up w2 W) (fun W W' => Up W W') (Ys [Det (.string x),
  Det (.string x),
  Det (.int .i64 x.size),
  Det (.pointer (some ⟨s0, 15, none⟩)),
  Det (.string (tx G.dt)),
  Det (.int .i64 D),
  Det (.int .i64 pe),
  Det (.string O),
  Det (.pointer (some ⟨n0, 5, none⟩)),
  Det (.int .u32 z1),
  Det (.pointer (some ⟨n0, 6, none⟩)),
  Det (.int .u32 v1),
  Det (.pointer (some ⟨n0, 7, none⟩)),
  Det (.int .u32 ee1),
  Det (.tuple #[.string o, .int .i64 0]),
  Det (.tuple #[.string o, .int .i64 0]),
  Det (.string o),
  Det (.int .i64 0),
  Det (.string o),
  Det (.int .i64 0)]) (by kernel_rfl) (by kernel_rfl) (up_dr bR) (Stable.ys ⟨Det.st _, Det.st _, Det.st _, Det.st _, Det.st _, Det.st _, Det.st _, Det.st _, Det.st _, Det.st _, Det.st _, Det.st _, Det.st _, Det.st _, Det.st _, Det.st _, Det.st _, Det.st _, Det.st _, Det.st _, trivial⟩) ?_ ?_
 ·
  refine oC ?_ ?_
  ·intro aa ww hC hp hvar KK hK
   have d0 : aa.tmps.getD 0 undef = .string x := hvar 0 (slotOk_spec (by kernel_rfl))
   have d0_ := gD d0
   clear hp hvar
   (unfold opTo; go_simp; try simp only [opUpon])
   exact hK _ _ rfl hC bR
  refine oC ?_ ?_
  ·intro aa ww hC hp hvar KK hK
   have d0 : aa.tmps.getD 0 undef = .string x := hvar 0 (slotOk_spec (by kernel_rfl))
   have d0_ := gD d0
   clear hp hvar
   (unfold opTo; go_simp; try simp only [opUpon])
   exact hK _ _ rfl hC bR
  refine oC ?_ ?_
  ·intro aa ww hC hp hvar KK hK
   have d22 : aa.tmps.getD 22 undef = .string x := dep_of hp 1 22 (by kernel_rfl)
   have d22_ := gD d22
   clear hp hvar
   (unfold opTo; go_simp; try simp only [opUpon])
   exact hK _ _ rfl hC bR
  refine oC ?_ ?_
  ·intro aa ww hC hp hvar KK hK
   have d6 : aa.tmps.getD 6 undef = .pointer (some ⟨s0, 0, none⟩) := hvar 6 (slotOk_spec (by kernel_rfl))
   have d6_ := gD d6
   clear hp hvar
   (unfold opTo; go_simp; try simp only [opUpon])
   exact hK _ _ rfl hC bR
  refine oC ?_ ?_
  ·intro aa ww hC hp hvar KK hK
   have d24 : aa.tmps.getD 24 undef = .pointer (some ⟨s0, 15, none⟩) := dep_of hp 3 24 (by kernel_rfl)
   have d24_ := gD d24
   clear hp hvar
   have cc := (hS2.up hC).at 15 rfl
   (unfold opTo; go_simp; try simp only [opUpon])
   exact hK _ _ rfl hC bR
  refine oC ?_ ?_
  ·intro aa ww hC hp hvar KK hK
   have d25 : aa.tmps.getD 25 undef = .string (tx G.dt) := dep_of hp 4 25 (by kernel_rfl)
   have d25_ := gD d25
   clear hp hvar
   (unfold opTo; go_simp; try simp only [opUpon])
   exact hK _ _ rfl hC bR
  refine oC ?_ ?_
  ·intro aa ww hC hp hvar KK hK
   have d23 : aa.tmps.getD 23 undef = .int .i64 x.size := dep_of hp 2 23 (by kernel_rfl)
   have d26 : aa.tmps.getD 26 undef = .int .i64 D := dep_of hp 5 26 (by kernel_rfl)
   have d23_ := gD d23
   have d26_ := gD d26
   clear hp hvar
   (unfold opTo; go_simp; try simp only [opUpon])
   exact hK _ _ rfl hC bR
  refine oC ?_ ?_
  ·intro aa ww hC hp hvar KK hK
   have d21 : aa.tmps.getD 21 undef = .string x := dep_of hp 0 21 (by kernel_rfl)
   have d27 : aa.tmps.getD 27 undef = .int .i64 pe := dep_of hp 6 27 (by kernel_rfl)
   have d21_ := gD d21
   have d27_ := gD d27
   clear hp hvar
   (unfold opTo; go_simp; try simp only [opUpon])
   exact hK _ _ rfl hC bR
  refine oC ?_ ?_
  ·intro aa ww hC hp hvar KK hK
   have d3 : aa.tmps.getD 3 undef = .pointer (some ⟨n0, 0, none⟩) := hvar 3 (slotOk_spec (by kernel_rfl))
   have d3_ := gD d3
   clear hp hvar
   (unfold opTo; go_simp; try simp only [opUpon])
   exact hK _ _ rfl hC bR
  refine oC ?_ ?_
  ·intro aa ww hC hp hvar KK hK
   have d29 : aa.tmps.getD 29 undef = .pointer (some ⟨n0, 5, none⟩) := dep_of hp 8 29 (by kernel_rfl)
   have d29_ := gD d29
   clear hp hvar
   have cc := (hB2.up hC).at 5 rfl
   (unfold opTo; go_simp; try simp only [opUpon])
   exact hK _ _ rfl hC bR
  refine oC ?_ ?_
  ·intro aa ww hC hp hvar KK hK
   have d3 : aa.tmps.getD 3 undef = .pointer (some ⟨n0, 0, none⟩) := hvar 3 (slotOk_spec (by kernel_rfl))
   have d3_ := gD d3
   clear hp hvar
   (unfold opTo; go_simp; try simp only [opUpon])
   exact hK _ _ rfl hC bR
  refine oC ?_ ?_
  ·intro aa ww hC hp hvar KK hK
   have d31 : aa.tmps.getD 31 undef = .pointer (some ⟨n0, 6, none⟩) := dep_of hp 10 31 (by kernel_rfl)
   have d31_ := gD d31
   clear hp hvar
   have cc := (hB2.up hC).at 6 rfl
   (unfold opTo; go_simp; try simp only [opUpon])
   exact hK _ _ rfl hC bR
  refine oC ?_ ?_
  ·intro aa ww hC hp hvar KK hK
   have d3 : aa.tmps.getD 3 undef = .pointer (some ⟨n0, 0, none⟩) := hvar 3 (slotOk_spec (by kernel_rfl))
   have d3_ := gD d3
   clear hp hvar
   (unfold opTo; go_simp; try simp only [opUpon])
   exact hK _ _ rfl hC bR
  refine oC ?_ ?_
  ·intro aa ww hC hp hvar KK hK
   have d33 : aa.tmps.getD 33 undef = .pointer (some ⟨n0, 7, none⟩) := dep_of hp 12 33 (by kernel_rfl)
   have d33_ := gD d33
   clear hp hvar
   have cc := (hB2.up hC).at 7 rfl
   (unfold opTo; go_simp; try simp only [opUpon])
   exact hK _ _ rfl hC bR
  refine oC ?_ ?_
  ·intro aa ww hC hp hvar KK hK
   have d28 : aa.tmps.getD 28 undef = .string O := dep_of hp 7 28 (by kernel_rfl)
   have d30 : aa.tmps.getD 30 undef = .int .u32 z1 := dep_of hp 9 30 (by kernel_rfl)
   have d32 : aa.tmps.getD 32 undef = .int .u32 v1 := dep_of hp 11 32 (by kernel_rfl)
   have d34 : aa.tmps.getD 34 undef = .int .u32 ee1 := dep_of hp 13 34 (by kernel_rfl)
   have d28_ := gD d28
   have d30_ := gD d30
   have d32_ := gD d32
   have d34_ := gD d34
   clear hp hvar
   (unfold opTo; go_simp; try simp only [opUpon])
   exact (HTn.out _).mono fun e w9 h => ⟨_, h.1, hK _ _ rfl (Up.on hC h.2) h.2⟩
  refine oC ?_ ?_
  ·intro aa ww hC hp hvar KK hK
   have d35 : aa.tmps.getD 35 undef = .tuple #[.string o, .int .i64 0] := dep_of hp 14 35 (by kernel_rfl)
   have d35_ := gD d35
   clear hp hvar
   (unfold opTo; go_simp; try simp only [opUpon])
   exact hK _ _ rfl hC bR
  refine oC ?_ ?_
  ·intro aa ww hC hp hvar KK hK
   have d20 : aa.tmps.getD 20 undef = .tuple #[.string o, .int .i64 0] := dep_of hp 15 20 (by kernel_rfl)
   have d20_ := gD d20
   clear hp hvar
   (unfold opTo; go_simp; try simp only [opUpon])
   exact hK _ _ rfl hC bR
  refine oC ?_ ?_
  ·intro aa ww hC hp hvar KK hK
   have d20 : aa.tmps.getD 20 undef = .tuple #[.string o, .int .i64 0] := dep_of hp 15 20 (by kernel_rfl)
   have d20_ := gD d20
   clear hp hvar
   (unfold opTo; go_simp; try simp only [opUpon])
   exact hK _ _ rfl hC bR
  refine oC ?_ ?_
  ·intro aa ww hC hp hvar KK hK
   have d36 : aa.tmps.getD 36 undef = .string o := dep_of hp 16 36 (by kernel_rfl)
   have d36_ := gD d36
   clear hp hvar
   (unfold opTo; go_simp; try simp only [opUpon])
   exact hK _ _ rfl hC bR
  refine oC ?_ ?_
  ·intro aa ww hC hp hvar KK hK
   have d37 : aa.tmps.getD 37 undef = .int .i64 0 := dep_of hp 17 37 (by kernel_rfl)
   have d37_ := gD d37
   clear hp hvar
   (unfold opTo; go_simp; try simp only [opUpon])
   exact hK _ _ rfl hC bR
  exact obligs_nil
 intro vals ww hC hY
 have e0 : vals 0 = .string x := hY 0 _ _ rfl rfl
 have e1 : vals 1 = .string x := hY 1 _ _ rfl rfl
 have e2 : vals 2 = .int .i64 x.size := hY 2 _ _ rfl rfl
 have e3 : vals 3 = .pointer (some ⟨s0, 15, none⟩) := hY 3 _ _ rfl rfl
 have e4 : vals 4 = .string (tx G.dt) := hY 4 _ _ rfl rfl
 have e5 : vals 5 = .int .i64 D := hY 5 _ _ rfl rfl
 have e6 : vals 6 = .int .i64 pe := hY 6 _ _ rfl rfl
 have e7 : vals 7 = .string O := hY 7 _ _ rfl rfl
 have e8 : vals 8 = .pointer (some ⟨n0, 5, none⟩) := hY 8 _ _ rfl rfl
 have e9 : vals 9 = .int .u32 z1 := hY 9 _ _ rfl rfl
 have e10 : vals 10 = .pointer (some ⟨n0, 6, none⟩) := hY 10 _ _ rfl rfl
 have e11 : vals 11 = .int .u32 v1 := hY 11 _ _ rfl rfl
 have e12 : vals 12 = .pointer (some ⟨n0, 7, none⟩) := hY 12 _ _ rfl rfl
 have e13 : vals 13 = .int .u32 ee1 := hY 13 _ _ rfl rfl
 have e14 : vals 14 = .tuple #[.string o, .int .i64 0] := hY 14 _ _ rfl rfl
 have e15 : vals 15 = .tuple #[.string o, .int .i64 0] := hY 15 _ _ rfl rfl
 have e16 : vals 16 = .string o := hY 16 _ _ rfl rfl
 have e17 : vals 17 = .int .i64 0 := hY 17 _ _ rfl rfl
 have e18 : vals 18 = .string o := hY 18 _ _ rfl rfl
 have e19 : vals 19 = .int .i64 0 := hY 19 _ _ rfl rfl
 clear hY
 simp only [putAll, Act.put, List.setIfInBounds_toArray, List.set_cons_zero, List.set_cons_succ, e0, e1, e2, e3, e4, e5, e6, e7, e8, e9, e10, e11, e12, e13, e14, e15, e16, e17, e18, e19]
 clear e0 e1 e2 e3 e4 e5 e6 e7 e8 e9 e10 e11 e12 e13 e14 e15 e16 e17 e18 e19
 have hu3 := hu2.on hC
 have hS3 := hS2.up hC; have hB3 := hB2.up hC; have hr3 := hr2.up hC
 clear hu2 hC hS2 hB2 hr2 HTn y0_ y1_ y2_ y3_ y4_ y5_
 generalize ww = w3 at hu3 hS3 hB3 hr3 ⊢
 obtain ⟨k0, k1, k2, k3, k4, k5, k6, k7, k8, k9, k10, k11, k12, k13, k14, k15⟩ := bx16 hS3; obtain ⟨l0, l1, l2, l3, l4, l5, l6, l7, l8, l9⟩ := bx10 hB3
 go_wp2_with fail
 refine (HTu.out _ w3 ⟨A, nn, cc, rfl, hl, hr3⟩).mono ?_
 rintro e_ w4 ⟨X, rfl, ⟨A', nn', cc', rfl, hl4, hr4⟩, hv⟩
 have hu4 := hu3.on hv
 have hS4 := hS3.up hv
 clear k0 k1 k2 k3 k4 k5 k6 k7 k8 k9 k10 k11 k12 k13 k14 k15 l0 l1 l2 l3 l4 l5 l6 l7 l8 l9 hS3 hB3 hr3 hu3 hv HTu
 obtain ⟨k0, k1, k2, k3, k4, k5, k6, k7, k8, k9, k10, k11, k12, k13, k14, k15⟩ := bx16 hS4; obtain ⟨r0, r1, r2, r3, r4, r5, r6, r7, r8, r9, r10, r11, r12, r13, r14, r15⟩ := bf16 hS4
 go_upto_region 8 with fail
 clear k0 k1 k2 k3 k4 k5 k6 k7 k8 k9 k10 k11 k12 k13 k14 k15 r0 r1 r2 r3 r4 r5 r6 r7 r8 r9 r10 r11 r12 r13 r14 r15
 have hS5 := put16 hS4 (.int .u32 t.sa) (.int .u16 t.sp) (.int .u32 t.da) (.int .u16 t.dp) (.int .u32 t.sq) (.int .u32 t.ak) (.int .u8 t.fl) (.int .u16 t.wi) (.int .u16 t.op.mss) (.int .i64 t.op.sc) (.bool t.op.sk) (.slice A' nn' cc') (.bool t.op.tm) (.int .u32 t.op.va) (.int .u32 t.op.ec) (.string (tx t.dt))
 have hu5 := ups16 (b := s0) hu4 (by omega) (.int .u32 t.sa) (.int .u16 t.sp) (.int .u32 t.da) (.int .u16 t.dp) (.int .u32 t.sq) (.int .u32 t.ak) (.int .u8 t.fl) (.int .u16 t.wi) (.int .u16 t.op.mss) (.int .i64 t.op.sc) (.bool t.op.sk) (.slice A' nn' cc') (.bool t.op.tm) (.int .u32 t.op.va) (.int .u32 t.op.ec) (.string (tx t.dt))
 generalize World.setCell _ ⟨s0, 15, none⟩ _ = w5 at hS5 hu5 ⊢
 clear hS4 hu4 hr4 hl4
 obtain ⟨cap, w6, hcv, hv6, hXb, hcap⟩ := op.conv_bytes x w5
 have hs0B := hS5.1
 have hS6 := hS5.up hv6
 have hu6 := hu5.on hv6
 have hwB : w.heap.size ≤ w5.heap.size := by omega
 generalize w5.heap.size = nX at hcv hXb hs0B hwB
 go_upto_region 9 with fail
 clear hcv hv6 hS5 hu5
 have H10 : Calls Tryz.prog 42 #[.slice (some ⟨nX, 0, none⟩) x.size cap, .int .i64 10] w6 _ := alongC nX x.size cap 10 (L x) w6 hXb (L_len x) (by omega) hx
 go_wp2_with fail
 refine H10.mono ?_
 rintro e_ w7 ⟨ch, sh, ph, rfl, c1, c2, c3, hv7, d1, d2, d3, d4, d5⟩
 have hX7 := hXb.up hv7
 have hS7 := hS6.up hv7
 have hu7 := hu6.on hv7
 have hX6 := hXb.1
 clear H10 hS6 hu6 hv7 hXb
 have H36 : Calls Tryz.prog 42 #[.slice (some ⟨nX, 0, none⟩) x.size cap, .int .i64 36] w7 _ := alongC nX x.size cap 36 (L x) w7 hX7 (L_len x) (by omega) hx
 go_wp2_with fail
 refine H36.mono ?_
 rintro e_ w8 ⟨cg, sg, pg, rfl, f1_, f2_, f3, hv8, j1, j2, j3, j4, j5⟩
 have q1_ := c1.1; have q2_ := c2.1; have q3_ := c3.1
 have hf : RF w nX x.size cap ch sh ph cg sg pg s0 := by
  refine ⟨hcap, by omega, hx, ?_, ?_, ?_, ?_, ?_, ?_, ?_, ?_, ?_, ?_, ?_, ?_, ?_, ?_, ?_, ?_, ?_, ?_, ?_, ?_, ?_⟩ <;> omega
 have c1' := c1.up hv8; have c2' := c2.up hv8; have c3' := c3.up hv8
 rw [← w10] at c1'
 rw [← w36] at f1_
 have hs : RS w nX x.size cap ch sh ph cg sg pg s0 [.int .u32 t.sa, .int .u16 t.sp, .int .u32 t.da, .int .u16 t.dp, .int .u32 t.sq, .int .u32 t.ak, .int .u8 t.fl, .int .u16 t.wi, .int .u16 t.op.mss, .int .i64 t.op.sc, .bool t.op.sk, .slice A' nn' cc', .bool t.op.tm, .int .u32 t.op.va, .int .u32 t.op.ec, .string (tx t.dt)] (⟨(wd (L x) 10).toNat, (wd (L x) 36).toNat, L x⟩) w8 :=
  ⟨hX7.up hv8, L_len x, by dsimp only; omega, by dsimp only; omega, c1', c2', c3', f1_, f2_, f3, hS7.up hv8, hu7.on hv8⟩
 generalize (⟨(wd (L x) 10).toNat, (wd (L x) 36).toNat, L x⟩ : St) = t0 at hs HRW
 clear c1 c2 c3 c1' c2' c3' f1_ f2_ f3 hX7 hS7 hu7 hv8 d1 d2 d3 d4 d5 j1 j2 j3 j4 j5 q1_ q2_ q3_ H36 hX6 w10 w36 b10 b36 hwB hs0B
 have kx := hs.sg_.at 0 rfl
 go_wp2_with fail
 refine (put4HG 12 12 t.sa rfl hf hs m1 (by omega)).mono ?_
 rintro e_ w9 ⟨⟨_, rfl⟩, hs9⟩
 clear kx hs
 have kx := hs9.sg_.at 2 rfl
 go_wp2_with fail
 refine (put4HG 16 16 t.da rfl hf hs9 m2 (by omega)).mono ?_
 rintro e_ w10 ⟨⟨_, rfl⟩, hs10⟩
 clear kx hs9
 have kx := hs10.sg_.at 1 rfl
 go_wp2_with fail
 refine (put2G 20 20 t.sp rfl hf hs10 m3 (by omega)).mono ?_
 rintro e_ w11 ⟨⟨_, rfl⟩, hs11⟩
 clear kx hs10
 have kx := hs11.sg_.at 3 rfl
 go_wp2_with fail
 refine (put2G 22 22 t.dp rfl hf hs11 m4 (by omega)).mono ?_
 rintro e_ w12 ⟨⟨_, rfl⟩, hs12⟩
 clear kx hs11
 have kx := hs12.sg_.at 4 rfl
 go_wp2_with fail
 refine (put4G 24 24 t.sq rfl hf hs12 m5 (by omega)).mono ?_
 rintro e_ w13 ⟨⟨_, rfl⟩, hs13⟩
 clear kx hs12
 have kx := hs13.sg_.at 5 rfl
 go_wp2_with fail
 refine (put4G 28 28 t.ak rfl hf hs13 m6 (by omega)).mono ?_
 rintro e_ w14 ⟨⟨_, rfl⟩, hs14⟩
 clear kx hs13
 have kx := hs14.sg_.at 7 rfl
 go_wp2_with fail
 refine (put2G 34 34 t.wi rfl hf hs14 m8 (by omega)).mono ?_
 rintro e_ w15 ⟨⟨_, rfl⟩, hs15⟩
 clear kx hs14
 go_wp2_with fail
 refine (layG 40 40 o rfl hf hs15 o.size rfl (by omega)).mono ?_
 rintro e_ w16 ⟨⟨_, rfl⟩, hs16⟩
 clear hs15
 have qe := op.conv_row (cap := cap) hs16.len hs16.x
 have hUF := hs16.up
 have hEQ : (layS [false] 40 (L o) (layS [false] 34 (B16 t.wi) (layS [false] 28 (B32 t.ak) (layS [false] 24 (B32 t.sq) (layS [false] 22 (B16 t.dp) (layS [false] 20 (B16 t.sp) (layS [true, false] 16 (B32 t.da) (layS [true, false] 12 (B32 t.sa) t0)))))))).l = rwP ⟨a1, b1, p1, q1, y1, z1, v1, ee1, up, dn⟩ (L x) := HRW.out
 rw [hEQ] at qe
 clear hEQ HRW hs16
 go_wp2_with fail
 go_ret2
 exact ⟨by rw [HV.out]; rfl, hUF⟩
theorem rewriteC (x : ByteArray) (a1 p1 b1 q1 y1 z1 v1 ee1 : Nat) (up dn : Int) (w : World) (hx : x.size ≤ 1048576) (hX : WfX ⟨a1, b1, p1, q1, y1, z1, v1, ee1, up, dn⟩) :
  Calls Tryz.prog 18 #[.string x, SHV a1 p1 b1 q1 y1 z1 v1 ee1 up dn] w fun e_ w' => e_ = .returned (RWV (L x) ⟨a1, b1, p1, q1, y1, z1, v1, ee1, up, dn⟩) ∧ Up w w' := by
 by_cases he : errP (L x) = 0
 ·exact lrewrite1 x a1 p1 b1 q1 y1 z1 v1 ee1 up dn w hx he hX
 ·exact lrewrite0 x a1 p1 b1 q1 y1 z1 v1 ee1 up dn w hx he
end Go.Proofs.YtafckmbgefbonaaGreat.pk

namespace Go.Proofs.YtafckmbgefbonaaGreat.pk
open RowKit Shelf Lib sm nb pm

theorem encV {x : Value} {g : Sg} (w : World) (h : SegV w x g) (hg : GoodS g) : Calls Tryz.prog 8 #[x] w fun e_ w' => e_ = .returned (EVP g) ∧ Up w w' := by
 obtain ⟨A, n, c, rfl, hn, hr⟩ := h
 obtain ⟨a, b, p, q, y, z, f, i, ⟨m, s, k, bl, t, v, e⟩, D⟩ := g
 exact encodeC a p b q y z f i m s k A n c t v e D bl w hg hn hr
theorem mayV {x : Value} {g : Sg} (w : World) (h : SegV w x g) (hg : GoodS g) : Calls Tryz.prog 10 #[x] w fun e_ w' => e_ = .returned (.bool (maysb g)) ∧ Up w w' := by
 obtain ⟨A, n, c, rfl, hn, hr⟩ := h
 obtain ⟨a, b, p, q, y, z, f, i, ⟨m, s, k, bl, t, v, e⟩, D⟩ := g
 exact mayC a p b q y z f i m s k A n c t v e D bl w hg hn hr
theorem nextV {x : Value} {g : Sg} (w : World) (h : SegV w x g) (hg : GoodS g) : Calls Tryz.prog 14 #[x] w fun e_ w' => e_ = .returned (.int .u32 (next g : Nat)) ∧ Up w w' := by
 obtain ⟨A, n, c, rfl, hn, hr⟩ := h
 obtain ⟨a, b, p, q, y, z, f, i, ⟨m, s, k, bl, t, v, e⟩, D⟩ := g
 have := nextC a p b q y z f i m s k A n c t v e (tx D) w hg.1.2.2.2.2.1 hg.1.2.2.2.2.2.2.1 (by rw [tx_size]; exact hg.2.2.2)
 rw [tx_size] at this
 exact this
/-! ### a small segment -/
def g0 : Sg := ⟨167772161, 167772162, 4000, 80, 7, 0, 2, 100, ⟨1460, -1, false, [], false, 0, 0⟩, []⟩
def x0 : Sh := ⟨1, 3, 2, 4, 5, 6, 0, 0, 1, 0⟩
theorem wf_g0 : WfS g0 := ⟨by decide, by decide, by decide, by decide, by decide, by decide, by decide, by decide, by decide, by decide, by decide, by decide⟩
theorem may_g0 : MayS g0 := ⟨by decide, by decide, by decide⟩
theorem good_g0 : GoodS g0 := ⟨wf_g0, by decide, by decide, by decide⟩
theorem wf_x0 : WfX x0 := ⟨by decide, by decide, by decide, by decide, by decide, by decide, by decide, by decide⟩
def t0 : Sg := ⟨1, 3, 2, 4, 12, 0, 2, 200, ⟨1460, -1, false, [], false, 0, 0⟩, []⟩
theorem t0_is : tS x0 g0 = t0 := by kernel_rfl
theorem len_g0 : (tx (encS g0)).size = 44 := by rw [tx_size, enc_len]; decide +kernel
def b0 : Sg := ⟨0, 0, 0, 0, 0, 0, 3, 0, ⟨0, -1, false, [], false, 0, 0⟩, []⟩
theorem good_b0 : GoodS b0 := ⟨⟨by decide, by decide, by decide, by decide, by decide, by decide, by decide, by decide, by decide, by decide, by decide, by decide⟩, by decide, by decide, by decide⟩
theorem may_b0 : ¬ MayS b0 := by intro h; have := h.1; revert this; decide
theorem seg_g0 (w : World) (A : Option Addr) (c : Nat) : SegV w (.agg #[.int .u32 167772161, .int .u16 4000, .int .u32 167772162, .int .u16 80, .int .u32 7, .int .u32 0, .int .u8 2, .int .u16 100, .int .u16 1460, .int .i64 (-1), .bool false, .slice A 0 c, .bool false, .int .u32 0, .int .u32 0, .string { data := #[] }]) g0 := ⟨A, 0, c, rfl, rfl, fun h => absurd rfl h⟩
theorem seg_b0 (w : World) : SegV w (.agg #[.int .u32 0, .int .u16 0, .int .u32 0, .int .u16 0, .int .u32 0, .int .u32 0, .int .u8 3, .int .u16 0, .int .u16 0, .int .i64 (-1), .bool false, .slice none 0 0, .bool false, .int .u32 0, .int .u32 0, .string { data := #[] }]) b0 := ⟨none, 0, 0, rfl, rfl, fun h => absurd rfl h⟩
theorem seg_t0 (w : World) (A : Option Addr) (c : Nat) : SegV w (.agg #[.int .u32 1, .int .u16 2, .int .u32 3, .int .u16 4, .int .u32 12, .int .u32 0, .int .u8 2, .int .u16 200, .int .u16 1460, .int .i64 (-1), .bool false, .slice A 0 c, .bool false, .int .u32 0, .int .u32 0, .string { data := #[] }]) t0 := ⟨A, 0, c, rfl, rfl, fun h => absurd rfl h⟩
def TkT (v : Value) (_ : World) : Prop := ∃ A c, v = (.agg #[.int .u32 1, .int .u16 2, .int .u32 3, .int .u16 4, .int .u32 12, .int .u32 0, .int .u8 2, .int .u16 200, .int .u16 1460, .int .i64 (-1), .bool false, .slice A 0 c, .bool false, .int .u32 0, .int .u32 0, .string { data := #[] }])
theorem TkT.st : ∀ v w w', TkT v w → Up w w' → TkT v w' := fun _ _ _ h _ => h
theorem segC (w : World) : Calls Tryz.prog 22 #[] w fun e_ w' => e_ = .returned (.agg #[.int .u32 167772161, .int .u16 4000, .int .u32 167772162, .int .u16 80, .int .u32 7, .int .u32 0, .int .u8 2, .int .u16 100, .int .u16 1460, .int .i64 (-1), .bool false, .slice none 0 0, .bool false, .int .u32 0, .int .u32 0, .string { data := #[] }]) ∧ Up w w' := by
 go_enter Tryz.func22, Tryz.ntmps22
 go_upto_region 1 with fail
 have hA := Box.new w #[.int .u32 0, .int .u16 0, .int .u32 0, .int .u16 0, .int .u32 0, .int .u32 0, .int .u8 0, .int .u16 0, .int .u16 0, .int .i64 0, .bool false, .slice none 0 0, .bool false, .int .u32 0, .int .u32 0, .string { data := #[] }] 30
 have hu : Up w (w.alloc (.cells #[.int .u32 0, .int .u16 0, .int .u32 0, .int .u16 0, .int .u32 0, .int .u32 0, .int .u8 0, .int .u16 0, .int .u16 0, .int .i64 0, .bool false, .slice none 0 0, .bool false, .int .u32 0, .int .u32 0, .string { data := #[] }] 30)) := up_al _ bR
 generalize (w.alloc (.cells #[.int .u32 0, .int .u16 0, .int .u32 0, .int .u16 0, .int .u32 0, .int .u32 0, .int .u8 0, .int .u16 0, .int .u16 0, .int .i64 0, .bool false, .slice none 0 0, .bool false, .int .u32 0, .int .u32 0, .string { data := #[] }] 30)) = w0 at hA hu ⊢
 obtain ⟨a0, ha0⟩ : ∃ a0, a0 = w.heap.size := ⟨_, rfl⟩
 have hla : w.heap.size ≤ a0 := by omega
 rw [← ha0] at hA ⊢
 clear ha0
 obtain ⟨k0, k1, k2, k3, k4, k5, k6, k7, k8, k9, k10, k11, k12, k13, k14, k15, f0, f1, f2, f3, f4, f5, f6, f7, f8, f9, f10, f11, f12, f13, f14, f15⟩ := Box.c16 hA
 go_wp2_with fail
 have hA9 := put16 hA (.int .u32 167772161) (.int .u16 4000) (.int .u32 167772162) (.int .u16 80) (.int .u32 7) (.int .u32 0) (.int .u8 2) (.int .u16 100) (.int .u16 1460) (.int .i64 (-1)) (.bool false) (.slice none 0 0) (.bool false) (.int .u32 0) (.int .u32 0) (.string { data := #[] })
 have hu9 := ups16 (b := a0) hu hla (.int .u32 167772161) (.int .u16 4000) (.int .u32 167772162) (.int .u16 80) (.int .u32 7) (.int .u32 0) (.int .u8 2) (.int .u16 100) (.int .u16 1460) (.int .i64 (-1)) (.bool false) (.slice none 0 0) (.bool false) (.int .u32 0) (.int .u32 0) (.string { data := #[] })
 generalize World.setCell _ ⟨a0, 15, none⟩ _ = w9 at hA9 hu9 ⊢
 clear k0 k1 k2 k3 k4 k5 k6 k7 k8 k9 k10 k11 k12 k13 k14 k15 f0 f1 f2 f3 f4 f5 f6 f7 f8 f9 f10 f11 f12 f13 f14 f15
 obtain ⟨k0, k1, k2, k3, k4, k5, k6, k7, k8, k9, k10, k11, k12, k13, k14, k15, f0, f1, f2, f3, f4, f5, f6, f7, f8, f9, f10, f11, f12, f13, f14, f15⟩ := Box.c16 hA9
 (try simp only [Exit.inBlock, Exit.then])
 refine bodyPost_ret (v := (.agg #[.int .u32 167772161, .int .u16 4000, .int .u32 167772162, .int .u16 80, .int .u32 7, .int .u32 0, .int .u8 2, .int .u16 100, .int .u16 1460, .int .i64 (-1), .bool false, .slice none 0 0, .bool false, .int .u32 0, .int .u32 0, .string { data := #[] }])) ?_ rfl ⟨rfl, hu9⟩
 rw [ip.results_cell1 rfl]; go_simp
theorem aliveC (w : World) : Calls Tryz.prog 7 #[] w fun e_ w' => e_ = .returned (.bool true) ∧ Up w w' := by
 obtain ⟨S, hS⟩ : ∃ S, S = tx (encS g0) := ⟨_, rfl⟩
 obtain ⟨R, hR⟩ : ∃ R, R = tx (encS t0) := ⟨_, rfl⟩
 have hSz : (S.size : Int) = 44 := by rw [hS, len_g0]; rfl
 have hed := enc_dec may_g0 wf_g0
 have het : errP (encS t0) = 0 ∧ valP (encS t0) = t0 := by rw [← t0_is]; exact enc_dec (tS_may may_g0) (tS_wf wf_x0 wf_g0)
 have H1 : Hid (∀ w, Calls Tryz.prog 8 #[(.agg #[.int .u32 167772161, .int .u16 4000, .int .u32 167772162, .int .u16 80, .int .u32 7, .int .u32 0, .int .u8 2, .int .u16 100, .int .u16 1460, .int .i64 (-1), .bool false, .slice none 0 0, .bool false, .int .u32 0, .int .u32 0, .string { data := #[] }])] w fun e_ w' => e_ = .returned (.tuple #[.string S, .int .i64 0]) ∧ Up w w') := fun w => by
  have := encV w (seg_g0 w none 0) good_g0
  rw [EVP_ok may_g0, ← hS] at this
  exact this
 have H2 : Hid (∀ w, Calls Tryz.prog 16 #[.string S] w fun e_ w' => ∃ A c, e_ = .returned (.tuple #[(.agg #[.int .u32 167772161, .int .u16 4000, .int .u32 167772162, .int .u16 80, .int .u32 7, .int .u32 0, .int .u8 2, .int .u16 100, .int .u16 1460, .int .i64 (-1), .bool false, .slice A 0 c, .bool false, .int .u32 0, .int .u32 0, .string { data := #[] }]), .int .i64 0]) ∧ Up w w') := fun w => by
  refine (decodeC S w (by rw [hS, len_g0]; decide)).mono ?_
  rintro e w' ⟨x, rfl, ⟨A, n, c, rfl, hn, _⟩, hu⟩
  rw [hS, L_tx, decP_ok hed.1, hed.2] at hn ⊢
  rw [hed.1]
  have hn0 : 0 = n := hn
  subst hn0
  exact ⟨A, c, rfl, hu⟩
 have H3 : Hid (∀ w, Calls Tryz.prog 16 #[.string { data := #[] }] w fun e_ w' => ∃ A n c, e_ = .returned (.tuple #[SA 0 0 0 0 0 0 0 0 0 0 false A n c false 0 0 { data := #[] }, .int .i64 50]) ∧ Up w w') := fun w => by
  refine (decodeC ByteArray.empty w (by decide)).mono ?_
  rintro e w' ⟨x, rfl, ⟨A, n, c, rfl, hn, _⟩, hu⟩
  have he : errP (L ByteArray.empty) = 50 := by decide +kernel
  rw [decP_bad (by rw [he]; decide), he]
  exact ⟨A, n, c, rfl, hu⟩
 have H4 : Hid (∀ w, Calls Tryz.prog 8 #[(.agg #[.int .u32 0, .int .u16 0, .int .u32 0, .int .u16 0, .int .u32 0, .int .u32 0, .int .u8 3, .int .u16 0, .int .u16 0, .int .i64 (-1), .bool false, .slice none 0 0, .bool false, .int .u32 0, .int .u32 0, .string { data := #[] }])] w fun e_ w' => e_ = .returned (.tuple #[.string { data := #[] }, .int .i64 2]) ∧ Up w w') := fun w => by
  have := encV w (seg_b0 w) good_b0
  rw [EVP_no may_b0] at this
  exact this
 have H0 : Hid (∀ w, Calls Tryz.prog 23 #[] w fun e_ w' => e_ = .returned (.agg #[.int .u16 0, .int .i64 (-1), .bool false, .slice none 0 0, .bool false, .int .u32 0, .int .u32 0]) ∧ Up w w') := fun w => op.noneC w
 have H5 : Hid (∀ w, Calls Tryz.prog 18 #[.string S, (.agg #[.int .u32 1, .int .u16 2, .int .u32 3, .int .u16 4, .int .u32 5, .int .u32 6, .int .u32 0, .int .u32 0, .int .i64 1, .int .i64 0])] w fun e_ w' => e_ = .returned (.tuple #[.string R, .int .i64 0]) ∧ Up w w') := fun w => by
  have := rewriteC S 1 2 3 4 5 6 0 0 1 0 w (by rw [hS, len_g0]; decide) wf_x0
  have e : RWV (L S) ⟨1, 3, 2, 4, 5, 6, 0, 0, 1, 0⟩ = .tuple #[.string R, .int .i64 0] := by
   unfold RWV
   rw [hS, L_tx, if_pos hed.1, show rwP ⟨1, 3, 2, 4, 5, 6, 0, 0, 1, 0⟩ (encS g0) = encS (tS x0 g0) from rw_enc may_g0 wf_g0 wf_x0, t0_is, hR]
  rw [e] at this
  exact this
 have hRz : R.size ≤ 1048576 := by rw [hR, tx_size, ← t0_is, enc_len]; decide +kernel
 have H6 : Hid (∀ w, Calls Tryz.prog 16 #[.string R] w fun e_ w' => ∃ A c, e_ = .returned (.tuple #[(.agg #[.int .u32 1, .int .u16 2, .int .u32 3, .int .u16 4, .int .u32 12, .int .u32 0, .int .u8 2, .int .u16 200, .int .u16 1460, .int .i64 (-1), .bool false, .slice A 0 c, .bool false, .int .u32 0, .int .u32 0, .string { data := #[] }]), .int .i64 0]) ∧ Up w w') := fun w => by
  refine (decodeC R w hRz).mono ?_
  rintro e w' ⟨x, rfl, ⟨A, n, c, rfl, hn, _⟩, hu⟩
  rw [hR, L_tx, decP_ok het.1, het.2] at hn ⊢
  rw [het.1]
  have hn0 : 0 = n := hn
  subst hn0
  exact ⟨A, c, rfl, hu⟩
 have good_t0 : GoodS t0 := by rw [← t0_is]; exact good_t wf_x0 good_g0
 have H7 : Hid (∀ w A c, Calls Tryz.prog 12 #[(.agg #[.int .u32 167772161, .int .u16 4000, .int .u32 167772162, .int .u16 80, .int .u32 7, .int .u32 0, .int .u8 2, .int .u16 100, .int .u16 1460, .int .i64 (-1), .bool false, .slice A 0 c, .bool false, .int .u32 0, .int .u32 0, .string { data := #[] }]), (.agg #[.int .u32 167772161, .int .u16 4000, .int .u32 167772162, .int .u16 80, .int .u32 7, .int .u32 0, .int .u8 2, .int .u16 100, .int .u16 1460, .int .i64 (-1), .bool false, .slice none 0 0, .bool false, .int .u32 0, .int .u32 0, .string { data := #[] }])] w fun e_ w' => e_ = .returned (.bool true) ∧ Up w w') := fun w A c => by
  have := sameC w (seg_g0 w A c) (seg_g0 w none 0) good_g0 good_g0
  rw [sameS_t rfl] at this
  exact this
 have H8 : Hid (∀ w, Calls Tryz.prog 20 #[(.agg #[.int .u32 167772161, .int .u16 4000, .int .u32 167772162, .int .u16 80, .int .u32 7, .int .u32 0, .int .u8 2, .int .u16 100, .int .u16 1460, .int .i64 (-1), .bool false, .slice none 0 0, .bool false, .int .u32 0, .int .u32 0, .string { data := #[] }]), (.agg #[.int .u32 1, .int .u16 2, .int .u32 3, .int .u16 4, .int .u32 5, .int .u32 6, .int .u32 0, .int .u32 0, .int .i64 1, .int .i64 0])] w fun e_ w' => ∃ A c, e_ = .returned (.agg #[.int .u32 1, .int .u16 2, .int .u32 3, .int .u16 4, .int .u32 12, .int .u32 0, .int .u8 2, .int .u16 200, .int .u16 1460, .int .i64 (-1), .bool false, .slice A 0 c, .bool false, .int .u32 0, .int .u32 0, .string { data := #[] }]) ∧ Up w w') := fun w => by
  refine (turnedC 1 2 3 4 5 6 0 0 1 0 w (seg_g0 w none 0) good_g0 wf_x0).mono ?_
  rintro e w' ⟨x, rfl, ⟨A, n, c, rfl, hn, _⟩, hu⟩
  rw [show tS ⟨1, 3, 2, 4, 5, 6, 0, 0, 1, 0⟩ g0 = t0 from t0_is] at hn ⊢
  have hn0 : 0 = n := hn
  subst hn0
  exact ⟨A, c, rfl, hu⟩
 have H9 : Hid (∀ w A c A' c', Calls Tryz.prog 12 #[(.agg #[.int .u32 1, .int .u16 2, .int .u32 3, .int .u16 4, .int .u32 12, .int .u32 0, .int .u8 2, .int .u16 200, .int .u16 1460, .int .i64 (-1), .bool false, .slice A 0 c, .bool false, .int .u32 0, .int .u32 0, .string { data := #[] }]), (.agg #[.int .u32 1, .int .u16 2, .int .u32 3, .int .u16 4, .int .u32 12, .int .u32 0, .int .u8 2, .int .u16 200, .int .u16 1460, .int .i64 (-1), .bool false, .slice A' 0 c', .bool false, .int .u32 0, .int .u32 0, .string { data := #[] }])] w fun e_ w' => e_ = .returned (.bool true) ∧ Up w w') := fun w A c A' c' => by
  have := sameC w (seg_t0 w A c) (seg_t0 w A' c') good_t0 good_t0
  rw [sameS_t rfl] at this
  exact this
 have H10 : Hid (∀ w, Calls Tryz.prog 14 #[(.agg #[.int .u32 167772161, .int .u16 4000, .int .u32 167772162, .int .u16 80, .int .u32 7, .int .u32 0, .int .u8 2, .int .u16 100, .int .u16 1460, .int .i64 (-1), .bool false, .slice none 0 0, .bool false, .int .u32 0, .int .u32 0, .string { data := #[] }])] w fun e_ w' => e_ = .returned (.int .u32 8) ∧ Up w w') := fun w => nextV w (seg_g0 w none 0) good_g0
 have H11 : Hid (∀ w, Calls Tryz.prog 10 #[(.agg #[.int .u32 167772161, .int .u16 4000, .int .u32 167772162, .int .u16 80, .int .u32 7, .int .u32 0, .int .u8 2, .int .u16 100, .int .u16 1460, .int .i64 (-1), .bool false, .slice none 0 0, .bool false, .int .u32 0, .int .u32 0, .string { data := #[] }])] w fun e_ w' => e_ = .returned (.bool true) ∧ Up w w') := fun w => by
  have := mayV w (seg_g0 w none 0) good_g0
  rw [maysb_t may_g0] at this
  exact this
 clear hed het good_t0 hS hR hRz
 go_enter Tryz.func7, Tryz.ntmps7
 go_wp2_with fail
 refine (segC _).mono ?_
 rintro e_ w1 ⟨rfl, hv1⟩
 have hu1 := hv1
 clear hv1
 go_wp2_with fail
 refine (H1.out _).mono ?_
 rintro e_ w2 ⟨rfl, hv2⟩
 have hu2 := hu1.on hv2
 clear hu1 hv2
 go_wp2_with fail
 refine (H2.out _).mono ?_
 rintro e_ w3 ⟨A, c, rfl, hv3⟩
 have hu3 := hu2.on hv3
 clear hu2 hv3
 go_upto_region 3 with fail
 have hG_4 := Box.new w3 #[.int .u32 167772161, .int .u16 4000, .int .u32 167772162, .int .u16 80, .int .u32 7, .int .u32 0, .int .u8 2, .int .u16 100, .int .u16 1460, .int .i64 (-1), .bool false, .slice A 0 c, .bool false, .int .u32 0, .int .u32 0, .string { data := #[] }] 30
 have hu4 := upM hG_4 hu3
 generalize (w3.alloc (.cells #[.int .u32 167772161, .int .u16 4000, .int .u32 167772162, .int .u16 80, .int .u32 7, .int .u32 0, .int .u8 2, .int .u16 100, .int .u16 1460, .int .i64 (-1), .bool false, .slice A 0 c, .bool false, .int .u32 0, .int .u32 0, .string { data := #[] }] 30)) = w4 at hG_4  hu4 ⊢
 generalize w3.heap.size = b4 at hG_4 ⊢
 clear hu3
 go_wp2_with fail
 refine (H3.out _).mono ?_
 rintro e_ w5 ⟨A3, n3, c3, rfl, hv5⟩
 have hu5 := hu4.on hv5
 have hG_5 := hG_4.up hv5
 clear hG_4 hu4 hv5
 go_upto_region 4 with fail
 generalize hz6 : World.alloc w5 _ = w6
 have hv6 : Up w5 w6 := hz6 ▸ up_al _ bR
 clear hz6
 have hu6 := hu5.on hv6
 have hG_6 := hG_5.up hv6
 clear hG_5 hu5 hv6
 go_wp2_with fail
 refine (H0.out _).mono ?_
 rintro e_ w7 ⟨rfl, hv7⟩
 have hu7 := hu6.on hv7
 have hG_7 := hG_6.up hv7
 clear hG_6 hu6 hv7
 go_wp2_with fail
 refine (H4.out _).mono ?_
 rintro e_ w8 ⟨rfl, hv8⟩
 have hu8 := hu7.on hv8
 have hG_8 := hG_7.up hv8
 clear hG_7 hu7 hv8
 go_upto_region 6 with fail
 have hX_9 := Box.new w8 #[.int .u32 1, .int .u16 2, .int .u32 3, .int .u16 4, .int .u32 5, .int .u32 6, .int .u32 0, .int .u32 0, .int .i64 1, .int .i64 0] 46
 have hG_9 := alN hX_9 hG_8
 have hu9 := upM hX_9 hu8
 generalize World.alloc w8 _ = w9 at hX_9 hG_9 hu9 ⊢
 generalize w8.heap.size = b9 at hX_9 ⊢
 clear hG_8 hu8
 obtain ⟨l0, l1, l2, l3, l4, l5, l6, l7, l8, l9⟩ := bx10 hX_9
 go_wp2_with fail
 refine (H5.out _).mono ?_
 rintro e_ w10 ⟨rfl, hv10⟩
 clear l0 l1 l2 l3 l4 l5 l6 l7 l8 l9
 have hu10 := hu9.on hv10
 have hG_10 := hG_9.up hv10
 have hX_10 := hX_9.up hv10
 clear hG_9 hX_9 hu9 hv10
 go_wp2_with fail
 refine (H6.out _).mono ?_
 rintro e_ w11 ⟨A6, c6, rfl, hv11⟩
 have hu11 := hu10.on hv11
 have hG_11 := hG_10.up hv11
 have hX_11 := hX_10.up hv11
 clear hG_10 hX_10 hu10 hv11
 go_upto_region 8 with fail
 have hU_12 := Box.new w11 #[.int .u32 1, .int .u16 2, .int .u32 3, .int .u16 4, .int .u32 12, .int .u32 0, .int .u8 2, .int .u16 200, .int .u16 1460, .int .i64 (-1), .bool false, .slice A6 0 c6, .bool false, .int .u32 0, .int .u32 0, .string { data := #[] }] 30
 have hG_12 := alN hU_12 hG_11
 have hX_12 := alN hU_12 hX_11
 have hu12 := upM hU_12 hu11
 generalize (w11.alloc (.cells #[.int .u32 1, .int .u16 2, .int .u32 3, .int .u16 4, .int .u32 12, .int .u32 0, .int .u8 2, .int .u16 200, .int .u16 1460, .int .i64 (-1), .bool false, .slice A6 0 c6, .bool false, .int .u32 0, .int .u32 0, .string { data := #[] }] 30)) = w12 at hU_12 hG_12 hX_12 hu12 ⊢
 generalize w11.heap.size = b12 at hU_12 ⊢
 clear hG_11 hX_11 hu11
 refine wp_region_rel2g (fun W => Up w12 W) (fun W W' => Up W W') (Ys [Det (.string S),
  Det (.int .i64 44),
  Det (.bool true),
  Det (.bool true),
  Det (.int .i64 0),
  Det (.bool true),
  Det (.bool true),
  Det (.bool true),
  Det ((.agg #[.int .u32 167772161, .int .u16 4000, .int .u32 167772162, .int .u16 80, .int .u32 7, .int .u32 0, .int .u8 2, .int .u16 100, .int .u16 1460, .int .i64 (-1), .bool false, .slice A 0 c, .bool false, .int .u32 0, .int .u32 0, .string { data := #[] }])),
  Det ((.agg #[.int .u32 167772161, .int .u16 4000, .int .u32 167772162, .int .u16 80, .int .u32 7, .int .u32 0, .int .u8 2, .int .u16 100, .int .u16 1460, .int .i64 (-1), .bool false, .slice none 0 0, .bool false, .int .u32 0, .int .u32 0, .string { data := #[] }])),
  Det (.bool true),
  Det (.bool true),
  Det (.bool true),
  Det (.int .i64 0),
  Det (.bool true),
  Det (.bool true),
  Det (.bool true),
  Det (.int .i64 50),
  Det (.bool true),
  Det (.bool true),
  Det (.bool true),
  Det (.int .i64 2),
  Det (.bool true),
  Det (.bool true),
  Det (.bool true),
  Det (.int .i64 0),
  Det (.bool true),
  Det (.bool true),
  Det (.bool true),
  Det (.int .i64 0),
  Det (.bool true),
  Det (.bool true),
  Det (.bool true),
  Det (.pointer (some ⟨b12, 4, none⟩)),
  Det (.int .u32 12),
  Det (.bool true),
  Det (.bool true),
  Det (.bool true),
  Det (.pointer (some ⟨b12, 5, none⟩)),
  Det (.int .u32 0),
  Det (.bool true),
  Det (.bool true),
  Det (.bool true),
  Det (.pointer (some ⟨b12, 7, none⟩)),
  Det (.int .u16 200),
  Det (.bool true),
  Det (.bool true),
  Det (.bool true),
  Det (.pointer (some ⟨b12, 2, none⟩)),
  Det (.pointer (some ⟨b12, 3, none⟩)),
  Det (.int .u16 4),
  Det (.bool true),
  Det (.bool true),
  Det (.bool true),
  Det ((.agg #[.int .u32 1, .int .u16 2, .int .u32 3, .int .u16 4, .int .u32 12, .int .u32 0, .int .u8 2, .int .u16 200, .int .u16 1460, .int .i64 (-1), .bool false, .slice A6 0 c6, .bool false, .int .u32 0, .int .u32 0, .string { data := #[] }])),
  Det ((.agg #[.int .u32 167772161, .int .u16 4000, .int .u32 167772162, .int .u16 80, .int .u32 7, .int .u32 0, .int .u8 2, .int .u16 100, .int .u16 1460, .int .i64 (-1), .bool false, .slice none 0 0, .bool false, .int .u32 0, .int .u32 0, .string { data := #[] }])),
  Det ((.agg #[.int .u32 1, .int .u16 2, .int .u32 3, .int .u16 4, .int .u32 5, .int .u32 6, .int .u32 0, .int .u32 0, .int .i64 1, .int .i64 0])),
  TkT,
  Det (.bool true),
  Det (.bool true),
  Det (.bool true),
  Det ((.agg #[.int .u32 167772161, .int .u16 4000, .int .u32 167772162, .int .u16 80, .int .u32 7, .int .u32 0, .int .u8 2, .int .u16 100, .int .u16 1460, .int .i64 (-1), .bool false, .slice none 0 0, .bool false, .int .u32 0, .int .u32 0, .string { data := #[] }])),
  Det (.int .u32 8),
  Det (.bool true),
  Det (.bool true),
  Det (.bool true),
  Det ((.agg #[.int .u32 167772161, .int .u16 4000, .int .u32 167772162, .int .u16 80, .int .u32 7, .int .u32 0, .int .u8 2, .int .u16 100, .int .u16 1460, .int .i64 (-1), .bool false, .slice none 0 0, .bool false, .int .u32 0, .int .u32 0, .string { data := #[] }])),
  Det (.bool true),
  Det (.bool true),
  Det (.bool true)]) (by kernel_rfl) (by kernel_rfl) (up_dr bR) (Stable.ys ⟨Det.st _, Det.st _, Det.st _, Det.st _, Det.st _, Det.st _, Det.st _, Det.st _, Det.st _, Det.st _, Det.st _, Det.st _, Det.st _, Det.st _, Det.st _, Det.st _, Det.st _, Det.st _, Det.st _, Det.st _, Det.st _, Det.st _, Det.st _, Det.st _, Det.st _, Det.st _, Det.st _, Det.st _, Det.st _, Det.st _, Det.st _, Det.st _, Det.st _, Det.st _, Det.st _, Det.st _, Det.st _, Det.st _, Det.st _, Det.st _, Det.st _, Det.st _, Det.st _, Det.st _, Det.st _, Det.st _, Det.st _, Det.st _, Det.st _, Det.st _, Det.st _, Det.st _, Det.st _, Det.st _, Det.st _, Det.st _, Det.st _, TkT.st, Det.st _, Det.st _, Det.st _, Det.st _, Det.st _, Det.st _, Det.st _, Det.st _, Det.st _, Det.st _, Det.st _, Det.st _, trivial⟩) [3, 7, 12, 16, 20, 24, 28, 32, 37, 42, 47, 53, 60, 65] (by kernel_rfl) (by intro g hg v w h; simp only [List.mem_cons, List.not_mem_nil, or_false] at hg; rcases hg with rfl | rfl | rfl | rfl | rfl | rfl | rfl | rfl | rfl | rfl | rfl | rfl | rfl | rfl <;> exact h) ?_ ?_
 ·
  refine oC ?_ ?_
  ·as_aux_lemma =>
    intro aa ww hC hp hv KK hK
    have d1 : aa.tmps.getD 1 undef = .string S := hv 1 (slotOk_spec (by kernel_rfl))
    have d1_ := gD d1
    clear hp hv
    (unfold opTo; go_simp; try simp only [opUpon])
    exact hK _ _ rfl hC bR
  refine oC ?_ ?_
  ·as_aux_lemma =>
    intro aa ww hC hp hv KK hK
    have d48 : aa.tmps.getD 48 undef = .string S := dep_of hp 0 48 (by kernel_rfl)
    have d48_ := gD d48
    clear hp hv
    (unfold opTo; go_simp; try simp only [opUpon])
    exact hK _ _ rfl hC bR
  refine oC ?_ ?_
  ·as_aux_lemma =>
    intro aa ww hC hp hv KK hK
    have d49 : aa.tmps.getD 49 undef = .int .i64 44 := dep_of hp 1 49 (by kernel_rfl)
    have d49_ := gD d49
    clear hp hv
    (unfold opTo; go_simp; try simp only [opUpon])
    exact hK _ _ rfl hC bR
  refine oC ?_ ?_
  ·as_aux_lemma =>
    intro aa ww hC hp hv KK hK
    have d50 : aa.tmps.getD 50 undef = .bool true := dep_of hp 2 50 (by kernel_rfl)
    have d50_ := gD d50
    clear hp hv
    (unfold opTo; go_simp; try simp only [opUpon])
    exact hK _ _ rfl hC bR
  refine oC ?_ ?_
  ·as_aux_lemma =>
    intro aa ww hC hp hv KK hK
    have d2 : aa.tmps.getD 2 undef = .int .i64 0 := hv 2 (slotOk_spec (by kernel_rfl))
    have d2_ := gD d2
    clear hp hv
    (unfold opTo; go_simp; try simp only [opUpon])
    exact hK _ _ rfl hC bR
  refine oC ?_ ?_
  ·as_aux_lemma =>
    intro aa ww hC hp hv KK hK
    have d52 : aa.tmps.getD 52 undef = .int .i64 0 := dep_of hp 4 52 (by kernel_rfl)
    have d52_ := gD d52
    clear hp hv
    (unfold opTo; go_simp; try simp only [opUpon])
    exact hK _ _ rfl hC bR
  refine oC ?_ ?_
  ·as_aux_lemma =>
    intro aa ww hC hp hv KK hK
    have d51 : aa.tmps.getD 51 undef = .bool true := dep_of hp 3 51 (by kernel_rfl)
    have d53 : aa.tmps.getD 53 undef = .bool true := dep_of hp 5 53 (by kernel_rfl)
    have d51_ := gD d51
    have d53_ := gD d53
    clear hp hv
    (unfold opTo; go_simp; try simp only [opUpon])
    exact hK _ _ rfl hC bR
  refine oC ?_ ?_
  ·as_aux_lemma =>
    intro aa ww hC hp hv KK hK
    have d54 : aa.tmps.getD 54 undef = .bool true := dep_of hp 6 54 (by kernel_rfl)
    have d54_ := gD d54
    clear hp hv
    (unfold opTo; go_simp; try simp only [opUpon])
    exact hK _ _ rfl hC bR
  refine oC ?_ ?_
  ·as_aux_lemma =>
    intro aa ww hC hp hv KK hK
    have d3 : aa.tmps.getD 3 undef = .pointer (some ⟨b4, 0, none⟩) := hv 3 (slotOk_spec (by kernel_rfl))
    have d3_ := gD d3
    clear hp hv
    have hb := hG_12.up hC
    obtain ⟨cc0, cc1, cc2, cc3, cc4, cc5, cc6, cc7, cc8, cc9, cc10, cc11, cc12, cc13, cc14, cc15⟩ := bx16 hb
    (unfold opTo; go_simp; try simp only [opUpon])
    exact hK _ _ rfl hC bR
  refine oC ?_ ?_
  ·as_aux_lemma =>
    intro aa ww hC hp hv KK hK
    clear hp hv
    (unfold opTo; go_simp; try simp only [opUpon])
    exact (segC _).mono fun e w9 h => ⟨_, h.1, hK _ _ rfl (Up.on hC h.2) h.2⟩
  refine oC ?_ ?_
  ·as_aux_lemma =>
    intro aa ww hC hp hv KK hK
    have d56 : aa.tmps.getD 56 undef = (.agg #[.int .u32 167772161, .int .u16 4000, .int .u32 167772162, .int .u16 80, .int .u32 7, .int .u32 0, .int .u8 2, .int .u16 100, .int .u16 1460, .int .i64 (-1), .bool false, .slice A 0 c, .bool false, .int .u32 0, .int .u32 0, .string { data := #[] }]) := dep_of hp 8 56 (by kernel_rfl)
    have d57 : aa.tmps.getD 57 undef = (.agg #[.int .u32 167772161, .int .u16 4000, .int .u32 167772162, .int .u16 80, .int .u32 7, .int .u32 0, .int .u8 2, .int .u16 100, .int .u16 1460, .int .i64 (-1), .bool false, .slice none 0 0, .bool false, .int .u32 0, .int .u32 0, .string { data := #[] }]) := dep_of hp 9 57 (by kernel_rfl)
    have d56_ := gD d56
    have d57_ := gD d57
    clear hp hv
    (unfold opTo; go_simp; try simp only [opUpon])
    exact (H7.out _ _ _).mono fun e w9 h => ⟨_, h.1, hK _ _ rfl (Up.on hC h.2) h.2⟩
  refine oC ?_ ?_
  ·as_aux_lemma =>
    intro aa ww hC hp hv KK hK
    have d55 : aa.tmps.getD 55 undef = .bool true := dep_of hp 7 55 (by kernel_rfl)
    have d58 : aa.tmps.getD 58 undef = .bool true := dep_of hp 10 58 (by kernel_rfl)
    have d55_ := gD d55
    have d58_ := gD d58
    clear hp hv
    (unfold opTo; go_simp; try simp only [opUpon])
    exact hK _ _ rfl hC bR
  refine oC ?_ ?_
  ·as_aux_lemma =>
    intro aa ww hC hp hv KK hK
    have d59 : aa.tmps.getD 59 undef = .bool true := dep_of hp 11 59 (by kernel_rfl)
    have d59_ := gD d59
    clear hp hv
    (unfold opTo; go_simp; try simp only [opUpon])
    exact hK _ _ rfl hC bR
  refine oC ?_ ?_
  ·as_aux_lemma =>
    intro aa ww hC hp hv KK hK
    have d4 : aa.tmps.getD 4 undef = .int .i64 0 := hv 4 (slotOk_spec (by kernel_rfl))
    have d4_ := gD d4
    clear hp hv
    (unfold opTo; go_simp; try simp only [opUpon])
    exact hK _ _ rfl hC bR
  refine oC ?_ ?_
  ·as_aux_lemma =>
    intro aa ww hC hp hv KK hK
    have d61 : aa.tmps.getD 61 undef = .int .i64 0 := dep_of hp 13 61 (by kernel_rfl)
    have d61_ := gD d61
    clear hp hv
    (unfold opTo; go_simp; try simp only [opUpon])
    exact hK _ _ rfl hC bR
  refine oC ?_ ?_
  ·as_aux_lemma =>
    intro aa ww hC hp hv KK hK
    have d60 : aa.tmps.getD 60 undef = .bool true := dep_of hp 12 60 (by kernel_rfl)
    have d62 : aa.tmps.getD 62 undef = .bool true := dep_of hp 14 62 (by kernel_rfl)
    have d60_ := gD d60
    have d62_ := gD d62
    clear hp hv
    (unfold opTo; go_simp; try simp only [opUpon])
    exact hK _ _ rfl hC bR
  refine oC ?_ ?_
  ·as_aux_lemma =>
    intro aa ww hC hp hv KK hK
    have d63 : aa.tmps.getD 63 undef = .bool true := dep_of hp 15 63 (by kernel_rfl)
    have d63_ := gD d63
    clear hp hv
    (unfold opTo; go_simp; try simp only [opUpon])
    exact hK _ _ rfl hC bR
  refine oC ?_ ?_
  ·as_aux_lemma =>
    intro aa ww hC hp hv KK hK
    have d6 : aa.tmps.getD 6 undef = .int .i64 50 := hv 6 (slotOk_spec (by kernel_rfl))
    have d6_ := gD d6
    clear hp hv
    (unfold opTo; go_simp; try simp only [opUpon])
    exact hK _ _ rfl hC bR
  refine oC ?_ ?_
  ·as_aux_lemma =>
    intro aa ww hC hp hv KK hK
    have d65 : aa.tmps.getD 65 undef = .int .i64 50 := dep_of hp 17 65 (by kernel_rfl)
    have d65_ := gD d65
    clear hp hv
    (unfold opTo; go_simp; try simp only [opUpon])
    exact hK _ _ rfl hC bR
  refine oC ?_ ?_
  ·as_aux_lemma =>
    intro aa ww hC hp hv KK hK
    have d64 : aa.tmps.getD 64 undef = .bool true := dep_of hp 16 64 (by kernel_rfl)
    have d66 : aa.tmps.getD 66 undef = .bool true := dep_of hp 18 66 (by kernel_rfl)
    have d64_ := gD d64
    have d66_ := gD d66
    clear hp hv
    (unfold opTo; go_simp; try simp only [opUpon])
    exact hK _ _ rfl hC bR
  refine oC ?_ ?_
  ·as_aux_lemma =>
    intro aa ww hC hp hv KK hK
    have d67 : aa.tmps.getD 67 undef = .bool true := dep_of hp 19 67 (by kernel_rfl)
    have d67_ := gD d67
    clear hp hv
    (unfold opTo; go_simp; try simp only [opUpon])
    exact hK _ _ rfl hC bR
  refine oC ?_ ?_
  ·as_aux_lemma =>
    intro aa ww hC hp hv KK hK
    have d8 : aa.tmps.getD 8 undef = .int .i64 2 := hv 8 (slotOk_spec (by kernel_rfl))
    have d8_ := gD d8
    clear hp hv
    (unfold opTo; go_simp; try simp only [opUpon])
    exact hK _ _ rfl hC bR
  refine oC ?_ ?_
  ·as_aux_lemma =>
    intro aa ww hC hp hv KK hK
    have d69 : aa.tmps.getD 69 undef = .int .i64 2 := dep_of hp 21 69 (by kernel_rfl)
    have d69_ := gD d69
    clear hp hv
    (unfold opTo; go_simp; try simp only [opUpon])
    exact hK _ _ rfl hC bR
  refine oC ?_ ?_
  ·as_aux_lemma =>
    intro aa ww hC hp hv KK hK
    have d68 : aa.tmps.getD 68 undef = .bool true := dep_of hp 20 68 (by kernel_rfl)
    have d70 : aa.tmps.getD 70 undef = .bool true := dep_of hp 22 70 (by kernel_rfl)
    have d68_ := gD d68
    have d70_ := gD d70
    clear hp hv
    (unfold opTo; go_simp; try simp only [opUpon])
    exact hK _ _ rfl hC bR
  refine oC ?_ ?_
  ·as_aux_lemma =>
    intro aa ww hC hp hv KK hK
    have d71 : aa.tmps.getD 71 undef = .bool true := dep_of hp 23 71 (by kernel_rfl)
    have d71_ := gD d71
    clear hp hv
    (unfold opTo; go_simp; try simp only [opUpon])
    exact hK _ _ rfl hC bR
  refine oC ?_ ?_
  ·as_aux_lemma =>
    intro aa ww hC hp hv KK hK
    have d11 : aa.tmps.getD 11 undef = .int .i64 0 := hv 11 (slotOk_spec (by kernel_rfl))
    have d11_ := gD d11
    clear hp hv
    (unfold opTo; go_simp; try simp only [opUpon])
    exact hK _ _ rfl hC bR
  refine oC ?_ ?_
  ·as_aux_lemma =>
    intro aa ww hC hp hv KK hK
    have d73 : aa.tmps.getD 73 undef = .int .i64 0 := dep_of hp 25 73 (by kernel_rfl)
    have d73_ := gD d73
    clear hp hv
    (unfold opTo; go_simp; try simp only [opUpon])
    exact hK _ _ rfl hC bR
  refine oC ?_ ?_
  ·as_aux_lemma =>
    intro aa ww hC hp hv KK hK
    have d72 : aa.tmps.getD 72 undef = .bool true := dep_of hp 24 72 (by kernel_rfl)
    have d74 : aa.tmps.getD 74 undef = .bool true := dep_of hp 26 74 (by kernel_rfl)
    have d72_ := gD d72
    have d74_ := gD d74
    clear hp hv
    (unfold opTo; go_simp; try simp only [opUpon])
    exact hK _ _ rfl hC bR
  refine oC ?_ ?_
  ·as_aux_lemma =>
    intro aa ww hC hp hv KK hK
    have d75 : aa.tmps.getD 75 undef = .bool true := dep_of hp 27 75 (by kernel_rfl)
    have d75_ := gD d75
    clear hp hv
    (unfold opTo; go_simp; try simp only [opUpon])
    exact hK _ _ rfl hC bR
  refine oC ?_ ?_
  ·as_aux_lemma =>
    intro aa ww hC hp hv KK hK
    have d13 : aa.tmps.getD 13 undef = .int .i64 0 := hv 13 (slotOk_spec (by kernel_rfl))
    have d13_ := gD d13
    clear hp hv
    (unfold opTo; go_simp; try simp only [opUpon])
    exact hK _ _ rfl hC bR
  refine oC ?_ ?_
  ·as_aux_lemma =>
    intro aa ww hC hp hv KK hK
    have d77 : aa.tmps.getD 77 undef = .int .i64 0 := dep_of hp 29 77 (by kernel_rfl)
    have d77_ := gD d77
    clear hp hv
    (unfold opTo; go_simp; try simp only [opUpon])
    exact hK _ _ rfl hC bR
  refine oC ?_ ?_
  ·as_aux_lemma =>
    intro aa ww hC hp hv KK hK
    have d76 : aa.tmps.getD 76 undef = .bool true := dep_of hp 28 76 (by kernel_rfl)
    have d78 : aa.tmps.getD 78 undef = .bool true := dep_of hp 30 78 (by kernel_rfl)
    have d76_ := gD d76
    have d78_ := gD d78
    clear hp hv
    (unfold opTo; go_simp; try simp only [opUpon])
    exact hK _ _ rfl hC bR
  refine oC ?_ ?_
  ·as_aux_lemma =>
    intro aa ww hC hp hv KK hK
    have d79 : aa.tmps.getD 79 undef = .bool true := dep_of hp 31 79 (by kernel_rfl)
    have d79_ := gD d79
    clear hp hv
    (unfold opTo; go_simp; try simp only [opUpon])
    exact hK _ _ rfl hC bR
  refine oC ?_ ?_
  ·as_aux_lemma =>
    intro aa ww hC hp hv KK hK
    have d12 : aa.tmps.getD 12 undef = .pointer (some ⟨b12, 0, none⟩) := hv 12 (slotOk_spec (by kernel_rfl))
    have d12_ := gD d12
    clear hp hv
    (unfold opTo; go_simp; try simp only [opUpon])
    exact hK _ _ rfl hC bR
  refine oC ?_ ?_
  ·as_aux_lemma =>
    intro aa ww hC hp hv KK hK
    have d81 : aa.tmps.getD 81 undef = .pointer (some ⟨b12, 4, none⟩) := dep_of hp 33 81 (by kernel_rfl)
    have d81_ := gD d81
    clear hp hv
    have cc := (hU_12.up hC).at 4 rfl
    (unfold opTo; go_simp; try simp only [opUpon])
    exact hK _ _ rfl hC bR
  refine oC ?_ ?_
  ·as_aux_lemma =>
    intro aa ww hC hp hv KK hK
    have d82 : aa.tmps.getD 82 undef = .int .u32 12 := dep_of hp 34 82 (by kernel_rfl)
    have d82_ := gD d82
    clear hp hv
    (unfold opTo; go_simp; try simp only [opUpon])
    exact hK _ _ rfl hC bR
  refine oC ?_ ?_
  ·as_aux_lemma =>
    intro aa ww hC hp hv KK hK
    have d80 : aa.tmps.getD 80 undef = .bool true := dep_of hp 32 80 (by kernel_rfl)
    have d83 : aa.tmps.getD 83 undef = .bool true := dep_of hp 35 83 (by kernel_rfl)
    have d80_ := gD d80
    have d83_ := gD d83
    clear hp hv
    (unfold opTo; go_simp; try simp only [opUpon])
    exact hK _ _ rfl hC bR
  refine oC ?_ ?_
  ·as_aux_lemma =>
    intro aa ww hC hp hv KK hK
    have d84 : aa.tmps.getD 84 undef = .bool true := dep_of hp 36 84 (by kernel_rfl)
    have d84_ := gD d84
    clear hp hv
    (unfold opTo; go_simp; try simp only [opUpon])
    exact hK _ _ rfl hC bR
  refine oC ?_ ?_
  ·as_aux_lemma =>
    intro aa ww hC hp hv KK hK
    have d12 : aa.tmps.getD 12 undef = .pointer (some ⟨b12, 0, none⟩) := hv 12 (slotOk_spec (by kernel_rfl))
    have d12_ := gD d12
    clear hp hv
    (unfold opTo; go_simp; try simp only [opUpon])
    exact hK _ _ rfl hC bR
  refine oC ?_ ?_
  ·as_aux_lemma =>
    intro aa ww hC hp hv KK hK
    have d86 : aa.tmps.getD 86 undef = .pointer (some ⟨b12, 5, none⟩) := dep_of hp 38 86 (by kernel_rfl)
    have d86_ := gD d86
    clear hp hv
    have cc := (hU_12.up hC).at 5 rfl
    (unfold opTo; go_simp; try simp only [opUpon])
    exact hK _ _ rfl hC bR
  refine oC ?_ ?_
  ·as_aux_lemma =>
    intro aa ww hC hp hv KK hK
    have d87 : aa.tmps.getD 87 undef = .int .u32 0 := dep_of hp 39 87 (by kernel_rfl)
    have d87_ := gD d87
    clear hp hv
    (unfold opTo; go_simp; try simp only [opUpon])
    exact hK _ _ rfl hC bR
  refine oC ?_ ?_
  ·as_aux_lemma =>
    intro aa ww hC hp hv KK hK
    have d85 : aa.tmps.getD 85 undef = .bool true := dep_of hp 37 85 (by kernel_rfl)
    have d88 : aa.tmps.getD 88 undef = .bool true := dep_of hp 40 88 (by kernel_rfl)
    have d85_ := gD d85
    have d88_ := gD d88
    clear hp hv
    (unfold opTo; go_simp; try simp only [opUpon])
    exact hK _ _ rfl hC bR
  refine oC ?_ ?_
  ·as_aux_lemma =>
    intro aa ww hC hp hv KK hK
    have d89 : aa.tmps.getD 89 undef = .bool true := dep_of hp 41 89 (by kernel_rfl)
    have d89_ := gD d89
    clear hp hv
    (unfold opTo; go_simp; try simp only [opUpon])
    exact hK _ _ rfl hC bR
  refine oC ?_ ?_
  ·as_aux_lemma =>
    intro aa ww hC hp hv KK hK
    have d12 : aa.tmps.getD 12 undef = .pointer (some ⟨b12, 0, none⟩) := hv 12 (slotOk_spec (by kernel_rfl))
    have d12_ := gD d12
    clear hp hv
    (unfold opTo; go_simp; try simp only [opUpon])
    exact hK _ _ rfl hC bR
  refine oC ?_ ?_
  ·as_aux_lemma =>
    intro aa ww hC hp hv KK hK
    have d91 : aa.tmps.getD 91 undef = .pointer (some ⟨b12, 7, none⟩) := dep_of hp 43 91 (by kernel_rfl)
    have d91_ := gD d91
    clear hp hv
    have cc := (hU_12.up hC).at 7 rfl
    (unfold opTo; go_simp; try simp only [opUpon])
    exact hK _ _ rfl hC bR
  refine oC ?_ ?_
  ·as_aux_lemma =>
    intro aa ww hC hp hv KK hK
    have d92 : aa.tmps.getD 92 undef = .int .u16 200 := dep_of hp 44 92 (by kernel_rfl)
    have d92_ := gD d92
    clear hp hv
    (unfold opTo; go_simp; try simp only [opUpon])
    exact hK _ _ rfl hC bR
  refine oC ?_ ?_
  ·as_aux_lemma =>
    intro aa ww hC hp hv KK hK
    have d90 : aa.tmps.getD 90 undef = .bool true := dep_of hp 42 90 (by kernel_rfl)
    have d93 : aa.tmps.getD 93 undef = .bool true := dep_of hp 45 93 (by kernel_rfl)
    have d90_ := gD d90
    have d93_ := gD d93
    clear hp hv
    (unfold opTo; go_simp; try simp only [opUpon])
    exact hK _ _ rfl hC bR
  refine oC ?_ ?_
  ·as_aux_lemma =>
    intro aa ww hC hp hv KK hK
    have d94 : aa.tmps.getD 94 undef = .bool true := dep_of hp 46 94 (by kernel_rfl)
    have d94_ := gD d94
    clear hp hv
    (unfold opTo; go_simp; try simp only [opUpon])
    exact hK _ _ rfl hC bR
  refine oC ?_ ?_
  ·as_aux_lemma =>
    intro aa ww hC hp hv KK hK
    have d12 : aa.tmps.getD 12 undef = .pointer (some ⟨b12, 0, none⟩) := hv 12 (slotOk_spec (by kernel_rfl))
    have d12_ := gD d12
    clear hp hv
    (unfold opTo; go_simp; try simp only [opUpon])
    exact hK _ _ rfl hC bR
  refine oC ?_ ?_
  ·as_aux_lemma =>
    intro aa ww hC hp hv KK hK
    have d96 : aa.tmps.getD 96 undef = .pointer (some ⟨b12, 2, none⟩) := dep_of hp 48 96 (by kernel_rfl)
    have d96_ := gD d96
    clear hp hv
    (unfold opTo; go_simp; try simp only [opUpon])
    exact hK _ _ rfl hC bR
  refine oC ?_ ?_
  ·as_aux_lemma =>
    intro aa ww hC hp hv KK hK
    have d97 : aa.tmps.getD 97 undef = .pointer (some ⟨b12, 3, none⟩) := dep_of hp 49 97 (by kernel_rfl)
    have d97_ := gD d97
    clear hp hv
    have cc := (hU_12.up hC).at 3 rfl
    (unfold opTo; go_simp; try simp only [opUpon])
    exact hK _ _ rfl hC bR
  refine oC ?_ ?_
  ·as_aux_lemma =>
    intro aa ww hC hp hv KK hK
    have d98 : aa.tmps.getD 98 undef = .int .u16 4 := dep_of hp 50 98 (by kernel_rfl)
    have d98_ := gD d98
    clear hp hv
    (unfold opTo; go_simp; try simp only [opUpon])
    exact hK _ _ rfl hC bR
  refine oC ?_ ?_
  ·as_aux_lemma =>
    intro aa ww hC hp hv KK hK
    have d95 : aa.tmps.getD 95 undef = .bool true := dep_of hp 47 95 (by kernel_rfl)
    have d99 : aa.tmps.getD 99 undef = .bool true := dep_of hp 51 99 (by kernel_rfl)
    have d95_ := gD d95
    have d99_ := gD d99
    clear hp hv
    (unfold opTo; go_simp; try simp only [opUpon])
    exact hK _ _ rfl hC bR
  refine oC ?_ ?_
  ·as_aux_lemma =>
    intro aa ww hC hp hv KK hK
    have d100 : aa.tmps.getD 100 undef = .bool true := dep_of hp 52 100 (by kernel_rfl)
    have d100_ := gD d100
    clear hp hv
    (unfold opTo; go_simp; try simp only [opUpon])
    exact hK _ _ rfl hC bR
  refine oC ?_ ?_
  ·as_aux_lemma =>
    intro aa ww hC hp hv KK hK
    have d12 : aa.tmps.getD 12 undef = .pointer (some ⟨b12, 0, none⟩) := hv 12 (slotOk_spec (by kernel_rfl))
    have d12_ := gD d12
    clear hp hv
    have hb := hU_12.up hC
    obtain ⟨cc0, cc1, cc2, cc3, cc4, cc5, cc6, cc7, cc8, cc9, cc10, cc11, cc12, cc13, cc14, cc15⟩ := bx16 hb
    (unfold opTo; go_simp; try simp only [opUpon])
    exact hK _ _ rfl hC bR
  refine oC ?_ ?_
  ·as_aux_lemma =>
    intro aa ww hC hp hv KK hK
    clear hp hv
    (unfold opTo; go_simp; try simp only [opUpon])
    exact (segC _).mono fun e w9 h => ⟨_, h.1, hK _ _ rfl (Up.on hC h.2) h.2⟩
  refine oC ?_ ?_
  ·as_aux_lemma =>
    intro aa ww hC hp hv KK hK
    have d9 : aa.tmps.getD 9 undef = .pointer (some ⟨b9, 0, none⟩) := hv 9 (slotOk_spec (by kernel_rfl))
    have d9_ := gD d9
    clear hp hv
    have hb := hX_12.up hC
    obtain ⟨cc0, cc1, cc2, cc3, cc4, cc5, cc6, cc7, cc8, cc9⟩ := bx10 hb
    (unfold opTo; go_simp; try simp only [opUpon])
    exact hK _ _ rfl hC bR
  refine oC ?_ ?_
  ·as_aux_lemma =>
    intro aa ww hC hp hv KK hK
    have d103 : aa.tmps.getD 103 undef = (.agg #[.int .u32 167772161, .int .u16 4000, .int .u32 167772162, .int .u16 80, .int .u32 7, .int .u32 0, .int .u8 2, .int .u16 100, .int .u16 1460, .int .i64 (-1), .bool false, .slice none 0 0, .bool false, .int .u32 0, .int .u32 0, .string { data := #[] }]) := dep_of hp 55 103 (by kernel_rfl)
    have d104 : aa.tmps.getD 104 undef = (.agg #[.int .u32 1, .int .u16 2, .int .u32 3, .int .u16 4, .int .u32 5, .int .u32 6, .int .u32 0, .int .u32 0, .int .i64 1, .int .i64 0]) := dep_of hp 56 104 (by kernel_rfl)
    have d103_ := gD d103
    have d104_ := gD d104
    clear hp hv
    (unfold opTo; go_simp; try simp only [opUpon])
    refine (H8.out _).mono ?_; rintro e w9 ⟨A9, c9, rfl, hu9⟩; exact ⟨_, rfl, hK _ _ ⟨A9, c9, rfl⟩ (Up.on hC hu9) hu9⟩
  refine oC ?_ ?_
  ·as_aux_lemma =>
    intro aa ww hC hp hv KK hK
    have d102 : aa.tmps.getD 102 undef = (.agg #[.int .u32 1, .int .u16 2, .int .u32 3, .int .u16 4, .int .u32 12, .int .u32 0, .int .u8 2, .int .u16 200, .int .u16 1460, .int .i64 (-1), .bool false, .slice A6 0 c6, .bool false, .int .u32 0, .int .u32 0, .string { data := #[] }]) := dep_of hp 54 102 (by kernel_rfl)
    obtain ⟨A9, c9, d105⟩ : TkT (aa.tmps.getD 105 undef) ww := dep_of hp 57 105 (by kernel_rfl)
    have d102_ := gD d102
    have d105_ := gD d105
    clear hp hv
    (unfold opTo; go_simp; try simp only [opUpon])
    exact (H9.out _ _ _ _ _).mono fun e w9 h => ⟨_, h.1, hK _ _ rfl (Up.on hC h.2) h.2⟩
  refine oC ?_ ?_
  ·as_aux_lemma =>
    intro aa ww hC hp hv KK hK
    have d101 : aa.tmps.getD 101 undef = .bool true := dep_of hp 53 101 (by kernel_rfl)
    have d106 : aa.tmps.getD 106 undef = .bool true := dep_of hp 58 106 (by kernel_rfl)
    have d101_ := gD d101
    have d106_ := gD d106
    clear hp hv
    (unfold opTo; go_simp; try simp only [opUpon])
    exact hK _ _ rfl hC bR
  refine oC ?_ ?_
  ·as_aux_lemma =>
    intro aa ww hC hp hv KK hK
    have d107 : aa.tmps.getD 107 undef = .bool true := dep_of hp 59 107 (by kernel_rfl)
    have d107_ := gD d107
    clear hp hv
    (unfold opTo; go_simp; try simp only [opUpon])
    exact hK _ _ rfl hC bR
  refine oC ?_ ?_
  ·as_aux_lemma =>
    intro aa ww hC hp hv KK hK
    clear hp hv
    (unfold opTo; go_simp; try simp only [opUpon])
    exact (segC _).mono fun e w9 h => ⟨_, h.1, hK _ _ rfl (Up.on hC h.2) h.2⟩
  refine oC ?_ ?_
  ·as_aux_lemma =>
    intro aa ww hC hp hv KK hK
    have d109 : aa.tmps.getD 109 undef = (.agg #[.int .u32 167772161, .int .u16 4000, .int .u32 167772162, .int .u16 80, .int .u32 7, .int .u32 0, .int .u8 2, .int .u16 100, .int .u16 1460, .int .i64 (-1), .bool false, .slice none 0 0, .bool false, .int .u32 0, .int .u32 0, .string { data := #[] }]) := dep_of hp 61 109 (by kernel_rfl)
    have d109_ := gD d109
    clear hp hv
    (unfold opTo; go_simp; try simp only [opUpon])
    exact (H10.out _).mono fun e w9 h => ⟨_, h.1, hK _ _ rfl (Up.on hC h.2) h.2⟩
  refine oC ?_ ?_
  ·as_aux_lemma =>
    intro aa ww hC hp hv KK hK
    have d110 : aa.tmps.getD 110 undef = .int .u32 8 := dep_of hp 62 110 (by kernel_rfl)
    have d110_ := gD d110
    clear hp hv
    (unfold opTo; go_simp; try simp only [opUpon])
    exact hK _ _ rfl hC bR
  refine oC ?_ ?_
  ·as_aux_lemma =>
    intro aa ww hC hp hv KK hK
    have d108 : aa.tmps.getD 108 undef = .bool true := dep_of hp 60 108 (by kernel_rfl)
    have d111 : aa.tmps.getD 111 undef = .bool true := dep_of hp 63 111 (by kernel_rfl)
    have d108_ := gD d108
    have d111_ := gD d111
    clear hp hv
    (unfold opTo; go_simp; try simp only [opUpon])
    exact hK _ _ rfl hC bR
  refine oC ?_ ?_
  ·as_aux_lemma =>
    intro aa ww hC hp hv KK hK
    have d112 : aa.tmps.getD 112 undef = .bool true := dep_of hp 64 112 (by kernel_rfl)
    have d112_ := gD d112
    clear hp hv
    (unfold opTo; go_simp; try simp only [opUpon])
    exact hK _ _ rfl hC bR
  refine oC ?_ ?_
  ·as_aux_lemma =>
    intro aa ww hC hp hv KK hK
    clear hp hv
    (unfold opTo; go_simp; try simp only [opUpon])
    exact (segC _).mono fun e w9 h => ⟨_, h.1, hK _ _ rfl (Up.on hC h.2) h.2⟩
  refine oC ?_ ?_
  ·as_aux_lemma =>
    intro aa ww hC hp hv KK hK
    have d114 : aa.tmps.getD 114 undef = (.agg #[.int .u32 167772161, .int .u16 4000, .int .u32 167772162, .int .u16 80, .int .u32 7, .int .u32 0, .int .u8 2, .int .u16 100, .int .u16 1460, .int .i64 (-1), .bool false, .slice none 0 0, .bool false, .int .u32 0, .int .u32 0, .string { data := #[] }]) := dep_of hp 66 114 (by kernel_rfl)
    have d114_ := gD d114
    clear hp hv
    (unfold opTo; go_simp; try simp only [opUpon])
    exact (H11.out _).mono fun e w9 h => ⟨_, h.1, hK _ _ rfl (Up.on hC h.2) h.2⟩
  refine oC ?_ ?_
  ·as_aux_lemma =>
    intro aa ww hC hp hv KK hK
    have d113 : aa.tmps.getD 113 undef = .bool true := dep_of hp 65 113 (by kernel_rfl)
    have d115 : aa.tmps.getD 115 undef = .bool true := dep_of hp 67 115 (by kernel_rfl)
    have d113_ := gD d113
    have d115_ := gD d115
    clear hp hv
    (unfold opTo; go_simp; try simp only [opUpon])
    exact hK _ _ rfl hC bR
  refine oC ?_ ?_
  ·as_aux_lemma =>
    intro aa ww hC hp hv KK hK
    have d116 : aa.tmps.getD 116 undef = .bool true := dep_of hp 68 116 (by kernel_rfl)
    have d116_ := gD d116
    clear hp hv
    (unfold opTo; go_simp; try simp only [opUpon])
    exact hK _ _ rfl hC bR
  exact obligs_nil
 intro vals ww hC hY
 have e0 : vals 0 = .string S := hY 0 _ _ rfl rfl
 have e1 : vals 1 = .int .i64 44 := hY 1 _ _ rfl rfl
 have e2 : vals 2 = .bool true := hY 2 _ _ rfl rfl
 have e3 : vals 3 = .bool true := hY 3 _ _ rfl rfl
 have e4 : vals 4 = .int .i64 0 := hY 4 _ _ rfl rfl
 have e5 : vals 5 = .bool true := hY 5 _ _ rfl rfl
 have e6 : vals 6 = .bool true := hY 6 _ _ rfl rfl
 have e7 : vals 7 = .bool true := hY 7 _ _ rfl rfl
 have e8 : vals 8 = (.agg #[.int .u32 167772161, .int .u16 4000, .int .u32 167772162, .int .u16 80, .int .u32 7, .int .u32 0, .int .u8 2, .int .u16 100, .int .u16 1460, .int .i64 (-1), .bool false, .slice A 0 c, .bool false, .int .u32 0, .int .u32 0, .string { data := #[] }]) := hY 8 _ _ rfl rfl
 have e9 : vals 9 = (.agg #[.int .u32 167772161, .int .u16 4000, .int .u32 167772162, .int .u16 80, .int .u32 7, .int .u32 0, .int .u8 2, .int .u16 100, .int .u16 1460, .int .i64 (-1), .bool false, .slice none 0 0, .bool false, .int .u32 0, .int .u32 0, .string { data := #[] }]) := hY 9 _ _ rfl rfl
 have e10 : vals 10 = .bool true := hY 10 _ _ rfl rfl
 have e11 : vals 11 = .bool true := hY 11 _ _ rfl rfl
 have e12 : vals 12 = .bool true := hY 12 _ _ rfl rfl
 have e13 : vals 13 = .int .i64 0 := hY 13 _ _ rfl rfl
 have e14 : vals 14 = .bool true := hY 14 _ _ rfl rfl
 have e15 : vals 15 = .bool true := hY 15 _ _ rfl rfl
 have e16 : vals 16 = .bool true := hY 16 _ _ rfl rfl
 have e17 : vals 17 = .int .i64 50 := hY 17 _ _ rfl rfl
 have e18 : vals 18 = .bool true := hY 18 _ _ rfl rfl
 have e19 : vals 19 = .bool true := hY 19 _ _ rfl rfl
 have e20 : vals 20 = .bool true := hY 20 _ _ rfl rfl
 have e21 : vals 21 = .int .i64 2 := hY 21 _ _ rfl rfl
 have e22 : vals 22 = .bool true := hY 22 _ _ rfl rfl
 have e23 : vals 23 = .bool true := hY 23 _ _ rfl rfl
 have e24 : vals 24 = .bool true := hY 24 _ _ rfl rfl
 have e25 : vals 25 = .int .i64 0 := hY 25 _ _ rfl rfl
 have e26 : vals 26 = .bool true := hY 26 _ _ rfl rfl
 have e27 : vals 27 = .bool true := hY 27 _ _ rfl rfl
 have e28 : vals 28 = .bool true := hY 28 _ _ rfl rfl
 have e29 : vals 29 = .int .i64 0 := hY 29 _ _ rfl rfl
 have e30 : vals 30 = .bool true := hY 30 _ _ rfl rfl
 have e31 : vals 31 = .bool true := hY 31 _ _ rfl rfl
 have e32 : vals 32 = .bool true := hY 32 _ _ rfl rfl
 have e33 : vals 33 = .pointer (some ⟨b12, 4, none⟩) := hY 33 _ _ rfl rfl
 have e34 : vals 34 = .int .u32 12 := hY 34 _ _ rfl rfl
 have e35 : vals 35 = .bool true := hY 35 _ _ rfl rfl
 have e36 : vals 36 = .bool true := hY 36 _ _ rfl rfl
 have e37 : vals 37 = .bool true := hY 37 _ _ rfl rfl
 have e38 : vals 38 = .pointer (some ⟨b12, 5, none⟩) := hY 38 _ _ rfl rfl
 have e39 : vals 39 = .int .u32 0 := hY 39 _ _ rfl rfl
 have e40 : vals 40 = .bool true := hY 40 _ _ rfl rfl
 have e41 : vals 41 = .bool true := hY 41 _ _ rfl rfl
 have e42 : vals 42 = .bool true := hY 42 _ _ rfl rfl
 have e43 : vals 43 = .pointer (some ⟨b12, 7, none⟩) := hY 43 _ _ rfl rfl
 have e44 : vals 44 = .int .u16 200 := hY 44 _ _ rfl rfl
 have e45 : vals 45 = .bool true := hY 45 _ _ rfl rfl
 have e46 : vals 46 = .bool true := hY 46 _ _ rfl rfl
 have e47 : vals 47 = .bool true := hY 47 _ _ rfl rfl
 have e48 : vals 48 = .pointer (some ⟨b12, 2, none⟩) := hY 48 _ _ rfl rfl
 have e49 : vals 49 = .pointer (some ⟨b12, 3, none⟩) := hY 49 _ _ rfl rfl
 have e50 : vals 50 = .int .u16 4 := hY 50 _ _ rfl rfl
 have e51 : vals 51 = .bool true := hY 51 _ _ rfl rfl
 have e52 : vals 52 = .bool true := hY 52 _ _ rfl rfl
 have e53 : vals 53 = .bool true := hY 53 _ _ rfl rfl
 have e54 : vals 54 = (.agg #[.int .u32 1, .int .u16 2, .int .u32 3, .int .u16 4, .int .u32 12, .int .u32 0, .int .u8 2, .int .u16 200, .int .u16 1460, .int .i64 (-1), .bool false, .slice A6 0 c6, .bool false, .int .u32 0, .int .u32 0, .string { data := #[] }]) := hY 54 _ _ rfl rfl
 have e55 : vals 55 = (.agg #[.int .u32 167772161, .int .u16 4000, .int .u32 167772162, .int .u16 80, .int .u32 7, .int .u32 0, .int .u8 2, .int .u16 100, .int .u16 1460, .int .i64 (-1), .bool false, .slice none 0 0, .bool false, .int .u32 0, .int .u32 0, .string { data := #[] }]) := hY 55 _ _ rfl rfl
 have e56 : vals 56 = (.agg #[.int .u32 1, .int .u16 2, .int .u32 3, .int .u16 4, .int .u32 5, .int .u32 6, .int .u32 0, .int .u32 0, .int .i64 1, .int .i64 0]) := hY 56 _ _ rfl rfl
 obtain ⟨A9, c9, e57⟩ : TkT (vals 57) ww := hY 57 _ _ rfl rfl
 have e58 : vals 58 = .bool true := hY 58 _ _ rfl rfl
 have e59 : vals 59 = .bool true := hY 59 _ _ rfl rfl
 have e60 : vals 60 = .bool true := hY 60 _ _ rfl rfl
 have e61 : vals 61 = (.agg #[.int .u32 167772161, .int .u16 4000, .int .u32 167772162, .int .u16 80, .int .u32 7, .int .u32 0, .int .u8 2, .int .u16 100, .int .u16 1460, .int .i64 (-1), .bool false, .slice none 0 0, .bool false, .int .u32 0, .int .u32 0, .string { data := #[] }]) := hY 61 _ _ rfl rfl
 have e62 : vals 62 = .int .u32 8 := hY 62 _ _ rfl rfl
 have e63 : vals 63 = .bool true := hY 63 _ _ rfl rfl
 have e64 : vals 64 = .bool true := hY 64 _ _ rfl rfl
 have e65 : vals 65 = .bool true := hY 65 _ _ rfl rfl
 have e66 : vals 66 = (.agg #[.int .u32 167772161, .int .u16 4000, .int .u32 167772162, .int .u16 80, .int .u32 7, .int .u32 0, .int .u8 2, .int .u16 100, .int .u16 1460, .int .i64 (-1), .bool false, .slice none 0 0, .bool false, .int .u32 0, .int .u32 0, .string { data := #[] }]) := hY 66 _ _ rfl rfl
 have e67 : vals 67 = .bool true := hY 67 _ _ rfl rfl
 have e68 : vals 68 = .bool true := hY 68 _ _ rfl rfl
 have e69 : vals 69 = .bool true := hY 69 _ _ rfl rfl
 clear hY
 simp only [List.append_eq, List.cons_append, List.nil_append]
 simp only [putAll, Act.put, List.setIfInBounds_toArray, List.set_cons_zero, List.set_cons_succ, e0, e1, e2, e3, e4, e5, e6, e7, e8, e9, e10, e11, e12, e13, e14, e15, e16, e17, e18, e19, e20, e21, e22, e23, e24, e25, e26, e27, e28, e29, e30, e31, e32, e33, e34, e35, e36, e37, e38, e39, e40, e41, e42, e43, e44, e45, e46, e47, e48, e49, e50, e51, e52, e53, e54, e55, e56, e57, e58, e59, e60, e61, e62, e63, e64, e65, e66, e67, e68, e69]
 clear e0 e1 e2 e3 e4 e5 e6 e7 e8 e9 e10 e11 e12 e13 e14 e15 e16 e17 e18 e19 e20 e21 e22 e23 e24 e25 e26 e27 e28 e29 e30 e31 e32 e33 e34 e35 e36 e37 e38 e39 e40 e41 e42 e43 e44 e45 e46 e47 e48 e49 e50 e51 e52 e53 e54 e55 e56 e57 e58 e59 e60 e61 e62 e63 e64 e65 e66 e67 e68 e69
 have huE := hu12.on hC
 generalize ww = wE at huE ⊢
 go_wp2
 go_ret
 exact ⟨rfl, huE⟩
end Go.Proofs.YtafckmbgefbonaaGreat.pk
