/- B H A: contracts, part 37. Condition: as each says. -/
import Derived.Test.YtafckmbgefbonaaKBHA21
import Derived.Test.YtafckmbgefbonaaKBHA33
import Derived.Test.YtafckmbgefbonaaKBHA36
set_option linter.unusedVariables false
set_option linter.unusedSimpArgs false
namespace Go.Proofs.Ytafckmbgefbonaa.pk
open Go.RowKit Go.Shelf Go.Lib Go.Proofs.Ytafckmbgefbonaa.sm Go.Proofs.Ytafckmbgefbonaa.nb Go.Proofs.Ytafckmbgefbonaa.pm
set_option linter.unusedVariables false

theorem opts_at {l : List UInt8} (h : errP l = 0) : l.length = 40 + (optsOf (l.drop 20)).length + (valP l).dt.length ∧ (l.drop 40).take (optsOf (l.drop 20)).length = optsOf (l.drop 20) := by
  obtain ⟨i1, i2, i3⟩ := errP_is0 h
  obtain ⟨g1, g2, g3, g4⟩ := errG_is0 i3
  obtain ⟨k1, k2, k3, k4, k5⟩ := cm.dec_is0 g1
  have hlen : (l.drop 20).length = l.length - 20 := List.length_drop
  have hb12 := bt_bd (l.drop 20) 12
  obtain ⟨n, n1, n2, n3, n4⟩ : ∃ n : Nat, cm.hl (l.drop 20) = (n : Int) ∧ 20 ≤ n ∧ n ≤ l.length - 20 ∧ n % 4 = 0 := by
    refine ⟨(cm.hl (l.drop 20)).toNat, ?_⟩
    unfold cm.hl at *
    omega
  have nn : (cm.hl (l.drop 20)).toNat = n := by omega
  have hO : (optsOf (l.drop 20)).length = n - 20 := by unfold optsOf; rw [nn, List.length_take, List.length_drop, hlen]; omega
  have hD : (valP l).dt.length = l.length - 20 - n := by show ((l.drop 20).drop (cm.hl (l.drop 20)).toNat).length = _; rw [nn, List.length_drop, hlen]
  refine ⟨by rw [hO, hD]; omega, ?_⟩
  rw [hO]
  unfold optsOf
  rw [nn, List.drop_drop]
section
variable {w0 : World} {B n cap ch sh ph cg sg pg b6 : Nat} {vs : List Value} {t : St} {W : World}
theorem new_ne (hs : RS w0 B n cap ch sh ph cg sg pg b6 vs t W) : W.heap.size ≠ ch ∧ W.heap.size ≠ cg ∧ W.heap.size ≠ B := by
  have := hs.h1.1; have := hs.g1.1; have := hs.x.1; omega
theorem put4HG (k : Nat) (K : Int) (v : Nat) (hK : K = (k : Int)) (hf : RF w0 B n cap ch sh ph cg sg pg b6) (hs : RS w0 B n cap ch sh ph cg sg pg b6 vs t W) (hv : v ≤ 4294967295) (hk : k + 4 ≤ n) :
    Calls Try.prog 26 #[.slice (some ⟨B, 0, none⟩) n cap, .int .i64 K, .int .u32 v, .slice (some ⟨W.heap.size, 0, none⟩) 2 2] (W.alloc (.cells #[cloV ch sh ph, cloV cg sg pg] 67)) fun e W' => (∃ r, e = .returned r) ∧ RS w0 B n cap ch sh ph cg sg pg b6 vs (layS [true, false] k (B32 v) t) W' := by
  subst hK
  obtain ⟨n1, n2, n3⟩ := new_ne hs
  exact put4C [true, false] k v W.heap.size hf (hs.on (up_al _ (Below.refl _ _))) (Box.new W #[cloV ch sh ph, cloV cg sg pg] 67) n1 n2 n3 hv hk 2 rfl (by decide)
theorem put4G (k : Nat) (K : Int) (v : Nat) (hK : K = (k : Int)) (hf : RF w0 B n cap ch sh ph cg sg pg b6) (hs : RS w0 B n cap ch sh ph cg sg pg b6 vs t W) (hv : v ≤ 4294967295) (hk : k + 4 ≤ n) :
    Calls Try.prog 26 #[.slice (some ⟨B, 0, none⟩) n cap, .int .i64 K, .int .u32 v, .slice (some ⟨W.heap.size, 0, none⟩) 1 1] (W.alloc (.cells #[cloV cg sg pg] 67)) fun e W' => (∃ r, e = .returned r) ∧ RS w0 B n cap ch sh ph cg sg pg b6 vs (layS [false] k (B32 v) t) W' := by
  subst hK
  obtain ⟨n1, n2, n3⟩ := new_ne hs
  exact put4C [false] k v W.heap.size hf (hs.on (up_al _ (Below.refl _ _))) (Box.new W #[cloV cg sg pg] 67) n1 n2 n3 hv hk 1 rfl (by decide)
theorem put2G (k : Nat) (K : Int) (v : Nat) (hK : K = (k : Int)) (hf : RF w0 B n cap ch sh ph cg sg pg b6) (hs : RS w0 B n cap ch sh ph cg sg pg b6 vs t W) (hv : v ≤ 65535) (hk : k + 2 ≤ n) :
    Calls Try.prog 27 #[.slice (some ⟨B, 0, none⟩) n cap, .int .i64 K, .int .u16 v, .slice (some ⟨W.heap.size, 0, none⟩) 1 1] (W.alloc (.cells #[cloV cg sg pg] 67)) fun e W' => (∃ r, e = .returned r) ∧ RS w0 B n cap ch sh ph cg sg pg b6 vs (layS [false] k (B16 v) t) W' := by
  subst hK
  obtain ⟨n1, n2, n3⟩ := new_ne hs
  exact put2C [false] k v W.heap.size hf (hs.on (up_al _ (Below.refl _ _))) (Box.new W #[cloV cg sg pg] 67) n1 n2 n3 hv hk 1 rfl (by decide)
theorem layG (k : Nat) (K : Int) (N : ByteArray) (hK : K = (k : Int)) (hf : RF w0 B n cap ch sh ph cg sg pg b6) (hs : RS w0 B n cap ch sh ph cg sg pg b6 vs t W) (m : Nat) (hm : N.size = m) (hk : k + m ≤ n) :
    Calls Try.prog 28 #[.slice (some ⟨B, 0, none⟩) n cap, .int .i64 K, .string N, .slice (some ⟨W.heap.size, 0, none⟩) 1 1] (W.alloc (.cells #[cloV cg sg pg] 67)) fun e W' => (∃ r, e = .returned r) ∧ RS w0 B n cap ch sh ph cg sg pg b6 vs (layS [false] k (L N) t) W' := by
  subst hK
  obtain ⟨n1, n2, n3⟩ := new_ne hs
  exact layA [false] k N W.heap.size hf (hs.on (up_al _ (Below.refl _ _))) (Box.new W #[cloV cg sg pg] 67) n1 n2 n3 m hm hk 1 rfl (by decide)
end
set_option maxHeartbeats 4000000 in
set_option maxRecDepth 100000 in
theorem lrewrite0 (x : ByteArray) (a1 p1 b1 q1 y1 z1 v1 ee1 : Nat) (up dn : Int) (w : World) (hx : x.size ≤ 1048576) (he : errP (L x) ≠ 0) :
    Calls Try.prog 10 #[.string x, SHV a1 p1 b1 q1 y1 z1 v1 ee1 up dn] w fun e_ w' => e_ = .returned (RWV (L x) ⟨a1, b1, p1, q1, y1, z1, v1, ee1, up, dn⟩) ∧ Up w w' := by
  have HV : Hid (RWV (L x) ⟨a1, b1, p1, q1, y1, z1, v1, ee1, up, dn⟩ = .tuple #[.string ByteArray.empty, .int .i64 (errP (L x) : Nat)]) := if_neg he
  have HD := Lib.hid (fun w => decodeC x w hx)
  rw [decP_bad he] at HD
  generalize errP (L x) = n at HV HD he
  have c0 : ¬ (n : Int) = 0 := by omega
  go_enter Try.func10, Try.ntmps10
  go_upto_region 1 with fail
  have hu := up_al (w := w) (.cells #[.int .u32 a1, .int .u16 p1, .int .u32 b1, .int .u16 q1, .int .u32 y1, .int .u32 z1, .int .u32 v1, .int .u32 ee1, .int .i64 up, .int .i64 dn] 32) (Below.refl _ _)
  generalize (w.alloc (.cells #[.int .u32 a1, .int .u16 p1, .int .u32 b1, .int .u16 q1, .int .u32 y1, .int .u32 z1, .int .u32 v1, .int .u32 ee1, .int .i64 up, .int .i64 dn] 32)) = w0 at hu ⊢
  go_wp2_with fail
  refine (HD.out w0).mono ?_
  rintro e w1 ⟨X, rfl, ⟨A, nn, cc, rfl, hl, hr⟩, hv⟩
  have hu1 := hu.on hv
  clear hu hv
  go_upto_region 2 with fail
  generalize hw2 : World.alloc w1 _ = w2
  have hu2 : Up w w2 := hw2 ▸ up_al _ hu1
  clear hw2
  go_wp2_with fail
  go_ret2
  exact ⟨by rw [HV.out]; rfl, hu2⟩
set_option maxHeartbeats 8000000 in
set_option maxRecDepth 100000 in
theorem lrewrite1 (x : ByteArray) (a1 p1 b1 q1 y1 z1 v1 ee1 : Nat) (up dn : Int) (w : World) (hx : x.size ≤ 1048576) (he : errP (L x) = 0) (hX : WfX ⟨a1, b1, p1, q1, y1, z1, v1, ee1, up, dn⟩) :
    Calls Try.prog 10 #[.string x, SHV a1 p1 b1 q1 y1 z1 v1 ee1 up dn] w fun e_ w' => e_ = .returned (RWV (L x) ⟨a1, b1, p1, q1, y1, z1, v1, ee1, up, dn⟩) ∧ Up w w' := by
  have HV : Hid (RWV (L x) ⟨a1, b1, p1, q1, y1, z1, v1, ee1, up, dn⟩ = .tuple #[.string (tx (rwP ⟨a1, b1, p1, q1, y1, z1, v1, ee1, up, dn⟩ (L x))), .int .i64 0]) := if_pos he
  have HD := Lib.hid (fun w => decodeC x w hx)
  have hgd := good_dec (L x) hx
  rw [decP_ok he] at HD hgd
  rw [he] at HD
  obtain ⟨i1, i2, i3⟩ := errP_is0 he
  obtain ⟨g1, g2, g3, g4⟩ := errG_is0 i3
  obtain ⟨o1, o2⟩ := opts_at he
  obtain ⟨r1, r2, r3⟩ := room he
  rw [L_len] at o1
  have hx6 : z1 ≤ 4294967295 := hX.2.2.2.2.2.1
  have hx7 : v1 ≤ 4294967295 := hX.2.2.2.2.2.2.1
  have hx8 : ee1 ≤ 4294967295 := hX.2.2.2.2.2.2.2
  have HRW := Lib.hid (rw_steps hX he)
  dsimp only at HRW
  obtain ⟨o, ho⟩ : ∃ o, o = tx (om.turnL z1 v1 ee1 (optsOf ((L x).drop 20))) := ⟨_, rfl⟩
  have hT : op.TV (optsOf ((L x).drop 20)) z1 v1 ee1 = .tuple #[.string o, .int .i64 0] := by rw [op.TV_ok g2, ho]
  have hlo : L o = om.turnL z1 v1 ee1 (optsOf ((L x).drop 20)) := by rw [ho, L_tx]
  have hzo : o.size = (optsOf ((L x).drop 20)).length := by rw [← L_len, hlo]; exact (om.turn_err g2).2.2
  rw [← hlo] at HRW
  rw [← hzo] at o1 o2 r3
  obtain ⟨O, hO⟩ : ∃ O, O = x.extract 40 (40 + o.size) := ⟨_, rfl⟩
  have hLO : L O = optsOf ((L x).drop 20) := by rw [hO, L_extract, show 40 + o.size - 40 = o.size by omega, o2]
  have HTn := Lib.hid (fun w => op.turnC O z1 v1 ee1 w (by rw [← L_len, hLO, ← hzo]; omega) (by unfold om.M32; omega) (by unfold om.M32; omega) (by unfold om.M32; omega))
  rw [hLO, hT] at HTn
  have HO := Lib.hid hO
  obtain ⟨G, hG⟩ : ∃ G, valP (L x) = G := ⟨_, rfl⟩
  rw [hG] at HD hgd HRW o1
  have HTu := Lib.hid (fun v w (h : SegV w v G) => turnedC a1 p1 b1 q1 y1 z1 v1 ee1 up dn w h hgd hX)
  have hgt := good_t hX hgd
  obtain ⟨t, ht⟩ : ∃ t, t = tS ⟨a1, b1, p1, q1, y1, z1, v1, ee1, up, dn⟩ G := ⟨_, rfl⟩
  rw [← ht] at HTu HRW hgt
  obtain ⟨⟨m1, m2, m3, m4, m5, m6, m7, m8, m9⟩, _⟩ := hgt
  obtain ⟨D, hD⟩ : ∃ D, D = G.dt.length := ⟨_, rfl⟩
  have hDz : (tx G.dt).size = D := by rw [tx_size, hD]
  rw [← hD] at o1
  obtain ⟨pe, hpe⟩ : ∃ pe, pe = 40 + o.size := ⟨_, rfl⟩
  have y1_ : IntKind.i64.wrap ((x.size : Int) - (D : Int)) = (pe : Int) := by rw [IntWalk.i64_in _ (by omega)]; omega
  have y0_ : IntKind.i64.wrap (pe : Int) = (pe : Int) := IntWalk.i64_in _ (by omega)
  have y2_ : (x.size : Int) - (D : Int) = (pe : Int) := by omega
  have y3_ : (40 : Int) ≤ (pe : Int) := by omega
  have y4_ : (pe : Int) ≤ (x.size : Int) := by omega
  have y5_ : x.extract 40 pe = O := by rw [HO.out, hpe]
  have hoz : 40 + o.size ≤ x.size := by omega
  have w10 := nat_of (wd_bd (L x) 10).1
  have w36 := nat_of (wd_bd (L x) 36).1
  have b10 := (wd_bd (L x) 10).2
  have b36 := (wd_bd (L x) 36).2
  clear he i1 i2 i3 g1 g2 g3 g4 r1 r2 o1 o2 hT hlo hzo hO hLO ho hG ht hD hX hpe hgd HO
  go_enter Try.func10, Try.ntmps10
  go_upto_region 1 with fail
  have hB := Box.new w #[.int .u32 a1, .int .u16 p1, .int .u32 b1, .int .u16 q1, .int .u32 y1, .int .u32 z1, .int .u32 v1, .int .u32 ee1, .int .i64 up, .int .i64 dn] 32
  have hu := up_al (w := w) (.cells #[.int .u32 a1, .int .u16 p1, .int .u32 b1, .int .u16 q1, .int .u32 y1, .int .u32 z1, .int .u32 v1, .int .u32 ee1, .int .i64 up, .int .i64 dn] 32) (Below.refl _ _)
  generalize (w.alloc (.cells #[.int .u32 a1, .int .u16 p1, .int .u32 b1, .int .u16 q1, .int .u32 y1, .int .u32 z1, .int .u32 v1, .int .u32 ee1, .int .i64 up, .int .i64 dn] 32)) = w0 at hB hu ⊢
  obtain ⟨n0, hn0⟩ : ∃ n0, n0 = w.heap.size := ⟨_, rfl⟩
  have hle : w.heap.size ≤ n0 := by omega
  rw [← hn0] at hB ⊢
  clear hn0
  go_wp2_with fail
  refine (HD.out w0).mono ?_
  rintro e_ w1 ⟨X, rfl, ⟨A, nn, cc, rfl, hl, hr⟩, hv⟩
  have hu1 := hu.on hv
  have hB1 := hB.up hv
  clear hu hv hB HD
  go_upto_region 2 with fail
  have hn01 := hB1.1
  have hS2 := Box.new w1 #[.int .u32 G.sa, .int .u16 G.sp, .int .u32 G.da, .int .u16 G.dp, .int .u32 G.sq, .int .u32 G.ak, .int .u8 G.fl, .int .u16 G.wi, .int .u16 G.op.mss, .int .i64 G.op.sc, .bool G.op.sk, .slice A nn cc, .bool G.op.tm, .int .u32 G.op.va, .int .u32 G.op.ec, .string (tx G.dt)] 30
  have hB2 := hB1.alloc (.cells #[.int .u32 G.sa, .int .u16 G.sp, .int .u32 G.da, .int .u16 G.dp, .int .u32 G.sq, .int .u32 G.ak, .int .u8 G.fl, .int .u16 G.wi, .int .u16 G.op.mss, .int .i64 G.op.sc, .bool G.op.sk, .slice A nn cc, .bool G.op.tm, .int .u32 G.op.va, .int .u32 G.op.ec, .string (tx G.dt)] 30)
  have hr2 := hr.up (up_al (.cells #[.int .u32 G.sa, .int .u16 G.sp, .int .u32 G.da, .int .u16 G.dp, .int .u32 G.sq, .int .u32 G.ak, .int .u8 G.fl, .int .u16 G.wi, .int .u16 G.op.mss, .int .i64 G.op.sc, .bool G.op.sk, .slice A nn cc, .bool G.op.tm, .int .u32 G.op.va, .int .u32 G.op.ec, .string (tx G.dt)] 30) (Below.refl _ w1))
  have hu2 := up_al (.cells #[.int .u32 G.sa, .int .u16 G.sp, .int .u32 G.da, .int .u16 G.dp, .int .u32 G.sq, .int .u32 G.ak, .int .u8 G.fl, .int .u16 G.wi, .int .u16 G.op.mss, .int .i64 G.op.sc, .bool G.op.sk, .slice A nn cc, .bool G.op.tm, .int .u32 G.op.va, .int .u32 G.op.ec, .string (tx G.dt)] 30) hu1
  generalize (w1.alloc (.cells #[.int .u32 G.sa, .int .u16 G.sp, .int .u32 G.da, .int .u16 G.dp, .int .u32 G.sq, .int .u32 G.ak, .int .u8 G.fl, .int .u16 G.wi, .int .u16 G.op.mss, .int .i64 G.op.sc, .bool G.op.sk, .slice A nn cc, .bool G.op.tm, .int .u32 G.op.va, .int .u32 G.op.ec, .string (tx G.dt)] 30)) = w2 at hS2 hB2 hr2 hu2 ⊢
  generalize w1.heap.size = s0 at hS2 hn01 ⊢
  clear hB1 hu1 hr w1
  go_upto_region 4 with fail
  refine wp_region_rel2 (fun W => Up w2 W) (fun W W' => Up W W') (Ys [Det (.string x),
    Det (.string x),
    Det (.int .i64 x.size),
    Det (.pointer (some ⟨s0, 15, none⟩)),
    Det (.string (tx G.dt)),
    Det (.int .i64 D),
    Det (.int .i64 pe),
    Det (.string O),
    Det (.pointer (some ⟨n0, 5, none⟩)),
    Det (.int .u32 z1),
    Det (.pointer (some ⟨n0, 6, none⟩)),
    Det (.int .u32 v1),
    Det (.pointer (some ⟨n0, 7, none⟩)),
    Det (.int .u32 ee1),
    Det (.tuple #[.string o, .int .i64 0]),
    Det (.tuple #[.string o, .int .i64 0]),
    Det (.string o),
    Det (.int .i64 0),
    Det (.string o),
    Det (.int .i64 0)]) (by kernel_rfl) (by kernel_rfl) (up_dr (Below.refl _ _)) (Stable.ys ⟨Det.st _, Det.st _, Det.st _, Det.st _, Det.st _, Det.st _, Det.st _, Det.st _, Det.st _, Det.st _, Det.st _, Det.st _, Det.st _, Det.st _, Det.st _, Det.st _, Det.st _, Det.st _, Det.st _, Det.st _, trivial⟩) ?_ ?_
  ·
    refine obligs_cons ?_ ?_
    · intro aa ww hC hdep hvar KK hK
      have d0 : aa.tmps.getD 0 undef = .string x := hvar 0 (slotOk_spec (by kernel_rfl))
      have d0_ := d0; rw [Array.getD_eq_getD_getElem?] at d0_
      clear hdep hvar
      (unfold opTo; go_simp; try simp only [opUpon])
      exact hK _ _ rfl hC (Below.refl _ _)
    refine obligs_cons ?_ ?_
    · intro aa ww hC hdep hvar KK hK
      have d0 : aa.tmps.getD 0 undef = .string x := hvar 0 (slotOk_spec (by kernel_rfl))
      have d0_ := d0; rw [Array.getD_eq_getD_getElem?] at d0_
      clear hdep hvar
      (unfold opTo; go_simp; try simp only [opUpon])
      exact hK _ _ rfl hC (Below.refl _ _)
    refine obligs_cons ?_ ?_
    · intro aa ww hC hdep hvar KK hK
      have d22 : aa.tmps.getD 22 undef = .string x := dep_of hdep 1 22 (by kernel_rfl)
      have d22_ := d22; rw [Array.getD_eq_getD_getElem?] at d22_
      clear hdep hvar
      (unfold opTo; go_simp; try simp only [opUpon])
      exact hK _ _ rfl hC (Below.refl _ _)
    refine obligs_cons ?_ ?_
    · intro aa ww hC hdep hvar KK hK
      have d6 : aa.tmps.getD 6 undef = .pointer (some ⟨s0, 0, none⟩) := hvar 6 (slotOk_spec (by kernel_rfl))
      have d6_ := d6; rw [Array.getD_eq_getD_getElem?] at d6_
      clear hdep hvar
      (unfold opTo; go_simp; try simp only [opUpon])
      exact hK _ _ rfl hC (Below.refl _ _)
    refine obligs_cons ?_ ?_
    · intro aa ww hC hdep hvar KK hK
      have d24 : aa.tmps.getD 24 undef = .pointer (some ⟨s0, 15, none⟩) := dep_of hdep 3 24 (by kernel_rfl)
      have d24_ := d24; rw [Array.getD_eq_getD_getElem?] at d24_
      clear hdep hvar
      have cc := (hS2.up hC).at 15 rfl
      (unfold opTo; go_simp; try simp only [opUpon])
      exact hK _ _ rfl hC (Below.refl _ _)
    refine obligs_cons ?_ ?_
    · intro aa ww hC hdep hvar KK hK
      have d25 : aa.tmps.getD 25 undef = .string (tx G.dt) := dep_of hdep 4 25 (by kernel_rfl)
      have d25_ := d25; rw [Array.getD_eq_getD_getElem?] at d25_
      clear hdep hvar
      (unfold opTo; go_simp; try simp only [opUpon])
      exact hK _ _ rfl hC (Below.refl _ _)
    refine obligs_cons ?_ ?_
    · intro aa ww hC hdep hvar KK hK
      have d23 : aa.tmps.getD 23 undef = .int .i64 x.size := dep_of hdep 2 23 (by kernel_rfl)
      have d26 : aa.tmps.getD 26 undef = .int .i64 D := dep_of hdep 5 26 (by kernel_rfl)
      have d23_ := d23; rw [Array.getD_eq_getD_getElem?] at d23_
      have d26_ := d26; rw [Array.getD_eq_getD_getElem?] at d26_
      clear hdep hvar
      (unfold opTo; go_simp; try simp only [opUpon])
      exact hK _ _ rfl hC (Below.refl _ _)
    refine obligs_cons ?_ ?_
    · intro aa ww hC hdep hvar KK hK
      have d21 : aa.tmps.getD 21 undef = .string x := dep_of hdep 0 21 (by kernel_rfl)
      have d27 : aa.tmps.getD 27 undef = .int .i64 pe := dep_of hdep 6 27 (by kernel_rfl)
      have d21_ := d21; rw [Array.getD_eq_getD_getElem?] at d21_
      have d27_ := d27; rw [Array.getD_eq_getD_getElem?] at d27_
      clear hdep hvar
      (unfold opTo; go_simp; try simp only [opUpon])
      exact hK _ _ rfl hC (Below.refl _ _)
    refine obligs_cons ?_ ?_
    · intro aa ww hC hdep hvar KK hK
      have d3 : aa.tmps.getD 3 undef = .pointer (some ⟨n0, 0, none⟩) := hvar 3 (slotOk_spec (by kernel_rfl))
      have d3_ := d3; rw [Array.getD_eq_getD_getElem?] at d3_
      clear hdep hvar
      (unfold opTo; go_simp; try simp only [opUpon])
      exact hK _ _ rfl hC (Below.refl _ _)
    refine obligs_cons ?_ ?_
    · intro aa ww hC hdep hvar KK hK
      have d29 : aa.tmps.getD 29 undef = .pointer (some ⟨n0, 5, none⟩) := dep_of hdep 8 29 (by kernel_rfl)
      have d29_ := d29; rw [Array.getD_eq_getD_getElem?] at d29_
      clear hdep hvar
      have cc := (hB2.up hC).at 5 rfl
      (unfold opTo; go_simp; try simp only [opUpon])
      exact hK _ _ rfl hC (Below.refl _ _)
    refine obligs_cons ?_ ?_
    · intro aa ww hC hdep hvar KK hK
      have d3 : aa.tmps.getD 3 undef = .pointer (some ⟨n0, 0, none⟩) := hvar 3 (slotOk_spec (by kernel_rfl))
      have d3_ := d3; rw [Array.getD_eq_getD_getElem?] at d3_
      clear hdep hvar
      (unfold opTo; go_simp; try simp only [opUpon])
      exact hK _ _ rfl hC (Below.refl _ _)
    refine obligs_cons ?_ ?_
    · intro aa ww hC hdep hvar KK hK
      have d31 : aa.tmps.getD 31 undef = .pointer (some ⟨n0, 6, none⟩) := dep_of hdep 10 31 (by kernel_rfl)
      have d31_ := d31; rw [Array.getD_eq_getD_getElem?] at d31_
      clear hdep hvar
      have cc := (hB2.up hC).at 6 rfl
      (unfold opTo; go_simp; try simp only [opUpon])
      exact hK _ _ rfl hC (Below.refl _ _)
    refine obligs_cons ?_ ?_
    · intro aa ww hC hdep hvar KK hK
      have d3 : aa.tmps.getD 3 undef = .pointer (some ⟨n0, 0, none⟩) := hvar 3 (slotOk_spec (by kernel_rfl))
      have d3_ := d3; rw [Array.getD_eq_getD_getElem?] at d3_
      clear hdep hvar
      (unfold opTo; go_simp; try simp only [opUpon])
      exact hK _ _ rfl hC (Below.refl _ _)
    refine obligs_cons ?_ ?_
    · intro aa ww hC hdep hvar KK hK
      have d33 : aa.tmps.getD 33 undef = .pointer (some ⟨n0, 7, none⟩) := dep_of hdep 12 33 (by kernel_rfl)
      have d33_ := d33; rw [Array.getD_eq_getD_getElem?] at d33_
      clear hdep hvar
      have cc := (hB2.up hC).at 7 rfl
      (unfold opTo; go_simp; try simp only [opUpon])
      exact hK _ _ rfl hC (Below.refl _ _)
    refine obligs_cons ?_ ?_
    · intro aa ww hC hdep hvar KK hK
      have d28 : aa.tmps.getD 28 undef = .string O := dep_of hdep 7 28 (by kernel_rfl)
      have d30 : aa.tmps.getD 30 undef = .int .u32 z1 := dep_of hdep 9 30 (by kernel_rfl)
      have d32 : aa.tmps.getD 32 undef = .int .u32 v1 := dep_of hdep 11 32 (by kernel_rfl)
      have d34 : aa.tmps.getD 34 undef = .int .u32 ee1 := dep_of hdep 13 34 (by kernel_rfl)
      have d28_ := d28; rw [Array.getD_eq_getD_getElem?] at d28_
      have d30_ := d30; rw [Array.getD_eq_getD_getElem?] at d30_
      have d32_ := d32; rw [Array.getD_eq_getD_getElem?] at d32_
      have d34_ := d34; rw [Array.getD_eq_getD_getElem?] at d34_
      clear hdep hvar
      (unfold opTo; go_simp; try simp only [opUpon])
      exact (HTn.out _).mono fun e w9 h => ⟨_, h.1, hK _ _ rfl (Up.on hC h.2) h.2⟩
    refine obligs_cons ?_ ?_
    · intro aa ww hC hdep hvar KK hK
      have d35 : aa.tmps.getD 35 undef = .tuple #[.string o, .int .i64 0] := dep_of hdep 14 35 (by kernel_rfl)
      have d35_ := d35; rw [Array.getD_eq_getD_getElem?] at d35_
      clear hdep hvar
      (unfold opTo; go_simp; try simp only [opUpon])
      exact hK _ _ rfl hC (Below.refl _ _)
    refine obligs_cons ?_ ?_
    · intro aa ww hC hdep hvar KK hK
      have d20 : aa.tmps.getD 20 undef = .tuple #[.string o, .int .i64 0] := dep_of hdep 15 20 (by kernel_rfl)
      have d20_ := d20; rw [Array.getD_eq_getD_getElem?] at d20_
      clear hdep hvar
      (unfold opTo; go_simp; try simp only [opUpon])
      exact hK _ _ rfl hC (Below.refl _ _)
    refine obligs_cons ?_ ?_
    · intro aa ww hC hdep hvar KK hK
      have d20 : aa.tmps.getD 20 undef = .tuple #[.string o, .int .i64 0] := dep_of hdep 15 20 (by kernel_rfl)
      have d20_ := d20; rw [Array.getD_eq_getD_getElem?] at d20_
      clear hdep hvar
      (unfold opTo; go_simp; try simp only [opUpon])
      exact hK _ _ rfl hC (Below.refl _ _)
    refine obligs_cons ?_ ?_
    · intro aa ww hC hdep hvar KK hK
      have d36 : aa.tmps.getD 36 undef = .string o := dep_of hdep 16 36 (by kernel_rfl)
      have d36_ := d36; rw [Array.getD_eq_getD_getElem?] at d36_
      clear hdep hvar
      (unfold opTo; go_simp; try simp only [opUpon])
      exact hK _ _ rfl hC (Below.refl _ _)
    refine obligs_cons ?_ ?_
    · intro aa ww hC hdep hvar KK hK
      have d37 : aa.tmps.getD 37 undef = .int .i64 0 := dep_of hdep 17 37 (by kernel_rfl)
      have d37_ := d37; rw [Array.getD_eq_getD_getElem?] at d37_
      clear hdep hvar
      (unfold opTo; go_simp; try simp only [opUpon])
      exact hK _ _ rfl hC (Below.refl _ _)
    exact obligs_nil
  intro vals ww hC hY
  have e0 : vals 0 = .string x := hY 0 _ _ rfl rfl
  have e1 : vals 1 = .string x := hY 1 _ _ rfl rfl
  have e2 : vals 2 = .int .i64 x.size := hY 2 _ _ rfl rfl
  have e3 : vals 3 = .pointer (some ⟨s0, 15, none⟩) := hY 3 _ _ rfl rfl
  have e4 : vals 4 = .string (tx G.dt) := hY 4 _ _ rfl rfl
  have e5 : vals 5 = .int .i64 D := hY 5 _ _ rfl rfl
  have e6 : vals 6 = .int .i64 pe := hY 6 _ _ rfl rfl
  have e7 : vals 7 = .string O := hY 7 _ _ rfl rfl
  have e8 : vals 8 = .pointer (some ⟨n0, 5, none⟩) := hY 8 _ _ rfl rfl
  have e9 : vals 9 = .int .u32 z1 := hY 9 _ _ rfl rfl
  have e10 : vals 10 = .pointer (some ⟨n0, 6, none⟩) := hY 10 _ _ rfl rfl
  have e11 : vals 11 = .int .u32 v1 := hY 11 _ _ rfl rfl
  have e12 : vals 12 = .pointer (some ⟨n0, 7, none⟩) := hY 12 _ _ rfl rfl
  have e13 : vals 13 = .int .u32 ee1 := hY 13 _ _ rfl rfl
  have e14 : vals 14 = .tuple #[.string o, .int .i64 0] := hY 14 _ _ rfl rfl
  have e15 : vals 15 = .tuple #[.string o, .int .i64 0] := hY 15 _ _ rfl rfl
  have e16 : vals 16 = .string o := hY 16 _ _ rfl rfl
  have e17 : vals 17 = .int .i64 0 := hY 17 _ _ rfl rfl
  have e18 : vals 18 = .string o := hY 18 _ _ rfl rfl
  have e19 : vals 19 = .int .i64 0 := hY 19 _ _ rfl rfl
  clear hY
  simp only [putAll, Act.put, List.setIfInBounds_toArray, List.set_cons_zero, List.set_cons_succ, e0, e1, e2, e3, e4, e5, e6, e7, e8, e9, e10, e11, e12, e13, e14, e15, e16, e17, e18, e19]
  clear e0 e1 e2 e3 e4 e5 e6 e7 e8 e9 e10 e11 e12 e13 e14 e15 e16 e17 e18 e19
  have hu3 := hu2.on hC
  have hS3 := hS2.up hC; have hB3 := hB2.up hC; have hr3 := hr2.up hC
  clear hu2 hC hS2 hB2 hr2 HTn y0_ y1_ y2_ y3_ y4_ y5_
  generalize ww = w3 at hu3 hS3 hB3 hr3 ⊢
  have k0 := hS3.at 0 rfl; have k1 := hS3.at 1 rfl; have k2 := hS3.at 2 rfl; have k3 := hS3.at 3 rfl; have k4 := hS3.at 4 rfl; have k5 := hS3.at 5 rfl; have k6 := hS3.at 6 rfl; have k7 := hS3.at 7 rfl; have k8 := hS3.at 8 rfl; have k9 := hS3.at 9 rfl; have k10 := hS3.at 10 rfl; have k11 := hS3.at 11 rfl; have k12 := hS3.at 12 rfl; have k13 := hS3.at 13 rfl; have k14 := hS3.at 14 rfl; have k15 := hS3.at 15 rfl; have l0 := hB3.at 0 rfl; have l1 := hB3.at 1 rfl; have l2 := hB3.at 2 rfl; have l3 := hB3.at 3 rfl; have l4 := hB3.at 4 rfl; have l5 := hB3.at 5 rfl; have l6 := hB3.at 6 rfl; have l7 := hB3.at 7 rfl; have l8 := hB3.at 8 rfl; have l9 := hB3.at 9 rfl
  go_wp2_with fail
  refine (HTu.out _ w3 ⟨A, nn, cc, rfl, hl, hr3⟩).mono ?_
  rintro e_ w4 ⟨X, rfl, ⟨A', nn', cc', rfl, hl4, hr4⟩, hv⟩
  have hu4 := hu3.on hv
  have hS4 := hS3.up hv
  clear k0 k1 k2 k3 k4 k5 k6 k7 k8 k9 k10 k11 k12 k13 k14 k15 l0 l1 l2 l3 l4 l5 l6 l7 l8 l9 hS3 hB3 hr3 hu3 hv HTu
  have k0 := hS4.at 0 rfl; have k1 := hS4.at 1 rfl; have k2 := hS4.at 2 rfl; have k3 := hS4.at 3 rfl; have k4 := hS4.at 4 rfl; have k5 := hS4.at 5 rfl; have k6 := hS4.at 6 rfl; have k7 := hS4.at 7 rfl; have k8 := hS4.at 8 rfl; have k9 := hS4.at 9 rfl; have k10 := hS4.at 10 rfl; have k11 := hS4.at 11 rfl; have k12 := hS4.at 12 rfl; have k13 := hS4.at 13 rfl; have k14 := hS4.at 14 rfl; have k15 := hS4.at 15 rfl; have r0 := hS4.fr 0 rfl; have r1 := hS4.fr 1 rfl; have r2 := hS4.fr 2 rfl; have r3 := hS4.fr 3 rfl; have r4 := hS4.fr 4 rfl; have r5 := hS4.fr 5 rfl; have r6 := hS4.fr 6 rfl; have r7 := hS4.fr 7 rfl; have r8 := hS4.fr 8 rfl; have r9 := hS4.fr 9 rfl; have r10 := hS4.fr 10 rfl; have r11 := hS4.fr 11 rfl; have r12 := hS4.fr 12 rfl; have r13 := hS4.fr 13 rfl; have r14 := hS4.fr 14 rfl; have r15 := hS4.fr 15 rfl
  go_upto_region 8 with fail
  clear k0 k1 k2 k3 k4 k5 k6 k7 k8 k9 k10 k11 k12 k13 k14 k15 r0 r1 r2 r3 r4 r5 r6 r7 r8 r9 r10 r11 r12 r13 r14 r15
  have hS5 := put16 hS4 (.int .u32 t.sa) (.int .u16 t.sp) (.int .u32 t.da) (.int .u16 t.dp) (.int .u32 t.sq) (.int .u32 t.ak) (.int .u8 t.fl) (.int .u16 t.wi) (.int .u16 t.op.mss) (.int .i64 t.op.sc) (.bool t.op.sk) (.slice A' nn' cc') (.bool t.op.tm) (.int .u32 t.op.va) (.int .u32 t.op.ec) (.string (tx t.dt))
  have hu5 := ups16 (b := s0) hu4 (by omega) (.int .u32 t.sa) (.int .u16 t.sp) (.int .u32 t.da) (.int .u16 t.dp) (.int .u32 t.sq) (.int .u32 t.ak) (.int .u8 t.fl) (.int .u16 t.wi) (.int .u16 t.op.mss) (.int .i64 t.op.sc) (.bool t.op.sk) (.slice A' nn' cc') (.bool t.op.tm) (.int .u32 t.op.va) (.int .u32 t.op.ec) (.string (tx t.dt))
  generalize World.setCell _ ⟨s0, 15, none⟩ _ = w5 at hS5 hu5 ⊢
  clear hS4 hu4 hr4 hl4
  obtain ⟨cap, w6, hcv, hv6, hXb, hcap⟩ := op.conv_bytes x w5
  have hs0B := hS5.1
  have hS6 := hS5.up hv6
  have hu6 := hu5.on hv6
  have hwB : w.heap.size ≤ w5.heap.size := by omega
  generalize w5.heap.size = nX at hcv hXb hs0B hwB
  go_upto_region 9 with fail
  clear hcv hv6 hS5 hu5
  have H10 : Calls Try.prog 25 #[.slice (some ⟨nX, 0, none⟩) x.size cap, .int .i64 10] w6 _ := alongC nX x.size cap 10 (L x) w6 hXb (L_len x) (by omega) hx
  go_wp2_with fail
  refine H10.mono ?_
  rintro e_ w7 ⟨ch, sh, ph, rfl, c1, c2, c3, hv7, d1, d2, d3, d4, d5⟩
  have hX7 := hXb.up hv7
  have hS7 := hS6.up hv7
  have hu7 := hu6.on hv7
  have hX6 := hXb.1
  clear H10 hS6 hu6 hv7 hXb
  have H36 : Calls Try.prog 25 #[.slice (some ⟨nX, 0, none⟩) x.size cap, .int .i64 36] w7 _ := alongC nX x.size cap 36 (L x) w7 hX7 (L_len x) (by omega) hx
  go_wp2_with fail
  refine H36.mono ?_
  rintro e_ w8 ⟨cg, sg, pg, rfl, f1_, f2_, f3, hv8, j1, j2, j3, j4, j5⟩
  have q1_ := c1.1; have q2_ := c2.1; have q3_ := c3.1
  have hf : RF w nX x.size cap ch sh ph cg sg pg s0 := by
    refine ⟨hcap, by omega, hx, ?_, ?_, ?_, ?_, ?_, ?_, ?_, ?_, ?_, ?_, ?_, ?_, ?_, ?_, ?_, ?_, ?_, ?_, ?_, ?_, ?_⟩ <;> omega
  have c1' := c1.up hv8; have c2' := c2.up hv8; have c3' := c3.up hv8
  rw [← w10] at c1'
  rw [← w36] at f1_
  have hs : RS w nX x.size cap ch sh ph cg sg pg s0 [.int .u32 t.sa, .int .u16 t.sp, .int .u32 t.da, .int .u16 t.dp, .int .u32 t.sq, .int .u32 t.ak, .int .u8 t.fl, .int .u16 t.wi, .int .u16 t.op.mss, .int .i64 t.op.sc, .bool t.op.sk, .slice A' nn' cc', .bool t.op.tm, .int .u32 t.op.va, .int .u32 t.op.ec, .string (tx t.dt)] (⟨(wd (L x) 10).toNat, (wd (L x) 36).toNat, L x⟩) w8 :=
    ⟨hX7.up hv8, L_len x, by dsimp only; omega, by dsimp only; omega, c1', c2', c3', f1_, f2_, f3, hS7.up hv8, hu7.on hv8⟩
  generalize (⟨(wd (L x) 10).toNat, (wd (L x) 36).toNat, L x⟩ : St) = t0 at hs HRW
  clear c1 c2 c3 c1' c2' c3' f1_ f2_ f3 hX7 hS7 hu7 hv8 d1 d2 d3 d4 d5 j1 j2 j3 j4 j5 q1_ q2_ q3_ H36 hX6 w10 w36 b10 b36 hwB hs0B
  have kx := hs.sg_.at 0 rfl
  go_wp2_with fail
  refine (put4HG 12 12 t.sa rfl hf hs m1 (by omega)).mono ?_
  rintro e_ w9 ⟨⟨_, rfl⟩, hs9⟩
  clear kx hs
  have kx := hs9.sg_.at 2 rfl
  go_wp2_with fail
  refine (put4HG 16 16 t.da rfl hf hs9 m2 (by omega)).mono ?_
  rintro e_ w10 ⟨⟨_, rfl⟩, hs10⟩
  clear kx hs9
  have kx := hs10.sg_.at 1 rfl
  go_wp2_with fail
  refine (put2G 20 20 t.sp rfl hf hs10 m3 (by omega)).mono ?_
  rintro e_ w11 ⟨⟨_, rfl⟩, hs11⟩
  clear kx hs10
  have kx := hs11.sg_.at 3 rfl
  go_wp2_with fail
  refine (put2G 22 22 t.dp rfl hf hs11 m4 (by omega)).mono ?_
  rintro e_ w12 ⟨⟨_, rfl⟩, hs12⟩
  clear kx hs11
  have kx := hs12.sg_.at 4 rfl
  go_wp2_with fail
  refine (put4G 24 24 t.sq rfl hf hs12 m5 (by omega)).mono ?_
  rintro e_ w13 ⟨⟨_, rfl⟩, hs13⟩
  clear kx hs12
  have kx := hs13.sg_.at 5 rfl
  go_wp2_with fail
  refine (put4G 28 28 t.ak rfl hf hs13 m6 (by omega)).mono ?_
  rintro e_ w14 ⟨⟨_, rfl⟩, hs14⟩
  clear kx hs13
  have kx := hs14.sg_.at 7 rfl
  go_wp2_with fail
  refine (put2G 34 34 t.wi rfl hf hs14 m8 (by omega)).mono ?_
  rintro e_ w15 ⟨⟨_, rfl⟩, hs15⟩
  clear kx hs14
  go_wp2_with fail
  refine (layG 40 40 o rfl hf hs15 o.size rfl (by omega)).mono ?_
  rintro e_ w16 ⟨⟨_, rfl⟩, hs16⟩
  clear hs15
  have qe := op.conv_row (cap := cap) hs16.len hs16.x
  have hUF := hs16.up
  have hEQ : (layS [false] 40 (L o) (layS [false] 34 (B16 t.wi) (layS [false] 28 (B32 t.ak) (layS [false] 24 (B32 t.sq) (layS [false] 22 (B16 t.dp) (layS [false] 20 (B16 t.sp) (layS [true, false] 16 (B32 t.da) (layS [true, false] 12 (B32 t.sa) t0)))))))).l = rwP ⟨a1, b1, p1, q1, y1, z1, v1, ee1, up, dn⟩ (L x) := HRW.out
  rw [hEQ] at qe
  clear hEQ HRW hs16
  go_wp2_with fail
  go_ret2
  exact ⟨by rw [HV.out]; rfl, hUF⟩
theorem rewriteC (x : ByteArray) (a1 p1 b1 q1 y1 z1 v1 ee1 : Nat) (up dn : Int) (w : World) (hx : x.size ≤ 1048576) (hX : WfX ⟨a1, b1, p1, q1, y1, z1, v1, ee1, up, dn⟩) :
    Calls Try.prog 10 #[.string x, SHV a1 p1 b1 q1 y1 z1 v1 ee1 up dn] w fun e_ w' => e_ = .returned (RWV (L x) ⟨a1, b1, p1, q1, y1, z1, v1, ee1, up, dn⟩) ∧ Up w w' := by
  by_cases he : errP (L x) = 0
  · exact lrewrite1 x a1 p1 b1 q1 y1 z1 v1 ee1 up dn w hx he hX
  · exact lrewrite0 x a1 p1 b1 q1 y1 z1 v1 ee1 up dn w hx he
end Go.Proofs.Ytafckmbgefbonaa.pk
