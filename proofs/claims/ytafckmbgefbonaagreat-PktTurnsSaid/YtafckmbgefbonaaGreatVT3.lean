/- T: contracts, part 3. Condition: as each says. -/
import Derived.Test.YtafckmbgefbonaaGreatVT2
import Derived.Test.YtafckmbgefbonaaGreatVTR2
set_option linter.unusedVariables false
set_option linter.unusedSimpArgs false
set_option maxRecDepth 100000
set_option maxHeartbeats 8000000
namespace Go.Proofs.YtafckmbgefbonaaGreat.op
open RowKit Shelf Lib sm nb om

theorem refAdd (s : ByteArray) (p by_ : Nat) (w : World) (hp : p + 4 ≤ s.size) (hs : s.size ≤ 1048576) (hb : by_ < M32) :
  Calls Tryz.prog 88 #[.string s, .int .i64 p, .int .u32 by_] w fun e_ w' => e_ = .returned (.string (tx (addAt (L s) p by_))) ∧ Up w w' := by
 obtain ⟨q, hq⟩ := Int.eq_ofNat_of_zero_le (qd_bd (L s) p).1
 have hqb := (qd_bd (L s) p).2
 rw [hq] at hqb
 obtain ⟨z, hz⟩ : ∃ z, z = addM q by_ := ⟨_, rfl⟩
 have hzl : z < M32 := by rw [hz]; exact addM_lt _ _
 have hwz : IntKind.u32.wrap ((q : Int) + (by_ : Int)) = (z : Int) := by
  rw [hz, IntKind.wrap_u32]; unfold addM M32; omega
 have hwz2 : ((q : Int) + (by_ : Int)) % 4294967296 = (z : Int) := by
  rw [hz]; unfold addM M32; omega
 have HN := Lib.hid (fun w => num4 s p hp w)
 obtain ⟨X1, hX1⟩ : ∃ X, X = s.extract 0 p := ⟨_, rfl⟩
 obtain ⟨X2, hX2⟩ : ∃ X, X = X1 ++ tx (B32 z) := ⟨_, rfl⟩
 obtain ⟨X3, hX3⟩ : ∃ X, X = s.extract (p + 4) s.size := ⟨_, rfl⟩
 obtain ⟨X4, hX4⟩ : ∃ X, X = X2 ++ X3 := ⟨_, rfl⟩
 have z1 : X1.size = p := by rw [hX1]; simp; omega
 have z2 : X2.size = p + 4 := by rw [hX2, ByteArray.size_append, z1, tx_size]; rfl
 have z3 : X3.size ≤ s.size := by rw [hX3]; simp
 have zB : (tx (B32 z)).size = 4 := by rw [tx_size]; rfl
 have HR : Hid (X4 = tx (addAt (L s) p by_)) := by
  unfold Hid addAt
  rw [hX4, hX2, hX1, hX3, hq, Int.toNat_natCast, ← hz]
  refine ba_eq ?_
  have e3 : ((L s).drop (p + 4)).take (s.size - (p + 4)) = (L s).drop (p + 4) := List.take_of_length_le (by rw [List.length_drop, L_len]; omega)
  rw [L_app, L_app, L_tx, L_tx, L_extract, L_extract, List.drop_zero, Nat.sub_zero, e3, List.append_assoc]
 have HX1 := Lib.hid hX1; have HX2 := Lib.hid hX2; have HX3 := Lib.hid hX3; have HX4 := Lib.hid hX4
 have HQ := Lib.hid hq
 have d0 : (p : Int) ≤ (s.size : Int) := by omega
 have d1 : (p : Int) + 4 ≤ (s.size : Int) := by omega
 have d2 : ((p : Int) + 4).toNat = p + 4 := by omega
 have d3 : (0 : Int) ≤ (p : Int) + 4 := by omega
 have d4 : (p : Int) ≤ (p : Int) + 4 := by omega
 have wq1 : IntKind.i64.wrap ((p : Int) + 4) = (p : Int) + 4 := IntWalk.i64_in _ (by omega)
 clear hX1 hX2 hX3 hX4 hq hz
 go_enter Tryz.func88, Tryz.ntmps88
 go_upto_region 1 with fail
 refine wp_region_rel2 (fun W => Up w W) (fun W W' => Up W W') (Ys [Det (.string s),
  Det (.int .i64 p),
  Det (.string X1),
  Det (.string s),
  Det (.int .i64 p),
  Det (.int .i64 p),
  Det (.int .i64 ((p : Int) + 4)),
  Det (.string (s.extract p (p + 4))),
  Det (.int .u32 q),
  Det (.int .u32 by_),
  Det (.int .u32 z),
  Det (.string (tx (B32 z))),
  Det (.string X2),
  Det (.string s),
  Det (.int .i64 p),
  Det (.int .i64 ((p : Int) + 4)),
  Det (.string X3),
  Det (.string X4),
  Det (.string X4)]) (by kernel_rfl) (by kernel_rfl) (up_dr bR) (Stable.ys ⟨Det.st _, Det.st _, Det.st _, Det.st _, Det.st _, Det.st _, Det.st _, Det.st _, Det.st _, Det.st _, Det.st _, Det.st _, Det.st _, Det.st _, Det.st _, Det.st _, Det.st _, Det.st _, Det.st _, trivial⟩) ?_ ?_
 ·
  refine oC ?_ ?_
  ·intro aa ww hC hdep hv KK hK
   have d0 : aa.tmps.getD 0 undef = .string s := hv 0 (slotOk_spec (by kernel_rfl))
   have d0_ := gD d0
   clear hdep hv
   simp (config := { decide := true }) [go_sem, opTo, opUpon, *]
   exact hK _ _ rfl hC bR
  refine oC ?_ ?_
  ·intro aa ww hC hdep hv KK hK
   have d1 : aa.tmps.getD 1 undef = .int .i64 p := hv 1 (slotOk_spec (by kernel_rfl))
   have d1_ := gD d1
   clear hdep hv
   simp (config := { decide := true }) [go_sem, opTo, opUpon, *]
   exact hK _ _ rfl hC bR
  refine oC ?_ ?_
  ·intro aa ww hC hdep hv KK hK
   have d7 : aa.tmps.getD 7 undef = .string s := dep_of hdep 0 7 (by kernel_rfl)
   have d8 : aa.tmps.getD 8 undef = .int .i64 p := dep_of hdep 1 8 (by kernel_rfl)
   have d7_ := gD d7
   have d8_ := gD d8
   clear hdep hv
   (unfold opTo; go_simp; try simp only [opUpon])
   rw [← HX1.out]
   exact hK _ _ rfl hC bR
  refine oC ?_ ?_
  ·intro aa ww hC hdep hv KK hK
   have d0 : aa.tmps.getD 0 undef = .string s := hv 0 (slotOk_spec (by kernel_rfl))
   have d0_ := gD d0
   clear hdep hv
   simp (config := { decide := true }) [go_sem, opTo, opUpon, *]
   exact hK _ _ rfl hC bR
  refine oC ?_ ?_
  ·intro aa ww hC hdep hv KK hK
   have d1 : aa.tmps.getD 1 undef = .int .i64 p := hv 1 (slotOk_spec (by kernel_rfl))
   have d1_ := gD d1
   clear hdep hv
   simp (config := { decide := true }) [go_sem, opTo, opUpon, *]
   exact hK _ _ rfl hC bR
  refine oC ?_ ?_
  ·intro aa ww hC hdep hv KK hK
   have d1 : aa.tmps.getD 1 undef = .int .i64 p := hv 1 (slotOk_spec (by kernel_rfl))
   have d1_ := gD d1
   clear hdep hv
   simp (config := { decide := true }) [go_sem, opTo, opUpon, *]
   exact hK _ _ rfl hC bR
  refine oC ?_ ?_
  ·intro aa ww hC hdep hv KK hK
   have d12 : aa.tmps.getD 12 undef = .int .i64 p := dep_of hdep 5 12 (by kernel_rfl)
   have d12_ := gD d12
   clear hdep hv
   (unfold opTo; go_simp; try simp only [opUpon])
   exact hK _ _ rfl hC bR
  refine oC ?_ ?_
  ·intro aa ww hC hdep hv KK hK
   have d10 : aa.tmps.getD 10 undef = .string s := dep_of hdep 3 10 (by kernel_rfl)
   have d11 : aa.tmps.getD 11 undef = .int .i64 p := dep_of hdep 4 11 (by kernel_rfl)
   have d13 : aa.tmps.getD 13 undef = .int .i64 ((p : Int) + 4) := dep_of hdep 6 13 (by kernel_rfl)
   have d10_ := gD d10
   have d11_ := gD d11
   have d13_ := gD d13
   clear hdep hv
   (unfold opTo; go_simp; try simp only [opUpon])
   exact hK _ _ rfl hC bR
  refine oC ?_ ?_
  ·intro aa ww hC hdep hv KK hK
   have d14 : aa.tmps.getD 14 undef = .string (s.extract p (p + 4)) := dep_of hdep 7 14 (by kernel_rfl)
   have d14_ := gD d14
   clear hdep hv
   (unfold opTo; go_simp; try simp only [opUpon])
   exact (HN.out _).mono fun e_ w2 h => by obtain ⟨h1, rfl⟩ := h; exact ⟨_, h1, hK _ _ (show Value.int .u32 _ = Value.int .u32 _ by rw [HQ.out]) hC bR⟩
  refine oC ?_ ?_
  ·intro aa ww hC hdep hv KK hK
   have d2 : aa.tmps.getD 2 undef = .int .u32 by_ := hv 2 (slotOk_spec (by kernel_rfl))
   have d2_ := gD d2
   clear hdep hv
   simp (config := { decide := true }) [go_sem, opTo, opUpon, *]
   exact hK _ _ rfl hC bR
  refine oC ?_ ?_
  ·intro aa ww hC hdep hv KK hK
   have d15 : aa.tmps.getD 15 undef = .int .u32 q := dep_of hdep 8 15 (by kernel_rfl)
   have d16 : aa.tmps.getD 16 undef = .int .u32 by_ := dep_of hdep 9 16 (by kernel_rfl)
   have d15_ := gD d15
   have d16_ := gD d16
   clear hdep hv
   (unfold opTo; go_simp; try simp only [opUpon])
   exact hK _ _ rfl hC bR
  refine oC ?_ ?_
  ·intro aa ww hC hdep hv KK hK
   have d17 : aa.tmps.getD 17 undef = .int .u32 z := dep_of hdep 10 17 (by kernel_rfl)
   have d17_ := gD d17
   clear hdep hv
   (unfold opTo; go_simp; try simp only [opUpon])
   exact (refFour _ _ (by unfold M32 at hzl; omega)).mono fun e w2 h => ⟨_, h.1, hK _ _ rfl (Up.on hC h.2) h.2⟩
  refine oC ?_ ?_
  ·intro aa ww hC hdep hv KK hK
   have d9 : aa.tmps.getD 9 undef = .string X1 := dep_of hdep 2 9 (by kernel_rfl)
   have d18 : aa.tmps.getD 18 undef = .string (tx (B32 z)) := dep_of hdep 11 18 (by kernel_rfl)
   have d9_ := gD d9
   have d18_ := gD d18
   clear hdep hv
   have hno : ¬ 9223372036854775807 < p + 4 := by omega
   (unfold opTo; go_simp; try simp only [opUpon])
   rw [← HX2.out]
   exact hK _ _ rfl hC bR
  refine oC ?_ ?_
  ·intro aa ww hC hdep hv KK hK
   have d0 : aa.tmps.getD 0 undef = .string s := hv 0 (slotOk_spec (by kernel_rfl))
   have d0_ := gD d0
   clear hdep hv
   simp (config := { decide := true }) [go_sem, opTo, opUpon, *]
   exact hK _ _ rfl hC bR
  refine oC ?_ ?_
  ·intro aa ww hC hdep hv KK hK
   have d1 : aa.tmps.getD 1 undef = .int .i64 p := hv 1 (slotOk_spec (by kernel_rfl))
   have d1_ := gD d1
   clear hdep hv
   simp (config := { decide := true }) [go_sem, opTo, opUpon, *]
   exact hK _ _ rfl hC bR
  refine oC ?_ ?_
  ·intro aa ww hC hdep hv KK hK
   have d21 : aa.tmps.getD 21 undef = .int .i64 p := dep_of hdep 14 21 (by kernel_rfl)
   have d21_ := gD d21
   clear hdep hv
   (unfold opTo; go_simp; try simp only [opUpon])
   exact hK _ _ rfl hC bR
  refine oC ?_ ?_
  ·intro aa ww hC hdep hv KK hK
   have d20 : aa.tmps.getD 20 undef = .string s := dep_of hdep 13 20 (by kernel_rfl)
   have d22 : aa.tmps.getD 22 undef = .int .i64 ((p : Int) + 4) := dep_of hdep 15 22 (by kernel_rfl)
   have d20_ := gD d20
   have d22_ := gD d22
   clear hdep hv
   (unfold opTo; go_simp; try simp only [opUpon])
   rw [← HX3.out]
   exact hK _ _ rfl hC bR
  refine oC ?_ ?_
  ·intro aa ww hC hdep hv KK hK
   have d19 : aa.tmps.getD 19 undef = .string X2 := dep_of hdep 12 19 (by kernel_rfl)
   have d23 : aa.tmps.getD 23 undef = .string X3 := dep_of hdep 16 23 (by kernel_rfl)
   have d19_ := gD d19
   have d23_ := gD d23
   clear hdep hv
   have hno : ¬ 9223372036854775807 < p + 4 + X3.size := by omega
   (unfold opTo; go_simp; try simp only [opUpon])
   rw [← HX4.out]
   exact hK _ _ rfl hC bR
  refine oC ?_ ?_
  ·intro aa ww hC hdep hv KK hK
   have d24 : aa.tmps.getD 24 undef = .string X4 := dep_of hdep 17 24 (by kernel_rfl)
   have d24_ := gD d24
   clear hdep hv
   simp (config := { decide := true }) [go_sem, opTo, opUpon, *]
   exact hK _ _ rfl hC bR
  exact obligs_nil
 intro vals ww hC hY
 have e0 : vals 0 = .string s := hY 0 _ _ rfl rfl
 have e1 : vals 1 = .int .i64 p := hY 1 _ _ rfl rfl
 have e2 : vals 2 = .string X1 := hY 2 _ _ rfl rfl
 have e3 : vals 3 = .string s := hY 3 _ _ rfl rfl
 have e4 : vals 4 = .int .i64 p := hY 4 _ _ rfl rfl
 have e5 : vals 5 = .int .i64 p := hY 5 _ _ rfl rfl
 have e6 : vals 6 = .int .i64 ((p : Int) + 4) := hY 6 _ _ rfl rfl
 have e7 : vals 7 = .string (s.extract p (p + 4)) := hY 7 _ _ rfl rfl
 have e8 : vals 8 = .int .u32 q := hY 8 _ _ rfl rfl
 have e9 : vals 9 = .int .u32 by_ := hY 9 _ _ rfl rfl
 have e10 : vals 10 = .int .u32 z := hY 10 _ _ rfl rfl
 have e11 : vals 11 = .string (tx (B32 z)) := hY 11 _ _ rfl rfl
 have e12 : vals 12 = .string X2 := hY 12 _ _ rfl rfl
 have e13 : vals 13 = .string s := hY 13 _ _ rfl rfl
 have e14 : vals 14 = .int .i64 p := hY 14 _ _ rfl rfl
 have e15 : vals 15 = .int .i64 ((p : Int) + 4) := hY 15 _ _ rfl rfl
 have e16 : vals 16 = .string X3 := hY 16 _ _ rfl rfl
 have e17 : vals 17 = .string X4 := hY 17 _ _ rfl rfl
 have e18 : vals 18 = .string X4 := hY 18 _ _ rfl rfl
 clear hY
 simp only [putAll, Act.put, List.setIfInBounds_toArray, List.set_cons_zero, List.set_cons_succ, e0, e1, e2, e3, e4, e5, e6, e7, e8, e9, e10, e11, e12, e13, e14, e15, e16, e17, e18]
 clear e0 e1 e2 e3 e4 e5 e6 e7 e8 e9 e10 e11 e12 e13 e14 e15 e16 e17 e18
 go_wp2
 go_ret
 exact ⟨by rw [← HR.out]; rfl, hC⟩

theorem refAddI (s : ByteArray) (P : Int) (p by_ : Nat) (hP : P = (p : Int)) (w : World) (hp : p + 4 ≤ s.size) (hs : s.size ≤ 1048576) (hb : by_ < M32) :
  Calls Tryz.prog 88 #[.string s, .int .i64 P, .int .u32 by_] w fun e_ w' => e_ = .returned (.string (tx (addAt (L s) p by_))) ∧ Up w w' := by
 subst hP; exact refAdd s p by_ w hp hs hb
theorem refTurn0 (s : ByteArray) (b v e : Nat) (w : World) (hs : s.size ≤ 1048576) (n : Nat) (hn : err (L s) = n) (h0 : n ≠ 0) :
  Calls Tryz.prog 46 #[.string s, .int .u32 b, .int .u32 v, .int .u32 e] w fun e_ w' => e_ = .returned (TV (L s) b v e) ∧ Up w w' := by
 have HD := Lib.hid (TV_no (b := b) (v := v) (e := e) hn h0)
 have i0 : ¬ (n : Int) = 0 := by omega
 have HN := Lib.hid hn; clear hn
 go_enter Tryz.func46, Tryz.ntmps46
 go_wp2_with fail
 refine (refDecode s w hs).mono ?_
 rintro e_ w1 ⟨x, rfl, ⟨A, k, c, rfl, hl, hr⟩, hv⟩
 rw [HN.out]
 go_wp2_with fail
 go_ret2
 exact ⟨by rw [HD.out]; rfl, up_al _ hv⟩
theorem refTurn1 (s : ByteArray) (b v e : Nat) (w : World) (hs : s.size ≤ 1048576) (hb : b < M32) (hv0 : v < M32) (he0 : e < M32) (hn : err (L s) = 0) :
  Calls Tryz.prog 46 #[.string s, .int .u32 b, .int .u32 v, .int .u32 e] w fun e_ w' => e_ = .returned (TV (L s) b v e) ∧ Up w w' := by
 have HD := Lib.hid (TV_ok (b := b) (v := v) (e := e) hn)
 have HN := Lib.hid hn
 have HS := Lib.hid hs
 have HP := Lib.hid (fun w => refPlaces s w hs)
 go_enter Tryz.func46, Tryz.ntmps46
 go_wp2_with fail
 refine (refDecode s w hs).mono ?_
 rintro e_ w1 ⟨x, rfl, ⟨A, k, c, rfl, hl, hr⟩, hv⟩
 rw [HN.out]
 clear hl hr hn hs
 go_upto_region 4 with fail
 have hu0 : Up w (w1.alloc (.cells #[.int .u16 ((decO (L s)).mss : Nat), .int .i64 (decO (L s)).sc, .bool (decO (L s)).sk, .slice A k c, .bool (decO (L s)).tm, .int .u32 ((decO (L s)).va : Nat), .int .u32 ((decO (L s)).ec : Nat)] 28)) := up_al _ hv
 generalize w1.alloc _ = w2 at hu0 ⊢
 clear hv
 go_wp2_with fail
 refine (HP.out w2).mono ?_
 rintro e_ w3 ⟨hv3, ⟨x1, pl, rfl, hO1, hG, hpn⟩ | ⟨rfl, hbad⟩⟩
 case inr =>
  exfalso
  have h := HN.out
  have := HN.out
  unfold err at this
  rw [hbad] at this
  split at this <;> cases this
 case inl =>
  obtain ⟨Al, cl, rfl, hR⟩ := hO1.rd
  obtain ⟨np, hnp⟩ : ∃ np, pl.length = np := ⟨_, rfl⟩
  rw [hnp]
  have HNP := Lib.hid hnp
  have hnp2 : np ≤ 1048576 := by have := HS.out; omega
  have hu3 := hu0.on hv3
  clear hO1 hnp hu0 hv3 HP
  have HTw := Lib.hid (hG.twg b v e)
  have HBf := Lib.hid (fun j p (h : pl[j]? = some p) => hG.before b v e h)
  have HAt := Lib.hid (fun p (h : p ∈ pl) => hG.all p h)
  clear hG
  go_wp2_with fail
  go_loopw [0, 14] (fun x i wr => ∃ (j : Nat) (X : ByteArray), j ≤ np ∧ i = .int .i64 j ∧ x = .string X ∧ Hid (X = tx (tw b v e (L s) (pl.take j))) ∧ Up w3 wr) (fun _ i _ => np - (intOf i).toNat)
  case atStart => exact ⟨0, s, Nat.zero_le _, rfl, rfl, (show s = tx (tw b v e (L s) []) from (tx_L s).symm), Below.refl _ _⟩
  case round =>
   obtain ⟨j, X, hj, rfl, rfl, hX, hur⟩ := hrel
   by_cases hlt : j < np
   case neg =>
    have hend : pl.take j = pl := List.take_of_length_le (by rw [HNP.out]; omega)
    rw [hend, ← HTw.out] at hX
    go_wp2_with fail
    go_ret2
    exact ⟨by rw [HD.out, ← hX.out]; rfl, hu3.on hur⟩
   case pos =>
    obtain ⟨g, off, rfl, hg, p, c1, hp⟩ := (hR.up hur).at_ (k := j) (by rw [HNP.out]; exact hlt)
    have hAt := HAt.out p (List.mem_of_getElem? hp.out)
    obtain ⟨tl, td, tn⟩ := HBf.out j p hp.out
    have HNx := Lib.hid tn
    obtain ⟨t, ht⟩ : ∃ t, t = tw b v e (L s) (pl.take j) := ⟨_, rfl⟩
    rw [← ht] at hX tl td HNx
    have hzX : X.size = s.size := by rw [hX.out, tx_size, tl, L_len]
    have hLX : L X = t := by rw [hX.out, L_tx]
    have hpn2 : p + nb (L s) (p + 1) ≤ s.size := by have := hAt.2.2; rw [L_len] at this; exact this
    have hN2 := lenOk_two hAt.2.1
    have hl0 : p < X.size := by omega
    have hl1 : p + 1 < X.size := by omega
    obtain ⟨K, hKd⟩ : ∃ K, K = nb (L s) p := ⟨_, rfl⟩
    obtain ⟨N, hNd⟩ : ∃ N, N = nb (L s) (p + 1) := ⟨_, rfl⟩
    have hs20 := HS.out
    have hpi : (p : Int) < (X.size : Int) := by omega
    have hpi1 : (p : Int) + 1 < (X.size : Int) := by omega
    have d1 : ((p : Int) + 1).toNat = p + 1 := by omega
    have wq1 : IntKind.i64.wrap ((p : Int) + 1) = (p : Int) + 1 := IntWalk.i64_in _ (by omega)
    have wq2 : IntKind.i64.wrap ((p : Int) + 2) = (p : Int) + 2 := IntWalk.i64_in _ (by omega)
    have wq3 : IntKind.i64.wrap ((p : Int) + 6) = (p : Int) + 6 := IntWalk.i64_in _ (by omega)
    have hKb : K ≤ 255 := by rw [hKd]; exact nb_le _ _
    have hNb : N ≤ 255 := by rw [hNd]; exact nb_le _ _
    clear HTw HBf HAt hR tn ht
    by_cases h8 : K = 8
    case pos =>
     have ha0 : (X[p]'hl0).toNat = K := by rw [at_nb X p hl0, hLX, hKd]; exact nb_same td 0
     have hN10 : N = 10 := by rw [hNd]; have h := hAt.2.1; rw [← hKd, h8] at h; exact len8 h
     rw [← hNd, hN10] at hpn2
     have hS8 := step_8 (v := v) (e := e) (b := b) hAt tl td (by rw [← hKd]; exact h8)
     rw [← HNx.out] at hS8
     obtain ⟨X5, hX5⟩ : ∃ X5, X5 = tx (addAt (L X) (p + 2) v) := ⟨_, rfl⟩
     have z5 : X5.size = s.size := by rw [hX5, tx_size, addAt_len _ _ _ (by rw [L_len]; omega), L_len, hzX]
     obtain ⟨X6, hX6⟩ : ∃ X6, X6 = tx (addAt (L X5) (p + 6) e) := ⟨_, rfl⟩
     have z6 : X6.size = s.size := by rw [hX6, tx_size, addAt_len _ _ _ (by rw [L_len]; omega), L_len, z5]
     have hX62 : X6 = tx (tw b v e (L s) (pl.take (j + 1))) := by rw [hX6, hX5, L_tx, hLX, hS8]
     have HX6 := Lib.hid hX62
     have l0 : p < X6.size := by omega
     have l1 : p + 1 < X6.size := by omega
     have y0 : (p : Int) < (X6.size : Int) := by omega
     have y1 : (p : Int) + 1 < (X6.size : Int) := by omega
     have hb0 : (X6[p]'l0).toNat = 8 := by
      rw [at_nb X6 p l0, hX62, L_tx, HNx.out]
      have := step_nb (b := b) (v := v) (e := e) hAt tl 0 (by decide)
      rw [Nat.add_zero] at this
      rw [this]
      exact (nb_same td 0).trans (hKd.symm.trans h8)
     have hb1 := c_lt (X6[p + 1]'l1)
     generalize hbq : (X6[p + 1]'l1).toNat = q6 at hb1
     have HX5 := Lib.hid hX5; have HX6b := Lib.hid hX6
     subst h8
     clear hX hLX tl td HNx hAt hp hKd hNd hS8 hX5 hX6 hX62 hN10
     go_wp2_with fail
     refine (refAddI X _ (p + 2) v (by first | rfl | omega | simp) wr (by omega) (by omega) hv0).mono ?_
     rintro e_ w5 ⟨rfl, hv5⟩
     rw [← HX5.out]
     go_wp2_with fail
     refine (refAddI X5 _ (p + 6) e (by first | rfl | omega | simp) w5 (by omega) (by omega) he0).mono ?_
     rintro e_ w6 ⟨rfl, hv6⟩
     rw [← HX6b.out]
     have hu6 := (hur.on hv5).on hv6
     clear hur hv5 hv6
     go_wp2_with fail
     go_loopw [0, 17] (fun x i w7 => x = .string X6 ∧ i = .int .i64 ((p : Int) + 2) ∧ Up w3 w7) (fun _ _ _ => 0)
     case atStart => exact ⟨rfl, by go_num, hu6⟩
     case round =>
      obtain ⟨rfl, rfl, hu7⟩ := hrel
      go_wp2_with fail
      go_roundw
      case rel => exact ⟨j + 1, X6, by omega, by go_num, rfl, HX6, hu7⟩
      case measure => simp [intOf]; omega
    by_cases h5 : K = 5
    case pos =>
     have ha0 : (X[p]'hl0).toNat = K := by rw [at_nb X p hl0, hLX, hKd]; exact nb_same td 0
     have ha1 : (X[p + 1]'hl1).toNat = N := by rw [at_nb X (p + 1) hl1, hLX, hNd]; exact nb_same td 1
     have h5k : nb (L s) p = 5 := by rw [← hKd]; exact h5
     obtain ⟨q, hq⟩ : ∃ q, N = 8 * q + 2 := by
      have h := hAt.2.1
      rw [← hKd, ← hNd, h5] at h
      have := len5 h
      exact ⟨(N - 2) / 8, by omega⟩
     rw [← hNd] at hpn2
     have HM0 : Hid (X = tx (mid b (L s) t p 0)) := by unfold Hid; rw [mid_0 hAt td]; exact hX.out
     have HMn : Hid (∀ i, i < 2 * q → addAt (mid b (L s) t p i) (p + 2 + 4 * i) b = mid b (L s) t p (i + 1)) := fun i hi => mid_next hAt tl i (by rw [← hNd]; omega)
     have HMl : Hid (∀ i, i ≤ 2 * q → (mid b (L s) t p i).length = s.size) := fun i hi => by rw [mid_len hAt tl i (by rw [← hNd]; omega), L_len]
     have HMb : Hid (∀ i, nb (mid b (L s) t p i) p = 5) := fun i => by
      have := mid_nb (b := b) hAt tl i 0 (by decide)
      rw [Nat.add_zero] at this
      rw [this]; exact (nb_same td 0).trans h5k
     have HME : Hid (mid b (L s) t p (2 * q) = tw b v e (L s) (pl.take (j + 1))) := by
      unfold Hid; rw [HNx.out]; exact step_5 hAt h5k q (by rw [← hNd]; exact hq)
     have HQ := Lib.hid hq
     subst h5
     clear hX hLX tl td HNx hAt hp hKd hNd h5k
     go_wp2_with fail
     go_loopw [0, 17] (fun x i w7 => ∃ (n : Nat) (Y : ByteArray) (z : Nat), n ≤ 2 * q ∧ x = .string Y ∧ i = .int .i64 (z : Nat) ∧ Hid (z = p + 2 + 4 * n) ∧ Hid (Y = tx (mid b (L s) t p n)) ∧ Up w3 w7) (fun _ i _ => p + N - (intOf i).toNat)
     case atStart => exact ⟨0, X, p + 2, by omega, rfl, by go_num, rfl, HM0, hur⟩
     case round =>
      obtain ⟨n, Y, z, hn, rfl, rfl, hz, hY, hu7⟩ := hrel
      have zY : Y.size = s.size := by rw [hY.out, tx_size, HMl.out n hn]
      have l0 : p < Y.size := by omega
      have y0 : (p : Int) < (Y.size : Int) := by omega
      have hb0 : (Y[p]'l0).toNat = 5 := by rw [at_nb Y p l0, hY.out, L_tx]; exact HMb.out n
      by_cases hlt2 : n < 2 * q
      ·have y1 : (z : Int) < (p : Int) + (N : Int) := by rw [hz.out]; omega
       have hz4 : z + 4 ≤ Y.size := by rw [hz.out]; omega
       obtain ⟨Y2, hY2⟩ : ∃ Y2, Y2 = tx (addAt (L Y) z b) := ⟨_, rfl⟩
       have HY2 : Hid (Y2 = tx (mid b (L s) t p (n + 1))) := by unfold Hid; rw [hY2, hY.out, L_tx, hz.out, HMn.out n hlt2]
       have HY2b := Lib.hid hY2; clear hY2
       go_wp2_with fail
       refine (refAdd Y z b _ hz4 (by omega) hb).mono ?_
       rintro e_ w8 ⟨rfl, hv8⟩
       rw [← HY2b.out]
       go_wp2_with fail
       go_roundw
       case rel => exact ⟨n + 1, Y2, z + 4, by omega, rfl, by go_num, by unfold Hid; rw [hz.out]; omega, HY2, hu7.on hv8⟩
       case measure => simp [intOf]; omega
      ·obtain rfl : n = 2 * q := by omega
       have y1 : ¬ (z : Int) < (p : Int) + (N : Int) := by rw [hz.out]; omega
       have HYE : Hid (Y = tx (tw b v e (L s) (pl.take (j + 1)))) := by unfold Hid; rw [hY.out, HME.out]
       go_wp2_with fail
       go_roundw
       case rel => exact ⟨j + 1, Y, by omega, by go_num, rfl, HYE, hu7⟩
       case measure => simp [intOf]; omega
    have ha0 : (X[p]'hl0).toNat = K := by rw [at_nb X p hl0, hLX, hKd]; exact nb_same td 0
    have ha1 : (X[p + 1]'hl1).toNat = N := by rw [at_nb X (p + 1) hl1, hLX, hNd]; exact nb_same td 1
    have HX2 : Hid (X = tx (tw b v e (L s) (pl.take (j + 1)))) := by
     unfold Hid
     rw [HNx.out, step_x hAt td (by rw [← hKd]; exact h5) (by rw [← hKd]; exact h8)]; exact hX.out
    have j8 : ¬ (K : Int) = 8 := by omega
    have j5 : ¬ (K : Int) = 5 := by omega
    clear hX hLX tl td HNx hAt hp hKd hNd
    go_wp2_with fail
    go_loopw [0, 17] (fun x i w5 => x = .string X ∧ i = .int .i64 ((p : Int) + 2) ∧ Up w3 w5) (fun _ _ _ => 0)
    case atStart => exact ⟨rfl, by go_num, hur⟩
    case round =>
     obtain ⟨rfl, rfl, hu5⟩ := hrel
     go_wp2_with fail
     go_roundw
     case rel => exact ⟨j + 1, X, by omega, by go_num, rfl, HX2, hu5⟩
     case measure => simp [intOf]; omega
theorem refTurn (s : ByteArray) (b v e : Nat) (w : World) (hs : s.size ≤ 1048576) (hb : b < M32) (hv0 : v < M32) (he0 : e < M32) :
  Calls Tryz.prog 46 #[.string s, .int .u32 b, .int .u32 v, .int .u32 e] w fun e_ w' => e_ = .returned (TV (L s) b v e) ∧ Up w w' := by
 by_cases h : err (L s) = 0
 ·exact refTurn1 s b v e w hs hb hv0 he0 h
 ·exact refTurn0 s b v e w hs _ rfl h
end Go.Proofs.YtafckmbgefbonaaGreat.op
