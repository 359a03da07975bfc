/- W: contracts, part 2. Condition: as each says. -/
import Derived.Test.YtafckmbgefbonaaGreatVW1
import Derived.Test.YtafckmbgefbonaaGreatVTRW6
set_option linter.unusedVariables false
set_option linter.unusedSimpArgs false
set_option maxRecDepth 100000
set_option maxHeartbeats 8000000
namespace Go.Proofs.YtafckmbgefbonaaGreat.op
open RowKit Shelf Lib sm nb om

theorem cat_tx (a b : ByteArray) (l r : List UInt8) (ha : L a = l) (hb : L b = r) : a ++ b = tx (l ++ r) := ba_eq (by rw [L_app, L_tx, ha, hb])
theorem refRaw (m : Nat) (s : Int) (k t : Bool) (v e : Nat) (A : Option Addr) (n c : Nat) (b : List (Nat × Nat)) (w : World) (hw : Wf ⟨m, s, k, b, t, v, e⟩) (hs : s ≤ 14) (hn : b.length = n) (hb4 : n ≤ 4) (hr : RdB w A b) :
  Calls Tryz.prog 60 #[OA m s k A n c t v e] w fun e_ w' => e_ = .returned (.string (tx (raw ⟨m, s, k, b, t, v, e⟩))) ∧ Up w w' := by
 obtain ⟨hm, hbl, hv, he⟩ := hw
 dsimp only at hm hbl hv he
 obtain ⟨a1, h1⟩ : ∃ a, a = rMss ⟨m, s, k, b, t, v, e⟩ := ⟨_, rfl⟩
 obtain ⟨a2, h2⟩ : ∃ a, a = rSc ⟨m, s, k, b, t, v, e⟩ := ⟨_, rfl⟩
 obtain ⟨a3, h3⟩ : ∃ a, a = rSk ⟨m, s, k, b, t, v, e⟩ := ⟨_, rfl⟩
 obtain ⟨a4, h4⟩ : ∃ a, a = rTm ⟨m, s, k, b, t, v, e⟩ := ⟨_, rfl⟩
 obtain ⟨a5, h5⟩ : ∃ a, a = rBl ⟨m, s, k, b, t, v, e⟩ := ⟨_, rfl⟩
 have l1 : a1.length ≤ 4 := by rw [h1, rMss_len]; split <;> omega
 have l2 : a2.length ≤ 4 := by rw [h2, rSc_len]; split <;> omega
 have l3 : a3.length ≤ 4 := by rw [h3, rSk_len]; split <;> omega
 have l4 : a4.length ≤ 12 := by rw [h4, rTm_len]; split <;> omega
 have HR : Hid (a1 ++ (a2 ++ (a3 ++ (a4 ++ a5))) = raw ⟨m, s, k, b, t, v, e⟩) := by unfold Hid raw; rw [h1, h2, h3, h4, h5]
 have H1 := Lib.hid h1; have H2 := Lib.hid h2; have H3 := Lib.hid h3; have H4 := Lib.hid h4; have H5 := Lib.hid h5
 have HB := Lib.hid hbl
 clear h1 h2 h3 h4 h5 hbl
 go_enter Tryz.func60, Tryz.ntmps60
 go_upto_region 1 with fail
 have U0 : Up w (w.alloc (.cells #[.int .u16 m, .int .i64 s, .bool k, .slice A n c, .bool t, .int .u32 v, .int .u32 e] 28)) := up_al _ bR
 have A0 := Box.new w #[.int .u16 m, .int .i64 s, .bool k, .slice A n c, .bool t, .int .u32 v, .int .u32 e] 28
 generalize World.alloc w _ = w0 at U0 A0 ⊢
 generalize w.heap.size = n0 at A0 ⊢
 obtain ⟨k0, k1, k2, k3, k4, k5, k6⟩ := Box.e7 A0
 go_upto_region 2 with fail
 go_upto_if 7 with fail
 go_cut [3] (fun x wc => ∃ X, x = .string X ∧ Hid (X = tx a1) ∧ Up w0 wc)
 case first =>
  by_cases c0 : m = 0
  ·subst c0
   go_wp2_with fail
   go_meet
   exact ⟨_, rfl, by unfold Hid; rw [H1.out]; rfl, Below.refl _ _⟩
  ·have i0 : ¬ (m : Int) = 0 := by omega
   go_wp2_with fail
   refine (refBytes (m : Nat) w0 (by omega)).mono ?_
   rintro e_ w1 ⟨rfl, hv1⟩
   go_wp2
   go_meet
   exact ⟨_, rfl, by unfold Hid; rw [H1.out, show rMss ⟨m, s, k, b, t, v, e⟩ = [2, 4] ++ B16 m from if_neg c0]; exact cat_tx _ _ [2, 4] _ (by rw [L_app]; rfl) (L_tx _), hv1⟩
 case rest =>
 obtain ⟨X1, rfl, hX1, U1⟩ := hcut
 have z1 : X1.size ≤ 4 := by rw [hX1.out, tx_size]; exact l1
 have A1 := A0.up U1
 clear k0 k1 k2 k3 k4 k5 k6
 obtain ⟨k0, k1, k2, k3, k4, k5, k6⟩ := Box.e7 A1
 go_upto_if 16 with fail
 go_cut [3] (fun x w2 => ∃ X, x = .string X ∧ Hid (X = tx (a1 ++ a2)) ∧ Up w0 w2)
 case first =>
  by_cases c0 : 0 ≤ s
  ·obtain ⟨q, rfl⟩ := Int.eq_ofNat_of_zero_le c0
   have hcv := conv_lit (w := wc) [oct q] 1 rfl #[.int .u8 (q : Int)] (by show _ = #[Value.int .u8 ((oct q).toNat : Int)]; rw [oct_nat (by omega)])
   have zz : (tx [oct q]).size = 1 := by rw [tx_size]; rfl
   have q14 : (q : Int) ≤ 14 := hs
   have hno : ¬ 9223372036854775807 < X1.size + 3 := by omega
   have hno2 : ¬ 9223372036854775807 < X1.size + 3 + 1 := by omega
   go_wp2_with fail
   go_meet
   exact ⟨_, rfl, by unfold Hid; rw [H2.out, show rSc ⟨m, (q : Nat), k, b, t, v, e⟩ = [1, 3, 3] ++ [oct q] from if_pos c0, ← List.append_assoc]; exact cat_tx _ _ (a1 ++ [1, 3, 3]) _ (by rw [L_app, hX1.out, L_tx]) (L_tx _), up_al _ U1⟩
  ·have HQ := Lib.hid (show rSc ⟨m, s, k, b, t, v, e⟩ = [] from if_neg c0)
   go_wp2_with fail
   go_meet
   exact ⟨_, rfl, by unfold Hid; rw [H2.out, HQ.out, List.append_nil]; exact hX1.out, U1⟩
 case rest =>
 obtain ⟨X2, rfl, hX2, U2⟩ := hcut
 have z2 : X2.size ≤ 8 := by rw [hX2.out, tx_size, List.length_append]; omega
 have A2 := A0.up U2
 clear k0 k1 k2 k3 k4 k5 k6 A1 U1 hX1 z1
 obtain ⟨k0, k1, k2, k3, k4, k5, k6⟩ := Box.e7 A2
 go_upto_if 26 with fail
 go_cut [3] (fun x w3 => ∃ X, x = .string X ∧ Hid (X = tx (a1 ++ a2 ++ a3)) ∧ Up w0 w3)
 case first =>
  have hno : ¬ 9223372036854775807 < X2.size + 4 := by omega
  cases k
  ·go_wp2_with fail
   go_meet
   exact ⟨_, rfl, by unfold Hid; rw [H3.out, show rSk ⟨m, s, false, b, t, v, e⟩ = [] from rfl, List.append_nil]; exact hX2.out, U2⟩
  ·go_wp2_with fail
   go_meet
   exact ⟨_, rfl, by unfold Hid; rw [H3.out]; exact cat_tx _ _ (a1 ++ a2) _ (by rw [hX2.out, L_tx]) rfl, U2⟩
 case rest =>
 obtain ⟨X3, rfl, hX3, U3⟩ := hcut
 have z3 : X3.size ≤ 12 := by rw [hX3.out, tx_size, List.length_append, List.length_append]; omega
 have A3 := A0.up U3
 clear k0 k1 k2 k3 k4 k5 k6 A2 U2 hX2 z2
 obtain ⟨k0, k1, k2, k3, k4, k5, k6⟩ := Box.e7 A3
 go_upto_if 30 with fail
 go_cut [3] (fun x w4 => ∃ X, x = .string X ∧ Hid (X = tx (a1 ++ a2 ++ a3 ++ a4)) ∧ Up w0 w4)
 case first =>
  cases t
  ·go_wp2_with fail
   go_meet
   exact ⟨_, rfl, by unfold Hid; rw [H4.out, show rTm ⟨m, s, k, b, false, v, e⟩ = [] from rfl, List.append_nil]; exact hX3.out, U3⟩
  ·obtain ⟨Y1, hY1⟩ : ∃ Y, Y = X3 ++ { data := #[1, 1, 8, 10] } := ⟨_, rfl⟩
   obtain ⟨Y2, hY2⟩ : ∃ Y, Y = Y1 ++ tx (B32 v) := ⟨_, rfl⟩
   obtain ⟨Y3, hY3⟩ : ∃ Y, Y = Y2 ++ tx (B32 e) := ⟨_, rfl⟩
   have y1 : Y1.size = X3.size + 4 := by rw [hY1, ByteArray.size_append]; rfl
   have y2 : Y2.size = Y1.size + 4 := by rw [hY2, ByteArray.size_append, tx_size]; rfl
   have zv : (tx (B32 v)).size = 4 := by rw [tx_size]; rfl
   have ze : (tx (B32 e)).size = 4 := by rw [tx_size]; rfl
   have HY : Hid (Y3 = tx (a1 ++ a2 ++ a3 ++ a4)) := by
    unfold Hid
    rw [H4.out, hY3, hY2, hY1]
    refine (cat_tx _ _ (a1 ++ a2 ++ a3 ++ [1, 1, 8, 10] ++ B32 v) (B32 e) (by rw [L_app, L_app, hX3.out, L_tx, L_tx]) (L_tx _)).trans (congrArg tx ?_)
    show a1 ++ a2 ++ a3 ++ [1, 1, 8, 10] ++ B32 v ++ B32 e = a1 ++ a2 ++ a3 ++ (1 :: 1 :: 8 :: 10 :: (B32 v ++ B32 e))
    simp only [List.append_assoc, List.cons_append, List.nil_append]
   have HY1 := Lib.hid hY1; have HY2 := Lib.hid hY2; have HY3 := Lib.hid hY3
   clear hY1 hY2 hY3
   go_upto_region 9 with fail
   clear k0 k1 k2 k3 k4 k5 k6
   refine wp_region_rel2 (fun W => Up wc W) (fun W W' => Up W W') (Ys [Det (.string X3),
  Det (.string Y1),
  Det (.pointer (some ⟨n0, 5, none⟩)),
  Det (.int .u32 v),
  Det (.string (tx (B32 v))),
  Det (.string Y2),
  Det (.pointer (some ⟨n0, 6, none⟩)),
  Det (.int .u32 e),
  Det (.string (tx (B32 e))),
  Det (.string Y3),
  Det (.string Y3)]) (by kernel_rfl) (by kernel_rfl) (up_dr bR) (Stable.ys ⟨Det.st _, Det.st _, Det.st _, Det.st _, Det.st _, Det.st _, Det.st _, Det.st _, Det.st _, Det.st _, Det.st _, trivial⟩) ?_ ?_
   ·
    refine oC ?_ ?_
    ·intro aa ww hC hp hvar KK hK
     have d3 : aa.tmps.getD 3 undef = .string X3 := hvar 3 (slotOk_spec (by kernel_rfl))
     have d3_ := gD d3
     clear hp hvar
     simp (config := { decide := true }) [go_sem, opTo, opUpon, *]
     exact hK _ _ rfl hC bR
    refine oC ?_ ?_
    ·intro aa ww hC hp hvar KK hK
     have d31 : aa.tmps.getD 31 undef = .string X3 := dep_of hp 0 31 (by kernel_rfl)
     have d31_ := gD d31
     clear hp hvar
     have hno : ¬ 9223372036854775807 < X3.size + 4 := by omega
     (unfold opTo; go_simp; try simp only [opUpon])
     rw [← HY1.out]
     exact hK _ _ rfl hC bR
    refine oC ?_ ?_
    ·intro aa ww hC hp hvar KK hK
     have d1 : aa.tmps.getD 1 undef = .pointer (some ⟨n0, 0, none⟩) := hvar 1 (slotOk_spec (by kernel_rfl))
     have d1_ := gD d1
     clear hp hvar
     simp (config := { decide := true }) [go_sem, opTo, opUpon, *]
     exact hK _ _ rfl hC bR
    refine oC ?_ ?_
    ·intro aa ww hC hp hvar KK hK
     have d33 : aa.tmps.getD 33 undef = .pointer (some ⟨n0, 5, none⟩) := dep_of hp 2 33 (by kernel_rfl)
     have d33_ := gD d33
     clear hp hvar
     have hb := A3.up hC
     have c5 := hb.at 5 rfl
     simp (config := { decide := true }) [go_sem, opTo, opUpon, *]
     exact hK _ _ rfl hC bR
    refine oC ?_ ?_
    ·intro aa ww hC hp hvar KK hK
     have d34 : aa.tmps.getD 34 undef = .int .u32 v := dep_of hp 3 34 (by kernel_rfl)
     have d34_ := gD d34
     clear hp hvar
     (unfold opTo; go_simp; try simp only [opUpon])
     exact (refFour _ _ (by unfold M32 at *; omega)).mono fun e w2 h => ⟨_, h.1, hK _ _ rfl (Up.on hC h.2) h.2⟩
    refine oC ?_ ?_
    ·intro aa ww hC hp hvar KK hK
     have d32 : aa.tmps.getD 32 undef = .string Y1 := dep_of hp 1 32 (by kernel_rfl)
     have d35 : aa.tmps.getD 35 undef = .string (tx (B32 v)) := dep_of hp 4 35 (by kernel_rfl)
     have d32_ := gD d32
     have d35_ := gD d35
     clear hp hvar
     have hno : ¬ 9223372036854775807 < X3.size + 4 + 4 := by omega
     (unfold opTo; go_simp; try simp only [opUpon])
     rw [← HY2.out]
     exact hK _ _ rfl hC bR
    refine oC ?_ ?_
    ·intro aa ww hC hp hvar KK hK
     have d1 : aa.tmps.getD 1 undef = .pointer (some ⟨n0, 0, none⟩) := hvar 1 (slotOk_spec (by kernel_rfl))
     have d1_ := gD d1
     clear hp hvar
     simp (config := { decide := true }) [go_sem, opTo, opUpon, *]
     exact hK _ _ rfl hC bR
    refine oC ?_ ?_
    ·intro aa ww hC hp hvar KK hK
     have d37 : aa.tmps.getD 37 undef = .pointer (some ⟨n0, 6, none⟩) := dep_of hp 6 37 (by kernel_rfl)
     have d37_ := gD d37
     clear hp hvar
     have hb := A3.up hC
     have c6 := hb.at 6 rfl
     simp (config := { decide := true }) [go_sem, opTo, opUpon, *]
     exact hK _ _ rfl hC bR
    refine oC ?_ ?_
    ·intro aa ww hC hp hvar KK hK
     have d38 : aa.tmps.getD 38 undef = .int .u32 e := dep_of hp 7 38 (by kernel_rfl)
     have d38_ := gD d38
     clear hp hvar
     (unfold opTo; go_simp; try simp only [opUpon])
     exact (refFour _ _ (by unfold M32 at *; omega)).mono fun e w2 h => ⟨_, h.1, hK _ _ rfl (Up.on hC h.2) h.2⟩
    refine oC ?_ ?_
    ·intro aa ww hC hp hvar KK hK
     have d36 : aa.tmps.getD 36 undef = .string Y2 := dep_of hp 5 36 (by kernel_rfl)
     have d39 : aa.tmps.getD 39 undef = .string (tx (B32 e)) := dep_of hp 8 39 (by kernel_rfl)
     have d36_ := gD d36
     have d39_ := gD d39
     clear hp hvar
     have hno : ¬ 9223372036854775807 < X3.size + 4 + 4 + 4 := by omega
     (unfold opTo; go_simp; try simp only [opUpon])
     rw [← HY3.out]
     exact hK _ _ rfl hC bR
    refine oC ?_ ?_
    ·intro aa ww hC hp hvar KK hK
     have d40 : aa.tmps.getD 40 undef = .string Y3 := dep_of hp 9 40 (by kernel_rfl)
     have d40_ := gD d40
     clear hp hvar
     simp (config := { decide := true }) [go_sem, opTo, opUpon, *]
     exact hK _ _ rfl hC bR
    exact obligs_nil
   intro vals ww hC hY
   have e0 : vals 0 = .string X3 := hY 0 _ _ rfl rfl
   have e1 : vals 1 = .string Y1 := hY 1 _ _ rfl rfl
   have e2 : vals 2 = .pointer (some ⟨n0, 5, none⟩) := hY 2 _ _ rfl rfl
   have e3 : vals 3 = .int .u32 v := hY 3 _ _ rfl rfl
   have e4 : vals 4 = .string (tx (B32 v)) := hY 4 _ _ rfl rfl
   have e5 : vals 5 = .string Y2 := hY 5 _ _ rfl rfl
   have e6 : vals 6 = .pointer (some ⟨n0, 6, none⟩) := hY 6 _ _ rfl rfl
   have e7 : vals 7 = .int .u32 e := hY 7 _ _ rfl rfl
   have e8 : vals 8 = .string (tx (B32 e)) := hY 8 _ _ rfl rfl
   have e9 : vals 9 = .string Y3 := hY 9 _ _ rfl rfl
   have e10 : vals 10 = .string Y3 := hY 10 _ _ rfl rfl
   clear hY
   simp only [putAll, Act.put, List.setIfInBounds_toArray, List.set_cons_zero, List.set_cons_succ, e0, e1, e2, e3, e4, e5, e6, e7, e8, e9, e10]
   clear e0 e1 e2 e3 e4 e5 e6 e7 e8 e9 e10
   go_wp2
   go_meet
   exact ⟨_, rfl, HY, U3.on hC⟩
 case rest =>
 obtain ⟨X4, rfl, hX4, U4⟩ := hcut
 have z4 : X4.size ≤ 24 := by rw [hX4.out, tx_size, List.length_append, List.length_append, List.length_append]; omega
 have A4 := A0.up U4
 have hr4 := (hr.up U0).up U4
 clear k0 k1 k2 k3 k4 k5 k6 A3 U3 hX3 z3 hr A0
 obtain ⟨k0, k1, k2, k3, k4, k5, k6⟩ := Box.e7 A4
 by_cases c0 : n = 0
 ·subst c0
  have hb0 : b = [] := List.eq_nil_of_length_eq_zero hn
  subst hb0
  have HQ : Hid (X4 = tx (raw ⟨m, s, k, [], t, v, e⟩)) := by
   unfold Hid
   rw [hX4.out, ← HR.out, H5.out]
   show _ = tx (a1 ++ (a2 ++ (a3 ++ (a4 ++ []))))
   simp only [List.append_assoc, List.append_nil]
  go_wp2_with fail
  go_ret
  exact ⟨by rw [HQ.out]; rfl, U0.on U4⟩
 ·have hn0 : 0 < n := by omega
  have hcv := conv_lit (w := wc) [oct (2 + 8 * n)] 1 rfl #[.int .u8 (2 + 8 * (n : Int))] (by show _ = #[Value.int .u8 ((oct (2 + 8 * n)).toNat : Int)]; rw [oct_nat (by omega)]; simp)
  have zz : (tx [oct (2 + 8 * n)]).size = 1 := by rw [tx_size]; rfl
  have hno : ¬ 9223372036854775807 < X4.size + 3 := by omega
  have hno2 : ¬ 9223372036854775807 < X4.size + 3 + 1 := by omega
  go_wp2_with fail
  have HP : Hid (X4 ++ { data := #[1, 1, 5] } ++ tx [oct (2 + 8 * n)] = tx (a1 ++ a2 ++ a3 ++ a4 ++ ([1, 1, 5] ++ [oct (2 + 8 * n)]) ++ flat (b.take 0))) := by
   unfold Hid
   refine (cat_tx _ _ (a1 ++ a2 ++ a3 ++ a4 ++ [1, 1, 5]) _ (by rw [L_app, hX4.out, L_tx]) (L_tx _)).trans (congrArg tx ?_)
   show _ = _ ++ []
   simp only [List.append_assoc, List.append_nil]
  have hP : (a1 ++ a2 ++ a3 ++ a4 ++ ([1, 1, 5] ++ [oct (2 + 8 * n)])).length ≤ 28 := by simp only [List.length_append, List.length_cons, List.length_nil]; omega
  have HF : Hid (a1 ++ a2 ++ a3 ++ a4 ++ ([1, 1, 5] ++ [oct (2 + 8 * n)]) ++ flat b = raw ⟨m, s, k, b, t, v, e⟩) := by
   unfold Hid
   rw [← HR.out, H5.out]
   unfold rBl
   rw [if_neg (by intro h; dsimp only at h; subst h; exact c0 hn.symm)]
   dsimp only
   rw [hn]
   simp only [List.append_assoc, List.cons_append, List.nil_append]
  generalize a1 ++ a2 ++ a3 ++ a4 ++ ([1, 1, 5] ++ [oct (2 + 8 * n)]) = P at HP hP HF
  have U5 : Up w0 (wc.alloc (.cells #[.int .u8 (2 + 8 * (n : Int))] 5)) := up_al _ U4
  have A5 := A4.alloc (.cells #[.int .u8 (2 + 8 * (n : Int))] 5)
  have hr5 := hr4.up (up_al (.cells #[.int .u8 (2 + 8 * (n : Int))] 5) (Below.refl _ wc))
  generalize (wc.alloc (.cells #[.int .u8 (2 + 8 * (n : Int))] 5)) = w5 at U5 A5 hr5 ⊢
  generalize X4 ++ { data := #[1, 1, 5] } ++ tx [oct (2 + 8 * n)] = XP at HP
  have HN := Lib.hid hn
  clear k0 k1 k2 k3 k4 k5 k6 A4 U4 hr4 hcv zz hno hno2 hX4 z4
  go_loopw [3, 4] (fun x i wr => ∃ j : Nat, j ≤ n ∧ i = .int .i64 j ∧ (∃ X, x = .string X ∧ Hid (X = tx (P ++ flat (b.take j)))) ∧ Up w5 wr) (fun _ i _ => n - (intOf i).toNat)
  case atStart => exact ⟨0, Nat.zero_le _, rfl, ⟨_, rfl, HP⟩, Below.refl _ _⟩
  case round =>
   obtain ⟨j, hj, rfl, ⟨X, rfl, hX⟩, hb⟩ := hrel
   have A6 := A5.up hb
   obtain ⟨k0, k1, k2, k3, k4, k5, k6⟩ := Box.e7 A6
   by_cases hlt : j < n
   ·obtain ⟨g, off, hA, hg, x1, x2, c1, c2, hx⟩ := (hr5.up hb).at_ (k := j) (by rw [HN.out]; exact hlt)
    subst hA
    have hxm := HB.out (x1, x2) (List.mem_of_getElem? hx.out)
    have hx1 : x1 ≤ 4294967295 := by have := hxm.1; unfold M32 at this; dsimp only at this; omega
    have hx2 : x2 ≤ 4294967295 := by have := hxm.2; unfold M32 at this; dsimp only at this; omega
    have zX : X.size ≤ 60 := by
     rw [hX.out, tx_size, List.length_append, flat_len, List.length_take]; omega
    obtain ⟨Y2, hY2⟩ : ∃ Y, Y = X ++ tx (B32 x1) := ⟨_, rfl⟩
    obtain ⟨Y3, hY3⟩ : ∃ Y, Y = Y2 ++ tx (B32 x2) := ⟨_, rfl⟩
    have y2 : Y2.size = X.size + 4 := by rw [hY2, ByteArray.size_append, tx_size]; rfl
    have zv : (tx (B32 x1)).size = 4 := by rw [tx_size]; rfl
    have ze : (tx (B32 x2)).size = 4 := by rw [tx_size]; rfl
    have HY : Hid (Y3 = tx (P ++ flat (b.take (j + 1)))) := by
     unfold Hid
     rw [flat_take b j x1 x2 hx.out, hY3, hY2, hX.out]
     refine (cat_tx _ _ (P ++ flat (b.take j) ++ B32 x1) _ (by rw [L_app, L_tx, L_tx]) (L_tx _)).trans (congrArg tx ?_)
     simp only [List.append_assoc]
    have HY2 := Lib.hid hY2; have HY3 := Lib.hid hY3
    clear hY2 hY3 hr5 hx hxm
    go_upto_region 15 with fail
    clear k0 k1 k2 k3 k4 k5 k6
    refine wp_region_rel2 (fun W => Up wr W) (fun W W' => Up W W') (Ys [Det (.string X),
  Det (.pointer (some ⟨n0, 3, none⟩)),
  Det (.slice (some ⟨g, off, none⟩) n c),
  Det (.int .i64 j),
  Det (.pointer (some ⟨g, off + j * 2, none⟩)),
  Det (.pointer (some ⟨g, off + j * 2, none⟩)),
  Det (.int .u32 x1),
  Det (.string (tx (B32 x1))),
  Det (.string Y2),
  Det (.pointer (some ⟨n0, 3, none⟩)),
  Det (.slice (some ⟨g, off, none⟩) n c),
  Det (.int .i64 j),
  Det (.pointer (some ⟨g, off + j * 2, none⟩)),
  Det (.pointer (some ⟨g, off + j * 2 + 1, none⟩)),
  Det (.int .u32 x2),
  Det (.string (tx (B32 x2))),
  Det (.string Y3),
  Det (.string Y3)]) (by kernel_rfl) (by kernel_rfl) (up_dr bR) (Stable.ys ⟨Det.st _, Det.st _, Det.st _, Det.st _, Det.st _, Det.st _, Det.st _, Det.st _, Det.st _, Det.st _, Det.st _, Det.st _, Det.st _, Det.st _, Det.st _, Det.st _, Det.st _, Det.st _, trivial⟩) ?_ ?_
    ·
     refine oC ?_ ?_
     ·intro aa ww hC hp hvar KK hK
      have d3 : aa.tmps.getD 3 undef = .string X := hvar 3 (slotOk_spec (by kernel_rfl))
      have d3_ := gD d3
      clear hp hvar
      simp (config := { decide := true }) [go_sem, opTo, opUpon, *]
      exact hK _ _ rfl hC bR
     refine oC ?_ ?_
     ·intro aa ww hC hp hvar KK hK
      have d1 : aa.tmps.getD 1 undef = .pointer (some ⟨n0, 0, none⟩) := hvar 1 (slotOk_spec (by kernel_rfl))
      have d1_ := gD d1
      clear hp hvar
      simp (config := { decide := true }) [go_sem, opTo, opUpon, *]
      exact hK _ _ rfl hC bR
     refine oC ?_ ?_
     ·intro aa ww hC hp hvar KK hK
      have d64 : aa.tmps.getD 64 undef = .pointer (some ⟨n0, 3, none⟩) := dep_of hp 1 64 (by kernel_rfl)
      have d64_ := gD d64
      clear hp hvar
      have hb := A6.up hC
      have c3 := hb.at 3 rfl
      simp (config := { decide := true }) [go_sem, opTo, opUpon, *]
      exact hK _ _ rfl hC bR
     refine oC ?_ ?_
     ·intro aa ww hC hp hvar KK hK
      have d4 : aa.tmps.getD 4 undef = .int .i64 j := hvar 4 (slotOk_spec (by kernel_rfl))
      have d4_ := gD d4
      clear hp hvar
      simp (config := { decide := true }) [go_sem, opTo, opUpon, *]
      exact hK _ _ rfl hC bR
     refine oC ?_ ?_
     ·intro aa ww hC hp hvar KK hK
      have d65 : aa.tmps.getD 65 undef = .slice (some ⟨g, off, none⟩) n c := dep_of hp 2 65 (by kernel_rfl)
      have d66 : aa.tmps.getD 66 undef = .int .i64 j := dep_of hp 3 66 (by kernel_rfl)
      have d65_ := gD d65
      have d66_ := gD d66
      clear hp hvar
      (unfold opTo; go_simp; try simp only [opUpon])
      exact hK _ _ rfl hC bR
     refine oC ?_ ?_
     ·intro aa ww hC hp hvar KK hK
      have d67 : aa.tmps.getD 67 undef = .pointer (some ⟨g, off + j * 2, none⟩) := dep_of hp 4 67 (by kernel_rfl)
      have d67_ := gD d67
      clear hp hvar
      (unfold opTo; go_simp; try simp only [opUpon])
      exact hK _ _ rfl hC bR
     refine oC ?_ ?_
     ·intro aa ww hC hp hvar KK hK
      have d68 : aa.tmps.getD 68 undef = .pointer (some ⟨g, off + j * 2, none⟩) := dep_of hp 5 68 (by kernel_rfl)
      have d68_ := gD d68
      clear hp hvar
      have cc := (hC.cell (p := ⟨g, off + j * 2, none⟩) hg).trans c1
      (unfold opTo; go_simp; try simp only [opUpon])
      exact hK _ _ rfl hC bR
     refine oC ?_ ?_
     ·intro aa ww hC hp hvar KK hK
      have d69 : aa.tmps.getD 69 undef = .int .u32 x1 := dep_of hp 6 69 (by kernel_rfl)
      have d69_ := gD d69
      clear hp hvar
      (unfold opTo; go_simp; try simp only [opUpon])
      exact (refFour _ _ (by unfold M32 at *; omega)).mono fun e w2 h => ⟨_, h.1, hK _ _ rfl (Up.on hC h.2) h.2⟩
     refine oC ?_ ?_
     ·intro aa ww hC hp hvar KK hK
      have d63 : aa.tmps.getD 63 undef = .string X := dep_of hp 0 63 (by kernel_rfl)
      have d70 : aa.tmps.getD 70 undef = .string (tx (B32 x1)) := dep_of hp 7 70 (by kernel_rfl)
      have d63_ := gD d63
      have d70_ := gD d70
      clear hp hvar
      have hno : ¬ 9223372036854775807 < X.size + 4 := by omega
      (unfold opTo; go_simp; try simp only [opUpon])
      rw [← HY2.out]
      exact hK _ _ rfl hC bR
     refine oC ?_ ?_
     ·intro aa ww hC hp hvar KK hK
      have d1 : aa.tmps.getD 1 undef = .pointer (some ⟨n0, 0, none⟩) := hvar 1 (slotOk_spec (by kernel_rfl))
      have d1_ := gD d1
      clear hp hvar
      simp (config := { decide := true }) [go_sem, opTo, opUpon, *]
      exact hK _ _ rfl hC bR
     refine oC ?_ ?_
     ·intro aa ww hC hp hvar KK hK
      have d72 : aa.tmps.getD 72 undef = .pointer (some ⟨n0, 3, none⟩) := dep_of hp 9 72 (by kernel_rfl)
      have d72_ := gD d72
      clear hp hvar
      have hb := A6.up hC
      have c3 := hb.at 3 rfl
      simp (config := { decide := true }) [go_sem, opTo, opUpon, *]
      exact hK _ _ rfl hC bR
     refine oC ?_ ?_
     ·intro aa ww hC hp hvar KK hK
      have d4 : aa.tmps.getD 4 undef = .int .i64 j := hvar 4 (slotOk_spec (by kernel_rfl))
      have d4_ := gD d4
      clear hp hvar
      simp (config := { decide := true }) [go_sem, opTo, opUpon, *]
      exact hK _ _ rfl hC bR
     refine oC ?_ ?_
     ·intro aa ww hC hp hvar KK hK
      have d73 : aa.tmps.getD 73 undef = .slice (some ⟨g, off, none⟩) n c := dep_of hp 10 73 (by kernel_rfl)
      have d74 : aa.tmps.getD 74 undef = .int .i64 j := dep_of hp 11 74 (by kernel_rfl)
      have d73_ := gD d73
      have d74_ := gD d74
      clear hp hvar
      (unfold opTo; go_simp; try simp only [opUpon])
      exact hK _ _ rfl hC bR
     refine oC ?_ ?_
     ·intro aa ww hC hp hvar KK hK
      have d75 : aa.tmps.getD 75 undef = .pointer (some ⟨g, off + j * 2, none⟩) := dep_of hp 12 75 (by kernel_rfl)
      have d75_ := gD d75
      clear hp hvar
      (unfold opTo; go_simp; try simp only [opUpon])
      exact hK _ _ rfl hC bR
     refine oC ?_ ?_
     ·intro aa ww hC hp hvar KK hK
      have d76 : aa.tmps.getD 76 undef = .pointer (some ⟨g, off + j * 2 + 1, none⟩) := dep_of hp 13 76 (by kernel_rfl)
      have d76_ := gD d76
      clear hp hvar
      have cc := (hC.cell (p := ⟨g, off + j * 2 + 1, none⟩) hg).trans c2
      (unfold opTo; go_simp; try simp only [opUpon])
      exact hK _ _ rfl hC bR
     refine oC ?_ ?_
     ·intro aa ww hC hp hvar KK hK
      have d77 : aa.tmps.getD 77 undef = .int .u32 x2 := dep_of hp 14 77 (by kernel_rfl)
      have d77_ := gD d77
      clear hp hvar
      (unfold opTo; go_simp; try simp only [opUpon])
      exact (refFour _ _ (by unfold M32 at *; omega)).mono fun e w2 h => ⟨_, h.1, hK _ _ rfl (Up.on hC h.2) h.2⟩
     refine oC ?_ ?_
     ·intro aa ww hC hp hvar KK hK
      have d71 : aa.tmps.getD 71 undef = .string Y2 := dep_of hp 8 71 (by kernel_rfl)
      have d78 : aa.tmps.getD 78 undef = .string (tx (B32 x2)) := dep_of hp 15 78 (by kernel_rfl)
      have d71_ := gD d71
      have d78_ := gD d78
      clear hp hvar
      have hno : ¬ 9223372036854775807 < X.size + 4 + 4 := by omega
      (unfold opTo; go_simp; try simp only [opUpon])
      rw [← HY3.out]
      exact hK _ _ rfl hC bR
     refine oC ?_ ?_
     ·intro aa ww hC hp hvar KK hK
      have d79 : aa.tmps.getD 79 undef = .string Y3 := dep_of hp 16 79 (by kernel_rfl)
      have d79_ := gD d79
      clear hp hvar
      simp (config := { decide := true }) [go_sem, opTo, opUpon, *]
      exact hK _ _ rfl hC bR
     exact obligs_nil
    intro vals ww hC hY
    have e0 : vals 0 = .string X := hY 0 _ _ rfl rfl
    have e1 : vals 1 = .pointer (some ⟨n0, 3, none⟩) := hY 1 _ _ rfl rfl
    have e2 : vals 2 = .slice (some ⟨g, off, none⟩) n c := hY 2 _ _ rfl rfl
    have e3 : vals 3 = .int .i64 j := hY 3 _ _ rfl rfl
    have e4 : vals 4 = .pointer (some ⟨g, off + j * 2, none⟩) := hY 4 _ _ rfl rfl
    have e5 : vals 5 = .pointer (some ⟨g, off + j * 2, none⟩) := hY 5 _ _ rfl rfl
    have e6 : vals 6 = .int .u32 x1 := hY 6 _ _ rfl rfl
    have e7 : vals 7 = .string (tx (B32 x1)) := hY 7 _ _ rfl rfl
    have e8 : vals 8 = .string Y2 := hY 8 _ _ rfl rfl
    have e9 : vals 9 = .pointer (some ⟨n0, 3, none⟩) := hY 9 _ _ rfl rfl
    have e10 : vals 10 = .slice (some ⟨g, off, none⟩) n c := hY 10 _ _ rfl rfl
    have e11 : vals 11 = .int .i64 j := hY 11 _ _ rfl rfl
    have e12 : vals 12 = .pointer (some ⟨g, off + j * 2, none⟩) := hY 12 _ _ rfl rfl
    have e13 : vals 13 = .pointer (some ⟨g, off + j * 2 + 1, none⟩) := hY 13 _ _ rfl rfl
    have e14 : vals 14 = .int .u32 x2 := hY 14 _ _ rfl rfl
    have e15 : vals 15 = .string (tx (B32 x2)) := hY 15 _ _ rfl rfl
    have e16 : vals 16 = .string Y3 := hY 16 _ _ rfl rfl
    have e17 : vals 17 = .string Y3 := hY 17 _ _ rfl rfl
    clear hY
    simp only [putAll, Act.put, List.setIfInBounds_toArray, List.set_cons_zero, List.set_cons_succ, e0, e1, e2, e3, e4, e5, e6, e7, e8, e9, e10, e11, e12, e13, e14, e15, e16, e17]
    clear e0 e1 e2 e3 e4 e5 e6 e7 e8 e9 e10 e11 e12 e13 e14 e15 e16 e17
    go_wp2
    go_roundw
    case rel => exact ⟨j + 1, by omega, by go_num, ⟨_, rfl, HY⟩, hb.trans (hC.mono hb.size)⟩
    case measure => simp [intOf]; omega
   ·obtain rfl : j = n := by omega
    go_wp2_with fail
    go_ret
    exact ⟨congrArg Ending.returned (congrArg Value.string (by rw [hX.out, ← HF.out, List.take_of_length_le (by rw [HN.out]; exact Nat.le_refl _)])), U0.on (U5.trans (hb.mono U5.size))⟩

theorem may0 (m : Nat) (s : Int) (k t : Bool) (v e : Nat) (A : Option Addr) (n c : Nat) (b : List (Nat × Nat)) (w : World) (hw : Wf ⟨m, s, k, b, t, v, e⟩) (hn : b.length = n) (hr : RdB w A b) (c0 : s < -1) :
  Calls Tryz.prog 33 #[OA m s k A n c t v e] w fun e_ w' => e_ = .returned (.bool (mayb ⟨m, s, k, b, t, v, e⟩)) ∧ Up w w' := by
 have HE := Lib.hid (mayb_f (o := ⟨m, s, k, b, t, v, e⟩) (by intro h; have := h.1; dsimp only at this; omega))

 go_enter Tryz.func33, Tryz.ntmps33
 go_upto_region 1 with fail
 have U0 : Up w (w.alloc (.cells #[.int .u16 m, .int .i64 s, .bool k, .slice A n c, .bool t, .int .u32 v, .int .u32 e] 28)) := up_al _ bR
 have A0 := Box.new w #[.int .u16 m, .int .i64 s, .bool k, .slice A n c, .bool t, .int .u32 v, .int .u32 e] 28
 generalize World.alloc w _ = w0 at U0 A0 ⊢
 generalize w.heap.size = n0 at A0 ⊢
 obtain ⟨k0, k1, k2, k3, k4, k5, k6⟩ := Box.e7 A0
 go_wp2_with fail
 go_ret
 exact ⟨ret_bool HE.out.symm, U0⟩
theorem may1 (m : Nat) (s : Int) (k t : Bool) (v e : Nat) (A : Option Addr) (n c : Nat) (b : List (Nat × Nat)) (w : World) (hw : Wf ⟨m, s, k, b, t, v, e⟩) (hn : b.length = n) (hr : RdB w A b) (c0 : ¬ s < -1) (c1 : 14 < s) :
  Calls Tryz.prog 33 #[OA m s k A n c t v e] w fun e_ w' => e_ = .returned (.bool (mayb ⟨m, s, k, b, t, v, e⟩)) ∧ Up w w' := by
 have HE := Lib.hid (mayb_f (o := ⟨m, s, k, b, t, v, e⟩) (by intro h; have := h.2.1; dsimp only at this; omega))

 go_enter Tryz.func33, Tryz.ntmps33
 go_upto_region 1 with fail
 have U0 : Up w (w.alloc (.cells #[.int .u16 m, .int .i64 s, .bool k, .slice A n c, .bool t, .int .u32 v, .int .u32 e] 28)) := up_al _ bR
 have A0 := Box.new w #[.int .u16 m, .int .i64 s, .bool k, .slice A n c, .bool t, .int .u32 v, .int .u32 e] 28
 generalize World.alloc w _ = w0 at U0 A0 ⊢
 generalize w.heap.size = n0 at A0 ⊢
 obtain ⟨k0, k1, k2, k3, k4, k5, k6⟩ := Box.e7 A0
 go_wp2_with fail
 go_ret
 exact ⟨ret_bool HE.out.symm, U0⟩
theorem may2 (m : Nat) (s : Int) (k t : Bool) (v e : Nat) (A : Option Addr) (n c : Nat) (b : List (Nat × Nat)) (w : World) (hw : Wf ⟨m, s, k, b, t, v, e⟩) (hn : b.length = n) (hr : RdB w A b) (c0 : ¬ s < -1) (c1 : ¬ 14 < s) (c2 : 4 < n) :
  Calls Tryz.prog 33 #[OA m s k A n c t v e] w fun e_ w' => e_ = .returned (.bool (mayb ⟨m, s, k, b, t, v, e⟩)) ∧ Up w w' := by
 have HE := Lib.hid (mayb_f (o := ⟨m, s, k, b, t, v, e⟩) (by intro h; have := h.2.2.1; dsimp only at this; omega))

 go_enter Tryz.func33, Tryz.ntmps33
 go_upto_region 1 with fail
 have U0 : Up w (w.alloc (.cells #[.int .u16 m, .int .i64 s, .bool k, .slice A n c, .bool t, .int .u32 v, .int .u32 e] 28)) := up_al _ bR
 have A0 := Box.new w #[.int .u16 m, .int .i64 s, .bool k, .slice A n c, .bool t, .int .u32 v, .int .u32 e] 28
 generalize World.alloc w _ = w0 at U0 A0 ⊢
 generalize w.heap.size = n0 at A0 ⊢
 obtain ⟨k0, k1, k2, k3, k4, k5, k6⟩ := Box.e7 A0
 go_wp2_with fail
 go_ret
 exact ⟨ret_bool HE.out.symm, U0⟩
theorem may3 (m : Nat) (s : Int) (k t : Bool) (v e : Nat) (A : Option Addr) (n c : Nat) (b : List (Nat × Nat)) (w : World) (hw : Wf ⟨m, s, k, b, t, v, e⟩) (hn : b.length = n) (hr : RdB w A b) (c0 : ¬ s < -1) (c1 : ¬ 14 < s) (c2 : ¬ 4 < n) (c3 : t = false) (c4 : ¬ (v : Int) = 0) :
  Calls Tryz.prog 33 #[OA m s k A n c t v e] w fun e_ w' => e_ = .returned (.bool (mayb ⟨m, s, k, b, t, v, e⟩)) ∧ Up w w' := by
 have HE := Lib.hid (mayb_f (o := ⟨m, s, k, b, t, v, e⟩) (by intro h; have := (h.2.2.2.1 c3).1; dsimp only at this; omega))
 have i2 : ¬ (4 : Int) < (n : Int) := by omega
 subst c3
 go_enter Tryz.func33, Tryz.ntmps33
 go_upto_region 1 with fail
 have U0 : Up w (w.alloc (.cells #[.int .u16 m, .int .i64 s, .bool k, .slice A n c, .bool false, .int .u32 v, .int .u32 e] 28)) := up_al _ bR
 have A0 := Box.new w #[.int .u16 m, .int .i64 s, .bool k, .slice A n c, .bool false, .int .u32 v, .int .u32 e] 28
 generalize World.alloc w _ = w0 at U0 A0 ⊢
 generalize w.heap.size = n0 at A0 ⊢
 obtain ⟨k0, k1, k2, k3, k4, k5, k6⟩ := Box.e7 A0
 go_wp2_with fail
 go_ret
 exact ⟨ret_bool HE.out.symm, U0⟩
theorem may4 (m : Nat) (s : Int) (k t : Bool) (v e : Nat) (A : Option Addr) (n c : Nat) (b : List (Nat × Nat)) (w : World) (hw : Wf ⟨m, s, k, b, t, v, e⟩) (hn : b.length = n) (hr : RdB w A b) (c0 : ¬ s < -1) (c1 : ¬ 14 < s) (c2 : ¬ 4 < n) (c3 : t = false) (c4 : v = 0) (c5 : ¬ (e : Int) = 0) :
  Calls Tryz.prog 33 #[OA m s k A n c t v e] w fun e_ w' => e_ = .returned (.bool (mayb ⟨m, s, k, b, t, v, e⟩)) ∧ Up w w' := by
 have HE := Lib.hid (mayb_f (o := ⟨m, s, k, b, t, v, e⟩) (by intro h; have := (h.2.2.2.1 c3).2; dsimp only at this; omega))
 have i2 : ¬ (4 : Int) < (n : Int) := by omega
 subst c3; subst c4
 go_enter Tryz.func33, Tryz.ntmps33
 go_upto_region 1 with fail
 have U0 : Up w (w.alloc (.cells #[.int .u16 m, .int .i64 s, .bool k, .slice A n c, .bool false, .int .u32 0, .int .u32 e] 28)) := up_al _ bR
 have A0 := Box.new w #[.int .u16 m, .int .i64 s, .bool k, .slice A n c, .bool false, .int .u32 0, .int .u32 e] 28
 generalize World.alloc w _ = w0 at U0 A0 ⊢
 generalize w.heap.size = n0 at A0 ⊢
 obtain ⟨k0, k1, k2, k3, k4, k5, k6⟩ := Box.e7 A0
 go_wp2_with fail
 go_ret
 exact ⟨ret_bool HE.out.symm, U0⟩
theorem may5 (m : Nat) (s : Int) (k t : Bool) (v e : Nat) (A : Option Addr) (n c : Nat) (b : List (Nat × Nat)) (w : World) (hw : Wf ⟨m, s, k, b, t, v, e⟩) (hn : b.length = n) (hr : RdB w A b) (c0 : ¬ s < -1) (c1 : ¬ 14 < s) (c2 : ¬ 4 < n) (c3 : t = false → v = 0 ∧ e = 0) :
  Calls Tryz.prog 33 #[OA m s k A n c t v e] w fun e_ w' => e_ = .returned (.bool (mayb ⟨m, s, k, b, t, v, e⟩)) ∧ Up w w' := by
 obtain ⟨S, hS⟩ : ∃ S, S = tx (raw ⟨m, s, k, b, t, v, e⟩) := ⟨_, rfl⟩
 have HE : Hid (decide ((S.size : Int) ≤ 40) = mayb ⟨m, s, k, b, t, v, e⟩) := by
  unfold Hid
  have hz : S.size = rawLen ⟨m, s, k, b, t, v, e⟩ := by rw [hS, tx_size, raw_len]
  refine decide_eq_decide.2 ⟨fun h => ⟨?_, ?_, ?_, c3, ?_⟩, fun h => ?_⟩
  ·show -1 ≤ s; omega
  ·show s ≤ 14; omega
  ·show b.length ≤ 4; omega
  ·omega
  ·have := h.2.2.2.2; omega
 have HR := Lib.hid (fun w hr => refRaw m s k t v e A n c b w hw (by omega) hn (by omega) hr)
 have HS := Lib.hid hS; clear hS
 have i2 : ¬ (4 : Int) < (n : Int) := by omega
 have hd3 : t = false → (v : Int) = 0 ∧ (e : Int) = 0 := fun h => ⟨by have := (c3 h).1; omega, by have := (c3 h).2; omega⟩
 cases t
 case false =>
  obtain ⟨rfl, rfl⟩ := c3 rfl
  clear c3 hd3
  go_enter Tryz.func33, Tryz.ntmps33
  go_upto_region 1 with fail
  have U0 : Up w (w.alloc (.cells #[.int .u16 m, .int .i64 s, .bool k, .slice A n c, .bool false, .int .u32 0, .int .u32 0] 28)) := up_al _ bR
  have A0 := Box.new w #[.int .u16 m, .int .i64 s, .bool k, .slice A n c, .bool false, .int .u32 0, .int .u32 0] 28
  generalize World.alloc w _ = w0 at U0 A0 ⊢
  generalize w.heap.size = n0 at A0 ⊢
  obtain ⟨k0, k1, k2, k3, k4, k5, k6⟩ := Box.e7 A0
  go_wp2_with fail
  refine (HR.out w0 (hr.up U0)).mono ?_
  rintro e_ w1 ⟨rfl, hv⟩
  rw [← HS.out]
  go_wp2
  go_ret
  exact ⟨ret_bool HE.out, U0.on hv⟩
 case true =>
  clear c3 hd3
  go_enter Tryz.func33, Tryz.ntmps33
  go_upto_region 1 with fail
  have U0 : Up w (w.alloc (.cells #[.int .u16 m, .int .i64 s, .bool k, .slice A n c, .bool true, .int .u32 v, .int .u32 e] 28)) := up_al _ bR
  have A0 := Box.new w #[.int .u16 m, .int .i64 s, .bool k, .slice A n c, .bool true, .int .u32 v, .int .u32 e] 28
  generalize World.alloc w _ = w0 at U0 A0 ⊢
  generalize w.heap.size = n0 at A0 ⊢
  obtain ⟨k0, k1, k2, k3, k4, k5, k6⟩ := Box.e7 A0
  go_wp2_with fail
  refine (HR.out w0 (hr.up U0)).mono ?_
  rintro e_ w1 ⟨rfl, hv⟩
  rw [← HS.out]
  go_wp2
  go_ret
  exact ⟨ret_bool HE.out, U0.on hv⟩
theorem refMay (m : Nat) (s : Int) (k t : Bool) (v e : Nat) (A : Option Addr) (n c : Nat) (b : List (Nat × Nat)) (w : World) (hw : Wf ⟨m, s, k, b, t, v, e⟩) (hn : b.length = n) (hr : RdB w A b) :
  Calls Tryz.prog 33 #[OA m s k A n c t v e] w fun e_ w' => e_ = .returned (.bool (mayb ⟨m, s, k, b, t, v, e⟩)) ∧ Up w w' := by
 by_cases c0 : s < -1
 ·exact may0 m s k t v e A n c b w hw hn hr c0
 by_cases c1 : 14 < s
 ·exact may1 m s k t v e A n c b w hw hn hr c0 c1
 by_cases c2 : 4 < n
 ·exact may2 m s k t v e A n c b w hw hn hr c0 c1 c2
 by_cases c3 : t = false
 ·by_cases c4 : v = 0
  ·by_cases c5 : e = 0
   ·exact may5 m s k t v e A n c b w hw hn hr c0 c1 c2 (fun _ => ⟨c4, c5⟩)
   ·exact may4 m s k t v e A n c b w hw hn hr c0 c1 c2 c3 c4 (by omega)
  ·exact may3 m s k t v e A n c b w hw hn hr c0 c1 c2 c3 (by omega)
 ·exact may5 m s k t v e A n c b w hw hn hr c0 c1 c2 (fun h => absurd h c3)
theorem refEncode (m : Nat) (s : Int) (k t : Bool) (v e : Nat) (A : Option Addr) (n c : Nat) (b : List (Nat × Nat)) (w : World) (hw : Wf ⟨m, s, k, b, t, v, e⟩) (hn : b.length = n) (hr : RdB w A b) :
  Calls Tryz.prog 27 #[OA m s k A n c t v e] w fun e_ w' => e_ = .returned (EVo ⟨m, s, k, b, t, v, e⟩) ∧ Up w w' := by
 have HM := Lib.hid (fun w hr => refMay m s k t v e A n c b w hw hn hr)
 by_cases h : May ⟨m, s, k, b, t, v, e⟩
 ·have HE := Lib.hid (EVo_ok h)
  have HD := Lib.hid (mayb_t h)
  have HR := Lib.hid (fun w hr => refRaw m s k t v e A n c b w hw h.2.1 hn (by have := h.2.2.1; dsimp only at this; omega) hr)
  clear h
  go_enter Tryz.func27, Tryz.ntmps27
  go_upto_region 1 with fail
  have U0 : Up w (w.alloc (.cells #[.int .u16 m, .int .i64 s, .bool k, .slice A n c, .bool t, .int .u32 v, .int .u32 e] 28)) := up_al _ bR
  have A0 := Box.new w #[.int .u16 m, .int .i64 s, .bool k, .slice A n c, .bool t, .int .u32 v, .int .u32 e] 28
  generalize World.alloc w _ = w0 at U0 A0 ⊢
  generalize w.heap.size = n0 at A0 ⊢
  obtain ⟨k0, k1, k2, k3, k4, k5, k6⟩ := Box.e7 A0
  go_wp2_with fail
  refine (HM.out w0 (hr.up U0)).mono ?_
  rintro e_ w1 ⟨rfl, hv⟩
  rw [HD.out]
  have U1 := U0.on hv
  have A1 := A0.up hv
  clear k0 k1 k2 k3 k4 k5 k6
  obtain ⟨k0, k1, k2, k3, k4, k5, k6⟩ := Box.e7 A1
  go_wp2_with fail
  refine (HR.out w1 (hr.up U1)).mono ?_
  rintro e_ w2 ⟨rfl, hv2⟩
  go_wp2
  go_ret2
  exact ⟨by rw [HE.out]; rfl, U1.on hv2⟩
 ·have HE := Lib.hid (EVo_no h)
  have HD := Lib.hid (mayb_f h)
  clear h
  go_enter Tryz.func27, Tryz.ntmps27
  go_upto_region 1 with fail
  have U0 : Up w (w.alloc (.cells #[.int .u16 m, .int .i64 s, .bool k, .slice A n c, .bool t, .int .u32 v, .int .u32 e] 28)) := up_al _ bR
  have A0 := Box.new w #[.int .u16 m, .int .i64 s, .bool k, .slice A n c, .bool t, .int .u32 v, .int .u32 e] 28
  generalize World.alloc w _ = w0 at U0 A0 ⊢
  generalize w.heap.size = n0 at A0 ⊢
  obtain ⟨k0, k1, k2, k3, k4, k5, k6⟩ := Box.e7 A0
  go_wp2_with fail
  refine (HM.out w0 (hr.up U0)).mono ?_
  rintro e_ w1 ⟨rfl, hv⟩
  rw [HD.out]
  go_wp2
  go_ret2
  exact ⟨by rw [HE.out]; rfl, U0.on hv⟩
end Go.Proofs.YtafckmbgefbonaaGreat.op
