/- A: contracts, part 10. Condition: as each says. -/
import Derived.Test.YtkgcnmloojnblaaKA4
set_option linter.unusedVariables false
set_option linter.unusedSimpArgs false
namespace Go.Proofs.Ytkgcnmloojnblaa.wlU
open Go.RowKit Go.Shelf Go.Lib Go.Proofs.Ytkgcnmloojnblaa.nb Go.Proofs.Ytkgcnmloojnblaa.wh Go.Proofs.Ytkgcnmloojnblaa.wf
set_option linter.unusedVariables false

structure BsI (g : Nat) (R : List Tm) (x : Tm) (m i j : Nat) (w0 wr : World) (ds : List Tm) : Prop where
  lo : ∀ y ∈ R.take (i - m), y.2 < x.2
  hi : ∀ y ∈ R.drop (j - m), ¬ y.2 < x.2
  row : Rw wr g ds
  only : Only (fun k => k = g) w0 wr
set_option maxHeartbeats 8000000 in
set_option maxRecDepth 100000 in
theorem sym1C (g c n : Nat) (P R S : List Tm) (x : Tm) (a m b : Nat) (ha : a = P.length) (hm1 : m = a + 1) (hb : b = m + R.length) (hR : R ≠ []) (hu : Up2 R) (hn : n = (P ++ x :: (R ++ S)).length) (hm : n < 4611686018427387904) (w : World) (h : Rw w g (P ++ x :: (R ++ S))) :
    Calls Try.prog 64 #[.slice (some ⟨g, 0, none⟩) n c, .int .i64 a, .int .i64 m, .int .i64 b, .func (.func 51) #[] #[]] w fun e w' => e = .returned (.tuple #[]) ∧ ∃ M, St M (x :: R) ∧ Rw w' g (P ++ (M ++ S)) ∧ Only (fun k => k = g) w w' := by
  have hbn : b ≤ n := by rw [hb, hn, hm1, ha]; simp; omega
  have hmb : m ≤ b := by omega
  have HA := Lib.hid ha; have HM := Lib.hid hm1; have HB := Lib.hid hb; have HN := Lib.hid hn; have HR := Lib.hid h; have HU := Lib.hid hu
  have W1 : IntKind.i64.wrap ((m : Int) - a) = 1 := by rw [IntKind.wrap_i64]; omega
  clear ha hm1 hb hn h hR hu
  go_enter Try.func64, Try.ntmps64
  go_wp2_with fail
  go_loopw [10, 11] (fun v u wr => ∃ (i j : Nat), v = .int .i64 i ∧ u = .int .i64 j ∧ m ≤ i ∧ i ≤ j ∧ j ≤ b ∧ BsI g R x m i j w wr (P ++ x :: (R ++ S))) (fun v u _ => (intOf u).toNat - (intOf v).toNat)
  case atStart => exact ⟨m, b, rfl, rfl, Nat.le_refl _, hmb, Nat.le_refl _, ⟨by rw [Nat.sub_self]; exact fun y hy => absurd hy List.not_mem_nil, by rw [HB.out, Nat.add_sub_cancel_left, List.drop_length]; exact fun y hy => absurd hy List.not_mem_nil, HR.out, Only.refl _ _⟩⟩
  case round =>
  clear W1 hmb HR
  obtain ⟨i, j, rfl, rfl, hi, hij, hj, q⟩ := hrel
  have I := Lib.hid q
  clear q
  by_cases hlt : i < j
  case neg =>
    obtain rfl : i = j := by omega
    clear hij hlt
    obtain ⟨C, hC⟩ : ∃ C, C = R.take (i - m) := ⟨_, rfl⟩
    obtain ⟨D, hD⟩ : ∃ D, D = R.drop (i - m) := ⟨_, rfl⟩
    have hCD : C ++ D = R := by rw [hC, hD]; exact List.take_append_drop ..
    have hCl : C.length = i - m := by rw [hC, List.length_take]; have := HB.out; omega
    have FIN := Lib.hid (show St (C ++ x :: D) (x :: R) by
      rw [← hCD]
      exact put_left (by rw [hCD]; exact HU.out) (by rw [hC]; exact I.out.lo) (by rw [hD]; exact I.out.hi))
    have ROW := Lib.hid (show Rw wr g (P ++ ([] ++ x :: (C ++ (D ++ S)))) by have := I.out.row; rw [← hCD] at this; simpa using this)
    have CL := Lib.hid hCl
    clear hC hD hCD hCl
    go_wp2_with fail
    go_loopw [13] (fun v wq => ∃ (k : Nat) (C1 C2 : List Tm), v = .int .i64 k ∧ k = (P ++ C1).length ∧ C1 ++ C2 = C ∧ Rw wq g (P ++ (C1 ++ x :: (C2 ++ (D ++ S)))) ∧ Only (fun k => k = g) w wq) (fun v _ => i - (intOf v).toNat)
    case atStart => exact ⟨a, [], C, rfl, by rw [HA.out]; simp, rfl, ROW.out, I.out.only⟩
    case round =>
    obtain ⟨k, C1, C2, rfl, hk, hCC, hrow, honly⟩ := hrel
    have K1 := Lib.hid hk; have K2 := Lib.hid hCC; have K3 := Lib.hid hrow; have K4 := Lib.hid honly
    have hkl : k + 1 + C2.length = i := by
      rw [hk]; have e := congrArg List.length hCC; have e2 := CL.out; have e3 := HM.out; have e4 := HA.out; simp at e ⊢; omega
    have W3 : IntKind.i64.wrap ((i : Int) - 1) = (i : Int) - 1 := by rw [IntKind.wrap_i64]; omega
    clear hk hCC hrow honly
    rcases C2 with _ | ⟨z, C2'⟩
    · have hn1 : ¬ (k : Int) < (i : Int) - 1 := by simp at hkl; omega
      clear hkl
      go_wp2
      refine bodyPost_ret (results_none rfl _ _ _) rfl ?_
      exact ⟨rfl, _, FIN.out, by have e := K2.out; have := K3.out; rw [List.append_nil] at e; rw [← e]; simpa using this, K4.out⟩
    have hn1 : (k : Int) < (i : Int) - 1 := by simp at hkl; omega
    obtain ⟨r, hr⟩ : ∃ r, r = k + 1 := ⟨_, rfl⟩
    have hkr : k < r := by omega
    have hrn : r < n := by simp at hkl; omega
    have hkn : k < n := by omega
    have W4 : IntKind.i64.wrap ((k : Int) + 1) = (r : Int) := by rw [IntKind.wrap_i64]; omega
    have R0 := Lib.hid (show Rw wr g ((P ++ C1) ++ x :: ([] ++ z :: (C2' ++ (D ++ S)))) by have := K3.out; simpa using this)
    have P1 := Lib.hid (show k = (P ++ C1).length from K1.out)
    have P2 := Lib.hid (show r = ((P ++ C1) ++ x :: []).length by rw [hr, K1.out]; simp; omega)
    have T := R0.out.two P1.out P2.out
    have c1 := T.c1; have c2 := T.c2; have c3 := T.c3; have c4 := T.c4; have f1 := T.f1; have f2 := T.f2; have f3 := T.f3; have f4 := T.f4
    have RS := Lib.hid ((R0.out.swap P1.out P2.out).1)
    have OS := Lib.hid (only_put K4.out (g := g) rfl k r (.int .u64 (sz (z.1))) (.int .i64 z.2) (.int .u64 (sz (x.1))) (.int .i64 x.2))
    have RR := Lib.hid hr
    clear T hr hkl
    go_upto_region 11 with fail
    go_region
    generalize ((((wr.setCell ⟨g, k * 2, none⟩ (.int .u64 (sz (z.1)))).setCell ⟨g, k * 2 + 1, none⟩ (.int .i64 z.2)).setCell ⟨g, r * 2, none⟩ (.int .u64 (sz (x.1)))).setCell ⟨g, r * 2 + 1, none⟩ (.int .i64 x.2)) = ws at RS OS ⊢
    clear c1 c2 c3 c4 f1 f2 f3 f4
    go_wp2
    go_roundw
    case rel => exact ⟨r, C1 ++ [z], C2', rfl, by rw [RR.out, K1.out]; simp; omega, by rw [← K2.out]; simp, by have := RS.out.up (up_dr (Below.refl _ _)); simpa using this, OS.out.drew⟩
    case measure => simp [RowKit.intOf]; have := RR.out; omega
  have W2 : IntKind.i64.wrap ((i : Int) + j) = (i : Int) + j := by rw [IntKind.wrap_i64]; omega
  obtain ⟨h, hh⟩ : ∃ h, h = (i + j) / 2 := ⟨_, rfl⟩
  have hh' := Lib.hid (show ((i : Int) + j) / 2 = (h : Int) by omega)
  have hih : i ≤ h := by omega
  have hhj : h < j := by omega
  have hhn : h < n := by omega
  have han : a < n := by have := HM.out; omega
  have hRl : h - m < R.length := by have := HB.out; omega
  obtain ⟨C, hC⟩ : ∃ C, C = R.take (h - m) := ⟨_, rfl⟩
  obtain ⟨D, hD⟩ : ∃ D, D = R.drop (h - m + 1) := ⟨_, rfl⟩
  obtain ⟨y, hy⟩ : ∃ y, y = R[h - m] := ⟨_, rfl⟩
  have hCD : C ++ y :: D = R := by rw [hC, hD, hy, ← List.drop_eq_getElem_cons hRl]; exact List.take_append_drop ..
  have hCl : C.length = h - m := by rw [hC, List.length_take]; omega
  have ROW := Lib.hid (show Rw wr g (P ++ x :: (C ++ y :: (D ++ S))) by have := I.out.row; rw [← hCD] at this; simpa using this)
  have CL := Lib.hid hCl; have CD := Lib.hid hCD
  have P1 := Lib.hid (show h = (P ++ x :: C).length by have := HA.out; have := HM.out; simp [hCl]; omega)
  have T := ROW.out.two HA.out P1.out
  have k1 := Kin.cell T.c1; have k2 := Kin.cell T.c2; have k3 := Kin.cell T.c3; have k4 := Kin.cell T.c4
  have up_lt := Lib.hid (show y.2 < x.2 → ∀ z ∈ R.take (h + 1 - m), z.2 < x.2 from fun hyx z hz => by
    have hu := HU.out
    rw [show h + 1 - m = h - m + 1 by omega, List.take_succ_eq_append_getElem hRl, ← hC, ← hy] at hz
    rcases List.mem_append.1 hz with hz | hz
    · have := (up2_app.1 (show Up2 (C ++ y :: D) by rw [hCD]; exact hu)).2.2 z hz y (List.mem_cons_self ..); omega
    · rw [List.mem_singleton.1 hz]; exact hyx)
  have up_ge := Lib.hid (show ¬ y.2 < x.2 → ∀ z ∈ R.drop (h - m), ¬ z.2 < x.2 from fun hyx z hz => by
    have hu := HU.out
    rw [List.drop_eq_getElem_cons hRl, ← hD, ← hy] at hz
    have hu2 := List.pairwise_cons.1 (up2_app.1 (show Up2 (C ++ y :: D) by rw [hCD]; exact hu)).2.1
    rcases List.mem_cons.1 hz with rfl | hz
    · exact hyx
    · have := hu2.1 z hz; omega)
  clear hC hD hy hCD hCl hRl T hh
  go_upto_region 5 with fail
  rw [hh'.out]
  by_cases hc : y.2 < x.2
  · have hc' := cmpZ_lt hc
    have HC := Lib.hid hc
    have W5 : IntKind.i64.wrap ((h : Int) + 1) = (h : Int) + 1 := by rw [IntKind.wrap_i64]; omega
    clear hc
    refine wp_region_kin (by kernel_rfl) (by kernel_rfl) ?_
    repeat (go_big_quiet_step ((go_at_call 51; exact Kin.call _ (cmpC _ _ _ _ _))))
    refine wpQuiet_nil ?_
    rintro w9 ⟨t9, e9⟩
    have uu := t9.below
    rw [← e9] at uu
    clear e9 t9
    clear k1 k2 k3 k4
    go_wp2
    go_roundw
    case rel => exact ⟨h + 1, j, by go_num, rfl, by omega, by omega, hj, ⟨up_lt.out HC.out, I.out.hi, I.out.row.up uu, I.out.only.on uu⟩⟩
    case measure => simp [RowKit.intOf]; omega
  · have hc' := cmpZ_ge hc
    have HC := Lib.hid hc
    clear hc
    refine wp_region_kin (by kernel_rfl) (by kernel_rfl) ?_
    repeat (go_big_quiet_step ((go_at_call 51; exact Kin.call _ (cmpC _ _ _ _ _))))
    refine wpQuiet_nil ?_
    rintro w9 ⟨t9, e9⟩
    have uu := t9.below
    rw [← e9] at uu
    clear e9 t9
    clear k1 k2 k3 k4
    go_wp2
    go_roundw
    case rel => exact ⟨i, h, rfl, rfl, hi, hih, by omega, ⟨I.out.lo, up_ge.out HC.out, I.out.row.up uu, I.out.only.on uu⟩⟩
    case measure => simp [RowKit.intOf]; omega
end Go.Proofs.Ytkgcnmloojnblaa.wlU

namespace Go.Proofs.Ytkgcnmloojnblaa.wlU
open Go.RowKit Go.Shelf Go.Lib Go.Proofs.Ytkgcnmloojnblaa.nb Go.Proofs.Ytkgcnmloojnblaa.wh Go.Proofs.Ytkgcnmloojnblaa.wf
set_option linter.unusedVariables false

structure BtI (g : Nat) (L : List Tm) (x : Tm) (a i j : Nat) (w0 wr : World) (ds : List Tm) : Prop where
  lo : ∀ y ∈ L.take (i - a), ¬ x.2 < y.2
  hi : ∀ y ∈ L.drop (j - a), x.2 < y.2
  row : Rw wr g ds
  only : Only (fun k => k = g) w0 wr
set_option maxHeartbeats 8000000 in
set_option maxRecDepth 100000 in
theorem sym2C (g c n : Nat) (P L S : List Tm) (x : Tm) (a m b : Nat) (ha : a = P.length) (hm1 : m = a + L.length) (hb : b = m + 1) (hL : 1 < L.length) (hu : Up2 L) (hn : n = (P ++ (L ++ x :: S)).length) (hm : n < 4611686018427387904) (w : World) (h : Rw w g (P ++ (L ++ x :: S))) :
    Calls Try.prog 64 #[.slice (some ⟨g, 0, none⟩) n c, .int .i64 a, .int .i64 m, .int .i64 b, .func (.func 51) #[] #[]] w fun e w' => e = .returned (.tuple #[]) ∧ ∃ M, St M (L ++ [x]) ∧ Rw w' g (P ++ (M ++ S)) ∧ Only (fun k => k = g) w w' := by
  have hbn : b ≤ n := by rw [hb, hn, hm1, ha]; simp; omega
  have ham : a ≤ m := by omega
  have HA := Lib.hid ha; have HM := Lib.hid hm1; have HB := Lib.hid hb; have HN := Lib.hid hn; have HR := Lib.hid h; have HU := Lib.hid hu
  obtain ⟨d, hd⟩ : ∃ d, d = m - a := ⟨_, rfl⟩
  have W0 : IntKind.i64.wrap ((m : Int) - a) = (d : Int) := by rw [IntKind.wrap_i64]; omega
  have hd1 : ¬ (d : Int) = 1 := by omega
  have hd2 : ¬ d = 1 := by omega
  have W1 : IntKind.i64.wrap ((b : Int) - m) = 1 := by rw [IntKind.wrap_i64]; omega
  clear ha hm1 hb hn h hL hu hd
  go_enter Try.func64, Try.ntmps64
  go_wp2_with fail
  go_loopw [14, 15] (fun v u wr => ∃ (i j : Nat), v = .int .i64 i ∧ u = .int .i64 j ∧ a ≤ i ∧ i ≤ j ∧ j ≤ m ∧ BtI g L x a i j w wr (P ++ (L ++ x :: S))) (fun v u _ => (intOf u).toNat - (intOf v).toNat)
  case atStart => exact ⟨a, m, rfl, rfl, Nat.le_refl _, ham, Nat.le_refl _, ⟨by rw [Nat.sub_self]; exact fun y hy => absurd hy List.not_mem_nil, by rw [HM.out, Nat.add_sub_cancel_left, List.drop_length]; exact fun y hy => absurd hy List.not_mem_nil, HR.out, Only.refl _ _⟩⟩
  case round =>
  clear W0 W1 ham HR hd1 hd2
  obtain ⟨i, j, rfl, rfl, hi, hij, hj, q⟩ := hrel
  have I := Lib.hid q
  clear q
  by_cases hlt : i < j
  case neg =>
    obtain rfl : i = j := by omega
    clear hij hlt
    obtain ⟨C, hC⟩ : ∃ C, C = L.take (i - a) := ⟨_, rfl⟩
    obtain ⟨D, hD⟩ : ∃ D, D = L.drop (i - a) := ⟨_, rfl⟩
    have hCD : C ++ D = L := by rw [hC, hD]; exact List.take_append_drop ..
    have hCl : C.length = i - a := by rw [hC, List.length_take]; have := HM.out; omega
    have FIN := Lib.hid (show St (C ++ x :: D) (L ++ [x]) by
      rw [← hCD]
      exact put_right (by rw [hCD]; exact HU.out) (by rw [hC]; exact I.out.lo) (by rw [hD]; exact I.out.hi))
    have ROW := Lib.hid (show Rw wr g ((P ++ C) ++ (D ++ x :: ([] ++ S))) by have := I.out.row; rw [← hCD] at this; simpa using this)
    have CL := Lib.hid (show i = (P ++ C).length by have := HA.out; simp [hCl]; omega)
    have ML := Lib.hid (show m = (P ++ C).length + D.length by have h1 := HM.out; have h2 := HA.out; rw [← hCD] at h1; simp at h1 ⊢; omega)
    clear hC hD hCD hCl
    go_wp2_with fail
    go_loopw [17] (fun v wq => ∃ (k : Nat) (D1 D2 : List Tm), v = .int .i64 k ∧ k = (P ++ C).length + D1.length ∧ D1 ++ D2 = D ∧ Rw wq g ((P ++ C) ++ (D1 ++ x :: (D2 ++ S))) ∧ Only (fun k => k = g) w wq) (fun v _ => (intOf v).toNat)
    case atStart => exact ⟨m, D, [], rfl, ML.out, List.append_nil D, ROW.out, I.out.only⟩
    case round =>
    obtain ⟨k, D1, D2, rfl, hk, hDD, hrow, honly⟩ := hrel
    have K1 := Lib.hid hk; have K2 := Lib.hid hDD; have K3 := Lib.hid hrow; have K4 := Lib.hid honly
    have hkl : k = i + D1.length := by rw [hk, ← CL.out]
    have hkn : k < n := by
      have e := congrArg List.length hDD; have := ML.out; have := HB.out; have := CL.out; simp only [List.length_append] at e; omega
    clear hk hDD hrow honly
    rcases List.eq_nil_or_concat D1 with rfl | ⟨D1', z, rfl⟩
    · have hn1 : ¬ i < k := by simp at hkl; omega
      clear hkl
      go_wp2
      refine bodyPost_ret (results_none rfl _ _ _) rfl ?_
      exact ⟨rfl, _, FIN.out, by have e := K2.out; have := K3.out; rw [List.nil_append] at e; rw [← e]; simpa using this, K4.out⟩
    obtain ⟨r, hr⟩ : ∃ r, r = i + D1'.length := ⟨_, rfl⟩
    have hrk : k = r + 1 := by rw [hkl, hr]; simp; omega
    have hn1 : i < k := by omega
    have hkr : r < k := by omega
    have hrn : r < n := by omega
    have W4 : IntKind.i64.wrap ((k : Int) - 1) = (r : Int) := by rw [IntKind.wrap_i64]; omega
    have R0 := Lib.hid (show Rw wr g (((P ++ C) ++ D1') ++ z :: ([] ++ x :: (D2 ++ S))) by have := K3.out; simpa using this)
    have P1 := Lib.hid (show r = ((P ++ C) ++ D1').length by rw [hr, List.length_append, ← CL.out])
    have P2 := Lib.hid (show k = (((P ++ C) ++ D1') ++ z :: []).length by rw [hrk, P1.out]; simp [List.length_append]; omega)
    have T := R0.out.two P1.out P2.out
    have c1 := T.c1; have c2 := T.c2; have c3 := T.c3; have c4 := T.c4; have f1 := T.f1; have f2 := T.f2; have f3 := T.f3; have f4 := T.f4
    have RS := Lib.hid ((R0.out.swap P1.out P2.out).2)
    have OS := Lib.hid (only_put K4.out (g := g) rfl k r (.int .u64 (sz (z.1))) (.int .i64 z.2) (.int .u64 (sz (x.1))) (.int .i64 x.2))
    have RR := Lib.hid hrk
    clear T hr hkl hrk
    go_upto_region 23 with fail
    go_region
    generalize ((((wr.setCell ⟨g, k * 2, none⟩ (.int .u64 (sz (z.1)))).setCell ⟨g, k * 2 + 1, none⟩ (.int .i64 z.2)).setCell ⟨g, r * 2, none⟩ (.int .u64 (sz (x.1)))).setCell ⟨g, r * 2 + 1, none⟩ (.int .i64 x.2)) = ws at RS OS ⊢
    clear c1 c2 c3 c4 f1 f2 f3 f4
    go_wp2
    go_roundw
    case rel => exact ⟨r, D1', z :: D2, rfl, by rw [P1.out, List.length_append], by rw [← K2.out]; simp, by have := RS.out.up (up_dr (Below.refl _ _)); simpa using this, OS.out.drew⟩
    case measure => simp [RowKit.intOf]; have := RR.out; omega
  have hmn : m < n := by have := HB.out; omega
  have W2 : IntKind.i64.wrap ((i : Int) + j) = (i : Int) + j := by rw [IntKind.wrap_i64]; omega
  obtain ⟨h, hh⟩ : ∃ h, h = (i + j) / 2 := ⟨_, rfl⟩
  have hh' := Lib.hid (show ((i : Int) + j) / 2 = (h : Int) by omega)
  have hih : i ≤ h := by omega
  have hhj : h < j := by omega
  have hhn : h < n := by omega
  have hRl : h - a < L.length := by have := HM.out; omega
  obtain ⟨C, hC⟩ : ∃ C, C = L.take (h - a) := ⟨_, rfl⟩
  obtain ⟨D, hD⟩ : ∃ D, D = L.drop (h - a + 1) := ⟨_, rfl⟩
  obtain ⟨y, hy⟩ : ∃ y, y = L[h - a] := ⟨_, rfl⟩
  have hCD : C ++ y :: D = L := by rw [hC, hD, hy, ← List.drop_eq_getElem_cons hRl]; exact List.take_append_drop ..
  have hCl : C.length = h - a := by rw [hC, List.length_take]; omega
  have ROW := Lib.hid (show Rw wr g ((P ++ C) ++ y :: (D ++ x :: S)) by have := I.out.row; rw [← hCD] at this; simpa using this)
  have P1 := Lib.hid (show h = (P ++ C).length by have := HA.out; simp [hCl]; omega)
  have P2 := Lib.hid (show m = ((P ++ C) ++ y :: D).length by have h1 := HM.out; have h2 := HA.out; rw [← hCD] at h1; simp at h1 ⊢; omega)
  have T := ROW.out.two P1.out P2.out
  have k1 := Kin.cell T.c1; have k2 := Kin.cell T.c2; have k3 := Kin.cell T.c3; have k4 := Kin.cell T.c4
  have up_lt := Lib.hid (show ¬ x.2 < y.2 → ∀ z ∈ L.take (h + 1 - a), ¬ x.2 < z.2 from fun hyx z hz => by
    have hu := HU.out
    rw [show h + 1 - a = h - a + 1 by omega, List.take_succ_eq_append_getElem hRl, ← hC, ← hy] at hz
    rcases List.mem_append.1 hz with hz | hz
    · have := (up2_app.1 (show Up2 (C ++ y :: D) by rw [hCD]; exact hu)).2.2 z hz y (List.mem_cons_self ..); omega
    · rw [List.mem_singleton.1 hz]; exact hyx)
  have up_ge := Lib.hid (show x.2 < y.2 → ∀ z ∈ L.drop (h - a), x.2 < z.2 from fun hyx z hz => by
    have hu := HU.out
    rw [List.drop_eq_getElem_cons hRl, ← hD, ← hy] at hz
    have hu2 := List.pairwise_cons.1 (up2_app.1 (show Up2 (C ++ y :: D) by rw [hCD]; exact hu)).2.1
    rcases List.mem_cons.1 hz with rfl | hz
    · exact hyx
    · have := hu2.1 z hz; omega)
  clear hC hD hy hCD hCl hRl T hh
  go_upto_region 17 with fail
  rw [hh'.out]
  by_cases hc : x.2 < y.2
  · have hc' := cmpZ_lt hc
    have HC := Lib.hid hc
    clear hc
    refine wp_region_kin (by kernel_rfl) (by kernel_rfl) ?_
    repeat (go_big_quiet_step ((go_at_call 51; exact Kin.call _ (cmpC _ _ _ _ _))))
    refine wpQuiet_nil ?_
    rintro w9 ⟨t9, e9⟩
    have uu := t9.below
    rw [← e9] at uu
    clear e9 t9
    clear k1 k2 k3 k4
    go_wp2
    go_roundw
    case rel => exact ⟨i, h, rfl, rfl, hi, hih, by omega, ⟨I.out.lo, up_ge.out HC.out, I.out.row.up uu, I.out.only.on uu⟩⟩
    case measure => simp [RowKit.intOf]; omega
  · have hc' := cmpZ_ge hc
    have HC := Lib.hid hc
    have W5 : IntKind.i64.wrap ((h : Int) + 1) = (h : Int) + 1 := by rw [IntKind.wrap_i64]; omega
    clear hc
    refine wp_region_kin (by kernel_rfl) (by kernel_rfl) ?_
    repeat (go_big_quiet_step ((go_at_call 51; exact Kin.call _ (cmpC _ _ _ _ _))))
    refine wpQuiet_nil ?_
    rintro w9 ⟨t9, e9⟩
    have uu := t9.below
    rw [← e9] at uu
    clear e9 t9
    clear k1 k2 k3 k4
    go_wp2
    go_roundw
    case rel => exact ⟨h + 1, j, by go_num, rfl, by omega, by omega, hj, ⟨up_lt.out HC.out, I.out.hi, I.out.row.up uu, I.out.only.on uu⟩⟩
    case measure => simp [RowKit.intOf]; omega
end Go.Proofs.Ytkgcnmloojnblaa.wlU

namespace Go.Proofs.Ytkgcnmloojnblaa.wlU
open Go.RowKit Go.Shelf Go.Lib Go.Proofs.Ytkgcnmloojnblaa.nb Go.Proofs.Ytkgcnmloojnblaa.wh Go.Proofs.Ytkgcnmloojnblaa.wf
set_option linter.unusedVariables false

theorem Rw.get2 {w : World} {g : Nat} {ds : List Tm} (h : Rw w g ds) {i j : Nat} (hi : i < ds.length) (hj : j < ds.length) : Two w g i j (ds.getD i d0) (ds.getD j d0) := by
  obtain ⟨⟨c1, f1⟩, c2, f2⟩ := h.2 i hi
  obtain ⟨⟨c3, f3⟩, c4, f4⟩ := h.2 j hj
  exact ⟨h.1, c1, f1, c2, f2, c3, f3, c4, f4⟩
structure SyI (g : Nat) (ds : List Tm) (p s0 r0 s r : Nat) (w0 wr : World) : Prop where
  lo : ∀ c, s0 ≤ c → c < s → ¬ tAt ds (p - c) < tAt ds c
  hi : ∀ c, r ≤ c → c < r0 → tAt ds (p - c) < tAt ds c
  row : Rw wr g ds
  only : Only (fun k => k = g) w0 wr
def SymOk (g c N : Nat) : Prop := ∀ (n : Nat) (P L R S : List Tm) (a m b : Nat) (w : World), L.length + R.length ≤ N → a = P.length → m = a + L.length → b = m + R.length → L ≠ [] → R ≠ [] → Up2 L → Up2 R → n = (P ++ (L ++ (R ++ S))).length → n < 4611686018427387904 → Rw w g (P ++ (L ++ (R ++ S))) →
    Calls Try.prog 64 #[.slice (some ⟨g, 0, none⟩) n c, .int .i64 a, .int .i64 m, .int .i64 b, .func (.func 51) #[] #[]] w fun e w' => e = .returned (.tuple #[]) ∧ ∃ M, St M (L ++ R) ∧ Rw w' g (P ++ (M ++ S)) ∧ Only (fun k => k = g) w w'
structure Tail (g c n : Nat) (P L R S A B C D : List Tm) (a m b mid s e : Nat) : Prop where
  rot : ∀ w1, Rw w1 g (P ++ (L ++ (R ++ S))) → s < m → m < e → Calls Try.prog 66 #[.slice (some ⟨g, 0, none⟩) n c, .int .i64 s, .int .i64 m, .int .i64 e, .func (.func 51) #[] #[]] w1 fun ex w' => ex = .returned (.tuple #[]) ∧ Rw w' g (P ++ (A ++ (C ++ (B ++ (D ++ S))))) ∧ Only (fun k => k = g) w1 w'
  norot : ∀ w1, Rw w1 g (P ++ (L ++ (R ++ S))) → ¬ (s < m ∧ m < e) → Rw w1 g (P ++ (A ++ (C ++ (B ++ (D ++ S)))))
  rec1 : ∀ w1, Rw w1 g (P ++ (A ++ (C ++ (B ++ (D ++ S))))) → a < s → s < mid → Calls Try.prog 64 #[.slice (some ⟨g, 0, none⟩) n c, .int .i64 a, .int .i64 s, .int .i64 mid, .func (.func 51) #[] #[]] w1 fun ex w' => ex = .returned (.tuple #[]) ∧ ∃ L', St L' (A ++ C) ∧ Rw w' g (P ++ (L' ++ (B ++ (D ++ S)))) ∧ Only (fun k => k = g) w1 w'
  norec1 : ∀ w1, Rw w1 g (P ++ (A ++ (C ++ (B ++ (D ++ S))))) → ¬ (a < s ∧ s < mid) → ∃ L', St L' (A ++ C) ∧ Rw w1 g (P ++ (L' ++ (B ++ (D ++ S))))
  rec2 : ∀ w1 L', St L' (A ++ C) → Rw w1 g (P ++ (L' ++ (B ++ (D ++ S)))) → mid < e → e < b → Calls Try.prog 64 #[.slice (some ⟨g, 0, none⟩) n c, .int .i64 mid, .int .i64 e, .int .i64 b, .func (.func 51) #[] #[]] w1 fun ex w' => ex = .returned (.tuple #[]) ∧ ∃ M, St M (L ++ R) ∧ Rw w' g (P ++ (M ++ S)) ∧ Only (fun k => k = g) w1 w'
  norec2 : ∀ w1 L', St L' (A ++ C) → Rw w1 g (P ++ (L' ++ (B ++ (D ++ S)))) → ¬ (mid < e ∧ e < b) → ∃ M, St M (L ++ R) ∧ Rw w1 g (P ++ (M ++ S))
theorem tail_of {g c n : Nat} {P L R S : List Tm} {a m b mid s e : Nat} (IH : SymOk g c (L.length + R.length - 1)) (ha : a = P.length) (hm : m = a + L.length) (hb : b = m + R.length) (hmid : mid = (a + b) / 2) (uL : Up2 L) (uR : Up2 R) (hL : 1 < L.length) (hR : 1 < R.length) (hn : n = (P ++ (L ++ (R ++ S))).length) (hnm : n < 4611686018427387904) (h1 : a ≤ s) (h2 : s ≤ m) (h3 : s ≤ mid) (he : e = mid + m - s) (h4 : e ≤ b)
    (hlt : s < m → s < mid → tAt (P ++ (L ++ (R ++ S))) (e - 1) < tAt (P ++ (L ++ (R ++ S))) s) (hle : a < s → e < b → tAt (P ++ (L ++ (R ++ S))) (s - 1) ≤ tAt (P ++ (L ++ (R ++ S))) e) :
    ∃ A B C D, Tail g c n P L R S A B C D a m b mid s e := by
  obtain ⟨hCB, hAD⟩ := split_good ha hm hb uL uR h1 h2 h3 he h4 hlt hle
  have eL : L.take (s - a) ++ L.drop (s - a) = L := List.take_append_drop ..
  have eR : R.take (e - m) ++ R.drop (e - m) = R := List.take_append_drop ..
  have lA : (L.take (s - a)).length = s - a := by rw [List.length_take]; omega
  have lB : (L.drop (s - a)).length = m - s := by rw [List.length_drop]; omega
  have lC : (R.take (e - m)).length = e - m := by rw [List.length_take]; omega
  have lD : (R.drop (e - m)).length = b - e := by rw [List.length_drop]; omega
  have uA := up2_take uL (s - a); have uB := up2_drop uL (s - a); have uC := up2_take uR (e - m); have uD := up2_drop uR (e - m)
  generalize L.take (s - a) = A at *
  generalize L.drop (s - a) = B at *
  generalize R.take (e - m) = C at *
  generalize R.drop (e - m) = D at *
  subst eL eR
  have FIN : ∀ L' R', St L' (A ++ C) → St R' (B ++ D) → St (L' ++ R') ((A ++ B) ++ (C ++ D)) := fun L' R' h h' => merge_halves uL uR hCB hAD h h'
  have eq0 : ∀ {l : List Tm}, l.length = 0 → l = [] := fun h => List.eq_nil_of_length_eq_zero h
  refine ⟨A, B, C, D, ⟨fun w1 hw g1 g2 => ?_, fun w1 hw g0 => ?_, fun w1 hw g1 g2 => ?_, fun w1 hw g0 => ?_, fun w1 L' hL' hw g1 g2 => ?_, fun w1 L' hL' hw g0 => ?_⟩⟩
  · refine (rotC g c n (P ++ A) B C (D ++ S) s m e (by simp [lA]; omega) (by simp [lA, lB]; omega) (by simp [lA, lB, lC]; omega) (fun h => by subst h; simp at lB; omega) (fun h => by subst h; simp at lC; omega) (by rw [hn]; simp) hnm w1 (by simpa using hw)).mono ?_
    rintro ex w' ⟨rfl, q1, q2⟩
    exact ⟨rfl, by simpa using q1, q2⟩
  · rcases Nat.lt_or_ge s m with g1 | g1
    · have : C = [] := eq0 (by omega)
      subst this; simpa using hw
    · have : B = [] := eq0 (by omega)
      subst this; simpa using hw
  · refine (IH n P A C (B ++ (D ++ S)) a s mid w1 (by simp; omega) ha (by omega) (by omega) (fun h => by subst h; simp at lA; omega) (fun h => by subst h; simp at lC; omega) uA uC (by rw [hn]; simp; omega) hnm hw).mono ?_
    rintro ex w' ⟨rfl, L', q1, q2, q3⟩
    exact ⟨rfl, L', q1, q2, q3⟩
  · refine ⟨A ++ C, St.refl ?_, by simpa using hw⟩
    rcases Nat.lt_or_ge a s with g1 | g1
    · have : C = [] := eq0 (by omega)
      subst this; simpa using uA
    · have : A = [] := eq0 (by omega)
      subst this; simpa using uC
  · have lL' := hL'.len
    refine (IH n (P ++ L') B D S mid e b w1 (by simp; omega) (by simp [lL', lA, lC]; omega) (by omega) (by omega) (fun h => by subst h; simp at lB; omega) (fun h => by subst h; simp at lD; omega) uB uD (by rw [hn]; simp at lL' ⊢; omega) hnm (by simpa using hw)).mono ?_
    rintro ex w' ⟨rfl, R', q1, q2, q3⟩
    exact ⟨rfl, L' ++ R', FIN L' R' hL' q1, by simpa using q2, q3⟩
  · refine ⟨L' ++ (B ++ D), FIN L' _ hL' (St.refl ?_), by simpa using hw⟩
    rcases Nat.lt_or_ge mid e with g1 | g1
    · have : D = [] := eq0 (by omega)
      subst this; simpa using uB
    · have : B = [] := eq0 (by omega)
      subst this; simpa using uD

set_option maxHeartbeats 16000000 in
set_option maxRecDepth 100000 in
theorem symA (g c n : Nat) (P L R S : List Tm) (a m b mid : Nat) (IH : SymOk g c (L.length + R.length - 1)) (ha : a = P.length) (hm1 : m = a + L.length) (hb : b = m + R.length) (hmid : mid = (a + b) / 2) (hcm : mid < m) (hL : 1 < L.length) (hR : 1 < R.length) (uL : Up2 L) (uR : Up2 R) (hn : n = (P ++ (L ++ (R ++ S))).length) (hm : n < 4611686018427387904) (w : World) (h : Rw w g (P ++ (L ++ (R ++ S)))) :
    Calls Try.prog 64 #[.slice (some ⟨g, 0, none⟩) n c, .int .i64 a, .int .i64 m, .int .i64 b, .func (.func 51) #[] #[]] w fun e w' => e = .returned (.tuple #[]) ∧ ∃ M, St M (L ++ R) ∧ Rw w' g (P ++ (M ++ S)) ∧ Only (fun k => k = g) w w' := by
  obtain ⟨d, hd⟩ : ∃ d, d = m - a := ⟨_, rfl⟩
  obtain ⟨d', hd'⟩ : ∃ d', d' = b - m := ⟨_, rfl⟩
  have hbn : b ≤ n := by rw [hb, hn, hm1, ha]; simp; omega
  have hab : a ≤ b := by omega
  have W0 : IntKind.i64.wrap ((m : Int) - a) = (d : Int) := by rw [IntKind.wrap_i64]; omega
  have W0' : IntKind.i64.wrap ((b : Int) - m) = (d' : Int) := by rw [IntKind.wrap_i64]; omega
  have hd2 : ¬ d = 1 := by omega
  have hd1 : ((d : Int) == 1) = false := by simp; omega
  have hd3 : ((d' : Int) == 1) = false := by simp; omega
  have hd4 : ¬ d' = 1 := by omega
  have W1 : IntKind.i64.wrap ((a : Int) + b) = (a : Int) + b := by rw [IntKind.wrap_i64]; omega
  have HMID := Lib.hid (show ((a : Int) + b) / 2 = (mid : Int) by omega)
  obtain ⟨q, hq⟩ : ∃ q, q = mid + m := ⟨_, rfl⟩
  obtain ⟨p, hp⟩ : ∃ p, p = q - 1 := ⟨_, rfl⟩
  have W2 : IntKind.i64.wrap ((mid : Int) + m) = (q : Int) := by rw [IntKind.wrap_i64]; omega
  have W3 : IntKind.i64.wrap ((q : Int) - 1) = (p : Int) := by rw [IntKind.wrap_i64]; omega
  have W4 : q - b ≤ q := by omega
  obtain ⟨s0, hs0⟩ : ∃ s0, s0 = q - b := ⟨_, rfl⟩
  have W4 : IntKind.i64.wrap ((q : Int) - b) = (s0 : Int) := by rw [IntKind.wrap_i64]; omega
  have e1 : a ≤ s0 := by omega
  have e2 : mid ≤ m := by omega
  have e3 : mid ≤ mid := by omega
  have e4 : q ≤ s0 + b := by omega
  have e5 : s0 ≤ mid := by omega
  have e6 := Lib.hid (show (s0 = a ∨ s0 + b = q) ∧ (mid = mid ∨ mid = m) by omega)
  have e7 : p + 1 = q := by omega
  have e8 := Lib.hid (show mid < b ∧ m < b ∧ a ≤ m by omega)
  have HQ := Lib.hid hq
  have HMI := Lib.hid hmid
  have HA := Lib.hid ha; have HM := Lib.hid hm1; have HB := Lib.hid hb; have HN := Lib.hid hn; have HR := Lib.hid h; have UL := Lib.hid uL; have UR := Lib.hid uR; have HL1 := Lib.hid hL; have HR1 := Lib.hid hR; have IH' := Lib.hid IH
  have LT := Lib.hid (fun c c' => less_on (P := P) (L := L) (R := R) (S := S) (a := a) (m := m) (b := b) (p := p) (c := c) (c' := c') ha hm1 hb uL uR)
  clear ha hm1 hb hn h hL hR uL uR hd hd' hq hp hmid IH hs0
  go_enter Try.func64, Try.ntmps64
  go_upto_region 25 with fail
  rw [HMID.out]
  go_wp2_with fail
  go_loopw [20, 21] (fun v u wr => ∃ (s r : Nat), v = .int .i64 s ∧ u = .int .i64 r ∧ s0 ≤ s ∧ s ≤ r ∧ r ≤ mid ∧ SyI g (P ++ (L ++ (R ++ S))) p s0 mid s r w wr) (fun v u _ => (intOf u).toNat - (intOf v).toNat)
  case atStart => exact ⟨s0, mid, rfl, rfl, Nat.le_refl _, e5, Nat.le_refl _, ⟨fun c h1 h2 => by omega, fun c h1 h2 => by omega, HR.out, Only.refl _ _⟩⟩
  case round =>
  clear W0 W0' hd1 hd2 hd3 hd4 W1 W2 W3 W4 HR
  obtain ⟨s, r, rfl, rfl, hs, hsr, hr, qq⟩ := hrel
  have I := Lib.hid qq
  clear qq
  have hmb := e8.out.2.1
  by_cases hlt : s < r
  case pos =>
    obtain ⟨cc, hcc⟩ : ∃ cc, cc = (s + r) / 2 := ⟨_, rfl⟩
    have X1 : IntKind.i64.wrap ((s : Int) + r) = (s : Int) + r := by rw [IntKind.wrap_i64]; omega
    have HCC := Lib.hid (show ((s : Int) + r) / 2 = (cc : Int) by omega)
    obtain ⟨pc, hpc⟩ : ∃ pc, pc = p - cc := ⟨_, rfl⟩
    have hsc : s ≤ cc := by omega
    have hcr : cc < r := by omega
    have X2 : IntKind.i64.wrap ((p : Int) - cc) = (pc : Int) := by rw [IntKind.wrap_i64]; have := HQ.out; omega
    have hcn : cc < n := by omega
    have hpb : m ≤ pc ∧ pc < b := by have := HQ.out; omega
    have hpn : pc < n := by omega
    have T := I.out.row.get2 (i := pc) (j := cc) (by rw [← HN.out]; exact hpn) (by rw [← HN.out]; exact hcn)
    obtain ⟨x, hx⟩ : ∃ x, x = (P ++ (L ++ (R ++ S))).getD pc d0 := ⟨_, rfl⟩
    obtain ⟨y, hy⟩ : ∃ y, y = (P ++ (L ++ (R ++ S))).getD cc d0 := ⟨_, rfl⟩
    rw [← hx, ← hy] at T
    have k1 := Kin.cell T.c1; have k2 := Kin.cell T.c2; have k3 := Kin.cell T.c3; have k4 := Kin.cell T.c4
    have LO := Lib.hid (show ¬ x.2 < y.2 → ∀ k, s0 ≤ k → k < cc + 1 → ¬ tAt (P ++ (L ++ (R ++ S))) (p - k) < tAt (P ++ (L ++ (R ++ S))) k from fun hxy k h1 h2 h3 => by
      have h4 := LT.out k cc (by omega) (by omega) (by omega) (by omega) (by have := HQ.out; omega) h3
      unfold tAt at h4
      rw [← hpc, ← hx, ← hy] at h4
      exact hxy h4)
    have HI := Lib.hid (show x.2 < y.2 → ∀ k, cc ≤ k → k < mid → tAt (P ++ (L ++ (R ++ S))) (p - k) < tAt (P ++ (L ++ (R ++ S))) k from fun hxy k h1 h2 =>
      LT.out cc k (by omega) (by omega) (by omega) (by have := HQ.out; omega) (by have := HQ.out; omega) (by unfold tAt; rw [← hpc, ← hx, ← hy]; exact hxy))
    clear T hx hy hpc hcc hpb
    go_upto_region 35 with fail
    rw [HCC.out]
    by_cases hc : x.2 < y.2
    · have hc' := cmpZ_lt hc
      have HC := Lib.hid hc
      clear hc
      refine wp_region_kin (by kernel_rfl) (by kernel_rfl) ?_
      repeat (go_big_quiet_step ((go_at_call 51; exact Kin.call _ (cmpC _ _ _ _ _))))
      refine wpQuiet_nil ?_
      rintro w9 ⟨t9, e9⟩
      have uu := t9.below
      rw [← e9] at uu
      clear e9 t9
      clear k1 k2 k3 k4
      go_wp2
      go_roundw
      case rel => exact ⟨s, cc, rfl, rfl, hs, hsc, by omega, ⟨I.out.lo, HI.out HC.out, I.out.row.up uu, I.out.only.on uu⟩⟩
      case measure => simp [RowKit.intOf]; omega
    · have hc' := cmpZ_ge hc
      have HC := Lib.hid hc
      have X3 : IntKind.i64.wrap ((cc : Int) + 1) = (cc : Int) + 1 := by rw [IntKind.wrap_i64]; omega
      clear hc
      refine wp_region_kin (by kernel_rfl) (by kernel_rfl) ?_
      repeat (go_big_quiet_step ((go_at_call 51; exact Kin.call _ (cmpC _ _ _ _ _))))
      refine wpQuiet_nil ?_
      rintro w9 ⟨t9, e9⟩
      have uu := t9.below
      rw [← e9] at uu
      clear e9 t9
      clear k1 k2 k3 k4
      go_wp2
      go_roundw
      case rel => exact ⟨cc + 1, r, by go_num, rfl, by omega, by omega, hr, ⟨LO.out HC.out, I.out.hi, I.out.row.up uu, I.out.only.on uu⟩⟩
      case measure => simp [RowKit.intOf]; omega
  obtain rfl : s = r := by omega
  clear hlt hsr
  obtain ⟨e, he⟩ : ∃ e, e = q - s := ⟨_, rfl⟩
  have X1 : IntKind.i64.wrap ((q : Int) - s) = (e : Int) := by rw [IntKind.wrap_i64]; have := HQ.out; have := e8.out; omega
  have h1 : a ≤ s := by omega
  have h2 : s ≤ m := by omega
  have h3 : s ≤ mid := by omega
  have h4 : e ≤ b := by omega
  have TL0 := tail_of (g := g) (c := c) (n := n) (P := P) (L := L) (R := R) (S := S) (a := a) (m := m) (b := b) (mid := mid) (s := s) (e := e) IH'.out HA.out HM.out HB.out HMI.out UL.out UR.out HL1.out HR1.out HN.out hm h1 h2 h3 (by rw [he, HQ.out]) h4
    (fun g1 g2 => by have := I.out.hi s (Nat.le_refl _) (by rcases e6.out.2 with h | h <;> omega); rwa [show p - s = e - 1 by omega] at this)
    (fun g1 g2 => by have := I.out.lo (s - 1) (by rcases e6.out.1 with h | h <;> omega) (by omega); rw [show p - (s - 1) = e by omega] at this; omega)
  obtain ⟨A, B, C, D, TT0⟩ := TL0
  have TT := Lib.hid TT0
  clear TT0 he
  by_cases g1 : s < m
  · by_cases g2 : m < e
    · have CC := Lib.hid (TT.out.rot _ I.out.row g1 g2)
      go_wp2_with fail
      refine CC.out.mono ?_
      rintro ex w5 ⟨rfl, q1, q3⟩
      have S2 := Lib.hid q1; have S3 := Lib.hid q3
      clear q1 q3 CC
      have RW2 := Lib.hid S2.out
      have ON2 := Lib.hid (I.out.only.trans S3.out (fun k => .inl))
      by_cases g3 : a < s
      · by_cases g4 : s < mid
        · have CC := Lib.hid (TT.out.rec1 _ RW2.out g3 g4)
          go_wp2_with fail
          refine CC.out.mono ?_
          rintro ex w6 ⟨rfl, L', q1, q2, q3⟩
          have S1 := Lib.hid q1; have S2 := Lib.hid q2; have S3 := Lib.hid q3
          clear q1 q2 q3 CC
          have RW3 := Lib.hid S2.out
          have ON3 := Lib.hid (ON2.out.trans S3.out (fun k => .inl))
          by_cases g5 : mid < e
          · by_cases g6 : e < b
            · have CC := Lib.hid (TT.out.rec2 _ _ S1.out RW3.out g5 g6)
              go_wp2_with fail
              refine CC.out.mono ?_
              rintro ex w7 ⟨rfl, M, q1, q2, q3⟩
              have Q1 := Lib.hid q1; have Q2 := Lib.hid q2; have Q3 := Lib.hid q3
              clear q1 q2 q3
              go_wp2
              go_end0
              exact ⟨rfl, M, Q1.out, Q2.out, ON3.out.trans Q3.out (fun k => .inl)⟩
            · obtain ⟨M, q1, q2⟩ := TT.out.norec2 _ _ S1.out RW3.out (fun h => g6 h.2)
              have Q1 := Lib.hid q1; have Q2 := Lib.hid q2
              clear q1 q2
              go_wp2
              go_end0
              exact ⟨rfl, M, Q1.out, Q2.out, ON3.out⟩
          · obtain ⟨M, q1, q2⟩ := TT.out.norec2 _ _ S1.out RW3.out (fun h => g5 h.1)
            have Q1 := Lib.hid q1; have Q2 := Lib.hid q2
            clear q1 q2
            go_wp2
            go_end0
            exact ⟨rfl, M, Q1.out, Q2.out, ON3.out⟩
        · obtain ⟨L', q1, q2⟩ := TT.out.norec1 _ RW2.out (fun h => g4 h.2)
          have S1 := Lib.hid q1; have S2 := Lib.hid q2
          clear q1 q2
          have RW3 := Lib.hid S2.out
          have ON3 := Lib.hid ON2.out
          by_cases g5 : mid < e
          · by_cases g6 : e < b
            · have CC := Lib.hid (TT.out.rec2 _ _ S1.out RW3.out g5 g6)
              go_wp2_with fail
              refine CC.out.mono ?_
              rintro ex w7 ⟨rfl, M, q1, q2, q3⟩
              have Q1 := Lib.hid q1; have Q2 := Lib.hid q2; have Q3 := Lib.hid q3
              clear q1 q2 q3
              go_wp2
              go_end0
              exact ⟨rfl, M, Q1.out, Q2.out, ON3.out.trans Q3.out (fun k => .inl)⟩
            · obtain ⟨M, q1, q2⟩ := TT.out.norec2 _ _ S1.out RW3.out (fun h => g6 h.2)
              have Q1 := Lib.hid q1; have Q2 := Lib.hid q2
              clear q1 q2
              go_wp2
              go_end0
              exact ⟨rfl, M, Q1.out, Q2.out, ON3.out⟩
          · obtain ⟨M, q1, q2⟩ := TT.out.norec2 _ _ S1.out RW3.out (fun h => g5 h.1)
            have Q1 := Lib.hid q1; have Q2 := Lib.hid q2
            clear q1 q2
            go_wp2
            go_end0
            exact ⟨rfl, M, Q1.out, Q2.out, ON3.out⟩
      · obtain ⟨L', q1, q2⟩ := TT.out.norec1 _ RW2.out (fun h => g3 h.1)
        have S1 := Lib.hid q1; have S2 := Lib.hid q2
        clear q1 q2
        have RW3 := Lib.hid S2.out
        have ON3 := Lib.hid ON2.out
        by_cases g5 : mid < e
        · by_cases g6 : e < b
          · have CC := Lib.hid (TT.out.rec2 _ _ S1.out RW3.out g5 g6)
            go_wp2_with fail
            refine CC.out.mono ?_
            rintro ex w7 ⟨rfl, M, q1, q2, q3⟩
            have Q1 := Lib.hid q1; have Q2 := Lib.hid q2; have Q3 := Lib.hid q3
            clear q1 q2 q3
            go_wp2
            go_end0
            exact ⟨rfl, M, Q1.out, Q2.out, ON3.out.trans Q3.out (fun k => .inl)⟩
          · obtain ⟨M, q1, q2⟩ := TT.out.norec2 _ _ S1.out RW3.out (fun h => g6 h.2)
            have Q1 := Lib.hid q1; have Q2 := Lib.hid q2
            clear q1 q2
            go_wp2
            go_end0
            exact ⟨rfl, M, Q1.out, Q2.out, ON3.out⟩
        · obtain ⟨M, q1, q2⟩ := TT.out.norec2 _ _ S1.out RW3.out (fun h => g5 h.1)
          have Q1 := Lib.hid q1; have Q2 := Lib.hid q2
          clear q1 q2
          go_wp2
          go_end0
          exact ⟨rfl, M, Q1.out, Q2.out, ON3.out⟩
    · have S2 := Lib.hid (TT.out.norot _ I.out.row (fun h => g2 h.2))
      have RW2 := Lib.hid S2.out
      have ON2 := Lib.hid I.out.only
      by_cases g3 : a < s
      · by_cases g4 : s < mid
        · have CC := Lib.hid (TT.out.rec1 _ RW2.out g3 g4)
          go_wp2_with fail
          refine CC.out.mono ?_
          rintro ex w6 ⟨rfl, L', q1, q2, q3⟩
          have S1 := Lib.hid q1; have S2 := Lib.hid q2; have S3 := Lib.hid q3
          clear q1 q2 q3 CC
          have RW3 := Lib.hid S2.out
          have ON3 := Lib.hid (ON2.out.trans S3.out (fun k => .inl))
          by_cases g5 : mid < e
          · by_cases g6 : e < b
            · have CC := Lib.hid (TT.out.rec2 _ _ S1.out RW3.out g5 g6)
              go_wp2_with fail
              refine CC.out.mono ?_
              rintro ex w7 ⟨rfl, M, q1, q2, q3⟩
              have Q1 := Lib.hid q1; have Q2 := Lib.hid q2; have Q3 := Lib.hid q3
              clear q1 q2 q3
              go_wp2
              go_end0
              exact ⟨rfl, M, Q1.out, Q2.out, ON3.out.trans Q3.out (fun k => .inl)⟩
            · obtain ⟨M, q1, q2⟩ := TT.out.norec2 _ _ S1.out RW3.out (fun h => g6 h.2)
              have Q1 := Lib.hid q1; have Q2 := Lib.hid q2
              clear q1 q2
              go_wp2
              go_end0
              exact ⟨rfl, M, Q1.out, Q2.out, ON3.out⟩
          · obtain ⟨M, q1, q2⟩ := TT.out.norec2 _ _ S1.out RW3.out (fun h => g5 h.1)
            have Q1 := Lib.hid q1; have Q2 := Lib.hid q2
            clear q1 q2
            go_wp2
            go_end0
            exact ⟨rfl, M, Q1.out, Q2.out, ON3.out⟩
        · obtain ⟨L', q1, q2⟩ := TT.out.norec1 _ RW2.out (fun h => g4 h.2)
          have S1 := Lib.hid q1; have S2 := Lib.hid q2
          clear q1 q2
          have RW3 := Lib.hid S2.out
          have ON3 := Lib.hid ON2.out
          by_cases g5 : mid < e
          · by_cases g6 : e < b
            · have CC := Lib.hid (TT.out.rec2 _ _ S1.out RW3.out g5 g6)
              go_wp2_with fail
              refine CC.out.mono ?_
              rintro ex w7 ⟨rfl, M, q1, q2, q3⟩
              have Q1 := Lib.hid q1; have Q2 := Lib.hid q2; have Q3 := Lib.hid q3
              clear q1 q2 q3
              go_wp2
              go_end0
              exact ⟨rfl, M, Q1.out, Q2.out, ON3.out.trans Q3.out (fun k => .inl)⟩
            · obtain ⟨M, q1, q2⟩ := TT.out.norec2 _ _ S1.out RW3.out (fun h => g6 h.2)
              have Q1 := Lib.hid q1; have Q2 := Lib.hid q2
              clear q1 q2
              go_wp2
              go_end0
              exact ⟨rfl, M, Q1.out, Q2.out, ON3.out⟩
          · obtain ⟨M, q1, q2⟩ := TT.out.norec2 _ _ S1.out RW3.out (fun h => g5 h.1)
            have Q1 := Lib.hid q1; have Q2 := Lib.hid q2
            clear q1 q2
            go_wp2
            go_end0
            exact ⟨rfl, M, Q1.out, Q2.out, ON3.out⟩
      · obtain ⟨L', q1, q2⟩ := TT.out.norec1 _ RW2.out (fun h => g3 h.1)
        have S1 := Lib.hid q1; have S2 := Lib.hid q2
        clear q1 q2
        have RW3 := Lib.hid S2.out
        have ON3 := Lib.hid ON2.out
        by_cases g5 : mid < e
        · by_cases g6 : e < b
          · have CC := Lib.hid (TT.out.rec2 _ _ S1.out RW3.out g5 g6)
            go_wp2_with fail
            refine CC.out.mono ?_
            rintro ex w7 ⟨rfl, M, q1, q2, q3⟩
            have Q1 := Lib.hid q1; have Q2 := Lib.hid q2; have Q3 := Lib.hid q3
            clear q1 q2 q3
            go_wp2
            go_end0
            exact ⟨rfl, M, Q1.out, Q2.out, ON3.out.trans Q3.out (fun k => .inl)⟩
          · obtain ⟨M, q1, q2⟩ := TT.out.norec2 _ _ S1.out RW3.out (fun h => g6 h.2)
            have Q1 := Lib.hid q1; have Q2 := Lib.hid q2
            clear q1 q2
            go_wp2
            go_end0
            exact ⟨rfl, M, Q1.out, Q2.out, ON3.out⟩
        · obtain ⟨M, q1, q2⟩ := TT.out.norec2 _ _ S1.out RW3.out (fun h => g5 h.1)
          have Q1 := Lib.hid q1; have Q2 := Lib.hid q2
          clear q1 q2
          go_wp2
          go_end0
          exact ⟨rfl, M, Q1.out, Q2.out, ON3.out⟩
  · have S2 := Lib.hid (TT.out.norot _ I.out.row (fun h => g1 h.1))
    have RW2 := Lib.hid S2.out
    have ON2 := Lib.hid I.out.only
    by_cases g3 : a < s
    · by_cases g4 : s < mid
      · have CC := Lib.hid (TT.out.rec1 _ RW2.out g3 g4)
        go_wp2_with fail
        refine CC.out.mono ?_
        rintro ex w6 ⟨rfl, L', q1, q2, q3⟩
        have S1 := Lib.hid q1; have S2 := Lib.hid q2; have S3 := Lib.hid q3
        clear q1 q2 q3 CC
        have RW3 := Lib.hid S2.out
        have ON3 := Lib.hid (ON2.out.trans S3.out (fun k => .inl))
        by_cases g5 : mid < e
        · by_cases g6 : e < b
          · have CC := Lib.hid (TT.out.rec2 _ _ S1.out RW3.out g5 g6)
            go_wp2_with fail
            refine CC.out.mono ?_
            rintro ex w7 ⟨rfl, M, q1, q2, q3⟩
            have Q1 := Lib.hid q1; have Q2 := Lib.hid q2; have Q3 := Lib.hid q3
            clear q1 q2 q3
            go_wp2
            go_end0
            exact ⟨rfl, M, Q1.out, Q2.out, ON3.out.trans Q3.out (fun k => .inl)⟩
          · obtain ⟨M, q1, q2⟩ := TT.out.norec2 _ _ S1.out RW3.out (fun h => g6 h.2)
            have Q1 := Lib.hid q1; have Q2 := Lib.hid q2
            clear q1 q2
            go_wp2
            go_end0
            exact ⟨rfl, M, Q1.out, Q2.out, ON3.out⟩
        · obtain ⟨M, q1, q2⟩ := TT.out.norec2 _ _ S1.out RW3.out (fun h => g5 h.1)
          have Q1 := Lib.hid q1; have Q2 := Lib.hid q2
          clear q1 q2
          go_wp2
          go_end0
          exact ⟨rfl, M, Q1.out, Q2.out, ON3.out⟩
      · obtain ⟨L', q1, q2⟩ := TT.out.norec1 _ RW2.out (fun h => g4 h.2)
        have S1 := Lib.hid q1; have S2 := Lib.hid q2
        clear q1 q2
        have RW3 := Lib.hid S2.out
        have ON3 := Lib.hid ON2.out
        by_cases g5 : mid < e
        · by_cases g6 : e < b
          · have CC := Lib.hid (TT.out.rec2 _ _ S1.out RW3.out g5 g6)
            go_wp2_with fail
            refine CC.out.mono ?_
            rintro ex w7 ⟨rfl, M, q1, q2, q3⟩
            have Q1 := Lib.hid q1; have Q2 := Lib.hid q2; have Q3 := Lib.hid q3
            clear q1 q2 q3
            go_wp2
            go_end0
            exact ⟨rfl, M, Q1.out, Q2.out, ON3.out.trans Q3.out (fun k => .inl)⟩
          · obtain ⟨M, q1, q2⟩ := TT.out.norec2 _ _ S1.out RW3.out (fun h => g6 h.2)
            have Q1 := Lib.hid q1; have Q2 := Lib.hid q2
            clear q1 q2
            go_wp2
            go_end0
            exact ⟨rfl, M, Q1.out, Q2.out, ON3.out⟩
        · obtain ⟨M, q1, q2⟩ := TT.out.norec2 _ _ S1.out RW3.out (fun h => g5 h.1)
          have Q1 := Lib.hid q1; have Q2 := Lib.hid q2
          clear q1 q2
          go_wp2
          go_end0
          exact ⟨rfl, M, Q1.out, Q2.out, ON3.out⟩
    · obtain ⟨L', q1, q2⟩ := TT.out.norec1 _ RW2.out (fun h => g3 h.1)
      have S1 := Lib.hid q1; have S2 := Lib.hid q2
      clear q1 q2
      have RW3 := Lib.hid S2.out
      have ON3 := Lib.hid ON2.out
      by_cases g5 : mid < e
      · by_cases g6 : e < b
        · have CC := Lib.hid (TT.out.rec2 _ _ S1.out RW3.out g5 g6)
          go_wp2_with fail
          refine CC.out.mono ?_
          rintro ex w7 ⟨rfl, M, q1, q2, q3⟩
          have Q1 := Lib.hid q1; have Q2 := Lib.hid q2; have Q3 := Lib.hid q3
          clear q1 q2 q3
          go_wp2
          go_end0
          exact ⟨rfl, M, Q1.out, Q2.out, ON3.out.trans Q3.out (fun k => .inl)⟩
        · obtain ⟨M, q1, q2⟩ := TT.out.norec2 _ _ S1.out RW3.out (fun h => g6 h.2)
          have Q1 := Lib.hid q1; have Q2 := Lib.hid q2
          clear q1 q2
          go_wp2
          go_end0
          exact ⟨rfl, M, Q1.out, Q2.out, ON3.out⟩
      · obtain ⟨M, q1, q2⟩ := TT.out.norec2 _ _ S1.out RW3.out (fun h => g5 h.1)
        have Q1 := Lib.hid q1; have Q2 := Lib.hid q2
        clear q1 q2
        go_wp2
        go_end0
        exact ⟨rfl, M, Q1.out, Q2.out, ON3.out⟩
end Go.Proofs.Ytkgcnmloojnblaa.wlU
