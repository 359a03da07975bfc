/- Package span's fourth law, walked: it returns true, for every input. Condition: the arguments fit their kinds. -/
import Derived.Test.YtejknbpadlidaaaSpanX
namespace Go.Proofs.Ytejknbpadlidaaa.sp
open Go.RowKit Go.Shelf Go.Lib Go.Sort Go.Proofs.Ytejknbpadlidaaa.spm
set_option linter.unusedVariables false

set_option maxHeartbeats 8000000 in
set_option maxRecDepth 100000 in
theorem lawOrder (A : Option Addr) (n c : Nat) (xs : List (Int × Int)) (xa xb ya yb : Int) (w : World) (hr : Rd w A xs) (hn : xs.length = n) (hm : n ≤ maxLen) (hU : U xs)
    (hxa : 0 ≤ xa ∧ xa ≤ 18446744073709551615) (hxb : 0 ≤ xb ∧ xb ≤ 18446744073709551615) (hya : 0 ≤ ya ∧ ya ≤ 18446744073709551615) (hyb : 0 ≤ yb ∧ yb ≤ 18446744073709551615) :
    Calls Try.prog 7 #[.slice A n c, .agg #[.int .u64 xa, .int .u64 xb], .agg #[.int .u64 ya, .int .u64 yb]] w fun e w' => e = .returned (.bool true) ∧ RowKit.Below w.heap.size w w' := by
  obtain ⟨W1, hW1⟩ : ∃ W, Hid (W = w.alloc (.cells #[.int .u64 xa, .int .u64 xb] 31)) := ⟨_, rfl⟩
  have hsz : W1.heap.size = w.heap.size + 1 := by rw [hW1.out]; simp
  obtain ⟨W, hW⟩ : ∃ W, Hid (W = W1.alloc (.cells #[.int .u64 ya, .int .u64 yb] 31)) := ⟨_, rfl⟩
  have hB0 : RowKit.Below w.heap.size w W1 := by rw [hW1.out]; exact (RowKit.Below.refl _ _).alloc (Nat.le_refl _) _
  have hB1 : RowKit.Below W1.heap.size W1 W := by rw [hW.out]; exact (RowKit.Below.refl _ _).alloc (Nat.le_refl _) _
  have hB : RowKit.Below w.heap.size w W := hB0.trans (hB1.mono hB0.size)
  have g1 : W.cell? ⟨w.heap.size, 0, none⟩ = some (.int .u64 xa) := cell_up hB1 (by rw [hW1.out]; go_simp)
  have g2 : W.cell? ⟨w.heap.size, 1, none⟩ = some (.int .u64 xb) := cell_up hB1 (by rw [hW1.out]; go_simp)
  have g3 : W.cell? ⟨w.heap.size + 1, 0, none⟩ = some (.int .u64 ya) := by rw [← hsz, hW.out]; go_simp
  have g4 : W.cell? ⟨w.heap.size + 1, 1, none⟩ = some (.int .u64 yb) := by rw [← hsz, hW.out]; go_simp
  have hl := hr.below hB (Nat.le_refl _)
  clear hm hr hB0 hB1 hsz
  by_cases hlong : 60 < n
  · clear hl hn hU g1 g2 g3 g4
    go_enter Try.func7, Try.ntmps7
    go_wp2_with fail
    rw [← hW1.out, ← hW.out]
    refine (aliveC _).mono ?_
    rintro e w1 ⟨rfl, hb1⟩
    go_wp2
    go_ret
    exact ⟨rfl, hB.trans (hb1.mono hB.size)⟩
  · have HN := Lib.hid hn; clear hn
    go_enter Try.func7, Try.ntmps7
    go_wp2
    rw [← hW1.out, ← hW.out]
    go_loopw [7, 8] (fun s i wr => ∃ (k m c1 : Nat) (A1 : Option Addr) (zs : List Sp), k ≤ n ∧ i = .int .i64 k ∧ s = .slice A1 m c1 ∧ Hid (zs.length = m) ∧ m ≤ k ∧ Hid (Canon (-1) zs) ∧ Hid (U zs) ∧ Rd wr A1 zs ∧ RowKit.Below W.heap.size W wr) (fun _ i _ => n - (intOf i).toNat)
    case atStart => exact ⟨0, 0, 0, none, [], Nat.zero_le _, rfl, rfl, rfl, Nat.le_refl _, trivial, (fun s hs => by cases hs), (fun h => absurd rfl h), RowKit.Below.refl _ _⟩
    case round =>
      obtain ⟨k, m, c1, A1, zs, hk, rfl, rfl, hm1, hmk, hcan, hUz, hrd, hb⟩ := hrel
      by_cases hlt : k < n
      · obtain ⟨bb, off, rfl, hbl, x1, x2, c1', c2', hx⟩ := (hl.up hb).at_ (k := k) (by rw [HN.out]; exact hlt)
        have hxU : 0 ≤ x1 ∧ x1 ≤ 18446744073709551615 ∧ 0 ≤ x2 ∧ x2 ≤ 18446744073709551615 := hU _ (List.mem_of_getElem? hx.out)
        clear hl hU hx HN g1 g2 g3 g4
        go_wp2_with fail
        by_cases hxx : x2 < x1
        · refine (addK _ m c1 zs x1 x2 wr [] 2 0 (stepN zs x1 x2 true hcan.out hUz.out (by rw [hm1.out]; omega) hxx) rfl hrd hm1.out (by omega) hUz.out (by omega) (by omega)).mono ?_
          rintro e w1 ⟨A3, c3, rfl, hrd3, hb1⟩
          have hB1 := hb.trans (hb1.mono hb.size)
          replace hrd := hrd.up hb1
          go_wp2
          go_roundw
          case rel => exact ⟨k + 1, m, c1, A1, zs, by omega, by go_num, rfl, hm1, by omega, hcan, hUz, hrd, hB1⟩
          case measure => simp [intOf]; omega
        · obtain ⟨ys, m', hm', h1, h2, h3, h4, h5, h6⟩ := stepH zs x1 x2 true m hm1.out hcan.out hUz.out (by omega) (by omega) (by omega) (by omega)
          refine (addK _ m c1 zs x1 x2 wr ys 0 m' h1.out h4.out hrd hm1.out (by omega) hUz.out (by omega) (by omega)).mono ?_
          rintro e w1 ⟨A3, c3, rfl, hrd3, hb1⟩
          have hB1 := hb.trans (hb1.mono hb.size)
          clear hrd h1
          go_wp2
          go_roundw
          case rel => exact ⟨k + 1, m', c3, A3, ys, by omega, by go_num, rfl, h4, by omega, h2, h3, hrd3, hB1⟩
          case measure => simp [intOf]; omega
      · clear hl hU HN
        replace g1 := cell_up hb g1; replace g2 := cell_up hb g2; replace g3 := cell_up hb g3; replace g4 := cell_up hb g4
        by_cases hxx : xb < xa
        · have hd : decide (xb < xa) = true := by simpa using hxx
          go_wp2_with fail
          refine (aliveC _).mono ?_
          rintro e w1 ⟨rfl, hb1⟩
          go_wp2
          go_ret
          exact ⟨rfl, hB.trans ((hb.trans (hb1.mono hb.size)).mono hB.size)⟩
        · have hd : decide (xb < xa) = false := by simpa using hxx
          by_cases hyy : yb < ya
          · have hd2 : decide (yb < ya) = true := by simpa using hyy
            go_wp2_with fail
            refine (aliveC _).mono ?_
            rintro e w1 ⟨rfl, hb1⟩
            go_wp2
            go_ret
            exact ⟨rfl, hB.trans ((hb.trans (hb1.mono hb.size)).mono hB.size)⟩
          · have hd2 : decide (yb < ya) = false := by simpa using hyy
            obtain ⟨za, ma, hma, a1, a2, a3, a4, a5, a6⟩ := stepH zs xa xb true m hm1.out hcan.out hUz.out (by omega) (by omega) (by omega) (by omega)
            obtain ⟨zb, mb, hmb, b1, b2, b3, b4, b5, b6⟩ := stepH za ya yb true ma a4.out a2.out a3.out (by omega) (by omega) (by omega) (by omega)
            obtain ⟨zc, mc, hmc, d1, d2, d3, d4, d5, d6⟩ := stepH zs ya yb true m hm1.out hcan.out hUz.out (by omega) (by omega) (by omega) (by omega)
            obtain ⟨zk, mk, hmk2, k1, k2, k3, k4, k5, k6⟩ := stepH zb xa xb false mb b4.out b2.out b3.out (by omega) (by omega) (by omega) (by omega)
            obtain ⟨e1, e2, covx, covy, covs, hask, lk, lb, l1, l2, wr1, wr2⟩ := orderF zs za zb zc zk xa xb ya yb mc mk (by omega) (by omega) (by omega) (by omega) hcan.out a2.out b2.out d2.out k2.out b3.out d3.out k3.out b5.out d4.out k4.out (by omega) (by omega) a6.out b6.out d6.out k6.out
            clear a6 b6 d6 k6 a5 d5
            go_wp2_with fail
            refine (addK A1 m c1 zs xa xb _ za 0 ma a1.out a4.out hrd hm1.out (by omega) hUz.out (by omega) (by omega)).mono ?_
            rintro e w1 ⟨Aa, ca, rfl, hra, hb1⟩
            replace hrd := hrd.up hb1
            replace g1 := cell_up hb1 g1; replace g2 := cell_up hb1 g2; replace g3 := cell_up hb1 g3; replace g4 := cell_up hb1 g4
            have hB1 := hb.trans (hb1.mono hb.size)
            clear hb hb1
            go_wp2_with fail
            refine (addK Aa ma ca za ya yb _ zb 0 mb b1.out b4.out hra a4.out (by omega) a3.out (by omega) (by omega)).mono ?_
            rintro e w2 ⟨Ab, cb, rfl, hrb, hb2⟩
            replace hrd := hrd.up hb2
            replace g1 := cell_up hb2 g1; replace g2 := cell_up hb2 g2; replace g3 := cell_up hb2 g3; replace g4 := cell_up hb2 g4
            have hB2 := hB1.trans (hb2.mono hB1.size)
            clear hB1 hb2 hra
            go_wp2_with fail
            refine (addK A1 m c1 zs ya yb _ zc 0 mc d1.out d4.out hrd hm1.out (by omega) hUz.out (by omega) (by omega)).mono ?_
            rintro e w3 ⟨Ac, cc, rfl, hrc, hb3⟩
            replace hrd := hrd.up hb3; replace hrb := hrb.up hb3
            replace g1 := cell_up hb3 g1; replace g2 := cell_up hb3 g2; replace g3 := cell_up hb3 g3; replace g4 := cell_up hb3 g4
            have hB3 := hB2.trans (hb3.mono hB2.size)
            clear hB2 hb3
            go_wp2_with fail
            refine (addK Ac mc cc zc xa xb _ zb 0 mb e1.out b4.out hrc d4.out (by omega) d3.out (by omega) (by omega)).mono ?_
            rintro e w4 ⟨Ad, cd, rfl, hre, hb4⟩
            replace hrd := hrd.up hb4; replace hrb := hrb.up hb4
            replace g1 := cell_up hb4 g1; replace g2 := cell_up hb4 g2; replace g3 := cell_up hb4 g3; replace g4 := cell_up hb4 g4
            have hB4 := hB3.trans (hb4.mono hB3.size)
            clear hB3 hb4 hrc
            go_wp2_with fail
            refine (sameY Ab Ad mb cb cd zb _ hrb b4.out hre (by unfold maxLen; omega)).mono ?_
            rintro e w5 ⟨rfl, hb5⟩
            replace hrd := hrd.up hb5; replace hrb := hrb.up hb5
            replace g1 := cell_up hb5 g1; replace g2 := cell_up hb5 g2; replace g3 := cell_up hb5 g3; replace g4 := cell_up hb5 g4
            have hB5 := hB4.trans (hb5.mono hB4.size)
            clear hB4 hb5 hre
            go_wp2_with fail
            refine (coversK Ab mb cb zb xa xb true _ covx.out hrb b4.out (by omega) b3.out).mono ?_
            rintro e w6 ⟨rfl, hb6⟩
            replace hrd := hrd.up hb6; replace hrb := hrb.up hb6
            replace g1 := cell_up hb6 g1; replace g2 := cell_up hb6 g2; replace g3 := cell_up hb6 g3; replace g4 := cell_up hb6 g4
            have hB6 := hB5.trans (hb6.mono hB5.size)
            clear hB5 hb6
            go_wp2_with fail
            refine (coversK Ab mb cb zb ya yb true _ covy.out hrb b4.out (by omega) b3.out).mono ?_
            rintro e w7 ⟨rfl, hb7⟩
            replace hrd := hrd.up hb7; replace hrb := hrb.up hb7
            replace g1 := cell_up hb7 g1; replace g2 := cell_up hb7 g2
            have hB7 := hB6.trans (hb7.mono hB6.size)
            clear hB6 hb7 g3 g4
            go_wp2
            go_loopw [19] (fun i wq => ∃ j : Nat, j ≤ m ∧ i = .int .i64 j ∧ RowKit.Below w7.heap.size w7 wq) (fun i _ => m - (intOf i).toNat)
            case atStart => exact ⟨0, Nat.zero_le _, rfl, RowKit.Below.refl _ _⟩
            case round =>
              obtain ⟨j, hj, rfl, hbq⟩ := hrel
              replace hrb := hrb.up hbq
              by_cases hjm : j < m
              · obtain ⟨b8, off8, rfl, hbl8, z1, z2, q1, q2, hz⟩ := (hrd.up hbq).at_ (k := j) (by rw [hm1.out]; exact hjm)
                have hcz := Lib.hid (covs.out j z1 z2 hz.out)
                clear hz g1 g2
                go_wp2_with fail
                refine (coversK Ab mb cb zb z1 z2 true _ hcz.out hrb b4.out (by omega) b3.out).mono ?_
                rintro e w8 ⟨rfl, hb8⟩
                go_wp2
                go_roundw
                case rel => exact ⟨j + 1, by omega, by go_num, hbq.trans (hb8.mono hbq.size)⟩
                case measure => simp [intOf]; omega
              · clear hrd covs
                replace g1 := cell_up hbq g1; replace g2 := cell_up hbq g2
                have hB8 := hB7.trans (hbq.mono hB7.size)
                clear hB7 hbq
                go_wp2_with fail
                refine (cutK Ab mb cb zb xa xb _ zk 0 mk k1.out k4.out hrb b4.out (by omega) b3.out (by omega) (by omega)).mono ?_
                rintro e w8 ⟨Ak, ck, rfl, hrk, hb8⟩
                replace hrb := hrb.up hb8
                replace g1 := cell_up hb8 g1; replace g2 := cell_up hb8 g2
                have hB9 := hB8.trans (hb8.mono hB8.size)
                clear hB8 hb8
                go_wp2_with fail
                refine (addK Ak mk ck zk xa xb _ zb 0 mb e2.out b4.out hrk k4.out (by omega) k3.out (by omega) (by omega)).mono ?_
                rintro e w9 ⟨Am, cm, rfl, hrm, hb9⟩
                replace hrb := hrb.up hb9; replace hrk := hrk.up hb9
                replace g1 := cell_up hb9 g1; replace g2 := cell_up hb9 g2
                have hB10 := hB9.trans (hb9.mono hB9.size)
                clear hB9 hb9
                replace g1 := Kin.cell g1; replace g2 := Kin.cell g2
                have H25 := Lib.hid (fun (t : Kin w9) => sameY Am Ab mb cm cb zb t.w (hrm.up t.below) b4.out (hrb.up t.below) (by unfold maxLen; omega))
                have H32k := Lib.hid (fun (t : Kin w9) => lenK Ak mk ck zk lk t.w (by rw [if_pos k5.out]; exact l1.out) (hrk.up t.below) k4.out (by omega) k3.out)
                have H32b := Lib.hid (fun (t : Kin w9) => lenK Ab mb cb zb lb t.w (by rw [if_pos b5.out]; exact l2.out) (hrb.up t.below) b4.out (by omega) b3.out)
                have H19 := Lib.hid (fun (t : Kin w9) => aliveC t.w)
                by_cases hxe : xa < xb
                · have hd3 : decide (xa < xb) = true := by simpa using hxe
                  have H26 := Lib.hid (fun (t : Kin w9) => hasK Ak mk ck zk xa false t.w (by rw [k5.out, hask.out hxe]; rfl) (hrk.up t.below) k4.out (by omega) k3.out)
                  clear hrb hrk hrm hask covx covy l1 l2 k1 k2 k3 k4 k5 b1 b2 b3 b4 b5 e1 e2 a1 a2 a3 a4 d1 d2 d3 d4 hUz hcan hm1
                  have HF := Lib.hid (fun (w10 : World) (h : RowKit.Below w9.heap.size w9 w10) => hB.trans ((hB10.trans (h.mono hB10.size)).mono hB.size))
                  clear hB hB10 hlong hk hmk hma hmb hmc hmk2 hxx hd hyy hd2 hj hjm hlt hxa hxb hya hyb hW hW1 hxe
                  go_wp2_with fail
                  refine wp_region_kin (by kernel_rfl) (by kernel_rfl) ?_
                  repeat (go_big_quiet_step ((first | (go_at_call 26; exact Kin.call _ (H26.out _)) | (go_at_call 25; exact Kin.call _ (H25.out _)))))
                  go_big_quiet_step ((go_at_call 32; exact Kin.call _ (H32k.out _)))
                  repeat (go_big_quiet_step (fail))
                  go_big_quiet_step ((go_at_call 32; exact Kin.call _ (H32b.out _)))
                  repeat (go_big_quiet_step ((go_at_call 19; exact Kin.call _ (H19.out _))))
                  refine wpQuiet_nil ?_
                  rintro _ ⟨⟨w10, hb10⟩, rfl⟩
                  go_wp2
                  go_ret
                  exact ⟨rfl, HF.out _ hb10⟩
                · have hd3 : decide (xa < xb) = false := by simpa using hxe
                  clear hrb hrk hrm hask covx covy l1 l2 k1 k2 k3 k4 k5 b1 b2 b3 b4 b5 e1 e2 a1 a2 a3 a4 d1 d2 d3 d4 hUz hcan hm1
                  have HF := Lib.hid (fun (w10 : World) (h : RowKit.Below w9.heap.size w9 w10) => hB.trans ((hB10.trans (h.mono hB10.size)).mono hB.size))
                  clear hB hB10 hlong hk hmk hma hmb hmc hmk2 hxx hd hyy hd2 hj hjm hlt hxa hxb hya hyb hW hW1 hxe
                  go_wp2_with fail
                  refine wp_region_kin (by kernel_rfl) (by kernel_rfl) ?_
                  repeat (go_big_quiet_step ((go_at_call 25; exact Kin.call _ (H25.out _))))
                  go_big_quiet_step ((go_at_call 32; exact Kin.call _ (H32k.out _)))
                  repeat (go_big_quiet_step (fail))
                  go_big_quiet_step ((go_at_call 32; exact Kin.call _ (H32b.out _)))
                  repeat (go_big_quiet_step ((go_at_call 19; exact Kin.call _ (H19.out _))))
                  refine wpQuiet_nil ?_
                  rintro _ ⟨⟨w10, hb10⟩, rfl⟩
                  go_wp2
                  go_ret
                  exact ⟨rfl, HF.out _ hb10⟩
end Go.Proofs.Ytejknbpadlidaaa.sp
