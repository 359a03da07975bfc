/- Package span's fifth law, walked: it returns true, for every input. Condition: the arguments fit their kinds. -/
import Derived.Test.YtejknbpadlidaaaSpanV
namespace Go.Proofs.Ytejknbpadlidaaa.sp
open Go.RowKit Go.Shelf Go.Lib Go.Sort Go.Proofs.Ytejknbpadlidaaa.spm
set_option linter.unusedVariables false

theorem gapF (zs : List Sp) (v : Int) (hc : Canon (-1) zs) (hU : U zs) (hmay : mayB zs = true) (h0 : 0 ≤ v) (h1 : v ≤ 18446744073709551615) :
    ∃ g, Hid (gapL zs v = g) ∧ v ≤ g ∧ g ≤ 18446744073709551615 ∧ Hid (hasB zs g = false) ∧ Hid (v < g → coversL zs v g = true) := by
  have e : gapL zs v = match zs.find? (inB · v) with | some s => s.2 | none => v := rfl
  cases hf : zs.find? (inB · v) with
  | none =>
    rw [hf] at e
    exact ⟨v, e, Int.le_refl _, h1, Bool.eq_false_iff.2 (fun h => find_none hf ((hasB_iff _ _).1 h)), fun h => absurd h (Int.lt_irrefl _)⟩
  | some s =>
    rw [hf] at e
    obtain ⟨hs, a1, a2⟩ := find_some hf
    refine ⟨s.2, e, by omega, (hU s hs).2.2.2, Bool.eq_false_iff.2 (fun h => (hc.end_ hs).1 ((hasB_iff _ _).1 h)), fun h => ?_⟩
    have h3 : covB zs v s.2 = true := List.any_eq_true.2 ⟨s, hs, by simp; omega⟩
    unfold coversL
    rw [hmay, h3]
    simp
    omega
theorem startF (zs : List Sp) (q : Nat) (y1 y2 : Int) (hc : Canon (-1) zs) (h : zs[q]? = some (y1, y2)) : Hid (hasB zs y1 = true) ∧ Hid (hasB zs (y1 - 1) = false) := by
  have hs := List.mem_of_getElem? h
  exact ⟨(hasB_iff _ _).2 ⟨_, hs, Int.le_refl _, (hc.lo hs).2⟩, Bool.eq_false_iff.2 (fun h => (hc.end_ hs).2 ((hasB_iff _ _).1 h))⟩
theorem topF (zs : List Sp) (hU : U zs) : hasB zs 18446744073709551615 = false :=
  Bool.eq_false_iff.2 (fun h => by
    obtain ⟨s, hs, h1, h2⟩ := (hasB_iff _ _).1 h
    have := hU s hs
    omega)
theorem u64sub (y : Int) (h0 : 0 < y) (h1 : y ≤ 18446744073709551615) : IntKind.u64.wrap (y - 1) = y - 1 := by rw [u64w]; omega

set_option maxHeartbeats 4000000 in
set_option maxRecDepth 100000 in
theorem lawGaps (A : Option Addr) (n c : Nat) (xs : List (Int × Int)) (v0 : Int) (w : World) (hr : Rd w A xs) (hn : xs.length = n) (hm : n ≤ maxLen) (hU : U xs) (hv : 0 ≤ v0 ∧ v0 ≤ 18446744073709551615) :
    Calls Try.prog 8 #[.slice A n c, .int .u64 v0] w fun e w' => e = .returned (.bool true) ∧ RowKit.Below w.heap.size w w' := by
  clear hm
  by_cases hlong : 60 < n
  · clear hr hn hU
    go_enter Try.func8, Try.ntmps8
    go_wp2_with fail
    refine (aliveC _).mono ?_
    rintro e w1 ⟨rfl, hb1⟩
    go_wp2
    go_ret
    exact ⟨rfl, hb1⟩
  · have HN := Lib.hid hn; clear hn
    go_enter Try.func8, Try.ntmps8
    go_wp2
    go_loopw [5, 6] (fun s i wr => ∃ (k m c1 : Nat) (A1 : Option Addr) (zs : List Sp), k ≤ n ∧ i = .int .i64 k ∧ s = .slice A1 m c1 ∧ Hid (zs.length = m) ∧ m ≤ k ∧ Hid (Canon (-1) zs) ∧ Hid (U zs) ∧ Rd wr A1 zs ∧ RowKit.Below w.heap.size w wr) (fun _ i _ => n - (intOf i).toNat)
    case atStart => exact ⟨0, 0, 0, none, [], Nat.zero_le _, rfl, rfl, rfl, Nat.le_refl _, trivial, (fun s hs => by cases hs), (fun h => absurd rfl h), RowKit.Below.refl _ _⟩
    case round =>
      obtain ⟨k, m, c1, A1, zs, hk, rfl, rfl, hm1, hmk, hcan, hUz, hrd, hb⟩ := hrel
      by_cases hlt : k < n
      · obtain ⟨bb, off, rfl, hbl, x1, x2, c1', c2', hx⟩ := (hr.below hb (Nat.le_refl _)).at_ (k := k) (by rw [HN.out]; exact hlt)
        have hxU : 0 ≤ x1 ∧ x1 ≤ 18446744073709551615 ∧ 0 ≤ x2 ∧ x2 ≤ 18446744073709551615 := hU _ (List.mem_of_getElem? hx.out)
        clear hr hU hx HN
        go_wp2_with fail
        by_cases hxx : x2 < x1
        · refine (addK _ m c1 zs x1 x2 wr [] 2 0 (stepN zs x1 x2 true hcan.out hUz.out (by rw [hm1.out]; omega) hxx) rfl hrd hm1.out (by omega) hUz.out (by omega) (by omega)).mono ?_
          rintro e w1 ⟨A3, c3, rfl, hrd3, hb1⟩
          have hB1 := hb.trans (hb1.mono hb.size)
          replace hrd := hrd.up hb1
          go_wp2
          go_roundw
          case rel => exact ⟨k + 1, m, c1, A1, zs, by omega, by go_num, rfl, hm1, by omega, hcan, hUz, hrd, hB1⟩
          case measure => simp [intOf]; omega
        · obtain ⟨ys, m', hm', h1, h2, h3, h4, h5, h6⟩ := stepH zs x1 x2 true m hm1.out hcan.out hUz.out (by omega) (by omega) (by omega) (by omega)
          refine (addK _ m c1 zs x1 x2 wr ys 0 m' h1.out h4.out hrd hm1.out (by omega) hUz.out (by omega) (by omega)).mono ?_
          rintro e w1 ⟨A3, c3, rfl, hrd3, hb1⟩
          have hB1 := hb.trans (hb1.mono hb.size)
          clear hrd h1
          go_wp2
          go_roundw
          case rel => exact ⟨k + 1, m', c3, A3, ys, by omega, by go_num, rfl, h4, by omega, h2, h3, hrd3, hB1⟩
          case measure => simp [intOf]; omega
      · clear hr hU HN
        have hmay := Lib.hid ((mayB_can zs hUz.out.lo).2 ⟨by rw [hm1.out]; omega, hcan.out⟩)
        go_wp2
        go_loopw [9, 10] (fun nv i wq => ∃ (j : Nat) (v : Int), j ≤ m + 1 ∧ i = .int .i64 j ∧ nv = .int .u64 v ∧ 0 ≤ v ∧ v ≤ 18446744073709551615 ∧ RowKit.Below wr.heap.size wr wq) (fun _ i _ => m + 1 - (intOf i).toNat)
        case atStart => exact ⟨0, v0, Nat.zero_le _, rfl, rfl, hv.1, hv.2, RowKit.Below.refl _ _⟩
        case round =>
          obtain ⟨j, v, hj, rfl, rfl, hv0, hv1, hbq⟩ := hrel
          by_cases hjm : j ≤ m
          · have hrd1 := hrd.up hbq
            obtain ⟨g, hg, hgv, hgM, hgn, hgc⟩ := gapF zs v hcan.out hUz.out hmay.out hv0 hv1
            have hd : decide (g < v) = false := by simp; omega
            go_wp2_with fail
            refine (gapK A1 m c1 zs v g _ (by rw [if_pos hmay.out]; exact hg.out) hrd1 hm1.out (by omega) hUz.out).mono ?_
            rintro e w1 ⟨rfl, hb1⟩
            replace hrd1 := hrd1.up hb1
            have hB1 := hbq.trans (hb1.mono hbq.size)
            go_wp2_with fail
            refine (hasK A1 m c1 zs g false _ (by rw [hmay.out, hgn.out]; rfl) hrd1 hm1.out (by omega) hUz.out).mono ?_
            rintro e w2 ⟨rfl, hb2⟩
            replace hrd1 := hrd1.up hb2
            have hB2 := hB1.trans (hb2.mono hB1.size)
            by_cases hgt : v < g
            · have hd2 : decide (v < g) = true := by simp; omega
              have hgc' := Lib.hid (hgc.out hgt)
              go_wp2_with fail
              refine (coversK A1 m c1 zs v g true _ hgc'.out hrd1 hm1.out (by omega) hUz.out).mono ?_
              rintro e w3 ⟨rfl, hb3⟩
              replace hrd1 := hrd1.up hb3
              have hBt := hB2.trans (hb3.mono hB2.size)
              go_wp2
              go_loopw [12, 13] (fun nx kk wi => ∃ (q : Nat), q ≤ m ∧ kk = .int .i64 q ∧ nx = .int .u64 g ∧ w3 = wi) (fun _ kk _ => m - (intOf kk).toNat)
              case atStart => exact ⟨0, Nat.zero_le _, rfl, rfl, rfl⟩
              case round =>
                obtain ⟨q, hq, rfl, rfl, rfl⟩ := hrel
                by_cases hqm : q < m
                · obtain ⟨b3, off3, rfl, hbl3, y1, y2, d1, d2, hy⟩ := hrd1.at_ (k := q) (by rw [hm1.out]; exact hqm)
                  have hyU : 0 ≤ y1 ∧ y1 ≤ 18446744073709551615 ∧ 0 ≤ y2 ∧ y2 ≤ 18446744073709551615 := hUz.out _ (List.mem_of_getElem? hy.out)
                  by_cases hyg : g < y1
                  · obtain ⟨s1, s2⟩ := startF zs q y1 y2 hcan.out hy.out
                    have hwr := u64sub y1 (by omega) hyU.2.1
                    clear hy
                    go_wp2_with fail
                    refine (hasK _ m c1 zs (y1 - 1) false _ (by rw [hmay.out, s2.out]; rfl) hrd1 hm1.out (by omega) hUz.out).mono ?_
                    rintro e w4 ⟨rfl, hb4⟩
                    replace hrd1 := hrd1.up hb4
                    have hB4 := hBt.trans (hb4.mono hBt.size)
                    go_wp2_with fail
                    refine (hasK _ m c1 zs y1 true _ (by rw [hmay.out, s1.out]; rfl) hrd1 hm1.out (by omega) hUz.out).mono ?_
                    rintro e w5 ⟨rfl, hb5⟩
                    have hB5 := hB4.trans (hb5.mono hB4.size)
                    go_wp2
                    go_roundw
                    case rel => exact ⟨j + 1, y1, by omega, by go_num, rfl, hyU.1, hyU.2.1, hB5⟩
                    case measure => simp [intOf]; omega
                  · clear hy
                    go_wp2
                    go_roundw
                    case rel => exact ⟨q + 1, by omega, by go_num, rfl, trivial⟩
                    case measure => simp [intOf]; omega
                · go_wp2_with fail
                  refine (gapK A1 m c1 zs 18446744073709551615 18446744073709551615 _ (by rw [if_pos hmay.out]; exact gap_out (topF zs hUz.out)) hrd1 hm1.out (by omega) hUz.out).mono ?_
                  rintro e w4 ⟨rfl, hb4⟩
                  have hB4 := hBt.trans (hb4.mono hBt.size)
                  go_wp2_with fail
                  refine (aliveC _).mono ?_
                  rintro e w5 ⟨rfl, hb5⟩
                  go_wp2
                  go_ret
                  exact ⟨rfl, hb.trans ((hB4.trans (hb5.mono hB4.size)).mono hb.size)⟩
            · have hd2 : decide (v < g) = false := by simp; omega
              have hBt := hB2
              go_wp2
              go_loopw [12, 13] (fun nx kk wi => ∃ (q : Nat), q ≤ m ∧ kk = .int .i64 q ∧ nx = .int .u64 g ∧ w2 = wi) (fun _ kk _ => m - (intOf kk).toNat)
              case atStart => exact ⟨0, Nat.zero_le _, rfl, rfl, rfl⟩
              case round =>
                obtain ⟨q, hq, rfl, rfl, rfl⟩ := hrel
                by_cases hqm : q < m
                · obtain ⟨b3, off3, rfl, hbl3, y1, y2, d1, d2, hy⟩ := hrd1.at_ (k := q) (by rw [hm1.out]; exact hqm)
                  have hyU : 0 ≤ y1 ∧ y1 ≤ 18446744073709551615 ∧ 0 ≤ y2 ∧ y2 ≤ 18446744073709551615 := hUz.out _ (List.mem_of_getElem? hy.out)
                  by_cases hyg : g < y1
                  · obtain ⟨s1, s2⟩ := startF zs q y1 y2 hcan.out hy.out
                    have hwr := u64sub y1 (by omega) hyU.2.1
                    clear hy
                    go_wp2_with fail
                    refine (hasK _ m c1 zs (y1 - 1) false _ (by rw [hmay.out, s2.out]; rfl) hrd1 hm1.out (by omega) hUz.out).mono ?_
                    rintro e w4 ⟨rfl, hb4⟩
                    replace hrd1 := hrd1.up hb4
                    have hB4 := hBt.trans (hb4.mono hBt.size)
                    go_wp2_with fail
                    refine (hasK _ m c1 zs y1 true _ (by rw [hmay.out, s1.out]; rfl) hrd1 hm1.out (by omega) hUz.out).mono ?_
                    rintro e w5 ⟨rfl, hb5⟩
                    have hB5 := hB4.trans (hb5.mono hB4.size)
                    go_wp2
                    go_roundw
                    case rel => exact ⟨j + 1, y1, by omega, by go_num, rfl, hyU.1, hyU.2.1, hB5⟩
                    case measure => simp [intOf]; omega
                  · clear hy
                    go_wp2
                    go_roundw
                    case rel => exact ⟨q + 1, by omega, by go_num, rfl, trivial⟩
                    case measure => simp [intOf]; omega
                · go_wp2_with fail
                  refine (gapK A1 m c1 zs 18446744073709551615 18446744073709551615 _ (by rw [if_pos hmay.out]; exact gap_out (topF zs hUz.out)) hrd1 hm1.out (by omega) hUz.out).mono ?_
                  rintro e w4 ⟨rfl, hb4⟩
                  have hB4 := hBt.trans (hb4.mono hBt.size)
                  go_wp2_with fail
                  refine (aliveC _).mono ?_
                  rintro e w5 ⟨rfl, hb5⟩
                  go_wp2
                  go_ret
                  exact ⟨rfl, hb.trans ((hB4.trans (hb5.mono hB4.size)).mono hb.size)⟩
          · go_wp2_with fail
            refine (aliveC _).mono ?_
            rintro e w2 ⟨rfl, hb2⟩
            go_wp2
            go_ret
            exact ⟨rfl, hb.trans ((hbq.trans (hb2.mono hbq.size)).mono hb.size)⟩
end Go.Proofs.Ytejknbpadlidaaa.sp
