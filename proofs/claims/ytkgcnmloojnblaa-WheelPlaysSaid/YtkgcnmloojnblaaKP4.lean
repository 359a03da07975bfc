/- P: contracts, part 4. Condition: as each says. -/
import Derived.Test.YtkgcnmloojnblaaKP2
import Derived.Test.YtkgcnmloojnblaaKPOAN13
import Derived.Deep.CutBlock
set_option linter.unusedVariables false
set_option linter.unusedSimpArgs false
namespace Go.Proofs.Ytkgcnmloojnblaa.wh
open Go.RowKit Go.Shelf Go.Lib Go.Proofs.Ytkgcnmloojnblaa.nb Go.Proofs.Ytkgcnmloojnblaa.ck
set_option linter.unusedVariables false

set_option maxHeartbeats 8000000 in
set_option maxRecDepth 100000 in
theorem plays_good {LW : WP} (W : WhS LW) (now most : Int) (A : Option Addr) (n c : Nat) (xs : List St) (w : World) (hh : Calls Try.prog 7 #[.slice A n c] w fun e w' => (∃ bv, e = .returned (.bool bv) ∧ (bv = false → n ≤ 300)) ∧ Up w w') (hr : RdP w A xs) (hn : xs.length = n) (hts : ∀ x ∈ xs, OkSt x)
    (h0 : mayB now = true) (h1 : 0 ≤ most) (h2 : most ≤ 4096) :
    Calls Try.prog 3 #[.int .i64 now, .int .i64 most, .slice A n c] w fun e w' => e = .returned (.bool true) ∧ Up w w' := by
  have WW := Lib.hid W
  have H0 := Lib.hid h0; have H1 := Lib.hid h1; have H2 := Lib.hid h2
  have HR := Lib.hid hr; have HN := Lib.hid hn; have HT := Lib.hid hts
  obtain ⟨n1, n2⟩ := mayB_iff.1 h0
  clear W hr hn h0 hts
  go_enter Try.func3, Try.ntmps3
  go_wp2_with fail
  refine hh.mono ?_
  rintro e w1 ⟨⟨bv, rfl, hb2⟩, u1⟩
  cases bv
  case true =>
    go_wp2_with (go_at_call 8; refine (worksC WW.out _).mono ?_; rintro e w2 ⟨rfl, u2⟩)
    go_ret
    exact ⟨rfl, u1.on u2⟩
  have hn3 := hb2 rfl
  clear hb2
  go_wp2_with fail
  refine (oNew WW.out.toWh now most _ H0.out H1.out H2.out).mono ?_
  rintro e w2 ⟨b, rfl, T2⟩
  have T3 := Lib.hid ((Two.new WW.out T2).back (Only.up (F := fun _ => False) u1) (fun k h => h.elim))
  clear T2 u1
  go_wp2_with fail
  go_loopw [10] (fun i wr => ∃ j : Nat, j ≤ n ∧ i = .int .i64 j ∧ ∃ nw x, TwoE LW RW w (fun _ => False) wr b w2.heap.size nw x nw x most) (fun i _ => n - (intOf i).toNat)
  case atStart => exact ⟨0, Nat.zero_le _, rfl, _, _, T3.out⟩
  case round =>
    obtain ⟨j, hj, rfl, nw, x, hT⟩ := hrel
    have T4 := Lib.hid hT
    have hu := hT.on.none_up (fun _ => id)
    have HU := Lib.hid hu
    clear T3 hT
    by_cases hlt : j < n
    · obtain ⟨g, off, d, k, o, t, e, hg, c0, c1, c2, c3, hx⟩ := (HR.out.up hu).at_ (k := j) (by rw [HN.out]; exact hlt)
      subst e
      have it : I64 t := (HT.out _ (List.mem_of_getElem? hx.out)).t
      clear hx hu
      go_upto_block 2 with fail
      obtain ⟨Z, HT5, hZ⟩ := T4.out.rebase (obW WW.out.toWh) obR (up_al (.cells #[.int .i64 d, .string k, .string o, .int .i64 t] 34) (Below.refl _ wr))
      have T5 := Lib.hid HT5
      have hnz : ¬ Z wr.heap.size := fun h => by have := (hZ _ h).1; omega
      have hZ2 := Lib.hid (show ∀ k, Z k → (fun _ => False) k ∨ w.heap.size ≤ k from fun k h => (hZ k h).2)
      have hO2 := Lib.hid (T4.out.on.on (up_al (.cells #[.int .i64 d, .string k, .string o, .int .i64 t] 34) (Below.refl _ wr)))
      have hB := Box.new wr #[.int .i64 d, .string k, .string o, .int .i64 t] 34
      clear HT5 hZ
      clear c0 c1 c2 c3
      generalize hgw : wr.alloc (.cells #[.int .i64 d, .string k, .string o, .int .i64 t] 34) = ws at T5 hO2 hB ⊢
      have hnz2 := Lib.hid hnz
      have b1 := hB.at 1 rfl; have b2 := hB.at 2 rfl; have b3 := hB.at 3 rfl
      generalize hgb : wr.heap.size = gb at hnz2 b1 b2 b3 ⊢
      have hlt2 := hB.1
      rw [hgb] at hlt2
      clear hB hnz hgw
      go_cut [12] (fun f wc => f = .bool true ∧ ∃ nw' x', TwoE LW RW ws Z wc b w2.heap.size nw' x' nw' x' most)
      case first =>
        by_cases d0 : d = 0
        · subst d0
          have hq : ∀ y : Int, decide (y = y) = true := fun y => decide_eq_true rfl
          go_wp2_with fail
          go_region_held3 (fun w' => w'.cell? ⟨gb, 1, none⟩ = some (.string k) ∧ w'.cell? ⟨gb, 3, none⟩ = some (.int .i64 t)) (first | exact ⟨b1, b3⟩ | exact ⟨T7.out.cell b1 hnz2.out, T7.out.cell b3 hnz2.out⟩ | exact ⟨T6.out.cell b1 hnz2.out, T6.out.cell b3 hnz2.out⟩) (first
            | (go_at_call 10; refine (cSetL WW.out (T5.out.same (obW WW.out.toWh) obR (by repeat (first | assumption | exact Below.refl _ _ | apply up_dr | apply up_drN))) k t it).mono ?_; rintro e w6 ⟨rfl, t6⟩; have T6 := Lib.hid t6; clear t6)
            | (go_at_call 11; refine (cSetR WW.out T6.out k t).mono ?_; rintro e w7 ⟨rfl, t7⟩; have T7 := Lib.hid t7; clear t7))
          go_wp2
          go_meet
          exact ⟨by simp, _, _, T7.out⟩
        by_cases d1 : d = 1
        · subst d1
          have hs := stopC_bd x k
          have hs2 := stopC_bd (stopL x k) o
          have E := Lib.hid (show stopsC x [k, o] = stopC x k + stopC (stopL x k) o by simp [stopsC])
          go_wp2_with fail
          refine (cStopL WW.out T5.out (up_al _ (Below.refl _ _)) _ _ [k, o] (RdK.new2 _ _ _ _) (fun g off e => by cases e; exact Nat.le_refl _) (Nat.le_refl 2)).mono ?_
          rintro e w6 ⟨rfl, t6⟩
          rw [E.out]
          have T6 := Lib.hid t6
          have b1' := t6.cell b1 hnz2.out
          clear t6
          go_wp2_with fail
          refine (cStopR WW.out T6.out k).mono ?_
          rintro e w7 ⟨rfl, t7⟩
          have T7 := Lib.hid t7
          have b2' := t7.cell b2 hnz2.out
          clear t7
          go_wp2_with fail
          refine (cStopR WW.out T7.out o).mono ?_
          rintro e w8 ⟨rfl, t8⟩
          have T8 := Lib.hid t8
          clear t8
          generalize stopC x k = s1 at *
          generalize stopC (stopL x k) o = s2 at *
          go_wp2
          go_meet
          exact ⟨by simp, _, _, T8.out⟩
        by_cases d2 : d = 2
        · subst d2
          go_wp2_with fail
          refine (cGoL WW.out T5.out t it).mono ?_
          rintro e w6 ⟨A1, m1, cp1, Z1, rfl, t6, hz1, ho1, hl1⟩
          have T6 := Lib.hid t6; have L1 := Lib.hid hl1; have HZ1 := Lib.hid hz1; have HO1 := Lib.hid ho1
          have hnz1 := Lib.hid (show ¬ Z1 gb from fun h => (hz1 gb h).elim hnz2.out (fun e => by omega))
          have b3' := (ho1.cell (p := ⟨gb, 3, none⟩) hlt2 hnz2.out).trans b3
          clear t6 hl1 hz1 ho1
          go_wp2_with fail
          refine (cGoR WW.out T6.out t).mono ?_
          rintro e w7 ⟨A2, m2, cp2, rfl, t7, hl2⟩
          have T7 := Lib.hid (t7.back HO1.out HZ1.out)
          have L1' := Lib.hid (L1.out.only t7.on (fun _ _ _ h => h) (fun _ _ _ h => h))
          have L2 := Lib.hid hl2
          obtain rfl : m2 = m1 := hl2.len.trans L1.out.len.symm
          have hm1 : m2 ≤ 4096 := by
            have := hl2.len; rw [this]; unfold goT; split
            · have := (told_all _ x t rfl).2.2.2.length_eq
              have := T5.out.len1
              rw [List.length_append] at *; omega
            · simp
          clear t7 hl2 L1 HZ1 HO1
          go_wp2_with fail
          go_loopw [12, 20] (fun f i wq => ∃ q : Nat, q ≤ m2 ∧ i = .int .i64 q ∧ f = .bool true ∧ Up w7 wq) (fun f i _ => m2 - (intOf i).toNat)
          case atStart => exact ⟨0, Nat.zero_le _, rfl, by simp, Below.refl _ _⟩
          case round =>
            obtain ⟨q, hq, rfl, rfl, hu7⟩ := hrel
            by_cases hq2 : q < m2
            · obtain ⟨g1, off1, s1, v1, e1, a0, a1, ha⟩ := (L1'.out.only (Only.up (F := fun _ => False) hu7) (fun _ _ _ _ => id) (fun _ _ _ h => h)).at_ hq2
              obtain ⟨g2, off2, s2, v2, e2, a2, a3, ha2⟩ := (L2.out.only (Only.up (F := fun _ => False) hu7) (fun _ _ _ _ => id) (fun _ _ _ h => h)).at_ hq2
              subst e1 e2
              have he := ha.out.symm.trans ha2.out
              cases he
              have hk : (s1.toList == s1.toList) = true := beq_self_eq_true _
              have hv : decide (v1 = v1) = true := decide_eq_true rfl
              clear ha ha2
              go_upto_region 29 with fail
              go_quiet (fail)
              go_wp2
              go_roundw
              case rel => exact ⟨q + 1, by omega, by go_num, by simp, up_drN _ hu7⟩
              case measure => simp [RowKit.intOf]; omega
            · obtain rfl : q = m2 := by omega
              go_wp2
              go_meet
              exact ⟨rfl, _, _, T7.out.same (obW WW.out.toWh) obR hu7⟩
        · go_wp2
          go_meet
          exact ⟨rfl, _, _, T5.out⟩
      case rest =>
        obtain ⟨rfl, nw2, x2, hT9⟩ := hcut
        have T9 := Lib.hid hT9
        have b1' := hT9.cell b1 hnz2.out
        clear hT9
        go_wp2_with fail
        refine (cAtL WW.out T9.out k).mono ?_
        rintro e v1 ⟨rfl, t10⟩
        have T10 := Lib.hid t10
        have b1'' := t10.cell b1 hnz2.out
        clear t10
        go_wp2_with fail
        refine (cAtR WW.out T10.out k).mono ?_
        rintro e v2 ⟨rfl, t11⟩
        have T11 := Lib.hid t11
        clear t11
        go_wp2_with fail
        refine (cNextL WW.out T11.out).mono ?_
        rintro e v3 ⟨rfl, t12⟩
        have T12 := Lib.hid t12
        clear t12
        go_wp2_with fail
        refine (cNextR WW.out T12.out).mono ?_
        rintro e v4 ⟨rfl, t13⟩
        have T13 := Lib.hid t13
        clear t13
        generalize atV x2 k = av
        generalize nextV x2 = nv
        obtain ⟨av1, av2⟩ := av
        obtain ⟨nv1, nv2⟩ := nv
        obtain ⟨RA, rc, r0, r2⟩ := T13.out.ref
        have HLn := Lib.hid T13.out.len2
        have J1 := Lib.hid (fun (t : Kin v4) => cLenL WW.out (T13.out.same (obW WW.out.toWh) obR t.up))
        have J2 := Lib.hid (fun (t : Kin v4) => cNowL WW.out (T13.out.same (obW WW.out.toWh) obR t.up))
        go_upto_region 34 with fail
        replace r0 := Kin.cell r0; replace r2 := Kin.cell r2
        clear b1 b2 b3 b1' b1'' it h1 h2 n1 n2
        refine wp_region_kin (by kernel_rfl) (by kernel_rfl) ?_
        repeat (go_big_quiet_step (first
          | (go_at_call 20; exact Kin.call _ (J1.out _))
          | (go_at_call 21; exact Kin.call _ (J2.out _))))
        refine wpQuiet_nil ?_
        rintro _ ⟨⟨w9, hb9⟩, rfl⟩
        go_wp2
        go_roundw
        case rel => exact ⟨j + 1, by omega, by go_num, nw2, x2, (T13.out.same (obW WW.out.toWh) obR hb9).back hO2.out hZ2.out⟩
        case measure => simp [RowKit.intOf]; omega
    · obtain rfl : j = n := by omega
      go_wp2_with (go_at_call 8; refine (worksC WW.out _).mono ?_; rintro e w5 ⟨rfl, u5⟩)
      go_ret
      exact ⟨rfl, HU.out.on u5⟩
end Go.Proofs.Ytkgcnmloojnblaa.wh
