/- O: contracts, part 4. Condition: as each says. -/
import Derived.Test.YtkgcnmloojnblaaKO3
import Derived.Deep.CutBlock
import Derived.Maps.OwnOps
set_option linter.unusedVariables false
set_option linter.unusedSimpArgs false
namespace Go.Proofs.Ytkgcnmloojnblaa.wh
open Go.RowKit Go.Shelf Go.Lib Go.Proofs.Ytkgcnmloojnblaa.nb Go.Proofs.Ytkgcnmloojnblaa.ck
set_option linter.unusedVariables false

set_option maxHeartbeats 8000000 in
set_option maxRecDepth 100000 in
theorem lawOnce {LW : WP} (W : WhS LW) (A : Option Addr) (n c : Nat) (xs : List St) (w : World) (hh : Calls Try.prog 7 #[.slice A n c] w fun e w' => (∃ bv, e = .returned (.bool bv) ∧ (bv = false → n ≤ 300)) ∧ Up w w') (hr : RdP w A xs) (hn : xs.length = n) (hts : ∀ x ∈ xs, OkSt x) :
    Calls Try.prog 4 #[.slice A n c] w fun e w' => e = .returned (.bool true) ∧ Up w w' := by
  have WW := Lib.hid W
  have HR := Lib.hid hr; have HN := Lib.hid hn; have HT := Lib.hid hts
  have hmm := @run_makeMap Try.prog
  clear W hr hn hts
  go_enter Try.func4, Try.ntmps4
  go_wp2_with fail
  refine hh.mono ?_
  rintro e w1 ⟨⟨bv, rfl, hb2⟩, u1⟩
  cases bv
  case true =>
    go_wp2_with (go_at_call 8; refine (worksC WW.out _).mono ?_; rintro e w2 ⟨rfl, u2⟩)
    go_ret
    exact ⟨rfl, u1.on u2⟩
  have hn3 := hb2 rfl
  clear hb2
  go_wp2_with fail
  refine (oNew WW.out.toWh 0 4096 _ rfl (by omega) (by omega)).mono ?_
  rintro e w2 ⟨b, rfl, T2⟩
  have T3 := Lib.hid ((MWE.new WW.out T2).back (Only.up (F := fun _ => False) u1) (fun k h => h.elim))
  clear T2 u1
  go_wp2_with fail
  go_loopw [6] (fun i wr => ∃ j : Nat, j ≤ n ∧ i = .int .i64 j ∧ ∃ nw x D, MWE LW w (fun _ => False) wr b nw x w2.heap.size j D ∧ MapIs D x) (fun i _ => n - (intOf i).toNat)
  case atStart => exact ⟨0, Nat.zero_le _, rfl, _, _, _, T3.out, MapIs.nil_⟩
  case round =>
    obtain ⟨j, hj, rfl, nw, x, D, hT, hM⟩ := hrel
    have T4 := Lib.hid hT; have M4 := Lib.hid hM
    have hu := hT.up
    have HU := Lib.hid hu
    clear T3 hT hM
    by_cases hlt : j < n
    · obtain ⟨g, off, d, k, o, t, e, hg, c0, c1, c2, c3, hx⟩ := (HR.out.up hu).at_ (k := j) (by rw [HN.out]; exact hlt)
      subst e
      have ok := HT.out _ (List.mem_of_getElem? hx.out)
      have it : I64 t := ok.t
      have KF := Lib.hid (show k.size ≤ maxLen from ok.k)
      clear hx hu ok
      go_upto_block 2 with fail
      obtain ⟨Z, HT5, hZ⟩ := T4.out.rebase WW.out (up_al (.cells #[.int .i64 d, .string k, .string o, .int .i64 t] 34) (Below.refl _ wr))
      have T5 := Lib.hid HT5
      have hnz : ¬ Z wr.heap.size := fun h => by have := (hZ _ h).1; omega
      have hZ2 := Lib.hid (show ∀ k, Z k → (fun _ => False) k ∨ w.heap.size ≤ k from fun k h => (hZ k h).2)
      have hO2 := Lib.hid (T4.out.on.on (up_al (.cells #[.int .i64 d, .string k, .string o, .int .i64 t] 34) (Below.refl _ wr)))
      have hB := Box.new wr #[.int .i64 d, .string k, .string o, .int .i64 t] 34
      clear HT5 hZ T4
      clear c0 c1 c2 c3
      generalize hgw : wr.alloc (.cells #[.int .i64 d, .string k, .string o, .int .i64 t] 34) = ws at T5 hO2 hB ⊢
      have hnz2 := Lib.hid hnz
      have b1 := hB.at 1 rfl; have b3 := hB.at 3 rfl
      generalize hgb : wr.heap.size = gb at hnz2 b1 b3 ⊢
      have hlt2 := hB.1
      rw [hgb] at hlt2
      clear hB hnz hgw
      go_cut [] (fun wc => ∃ nw' x' D', MWE LW ws Z wc b nw' x' w2.heap.size (j + 1) D' ∧ MapIs D' x')
      case first =>
        by_cases d0 : d = 0
        · subst d0
          go_wp2_with fail
          refine (mSet WW.out T5.out k t it).mono ?_
          rintro e w6 ⟨rfl, t6⟩
          have T6 := Lib.hid t6
          have b1' := t6.cell b1 hnz2.out; have b3' := t6.cell b3 hnz2.out
          clear t6 b1 b3
          by_cases hc : setC nw 4096 x k t = 0
          · have M6 := Lib.hid (M4.out.set (now := nw) (m := 4096) k t KF.out hc)
            rw [hc]
            clear hc
            go_wp2_with (at_mapUpdate; refine wpList_mapUpdate_own _ rfl _ _ _ 52 rfl 9 2 lawK Try.underlying52 _ w2.heap.size j D rfl T6.out.ow (by unfold maxLen; omega) _ _ (Ks k) rfl rfl (keyK KF.out) (Vi t) [] (elV it) ?_; intro w7 hown7 hgrow7)
            go_meet
            exact ⟨_, _, _, T6.out.map WW.out hown7 hgrow7, M6.out⟩
          · have hE := Lib.hid (setL_no hc)
            go_wp2
            go_meet
            exact ⟨_, _, _, by rw [← hE.out]; exact T6.out.mono (Nat.le_succ _), M4.out⟩
        by_cases d1 : d = 1
        · subst d1
          go_wp2_with fail
          refine (mStop WW.out T5.out (up_al _ (Below.refl _ _)) _ _ [k] (RdK.new1 _ _ _) (fun g off e => by cases e; exact Nat.le_refl _) (by show 1 ≤ 2; omega)).mono ?_
          rintro e w6 ⟨rfl, t6⟩
          have T6 := Lib.hid t6
          have b1' := t6.cell b1 hnz2.out
          clear t6
          go_wp2_with (at_delete; refine wpList_delete_own _ rfl _ _ 52 9 rfl 2 lawK Try.underlying52 _ w2.heap.size j D rfl T6.out.ow _ (Ks k) rfl (keyK KF.out) ?_; intro w7 hown7 hturn7)
          go_meet
          exact ⟨_, _, _, (T6.out.map WW.out hown7 hturn7.grown).mono (Nat.le_succ _), M4.out.stop k⟩
        by_cases d2 : d = 2
        · subst d2
          go_wp2_with fail
          refine (mGo WW.out T5.out t it).mono ?_
          rintro e w6 ⟨A1, m1, cp1, Z1, rfl, t6, hz1, ho1, hl1⟩
          have T6 := Lib.hid t6; have L1 := Lib.hid hl1; have HZ1 := Lib.hid hz1; have HO1 := Lib.hid ho1
          have hnz1 := Lib.hid (show ¬ Z1 gb from fun h => (hz1 gb h).elim hnz2.out (fun e => by omega))
          have b3' := (ho1.cell (p := ⟨gb, 3, none⟩) hlt2 hnz2.out).trans b3
          have M6 := Lib.hid (M4.out.go nw t)
          have DT := Lib.hid (goT_due (now := nw) (t := t) (x := x))
          have RT := Lib.hid (fun i p q => goT_rise (now := nw) (t := t) (x := x) (i := i) (p := p) (q := q))
          have ST := Lib.hid (goS_due (now := nw) (t := t) (x := x))
          have hm1 : m1 ≤ 4096 := by
            have := M6.out.size
            have := M4.out.size
            have := M6.out.size
            have h1 := hl1.len
            unfold goT at h1
            split at h1
            · have h2 := (told_all _ x t rfl).2.2.2.length_eq
              rw [List.length_append] at h2
              obtain ⟨F, q⟩ := T5.out
              have := q.one.l1
              omega
            · simp at h1; omega
          clear t6 hl1 hz1 ho1 b1 b3
          generalize goT nw t x = tl at *
          generalize goS nw t x = st at *
          generalize goW nw t = nw1 at *
          have HL := Lib.hid L1.out.len
          go_wp2_with fail
          go_loopw [10] (fun i wq => ∃ q : Nat, q ≤ m1 ∧ i = .int .i64 q ∧ ∃ D', MWE LW w6 Z1 wq b nw1 st w2.heap.size j D' ∧ MapIs D' (tl.drop q ++ st)) (fun i _ => m1 - (intOf i).toNat)
          case atStart => exact ⟨0, Nat.zero_le _, rfl, _, T6.out, M6.out⟩
          case round =>
            obtain ⟨q, hq, rfl, D', hT7, hM7⟩ := hrel
            have T7 := Lib.hid hT7; have M7 := Lib.hid hM7
            clear T6 M6
            by_cases hq2 : q < m1
            · obtain ⟨g1, off1, s1, v1, e1, a0, a1, ha⟩ := (L1.out.only hT7.on (fun _ _ _ h => h) (fun _ _ _ h => h)).at_ hq2
              subst e1
              have hdrop : tl.drop q = (s1, v1) :: tl.drop (q + 1) := by
                obtain ⟨h1, h2⟩ := List.getElem?_eq_some_iff.1 ha.out
                rw [List.drop_eq_getElem_cons h1, h2]
              rw [hdrop, List.cons_append] at hM7
              have M8 := Lib.hid hM7.del_head
              have hmem : (s1, v1) ∈ (s1, v1) :: (tl.drop (q + 1) ++ st) := List.mem_cons_self ..
              have kf := hM7.fit _ hmem
              have hhas : Go.Maps.has D' (Ks s1) = true := (hM7.has s1).2 (List.mem_map.2 ⟨_, hmem, rfl⟩)
              have hat1 : D'.atKey (Ks s1) (.lit (.int .i64 0)) = .lit (.int .i64 v1) := hM7.at_ _ hmem
              have hdue : v1 ≤ t := DT.out _ (List.mem_of_getElem? ha.out)
              have b3'' := hT7.cell b3' hnz1.out
              have HA := Lib.hid ha.out
              clear ha hdrop hmem hM7
              by_cases hq0 : q = 0
              · subst hq0
                rw [Nat.zero_mul, Nat.add_zero] at a0 a1
                go_wp2_with (first
                  | (at_lookup; refine wpList_lookup_own_ok_int _ rfl _ _ 52 rfl 9 2 .i64 lawK Try.underlying52 Try.underlying2 (zeroI _) w2.heap.size j D' rfl T7.out.ow _ (Ks s1) rfl (keyK kf) ?_; intro c hat hwc; obtain rfl : c = v1 := (Lit.int.inj (DataW.lit.inj (hat.symm.trans hat1))).2; rw [hhas])
                  | (at_delete; refine wpList_delete_own _ rfl _ _ 52 9 rfl 2 lawK Try.underlying52 _ w2.heap.size j D' rfl T7.out.ow _ (Ks s1) rfl (keyK kf) ?_; intro w7 hown7 hturn7))
                go_roundw
                case rel => exact ⟨0 + 1, by omega, by go_num, _, T7.out.map WW.out hown7 hturn7.grown, M8.out⟩
                case measure => simp [RowKit.intOf]; omega
              · have hp : q - 1 < m1 := by omega
                obtain ⟨g2, off2, s2, v2, e2, a2, a3, ha2⟩ := (L1.out.only hT7.on (fun _ _ _ h => h) (fun _ _ _ h => h)).at_ hp
                cases e2
                have hr2 : v2 ≤ v1 := RT.out (q - 1) _ _ ha2.out (by rw [show q - 1 + 1 = q by omega]; exact HA.out)
                have hi : ((q : Int) - 1).toNat = q - 1 := by omega
                have hi0 : (0 : Int) ≤ (q : Int) - 1 := by omega
                have hi1 : (q : Int) - 1 < m1 := by omega
                have hq1 : (0 : Int) < q := by omega
                clear ha2 a2
                go_wp2_with (first
                  | (at_lookup; refine wpList_lookup_own_ok_int _ rfl _ _ 52 rfl 9 2 .i64 lawK Try.underlying52 Try.underlying2 (zeroI _) w2.heap.size j D' rfl T7.out.ow _ (Ks s1) rfl (keyK kf) ?_; intro c hat hwc; obtain rfl : c = v1 := (Lit.int.inj (DataW.lit.inj (hat.symm.trans hat1))).2; rw [hhas])
                  | (at_delete; refine wpList_delete_own _ rfl _ _ 52 9 rfl 2 lawK Try.underlying52 _ w2.heap.size j D' rfl T7.out.ow _ (Ks s1) rfl (keyK kf) ?_; intro w7 hown7 hturn7))
                go_roundw
                case rel => exact ⟨q + 1, by omega, by go_num, _, T7.out.map WW.out hown7 hturn7.grown, M8.out⟩
                case measure => simp [RowKit.intOf]; omega
            · obtain rfl : q = m1 := by omega
              rw [List.drop_of_length_le (by rw [← HL.out]; exact Nat.le_refl _), List.nil_append] at hM7
              have M8 := Lib.hid hM7
              clear M7 hM7 hT7
              go_wp2_with (first
                | (at_range; refine wpList_range_own _ rfl _ 52 rfl 9 2 lawK Try.underlying52 _ w2.heap.size j D' rfl T7.out.ow ?_; intro w0 hrg0 hg0 hs0)
                | fail)
              go_frame
              have T8 := Lib.hid T7.out
              have hu00 := grown_up hg0
              clear hg0 hs0
              generalize hrz : wr.heap.size = r at hrg0 ⊢
              have hrz' := Lib.hid hrz
              clear hrz
              generalize hec : goC nw t = ec at *
              go_loopw [14] (fun _ wq => ∃ (left : Lit → Bool) (cnt : Nat), wq.ranges Try.prog 9 (plainElem (H := Unit) Try.prog 2) w2.heap.size r j D' left cnt ∧ Up wr wq) (fun _ wq => wq.rangeLeft w2.heap.size r)
              case atStart => exact ⟨_, _, hrg0, hu00⟩
              case round =>
                obtain ⟨left, cnt, hrg, hu0⟩ := hrel
                go_wp2_with (first
                  | (at_next; refine wpList_next_ranges _ rfl _ rfl 9 lawK (plainElem (H := Unit) Try.prog 2) Value.string (Value.int .i64) (fun key kl h => by obtain ⟨s, e, _⟩ := keyK_inv h; exact ⟨s, e⟩) (fun v y hv => by obtain ⟨c, e, _⟩ := plainElem_int_inv Try.underlying2 hv; exact ⟨c, e⟩) w2.heap.size r j D' left cnt rfl hrg ?_ ?_)
                  | fail)
                · intro _ _
                  go_wp2
                  go_meet
                  exact ⟨_, _, _, ((T8.out.same WW.out hu0).back HO1.out HZ1.out).mono (Nat.le_succ _), M8.out⟩
                · intro s8 c8 kl yd yp w8 cnt8 hkey hlk hv hat hrg8 hlt8 hg8 hs8 hen
                  obtain ⟨s9, e9, rfl⟩ := keyK_inv hkey
                  cases e9
                  obtain ⟨a9, e10, e11, hw9⟩ := plainElem_int_inv Try.underlying2 hv
                  cases e10
                  cases e11
                  have hgt : ec = 0 → t < c8 := fun h0 => by
                    obtain ⟨p, hp, e1⟩ := List.mem_map.1 ((M8.out.has s8).1 (Go.Maps.has_true_of_atKey hat))
                    have h1 := M8.out.at_ p hp
                    rw [e1] at h1
                    have h2 : c8 = p.2 := (Lit.int.inj (DataW.lit.inj ((hat (Vi 0)).symm.trans h1))).2
                    rw [h2]
                    exact ST.out h0 p hp
                  have hu8 := grown_up_new hu0 hg8 (Nat.le_of_eq hrz'.out)
                  have b3'' := (T8.out.same WW.out hu8).cell b3' hnz1.out
                  clear hkey hlk hv hat
                  by_cases h0 : ec = 0
                  · subst h0
                    have hgt1 := hgt rfl
                    go_wp2
                    exact ⟨⟨_, _, hrg8, hu8⟩, by rw [hrg8.left_eq, hrg.left_eq]; exact hlt8⟩
                  · go_wp2
                    exact ⟨⟨_, _, hrg8, hu8⟩, by rw [hrg8.left_eq, hrg.left_eq]; exact hlt8⟩
        · go_wp2
          go_meet
          exact ⟨_, _, _, T5.out.mono (Nat.le_succ _), M4.out⟩
      case rest =>
        obtain ⟨nw2, x2, D2, hT9, hM9⟩ := hcut
        have T9 := Lib.hid hT9; have M9 := Lib.hid hM9
        have hsz := hM9.size
        clear hT9 hM9
        go_wp2_with (first
          | (go_at_call 20; refine (mLen WW.out T9.out).mono ?_; rintro e v1 ⟨rfl, u1⟩)
          | (at_len; refine wpList_len_own _ rfl _ 52 rfl 9 2 Try.underlying52 _ w2.heap.size (j + 1) D2 rfl (T9.out.same WW.out u1).ow ?_; rw [hsz]))
        go_roundw
        case rel => exact ⟨j + 1, by omega, by go_num, nw2, x2, D2, (T9.out.same WW.out u1).back hO2.out hZ2.out, M9.out⟩
        case measure => simp [RowKit.intOf]; omega
    · obtain rfl : j = n := by omega
      go_wp2_with (go_at_call 8; refine (worksC WW.out _).mono ?_; rintro e w5 ⟨rfl, u5⟩)
      go_ret
      exact ⟨rfl, HU.out.on u5⟩
end Go.Proofs.Ytkgcnmloojnblaa.wh
