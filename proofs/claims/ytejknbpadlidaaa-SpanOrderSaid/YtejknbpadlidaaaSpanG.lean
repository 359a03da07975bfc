/- The document's made, Set. Condition: the arguments fit their kinds; a list of less than a million spans. -/
import Derived.Test.YtejknbpadlidaaaSpanF
import Derived.Deep.RegionLaw
import Derived.Deep.AppendLies
import Derived.Deep.DeepCutAuto
namespace Go.Proofs.Ytejknbpadlidaaa.sp
open Go.RowKit Go.Shelf Go.Lib Go.Sort Go.Proofs.Ytejknbpadlidaaa.spm
set_option linter.unusedVariables false

theorem pcs_len (keep : Int → Bool) : ∀ (p : List Int), (pcs keep p).length ≤ p.length
  | [] => Nat.le_refl _
  | [_] => by simp [pcs]
  | a :: b :: r => by
    have := pcs_len keep (b :: r)
    unfold pcs
    by_cases h : keep a = true <;> simp [h] at this ⊢ <;> omega
theorem jstepE_len (out : List Sp) (x : Sp) : (jstepE out x).length ≤ out.length + 1 := by
  rcases snoc_cases out with rfl | ⟨u, c, rfl⟩
  · simp [jstepE]
  · by_cases h : c.2 = x.1
    · rw [jstepE_in u c x h]; simp
    · rw [jstepE_out u c x h]; simp
theorem foldE_len : ∀ (ys out : List Sp), (ys.foldl jstepE out).length ≤ out.length + ys.length
  | [], out => by simp
  | x :: r, out => by
    have := foldE_len r (jstepE out x)
    have := jstepE_len out x
    simp only [List.foldl_cons, List.length_cons]
    omega
theorem joinE_len (ys : List Sp) : (joinE ys).length ≤ ys.length := by have := foldE_len ys []; simpa [joinE] using this
/-- what made has gathered before place k -/
def outAt (keep : Int → Bool) (p : List Int) (k : Nat) : List Sp := joinE (pcs keep (p.take (k + 1)))
theorem outAt_zero (keep : Int → Bool) (p : List Int) : outAt keep p 0 = [] := by
  cases p with
  | nil => rfl
  | cons a r => rfl
theorem outAt_len (keep : Int → Bool) (p : List Int) (k : Nat) : (outAt keep p k).length ≤ k + 1 := by
  have h1 := joinE_len (pcs keep (p.take (k + 1)))
  have h2 := pcs_len keep (p.take (k + 1))
  rw [List.length_take] at h2
  unfold outAt
  omega
theorem outAt_no {keep : Int → Bool} {p : List Int} {k : Nat} {x y : Int} (hx : p[k]? = some x) (hy : p[k + 1]? = some y) (h : keep x = false) : outAt keep p (k + 1) = outAt keep p k := by
  obtain ⟨hk, he⟩ := List.getElem?_eq_some_iff.1 hy
  obtain ⟨hk0, he0⟩ := List.getElem?_eq_some_iff.1 hx
  unfold outAt
  rw [pcs_take keep p k hk, if_neg (by rw [he0, h]; simp), List.append_nil]
theorem outAt_yes {keep : Int → Bool} {p : List Int} {k : Nat} {x y : Int} (hx : p[k]? = some x) (hy : p[k + 1]? = some y) (h : keep x = true) : outAt keep p (k + 1) = jstepE (outAt keep p k) (x, y) := by
  obtain ⟨hk, he⟩ := List.getElem?_eq_some_iff.1 hy
  obtain ⟨hk0, he0⟩ := List.getElem?_eq_some_iff.1 hx
  unfold outAt
  rw [pcs_take keep p k hk, if_pos (by rw [he0, h]), joinE_snoc, he, he0]
theorem outAt_end {keep : Int → Bool} {p : List Int} {k : Nat} (hk : ¬ k + 1 < p.length) : outAt keep p k = joinE (pcs keep p) := by
  unfold outAt
  rw [List.take_of_length_le (by omega)]

set_option maxHeartbeats 4000000 in
set_option maxRecDepth 100000 in
theorem madeC (A : Option Addr) (n c : Nat) (xs : List (Int × Int)) (a b : Int) (add : Bool) (w : World) (hr : Rd w A xs) (hn : xs.length = n) (hm : n < 1000000) :
    Calls Try.prog 41 #[.slice A n c, .agg #[.int .u64 a, .int .u64 b], .bool add] w fun e w' => ∃ A' n' c', e = .returned (.slice A' n' c') ∧ Hid ((madeL xs (a, b) add).length = n') ∧ Rd w' A' (madeL xs (a, b) add) ∧ Below w.heap.size w w' := by
  obtain ⟨W, hW⟩ : ∃ W, Hid (W = w.alloc (.cells #[.int .u64 a, .int .u64 b] 31)) := ⟨_, rfl⟩
  have hB : Below w.heap.size w W := by rw [hW.out]; exact (Below.refl _ _).alloc (Nat.le_refl _) _
  have g1 : W.cell? ⟨w.heap.size, 0, none⟩ = some (.int .u64 a) := by rw [hW.out]; go_simp
  have g2 : W.cell? ⟨w.heap.size, 1, none⟩ = some (.int .u64 b) := by rw [hW.out]; go_simp
  have hE := endsC A n c xs a b W (hr.below hB (Nat.le_refl _)) hn hm
  have hEl := (endsL_spec xs (a, b)).2.1
  rw [hn] at hEl
  have HM := Lib.hid (show madeL xs (a, b) add = joinE (pcs (keepB xs (a, b) add) (endsL xs (a, b))) from rfl)
  have HN := Lib.hid hn; have HE := Lib.hid hE; clear hn hE
  generalize endsL xs (a, b) = p at HM HE hEl
  go_enter Try.func41, Try.ntmps41
  go_wp2_with fail
  rw [← hW.out]
  refine HE.out.mono ?_
  rintro e w0 ⟨Ap, mp, cp, rfl, hmp, hrp, hb0⟩
  have hB0 : Below w.heap.size w w0 := hB.trans (hb0.mono hB.size)
  replace g1 := cell_up hb0 g1; replace g2 := cell_up hb0 g2
  have hr0w := Lib.hid hr
  have hmpl : mp ≤ 2000002 := by rw [← hmp.out]; omega
  clear hr hB hb0 HE hW hEl
  go_wp2
  go_loopw [8, 9, 10] (fun o i f wr => ∃ (k : Nat) (os : List Sp), (k = 0 ∨ k + 1 ≤ mp) ∧ i = .int .i64 k ∧ Hid (os = outAt (keepB xs (a, b) add) p k) ∧ Own2 wr w0.heap.size o os ∧ Below w0.heap.size w0 wr) (fun _ i _ _ => mp - (intOf i).toNat)
  case atStart => exact ⟨0, [], .inl rfl, rfl, (outAt_zero _ _).symm, Own2.nil_ _ _, Below.refl _ _⟩
  case round =>
    obtain ⟨k, os, hk, rfl, hos, hown, hb⟩ := hrel
    have hol : os.length ≤ k + 1 := by rw [hos.out]; exact outAt_len _ _ _
    have hB1 := hb.size
    have hbw : Below w.heap.size w wr := hB0.trans (hb.mono hB0.size)
    by_cases hlt : k + 1 < mp
    · obtain ⟨pb, poff, rfl, hpbl, x, c0, hx⟩ := hrp.at_ (k := k) (by rw [hmp.out]; omega)
      have hy' := hrp.at_ (k := k + 1) (by rw [hmp.out]; omega)
      obtain ⟨pb', poff', e', _, y, d0, hy⟩ := hy'
      cases e'
      have e1 := cell_up hb g1
      have e2 := cell_up hb g2
      have e3 := cell_up hb c0
      have e4 := cell_up hb d0
      have q1 := Kin.cell e1; have q2 := Kin.cell e2; have q3 := Kin.cell e3
      have hof : (a ≤ x ∧ x < b ∧ inB (a, b) x = true) ∨ (a ≤ x ∧ decide (x < b) = false ∧ inB (a, b) x = false) ∨ (decide (a ≤ x) = false ∧ inB (a, b) x = false) := by
        by_cases h1 : a ≤ x
        · by_cases h2 : x < b
          · exact .inl ⟨h1, h2, (inB_iff _ _).2 ⟨h1, h2⟩⟩
          · exact .inr (.inl ⟨h1, by simpa using h2, by unfold inB; simp; omega⟩)
        · exact .inr (.inr ⟨by simpa using h1, by unfold inB; simp; omega⟩)
      have HH := Lib.hid (fun (w1 : World) (hb1 : Below w.heap.size w w1) => refHasC A n c xs x w1 (hr0w.out.below hb1 (Nat.le_refl _)) HN.out (by unfold maxLen; omega))
      obtain ⟨kb, hkb⟩ : ∃ kb, Hid (keepB xs (a, b) add x = kb) := ⟨_, rfl⟩
      clear c0 d0
      go_upto_region 6 with fail
      go_cut [10] (fun s10 wx => s10 = .bool (inB (a, b) x) ∧ Below wr.heap.size wr wx)
      case first =>
        rcases hof with ⟨h1, h2, hin⟩ | ⟨h1, h2, hin⟩ | ⟨h1, hin⟩
        all_goals
          have HI := Lib.hid hin; clear hin
          refine wp_region_kin (by kernel_rfl) (by kernel_rfl) ?_
          repeat (go_big_quiet_step (fail))
          refine wpQuiet_nil ?_
          rintro _ ⟨⟨w1, hb1⟩, rfl⟩
          go_wp2_with fail
          go_meet
          exact ⟨by rw [HI.out], hb1⟩
      case rest =>
        obtain ⟨rfl, hb1⟩ := hcut
        clear q1 q2 q3 hof e1 e2
        have f3 := cell_up hb1 e3
        have f4 := cell_up hb1 e4
        generalize hib : inB (a, b) x = ib
        have HIB := Lib.hid hib; clear hib
        generalize hhb : hasB xs x = hs at HH
        have HHB := Lib.hid hhb; clear hhb
        go_upto_region 7 with fail
        go_cut [56] (fun s56 wx => s56 = .bool (!kb) ∧ Below wr.heap.size wr wx)
        case first =>
          have hB2 := hbw.trans (hb1.mono hbw.size)
          cases add <;> cases hs <;> cases ib
          all_goals
            go_wp2_with fail
            refine (HH.out _ hB2).mono ?_
            rintro e w2 ⟨rfl, hb2⟩
            go_wp2_with fail
            go_meet
            exact ⟨by rw [← hkb.out]; unfold keepB; rw [HIB.out, HHB.out]; rfl, hb1.trans (hb2.mono hb1.size)⟩
        case rest =>
          obtain ⟨rfl, hb2⟩ := hcut
          have g3 := cell_up hb2 e3
          have g4 := cell_up hb2 e4
          have hbr : Below w0.heap.size w0 wc := hb.trans (hb2.mono hb.size)
          have hown2 := hown.up hb2
          have hbz := hbr.size
          clear e3 e4 f3 f4 hb1 HH hown HHB HIB hb2
          cases kb
          · have hno := Lib.hid (outAt_no (keep := keepB xs (a, b) add) hx.out hy.out hkb.out)
            go_wp2
            go_roundw
            case rel => exact ⟨k + 1, os, .inr (by omega), by go_num, by rw [hos.out]; exact hno.out.symm, hown2, hbr⟩
            case measure => simp [intOf]; omega
          · have hyes := Lib.hid (outAt_yes (keep := keepB xs (a, b) add) hx.out hy.out hkb.out)
            rcases snoc_cases os with rfl | ⟨u, cc, rfl⟩
            · obtain ⟨A8, c8, rfl, _⟩ := hown2.rd
              go_wp2_with fail
              refine wp_region_kin (by kernel_rfl) (by kernel_rfl) ?_
              repeat (go_big_quiet_step (fail))
              refine wpQuiet_nil ?_
              rintro _ ⟨⟨w3, hb3⟩, rfl⟩
              replace g3 := cell_up hb3 g3
              replace g4 := cell_up hb3 g4
              replace hbr := hbr.trans (hb3.mono hbz)
              replace hown2 := hown2.up hb3
              replace hbz := hbr.size
              clear hb3
              go_wp2_with fail
              have hk1 : k < mp := by omega
              have hz1 : (k : Int) + 1 < (mp : Int) := by omega
              have hw1 : IntKind.i64.wrap ((k : Int) + 1) = (k : Int) + 1 := IntWalk.i64_in _ (by omega)
              have hw2 : 0 ≤ (k : Int) + 1 := by omega
              have hw3 : ((k : Int) + 1).toNat = k + 1 := by omega
              go_region_law (first | (refine step_app2 (.tmp 85) (.tmp 96) _ [(x, y)] (hown2.up (((Below.refl _ _).drew).alloc (Nat.le_refl _) _)) rfl rfl rfl rfl (cells_new1 (by go_simp) (by go_simp)) (by simp; try omega) (by simp) (by simp; omega) ?_; intro v4 w4 hown4 hb4))
              all_goals
                have hbf := ((hbr.drew).alloc (by simp; omega) _).trans hb4
                clear hw1 hw2 hw3 hz1 hk1
                go_wp2
                go_roundw
                case rel => exact ⟨k + 1, _, .inr (by omega), by go_num, by rw [hyes.out, ← hos.out]; rfl, hown4, hbf⟩
                case measure => simp [intOf]; omega
            · obtain ⟨m, hmu⟩ : ∃ m, Hid (u.length = m) := ⟨_, rfl⟩
              obtain ⟨g, cap, rfl, hg1, hg2, hg3, hg4⟩ : ∃ g cap, u8 = .slice (some ⟨g, 0, none⟩) (m + 1) cap ∧ w0.heap.size ≤ g ∧ g < wc.heap.size ∧ m + 1 ≤ cap ∧ cap ≤ maxLen := by
                rcases own_form hown2 with ⟨_, h0⟩ | ⟨g, cap, h, h1, h2, h3, h4⟩
                · simp at h0
                · rw [List.length_append, List.length_singleton, hmu.out] at h h3; exact ⟨g, cap, h, h1, h2, h3, h4⟩
              have hml : m + 1 ≤ k + 1 := by have := hol; rw [List.length_append, List.length_singleton, hmu.out] at this; exact this
              have hul : u.length ≤ k := by rw [hmu.out]; omega
              have hlast : ∀ W, Own2 W w0.heap.size (.slice (some ⟨g, 0, none⟩) (m + 1) cap) (u ++ [cc]) → W.cell? ⟨g, m * 2 + 1, none⟩ = some (.int .u64 cc.2) ∧ W.frozen? ⟨g, m * 2 + 1, none⟩ = false := fun W ho => by
                have h := ho
                unfold Own2 at h
                rw [List.length_append, List.length_singleton, hmu.out] at h
                refine ⟨?_, World.ownsRow.frozenAt h _⟩
                rw [World.ownsRow.cellAt h (m * 2 + 1) (by omega), cells_snoc, ← hmu.out, List.getElem?_append_right (by rw [cells_len]; omega), cells_len]
                simp
              have HL := Lib.hid hlast; clear hlast hol
              by_cases hcc : cc.2 = x
              · have l1 := (HL.out _ hown2).1
                rw [hcc] at l1
                have q1 := Kin.cell l1; have q2 := Kin.cell g3
                go_wp2_with fail
                refine wp_region_kin (by kernel_rfl) (by kernel_rfl) ?_
                repeat (go_big_quiet_step (fail))
                refine wpQuiet_nil ?_
                rintro _ ⟨⟨w3, hb3⟩, rfl⟩
                replace g3 := cell_up hb3 g3
                replace g4 := cell_up hb3 g4
                replace hbr := hbr.trans (hb3.mono hbz)
                clear q1 q2 l1
                replace hown2 := hown2.up hb3
                replace hbz := hbr.size
                clear hb3
                obtain ⟨l1, l2⟩ := HL.out _ hown2
                have hst : ∀ W, Own2 W w0.heap.size (.slice (some ⟨g, 0, none⟩) (m + 1) cap) (u ++ [cc]) → Own2 (W.setCell ⟨g, m * 2 + 1, none⟩ (.int .u64 y)) w0.heap.size (.slice (some ⟨g, 0, none⟩) (m + 1) cap) (u ++ [(cc.1, y)]) := fun W ho => by
                  have h := ho
                  unfold Own2 at h
                  rw [List.length_append, List.length_singleton, hmu.out] at h
                  have := (World.ownsRow.stored h (m * 2 + 1) (.int .u64 y)).1
                  unfold Own2
                  rw [List.length_append, List.length_singleton, hmu.out, ← cells_set2 u cc y, hmu.out]
                  exact this
                have HS := Lib.hid (hst _ hown2); clear hst
                have HQ := Lib.hid (show u ++ [(cc.1, y)] = outAt (keepB xs (a, b) add) p (k + 1) by rw [hyes.out, ← hos.out, jstepE_in u cc _ hcc])
                clear hcc
                go_wp2
                go_roundw
                case rel => exact ⟨k + 1, _, .inr (by omega), by go_num, HQ, HS.out, hbr.setCell hg1 _⟩
                case measure => simp [intOf]; omega
              · have l1 := (HL.out _ hown2).1
                have q1 := Kin.cell l1; have q2 := Kin.cell g3
                have hne : (cc.2 == x) = false := by rw [beq_eq_false_iff_ne]; exact hcc
                go_wp2_with fail
                refine wp_region_kin (by kernel_rfl) (by kernel_rfl) ?_
                repeat (go_big_quiet_step (fail))
                refine wpQuiet_nil ?_
                rintro _ ⟨⟨w3, hb3⟩, rfl⟩
                replace g3 := cell_up hb3 g3
                replace g4 := cell_up hb3 g4
                replace hbr := hbr.trans (hb3.mono hbz)
                clear q1 q2 l1
                replace hown2 := hown2.up hb3
                replace hbz := hbr.size
                clear hb3
                go_wp2_with fail
                have hk1 : k < mp := by omega
                have hz1 : (k : Int) + 1 < (mp : Int) := by omega
                have hw1 : IntKind.i64.wrap ((k : Int) + 1) = (k : Int) + 1 := IntWalk.i64_in _ (by omega)
                have hw2 : 0 ≤ (k : Int) + 1 := by omega
                have hw3 : ((k : Int) + 1).toNat = k + 1 := by omega
                go_region_law (first | (refine step_app2 (.tmp 85) (.tmp 96) _ [(x, y)] (hown2.up (((Below.refl _ _).drew).alloc (Nat.le_refl _) _)) rfl rfl rfl rfl (cells_new1 (by go_simp) (by go_simp)) (by simp; try omega) (by simp) (by simp; omega) ?_; intro v4 w4 hown4 hb4))
                all_goals
                  have hbf := ((hbr.drew).alloc (by simp; omega) _).trans hb4
                  clear hw1 hw2 hw3 hz1 hk1
                  go_wp2
                  go_roundw
                  case rel => exact ⟨k + 1, _, .inr (by omega), by go_num, by rw [hyes.out, ← hos.out, jstepE_out u cc _ hcc]; rfl, hown4, hbf⟩
                  case measure => simp [intOf]; omega
    · have hend := Lib.hid (show os = madeL xs (a, b) add by rw [hos.out, HM.out]; exact outAt_end (by rw [hmp.out]; exact hlt))
      obtain ⟨A', c', rfl, hrd⟩ := hown.rd
      rw [hend.out] at hrd
      have HLn := Lib.hid (show (madeL xs (a, b) add).length = os.length by rw [hend.out])
      generalize os.length = n' at HLn
      clear hrp
      go_wp2
      go_ret
      exact ⟨A', n', c', rfl, HLn, hrd, hbw⟩
end Go.Proofs.Ytejknbpadlidaaa.sp
