/- joined: what it returns for every row. Condition: the arguments fit their kinds; a list of less than a million spans. -/
import Derived.Test.YtejknbpadlidaaaSpanL
import Derived.Deep.RegionLaw
import Derived.Deep.RegionHeld3
namespace Go.Proofs.Ytejknbpadlidaaa.sp
open Go.RowKit Go.Shelf Go.Lib Go.Sort Go.Proofs.Ytejknbpadlidaaa.spm
set_option linter.unusedVariables false

theorem jstep_len (out : List Sp) (x : Sp) : (jstep out x).length ≤ out.length + 1 := by
  rcases snoc_cases out with rfl | ⟨u, c, rfl⟩
  · simp [jstep]
  · by_cases h : x.1 ≤ c.2
    · rw [jstep_in u c x h]; simp
    · rw [jstep_out u c x h]; simp
theorem joinL_len : ∀ (ys out : List Sp), (ys.foldl jstep out).length ≤ out.length + ys.length
  | [], out => by simp
  | x :: r, out => by
    have := joinL_len r (jstep out x)
    have := jstep_len out x
    simp only [List.foldl_cons, List.length_cons]
    omega
theorem joinL_take_len (ys : List Sp) (k : Nat) : (joinL (ys.take k)).length ≤ k := by
  have := joinL_len (ys.take k) []
  simp only [List.length_nil, Nat.zero_add, List.length_take] at this
  unfold joinL
  omega
theorem joinL_at {ys : List Sp} {k : Nat} {x : Sp} (h : ys[k]? = some x) : joinL (ys.take (k + 1)) = jstep (joinL (ys.take k)) x := by rw [take_snoc' h, joinL_snoc]
theorem own2_store {W : World} {B g m cap : Nat} {u : List Sp} {cc : Sp} (hm : u.length = m) (ho : Own2 W B (.slice (some ⟨g, 0, none⟩) (m + 1) cap) (u ++ [cc])) (a b : Int) :
    Own2 ((W.setCell ⟨g, m * 2, none⟩ (.int .u64 a)).setCell ⟨g, m * 2 + 1, none⟩ (.int .u64 b)) B (.slice (some ⟨g, 0, none⟩) (m + 1) cap) (u ++ [(a, b)]) := by
  unfold Own2 at ho ⊢
  rw [List.length_append, List.length_singleton, hm] at ho ⊢
  have h1 := (World.ownsRow.stored ho (m * 2) (.int .u64 a)).1
  have h2 := (World.ownsRow.stored h1 (m * 2 + 1) (.int .u64 b)).1
  rw [← hm, cells_set1 u cc a, cells_set2 u (a, cc.2) b, hm] at h2
  exact h2
theorem own2_last {W : World} {B g m cap : Nat} {u : List Sp} {cc : Sp} (hm : u.length = m) (ho : Own2 W B (.slice (some ⟨g, 0, none⟩) (m + 1) cap) (u ++ [cc])) :
    W.cell? ⟨g, m * 2, none⟩ = some (.int .u64 cc.1) ∧ W.cell? ⟨g, m * 2 + 1, none⟩ = some (.int .u64 cc.2) ∧ W.frozen? ⟨g, m * 2, none⟩ = false ∧ W.frozen? ⟨g, m * 2 + 1, none⟩ = false := by
  unfold Own2 at ho
  rw [List.length_append, List.length_singleton, hm] at ho
  refine ⟨?_, ?_, World.ownsRow.frozenAt ho _, World.ownsRow.frozenAt ho _⟩
  · rw [World.ownsRow.cellAt ho (m * 2) (by omega), cells_snoc, ← hm, List.getElem?_append_right (by rw [cells_len]; omega), cells_len]; simp
  · rw [World.ownsRow.cellAt ho (m * 2 + 1) (by omega), cells_snoc, ← hm, List.getElem?_append_right (by rw [cells_len]; omega), cells_len]; simp

theorem set2_far {w : World} {a : Addr} {v u1 u2 : Value} {b : Nat} (h : w.cell? a = some v) (hne : a.block ≠ b) : ((w.setCell ⟨b, 0, none⟩ u1).setCell ⟨b, 1, none⟩ u2).cell? a = some v := by
  rw [World.cell?_setCell_other _ _ _ _ (fun e => hne (by rw [← e])), World.cell?_setCell_other _ _ _ _ (fun e => hne (by rw [← e]))]; exact h
theorem joinY (a b c d m : Int) (h : c ≤ b) (hm : max b d = m) (w : World) :
    Calls Try.prog 48 #[.agg #[.int .u64 a, .int .u64 b], .agg #[.int .u64 c, .int .u64 d]] w fun e w' => e = .returned (.tuple #[.agg #[.int .u64 a, .int .u64 m], .bool true]) ∧ RowKit.Below w.heap.size w w' := by
  have := joinC a b c d w
  rw [if_pos h, if_pos h, hm, show decide (c ≤ b) = true by simpa using h] at this
  exact this
theorem joinNo (a b c d : Int) (h : ¬ c ≤ b) (w : World) :
    Calls Try.prog 48 #[.agg #[.int .u64 a, .int .u64 b], .agg #[.int .u64 c, .int .u64 d]] w fun e w' => e = .returned (.tuple #[.agg #[.int .u64 0, .int .u64 0], .bool false]) ∧ RowKit.Below w.heap.size w w' := by
  have := joinC a b c d w
  rw [if_neg h, if_neg h, show decide (c ≤ b) = false by simpa using h] at this
  exact this

set_option maxHeartbeats 4000000 in
set_option maxRecDepth 100000 in
theorem joinedC (B : Nat) (A : Option Addr) (n c : Nat) (ps : List Sp) (w : World) (hin : InR B w A ps) (hn : ps.length = n) (hm : n < 1000000000) (hB : B ≤ w.heap.size) :
    Calls Try.prog 45 #[.slice A n c, .func (.func 47) #[] #[], .func (.func 48) #[] #[]] w fun e w' =>
      ∃ qs A' n' c', e = .returned (.slice A' n' c') ∧ Hid (qs.Perm ps ∧ qs.Pairwise (fun a b => a.1 ≤ b.1)) ∧ Hid ((joinL qs).length = n') ∧ Rd w' A' (joinL qs) ∧ RowKit.Below B w w' := by
  obtain ⟨V, hV⟩ : ∃ V, Hid (V = w.alloc (.cells #[.func (.func 47) #[] #[]] 58)) := ⟨_, rfl⟩
  have hVB : RowKit.Below w.heap.size w V := by rw [hV.out]; exact (RowKit.Below.refl _ _).alloc (Nat.le_refl _) _
  have gp : V.cell? ⟨w.heap.size, 0, none⟩ = some (.func (.func 47) #[] #[]) := by rw [hV.out]; go_simp
  have hS := Lib.hid (sortC B A n c ps w V hin hn (by omega) hVB hB ⟨w.heap.size, 0, none⟩ gp (Nat.le_refl _))
  have HN := Lib.hid hn; clear hn hin
  go_enter Try.func45, Try.ntmps45
  go_wp2_with fail
  rw [← hV.out]
  refine hS.out.mono ?_
  rintro e w1 ⟨qs, rfl, hq, hin1, hb1⟩
  have hBw1 : RowKit.Below B w w1 := (hVB.mono hB).trans hb1
  have hql : qs.length = n := by rw [hq.out.1.length_eq]; exact HN.out
  have hz1 := hBw1.size
  have HQL := Lib.hid hql; clear hql hS
  clear gp hVB hV hb1
  go_wp2
  go_loopw [7, 18] (fun o i wr => ∃ (k : Nat) (os : List Sp), k ≤ n ∧ i = .int .i64 k ∧ Hid (os = joinL (qs.take k)) ∧ Own2 wr w1.heap.size o os ∧ RowKit.Below w1.heap.size w1 wr) (fun _ i _ => n - (intOf i).toNat)
  case atStart => exact ⟨0, [], Nat.zero_le _, rfl, rfl, Own2.nil_ _ _, RowKit.Below.refl _ _⟩
  case round =>
    obtain ⟨k, os, hk, rfl, hos, hown, hb⟩ := hrel
    have hol : os.length ≤ k := by rw [hos.out]; exact joinL_take_len _ _
    have hsz := hb.size
    by_cases hlt : k < n
    · obtain ⟨b, off, rfl, hbl, x1, x2, c1, c2, hx⟩ := (hin1.rd.below hb (Nat.le_refl _)).at_ (k := k) (by rw [HQL.out]; exact hlt)
      have hJ := Lib.hid (joinL_at hx.out)
      obtain ⟨W, hW⟩ : ∃ W, Hid (W = wr.alloc (.cells #[.int .u64 x1, .int .u64 x2] 31)) := ⟨_, rfl⟩
      have hWB : RowKit.Below wr.heap.size wr W := by rw [hW.out]; exact (RowKit.Below.refl _ _).alloc (Nat.le_refl _) _
      have hWs := Lib.hid (show wr.heap.size + 1 = W.heap.size by rw [hW.out]; simp)
      have g1 : W.cell? ⟨wr.heap.size, 0, none⟩ = some (.int .u64 x1) := by rw [hW.out]; go_simp
      have g2 : W.cell? ⟨wr.heap.size, 1, none⟩ = some (.int .u64 x2) := by rw [hW.out]; go_simp
      have hbW : RowKit.Below w1.heap.size w1 W := hb.trans (hWB.mono hsz)
      have hownW := hown.up hWB
      have hszW := hbW.size
      rcases snoc_cases os with rfl | ⟨u, cc, rfl⟩
      · obtain ⟨A8, c8, rfl, _⟩ := hown.rd
        go_wp2_with (first
          | (at_builtin; rw [← hW.out]; refine app2 (.tmp 27) (.tmp 29) _ [(x1, x2)] (hownW.up ((RowKit.Below.refl _ _).alloc (Nat.le_refl _) _)) rfl rfl rfl rfl (cells_new1 (by rw [hWs.out]; go_simp) (by rw [hWs.out]; go_simp)) (by simp) (by simp) (by simp; omega) ?_; intro v2 w2 hown2 hb2; have hB2 := (hbW.alloc hszW _).trans hb2))
        go_roundw
        case rel => exact ⟨k + 1, _, by omega, by go_num, by rw [hJ.out, ← hos.out]; rfl, hown2, hB2⟩
        case measure => simp [intOf]; omega
      · obtain ⟨m, hmu⟩ : ∃ m, Hid (u.length = m) := ⟨_, rfl⟩
        obtain ⟨g, cap, rfl, hg1, hg2, hg3, hg4⟩ : ∃ g cap, u7 = .slice (some ⟨g, 0, none⟩) (m + 1) cap ∧ w1.heap.size ≤ g ∧ g < wr.heap.size ∧ m + 1 ≤ cap ∧ cap ≤ maxLen := by
          rcases own_form hown with ⟨_, h0⟩ | ⟨g, cap, h, h1, h2, h3, h4⟩
          · simp at h0
          · rw [List.length_append, List.length_singleton, hmu.out] at h h3; exact ⟨g, cap, h, h1, h2, h3, h4⟩
        have hml : m + 1 ≤ k := by have := hol; rw [List.length_append, List.length_singleton, hmu.out] at this; exact this
        have hul : u.length ≤ k := by rw [hmu.out]; omega
        obtain ⟨l1, l2, l3, l4⟩ := own2_last hmu.out hownW
        have hgW : g < W.heap.size := Nat.lt_of_lt_of_le hg2 hWB.size
        have hkW : wr.heap.size < W.heap.size := World.block_lt_of_cell? _ _ g1
        clear hol hown l3 l4
        obtain ⟨cc1, cc2⟩ := cc
        simp only at l1 l2
        go_upto_region 9 with fail
        rw [← hW.out]
        go_cut [11, 12] (fun s11 s12 wx => ∃ gb, s11 = .pointer (some ⟨gb, 0, none⟩) ∧ s12 = .bool (decide (x1 ≤ cc2)) ∧ (x1 ≤ cc2 → wx.cell? ⟨gb, 0, none⟩ = some (.int .u64 cc1) ∧ wx.cell? ⟨gb, 1, none⟩ = some (.int .u64 (max cc2 x2))) ∧ RowKit.Below W.heap.size W wx)
        case first =>
          clear c1 c2
          have hmi : (m : Int) < (m : Int) + 1 := by omega
          have hm0 : (0 : Int) ≤ (m : Int) := by omega
          by_cases h : x1 ≤ cc2
          · obtain ⟨mx, hmx⟩ : ∃ mx, Hid (max cc2 x2 = mx) := ⟨_, rfl⟩
            have HJn := Lib.hid (fun W' => joinY cc1 cc2 x1 x2 mx h hmx.out W')
            have HD := Lib.hid h
            clear h
            go_region_held3 (fun w' => w'.cell? ⟨g, m * 2, none⟩ = some (.int .u64 cc1) ∧ w'.cell? ⟨g, m * 2 + 1, none⟩ = some (.int .u64 cc2) ∧ w'.cell? ⟨wr.heap.size, 0, none⟩ = some (.int .u64 x1) ∧ w'.cell? ⟨wr.heap.size, 1, none⟩ = some (.int .u64 x2)) (first | exact ⟨k1, k2, k3, k4⟩ | exact ⟨set2_far k1 (by simp; omega), set2_far k2 (by simp; omega), set2_far k3 (by simp; omega), set2_far k4 (by simp; omega)⟩ | go_keep) (first | (go_at_call 48; refine (HJn.out _).mono ?_; rintro e w3 ⟨rfl, hb3⟩; have k1 : w3.cell? ⟨g, m * 2, none⟩ = some (.int .u64 cc1) := cell_up hb3 (by go_simp); have k2 : w3.cell? ⟨g, m * 2 + 1, none⟩ = some (.int .u64 cc2) := cell_up hb3 (by go_simp); have k3 : w3.cell? ⟨wr.heap.size, 0, none⟩ = some (.int .u64 x1) := cell_up hb3 (by go_simp); have k4 : w3.cell? ⟨wr.heap.size, 1, none⟩ = some (.int .u64 x2) := cell_up hb3 (by go_simp); obtain ⟨hcz, hfz⟩ := bcell hb3; have hzz := hb3.size; simp at hzz))
            all_goals
              go_wp2_with fail
              go_meet
            · exact ⟨_, rfl, by simp [HD.out], fun _ => by rw [hmx.out]; exact ⟨by go_simp, by go_simp⟩, (((RowKit.Below.refl _ _).drew).trans hb3).alloc hb3.size _⟩
            · exact ⟨_, rfl, by simp [HD.out], fun _ => by rw [hmx.out]; exact ⟨by go_simp, by go_simp⟩, (((((RowKit.Below.refl _ _).drew).alloc (Nat.le_refl _) _).trans (hb3.mono (by simp))).setCell (by simp) _).setCell (by simp) _⟩
          · have HJn := Lib.hid (fun W' => joinNo cc1 cc2 x1 x2 h W')
            have HD := Lib.hid h
            clear h
            go_region_held3 (fun w' => w'.cell? ⟨g, m * 2, none⟩ = some (.int .u64 cc1) ∧ w'.cell? ⟨g, m * 2 + 1, none⟩ = some (.int .u64 cc2) ∧ w'.cell? ⟨wr.heap.size, 0, none⟩ = some (.int .u64 x1) ∧ w'.cell? ⟨wr.heap.size, 1, none⟩ = some (.int .u64 x2)) (first | exact ⟨k1, k2, k3, k4⟩ | exact ⟨set2_far k1 (by simp; omega), set2_far k2 (by simp; omega), set2_far k3 (by simp; omega), set2_far k4 (by simp; omega)⟩ | go_keep) (first | (go_at_call 48; refine (HJn.out _).mono ?_; rintro e w3 ⟨rfl, hb3⟩; have k1 : w3.cell? ⟨g, m * 2, none⟩ = some (.int .u64 cc1) := cell_up hb3 (by go_simp); have k2 : w3.cell? ⟨g, m * 2 + 1, none⟩ = some (.int .u64 cc2) := cell_up hb3 (by go_simp); have k3 : w3.cell? ⟨wr.heap.size, 0, none⟩ = some (.int .u64 x1) := cell_up hb3 (by go_simp); have k4 : w3.cell? ⟨wr.heap.size, 1, none⟩ = some (.int .u64 x2) := cell_up hb3 (by go_simp); obtain ⟨hcz, hfz⟩ := bcell hb3; have hzz := hb3.size; simp at hzz))
            all_goals
              go_wp2_with fail
              go_meet
            · exact ⟨_, rfl, by simp [HD.out], fun hh => absurd hh (by have := HD.out; omega), (((RowKit.Below.refl _ _).drew).trans hb3).alloc hb3.size _⟩
            · exact ⟨_, rfl, by simp [HD.out], fun hh => absurd hh (by have := HD.out; omega), (((((RowKit.Below.refl _ _).drew).alloc (Nat.le_refl _) _).trans (hb3.mono (by simp))).setCell (by simp) _).setCell (by simp) _⟩
        case rest =>
          obtain ⟨gb, rfl, rfl, hgb, hbx⟩ := hcut
          clear g1 g2 l1 l2 c1 c2
          have hbc : RowKit.Below w1.heap.size w1 wc := hbW.trans (hbx.mono hszW)
          have hownc := hownW.up hbx
          have hzc := hbc.size
          have hzw := hbx.size
          by_cases h : x1 ≤ cc2
          · obtain ⟨b1, b2⟩ := hgb h
            obtain ⟨l1, l2, l3, l4⟩ := own2_last hmu.out hownc
            have hst := Lib.hid (own2_store hmu.out hownc cc1 (max cc2 x2))
            have HQ := Lib.hid (show u ++ [(cc1, max cc2 x2)] = joinL (qs.take (k + 1)) by rw [hJ.out, ← hos.out, jstep_in u (cc1, cc2) (x1, x2) h])
            generalize max cc2 x2 = mx at b2 hst HQ
            clear hgb hbx hownc
            go_wp2
            go_roundw
            case rel => exact ⟨k + 1, _, by omega, by go_num, HQ, hst.out, (hbc.setCell hg1 _).setCell hg1 _⟩
            case measure => simp [intOf]; omega
          · have hd : cc2 < x1 := by omega
            have HQ := Lib.hid (show u ++ [(cc1, cc2)] ++ [(x1, x2)] = joinL (qs.take (k + 1)) by rw [hJ.out, ← hos.out, jstep_out u (cc1, cc2) (x1, x2) h])
            clear hgb h
            have e1 := cell_up hbx (show W.cell? ⟨wr.heap.size, 0, none⟩ = some (.int .u64 x1) by rw [hW.out]; go_simp)
            have e2 := cell_up hbx (show W.cell? ⟨wr.heap.size, 1, none⟩ = some (.int .u64 x2) by rw [hW.out]; go_simp)
            clear hbx
            go_wp2_with (first
              | (at_builtin; refine app2 (.tmp 46) (.tmp 48) _ [(x1, x2)] (hownc.up ((RowKit.Below.refl _ _).alloc (Nat.le_refl _) _)) rfl rfl rfl rfl (cells_new1 (by go_simp) (by go_simp)) (by simp; omega) (by simp) (by simp; omega) ?_; intro v2 w2 hown2 hb2; have hB2 := (hbc.alloc hzc _).trans hb2))
            go_roundw
            case rel => exact ⟨k + 1, _, by omega, by go_num, HQ, hown2, hB2⟩
            case measure => simp [intOf]; omega
    · have hend := Lib.hid (show os = joinL qs by rw [hos.out, show qs.take k = qs by rw [List.take_of_length_le (by rw [HQL.out]; omega)]])
      obtain ⟨A', c', rfl, hrd⟩ := hown.rd
      rw [hend.out] at hrd
      have HLn := Lib.hid (show (joinL qs).length = os.length by rw [hend.out])
      generalize os.length = n' at HLn
      go_wp2
      go_ret
      exact ⟨qs, A', n', c', rfl, hq, HLn, hrd, hBw1.trans (hb.mono (Nat.le_trans hB hz1))⟩
end Go.Proofs.Ytejknbpadlidaaa.sp
