/- Package span's third law, walked: it returns true, for every input. Condition: the arguments fit their kinds. -/
import Derived.Test.YtejknbpadlidaaaSpanU
import Derived.WalkSmall
namespace Go.Proofs.Ytejknbpadlidaaa.sp
open Go.RowKit Go.Shelf Go.Lib Go.Sort Go.Proofs.Ytejknbpadlidaaa.spm
set_option linter.unusedVariables false

/-- a slice of bools, as it lies in a world -/
def RdB (w : World) (A : Option Addr) (bs : Nat → Bool) (n : Nat) : Prop := ∀ k, k < n → ∃ b off, A = some ⟨b, off, none⟩ ∧ w.cell? ⟨b, off + k, none⟩ = some (.bool (bs k))
theorem open_boolsR {H : Type} {enc : TypeId × Value → H} {W : World} {base : Nat} {v : Value} {d : DataW H} {p : List MemPlace} (hv : Value.okWide Try.prog W .any base 44 v)
    (h : DataW.Trod enc Try.prog W 0 (fun _ => true) true 44 v d p) : ∃ A n c B, v = .slice A n c ∧ n ≤ maxLen ∧ RdB W A B n := by
  obtain ⟨A, n, c, rfl⟩ := Go.WideShapes.okWide_slice Try.underlying44 hv
  obtain ⟨fuel, hf⟩ := h
  rcases Go.Deep.open_bools Try.underlying44 Try.underlying4 (by kernel_rfl) hf with ⟨h0, _⟩ | ⟨a, len, cap, B, hcs, _, hl, hm, _, hi⟩
  · have h1 : (Value.slice A n c) = .slice none 0 0 := by simpa [Value.cells] using h0
    cases h1
    exact ⟨none, 0, 0, fun _ => false, rfl, Nat.zero_le _, fun k hk => by omega⟩
  · have h1 : (Value.slice A n c) = .slice (some a) len cap := by simpa [Value.cells] using hcs
    cases h1
    refine ⟨some a, n, _, B, rfl, by omega, fun k hk => ?_⟩
    obtain ⟨b, off, spot⟩ := a
    have hspot : spot = none := by simpa [Addr.add] using World.cell?_spot (hi 0 (by omega))
    subst hspot
    have h1 := hi k (by omega)
    rw [add_eq] at h1
    exact ⟨b, off, rfl, h1⟩
theorem dq (w : World) (n : Nat) : RowKit.Below w.heap.size w (w.drewN n) := below_drewN (RowKit.Below.refl _ w) n
theorem stepH (zs : List Sp) (a b : Int) (add : Bool) (m : Nat) (hz : zs.length = m) (hc : Canon (-1) zs) (hU : U zs) (hl : m < 256) (ha : 0 ≤ a) (hb : b ≤ 18446744073709551615) (hab : a ≤ b) :
    ∃ (ys : List Sp) (m' : Nat), m' ≤ m + 1 ∧ Hid (setL zs (a, b) add = (ys, 0)) ∧ Hid (Canon (-1) ys) ∧ Hid (U ys) ∧ Hid (ys.length = m') ∧ Hid (mayB ys = true) ∧ Hid (∀ n, hasB ys n = keepB zs (a, b) add n) := by
  obtain ⟨ys, h1, h2, h3, h4, h5, h6⟩ := stepL zs a b add hc hU (by omega) ha hb hab
  exact ⟨ys, ys.length, by omega, h1, h2, h3, rfl, h5, fun n => has_of (h6 n)⟩
theorem gapT {ys : List Sp} {v : Int} (h : hasB ys v = true) : ∃ g, Hid (gapL ys v = g) ∧ ¬ g = v := ⟨_, rfl, by have := gap_in h; omega⟩

set_option maxHeartbeats 4000000 in
set_option maxRecDepth 100000 in
theorem lawHolds (A : Option Addr) (n c : Nat) (xs : List (Int × Int)) (A2 : Option Addr) (n2 c2 : Nat) (B : Nat → Bool) (v : Int) (w : World) (hr : Rd w A xs) (hn : xs.length = n) (hm : n ≤ maxLen) (hU : U xs) (hr2 : RdB w A2 B n2) (hm2 : n2 ≤ maxLen) :
    Calls Try.prog 6 #[.slice A n c, .slice A2 n2 c2, .int .u64 v] w fun e w' => e = .returned (.bool true) ∧ RowKit.Below w.heap.size w w' := by
  have hmm : n2 ≤ 9223372036854775807 := by unfold maxLen at hm2; omega
  clear hm2 hm
  by_cases hlong : 120 < n
  · clear hr hr2 hn hU
    go_enter Try.func6, Try.ntmps6
    go_wp2_with fail
    refine (aliveC _).mono ?_
    rintro e w1 ⟨rfl, hb1⟩
    go_wp2
    go_ret
    exact ⟨rfl, hb1⟩
  · have HN := Lib.hid hn; clear hn
    go_enter Try.func6, Try.ntmps6
    go_wp2
    go_loopw [7, 8, 9] (fun s is i wr => ∃ (k m c1 : Nat) (A1 : Option Addr) (zs : List Sp) (hz : Bool), k ≤ n ∧ i = .int .i64 k ∧ s = .slice A1 m c1 ∧ is = .bool hz ∧ Hid (hasB zs v = hz) ∧ Hid (zs.length = m) ∧ m ≤ k ∧ Hid (Canon (-1) zs) ∧ Hid (U zs) ∧ Rd wr A1 zs ∧ RowKit.Below w.heap.size w wr) (fun _ _ i _ => n - (intOf i).toNat)
    case atStart => exact ⟨0, 0, 0, none, [], false, Nat.zero_le _, rfl, rfl, rfl, rfl, rfl, Nat.le_refl _, trivial, (fun s hs => by cases hs), (fun h => absurd rfl h), RowKit.Below.refl _ _⟩
    case round =>
      obtain ⟨k, m, c1, A1, zs, hz, hk, rfl, rfl, rfl, Hz, hm1, hmk, hcan, hUz, hrd, hb⟩ := hrel
      by_cases hlt : k < n
      · obtain ⟨bb, off, rfl, hbl, x1, x2, c1', c2', hx⟩ := (hr.below hb (Nat.le_refl _)).at_ (k := k) (by rw [HN.out]; exact hlt)
        have hxU : 0 ≤ x1 ∧ x1 ≤ 18446744073709551615 ∧ 0 ≤ x2 ∧ x2 ≤ 18446744073709551615 := hU _ (List.mem_of_getElem? hx.out)
        clear hr hU hx HN
        rcases (show (∃ b2 off2 cb, A2 = some ⟨b2, off2, none⟩ ∧ wr.cell? ⟨b2, off2 + k, none⟩ = some (.bool cb)) ∧ k < n2 ∨ ¬ k < n2 from by
          by_cases h : k < n2
          · obtain ⟨b2, off2, e, hc⟩ := hr2 k h
            exact .inl ⟨⟨b2, off2, _, e, cell_up hb hc⟩, h⟩
          · exact .inr h) with ⟨⟨b2, off2, cb, rfl, cc⟩, hk2⟩ | hk2
        · clear hr2
          have hd : decide ((k : Int) < (n2 : Int)) = true := by simp; omega
          cases cb
          · go_wp2_with fail
            by_cases hxx : x2 < x1
            · refine (addK _ m c1 zs x1 x2 wr [] 2 0 (stepN zs x1 x2 true hcan.out hUz.out (by rw [hm1.out]; omega) hxx) rfl hrd hm1.out (by omega) hUz.out (by omega) (by omega)).mono ?_
              rintro e w1 ⟨A3, c3, rfl, hrd3, hb1⟩
              replace c1' := cell_up hb1 c1'; replace c2' := cell_up hb1 c2'
              have hB1 := hb.trans (hb1.mono hb.size)
              go_wp2_with fail
              go_quiet (fail)
              go_wp2_with fail
              refine (aliveC _).mono ?_
              rintro e w2 ⟨rfl, hb2⟩
              replace hb2 := (dq w1 _).trans hb2
              go_wp2
              go_ret
              exact ⟨rfl, hB1.trans (hb2.mono hB1.size)⟩
            · obtain ⟨ys, m', hm', h1, h2, h3, h4, h5, h6⟩ := stepH zs x1 x2 true m hm1.out hcan.out hUz.out (by omega) (by omega) (by omega) (by omega)
              refine (addK _ m c1 zs x1 x2 wr ys 0 m' h1.out h4.out hrd hm1.out (by omega) hUz.out (by omega) (by omega)).mono ?_
              rintro e w1 ⟨A3, c3, rfl, hrd3, hb1⟩
              replace c1' := cell_up hb1 c1'; replace c2' := cell_up hb1 c2'
              have hB1 := hb.trans (hb1.mono hb.size)
              clear hrd h1
              go_wp2_with fail
              go_quiet (fail)
              go_wp2_with fail
              refine (mayK A3 m' c3 ys true (w1.drewN _) h5.out (hrd3.up (dq _ _)) h4.out (by omega)).mono ?_
              rintro e w2 ⟨rfl, hb2⟩
              replace hb2 := (dq w1 _).trans hb2
              replace c1' := cell_up hb2 c1'; replace c2' := cell_up hb2 c2'
              replace hrd3 := hrd3.up hb2
              have hB2 := hB1.trans (hb2.mono hB1.size)
              rcases (show (x1 ≤ v ∧ v < x2) ∨ (x1 ≤ v ∧ ¬ v < x2) ∨ ¬ x1 ≤ v by omega) with ⟨hv1, hv2⟩ | ⟨hv1, hv2⟩ | hv1
              · have hr := Lib.hid ((h6.out v).trans (keep_in zs x1 x2 v true ⟨hv1, hv2⟩))
                clear h6 Hz
                go_wp2_with fail
                refine (hasK A3 m' c3 ys v true _ (by rw [h5.out, hr.out]; rfl) hrd3 h4.out (by omega) h3.out).mono ?_
                rintro e w3 ⟨rfl, hb3⟩
                replace hrd3 := hrd3.up hb3
                go_wp2_with fail
                obtain ⟨g, hg1, hg2⟩ := gapT hr.out
                refine (gapK A3 m' c3 ys v g _ (by rw [if_pos h5.out]; exact hg1.out) hrd3 h4.out (by omega) h3.out).mono ?_
                rintro e w4 ⟨rfl, hb4⟩
                replace hrd3 := hrd3.up hb4
                have hbX := (hB2.trans (hb3.mono hB2.size)).trans (hb4.mono (Nat.le_trans hB2.size hb3.size))
                go_wp2
                go_roundw
                case rel => exact ⟨k + 1, m', c3, A3, ys, true, by omega, by go_num, rfl, rfl, hr, h4, by omega, h2, h3, hrd3, hbX⟩
                case measure => simp [intOf]; omega
              · have hr := Lib.hid (((h6.out v).trans (keep_out zs x1 x2 v true (by omega))).trans Hz.out)
                clear h6 Hz
                cases hz
                · go_wp2_with fail
                  refine (hasK A3 m' c3 ys v false _ (by rw [h5.out, hr.out]; rfl) hrd3 h4.out (by omega) h3.out).mono ?_
                  rintro e w3 ⟨rfl, hb3⟩
                  replace hrd3 := hrd3.up hb3
                  go_wp2_with fail
                  refine (gapK A3 m' c3 ys v v _ (by rw [if_pos h5.out]; exact gap_out hr.out) hrd3 h4.out (by omega) h3.out).mono ?_
                  rintro e w4 ⟨rfl, hb4⟩
                  replace hrd3 := hrd3.up hb4
                  have hbX := (hB2.trans (hb3.mono hB2.size)).trans (hb4.mono (Nat.le_trans hB2.size hb3.size))
                  go_wp2
                  go_roundw
                  case rel => exact ⟨k + 1, m', c3, A3, ys, false, by omega, by go_num, rfl, rfl, hr, h4, by omega, h2, h3, hrd3, hbX⟩
                  case measure => simp [intOf]; omega
                · go_wp2_with fail
                  refine (hasK A3 m' c3 ys v true _ (by rw [h5.out, hr.out]; rfl) hrd3 h4.out (by omega) h3.out).mono ?_
                  rintro e w3 ⟨rfl, hb3⟩
                  replace hrd3 := hrd3.up hb3
                  go_wp2_with fail
                  obtain ⟨g, hg1, hg2⟩ := gapT hr.out
                  refine (gapK A3 m' c3 ys v g _ (by rw [if_pos h5.out]; exact hg1.out) hrd3 h4.out (by omega) h3.out).mono ?_
                  rintro e w4 ⟨rfl, hb4⟩
                  replace hrd3 := hrd3.up hb4
                  have hbX := (hB2.trans (hb3.mono hB2.size)).trans (hb4.mono (Nat.le_trans hB2.size hb3.size))
                  go_wp2
                  go_roundw
                  case rel => exact ⟨k + 1, m', c3, A3, ys, true, by omega, by go_num, rfl, rfl, hr, h4, by omega, h2, h3, hrd3, hbX⟩
                  case measure => simp [intOf]; omega
              · have hr := Lib.hid (((h6.out v).trans (keep_out zs x1 x2 v true (by omega))).trans Hz.out)
                clear h6 Hz
                cases hz
                · go_wp2_with fail
                  refine (hasK A3 m' c3 ys v false _ (by rw [h5.out, hr.out]; rfl) hrd3 h4.out (by omega) h3.out).mono ?_
                  rintro e w3 ⟨rfl, hb3⟩
                  replace hrd3 := hrd3.up hb3
                  go_wp2_with fail
                  refine (gapK A3 m' c3 ys v v _ (by rw [if_pos h5.out]; exact gap_out hr.out) hrd3 h4.out (by omega) h3.out).mono ?_
                  rintro e w4 ⟨rfl, hb4⟩
                  replace hrd3 := hrd3.up hb4
                  have hbX := (hB2.trans (hb3.mono hB2.size)).trans (hb4.mono (Nat.le_trans hB2.size hb3.size))
                  go_wp2
                  go_roundw
                  case rel => exact ⟨k + 1, m', c3, A3, ys, false, by omega, by go_num, rfl, rfl, hr, h4, by omega, h2, h3, hrd3, hbX⟩
                  case measure => simp [intOf]; omega
                · go_wp2_with fail
                  refine (hasK A3 m' c3 ys v true _ (by rw [h5.out, hr.out]; rfl) hrd3 h4.out (by omega) h3.out).mono ?_
                  rintro e w3 ⟨rfl, hb3⟩
                  replace hrd3 := hrd3.up hb3
                  go_wp2_with fail
                  obtain ⟨g, hg1, hg2⟩ := gapT hr.out
                  refine (gapK A3 m' c3 ys v g _ (by rw [if_pos h5.out]; exact hg1.out) hrd3 h4.out (by omega) h3.out).mono ?_
                  rintro e w4 ⟨rfl, hb4⟩
                  replace hrd3 := hrd3.up hb4
                  have hbX := (hB2.trans (hb3.mono hB2.size)).trans (hb4.mono (Nat.le_trans hB2.size hb3.size))
                  go_wp2
                  go_roundw
                  case rel => exact ⟨k + 1, m', c3, A3, ys, true, by omega, by go_num, rfl, rfl, hr, h4, by omega, h2, h3, hrd3, hbX⟩
                  case measure => simp [intOf]; omega
          · go_wp2_with fail
            by_cases hxx : x2 < x1
            · refine (cutK _ m c1 zs x1 x2 wr [] 2 0 (stepN zs x1 x2 false hcan.out hUz.out (by rw [hm1.out]; omega) hxx) rfl hrd hm1.out (by omega) hUz.out (by omega) (by omega)).mono ?_
              rintro e w1 ⟨A3, c3, rfl, hrd3, hb1⟩
              replace c1' := cell_up hb1 c1'; replace c2' := cell_up hb1 c2'
              have hB1 := hb.trans (hb1.mono hb.size)
              go_wp2_with fail
              go_quiet (fail)
              go_wp2_with fail
              refine (aliveC _).mono ?_
              rintro e w2 ⟨rfl, hb2⟩
              replace hb2 := (dq w1 _).trans hb2
              go_wp2
              go_ret
              exact ⟨rfl, hB1.trans (hb2.mono hB1.size)⟩
            · obtain ⟨ys, m', hm', h1, h2, h3, h4, h5, h6⟩ := stepH zs x1 x2 false m hm1.out hcan.out hUz.out (by omega) (by omega) (by omega) (by omega)
              refine (cutK _ m c1 zs x1 x2 wr ys 0 m' h1.out h4.out hrd hm1.out (by omega) hUz.out (by omega) (by omega)).mono ?_
              rintro e w1 ⟨A3, c3, rfl, hrd3, hb1⟩
              replace c1' := cell_up hb1 c1'; replace c2' := cell_up hb1 c2'
              have hB1 := hb.trans (hb1.mono hb.size)
              clear hrd h1
              go_wp2_with fail
              go_quiet (fail)
              go_wp2_with fail
              refine (mayK A3 m' c3 ys true (w1.drewN _) h5.out (hrd3.up (dq _ _)) h4.out (by omega)).mono ?_
              rintro e w2 ⟨rfl, hb2⟩
              replace hb2 := (dq w1 _).trans hb2
              replace c1' := cell_up hb2 c1'; replace c2' := cell_up hb2 c2'
              replace hrd3 := hrd3.up hb2
              have hB2 := hB1.trans (hb2.mono hB1.size)
              rcases (show (x1 ≤ v ∧ v < x2) ∨ (x1 ≤ v ∧ ¬ v < x2) ∨ ¬ x1 ≤ v by omega) with ⟨hv1, hv2⟩ | ⟨hv1, hv2⟩ | hv1
              · have hr := Lib.hid ((h6.out v).trans (keep_in zs x1 x2 v false ⟨hv1, hv2⟩))
                clear h6 Hz
                go_wp2_with fail
                refine (hasK A3 m' c3 ys v false _ (by rw [h5.out, hr.out]; rfl) hrd3 h4.out (by omega) h3.out).mono ?_
                rintro e w3 ⟨rfl, hb3⟩
                replace hrd3 := hrd3.up hb3
                go_wp2_with fail
                refine (gapK A3 m' c3 ys v v _ (by rw [if_pos h5.out]; exact gap_out hr.out) hrd3 h4.out (by omega) h3.out).mono ?_
                rintro e w4 ⟨rfl, hb4⟩
                replace hrd3 := hrd3.up hb4
                have hbX := (hB2.trans (hb3.mono hB2.size)).trans (hb4.mono (Nat.le_trans hB2.size hb3.size))
                go_wp2
                go_roundw
                case rel => exact ⟨k + 1, m', c3, A3, ys, false, by omega, by go_num, rfl, rfl, hr, h4, by omega, h2, h3, hrd3, hbX⟩
                case measure => simp [intOf]; omega
              · have hr := Lib.hid (((h6.out v).trans (keep_out zs x1 x2 v false (by omega))).trans Hz.out)
                clear h6 Hz
                cases hz
                · go_wp2_with fail
                  refine (hasK A3 m' c3 ys v false _ (by rw [h5.out, hr.out]; rfl) hrd3 h4.out (by omega) h3.out).mono ?_
                  rintro e w3 ⟨rfl, hb3⟩
                  replace hrd3 := hrd3.up hb3
                  go_wp2_with fail
                  refine (gapK A3 m' c3 ys v v _ (by rw [if_pos h5.out]; exact gap_out hr.out) hrd3 h4.out (by omega) h3.out).mono ?_
                  rintro e w4 ⟨rfl, hb4⟩
                  replace hrd3 := hrd3.up hb4
                  have hbX := (hB2.trans (hb3.mono hB2.size)).trans (hb4.mono (Nat.le_trans hB2.size hb3.size))
                  go_wp2
                  go_roundw
                  case rel => exact ⟨k + 1, m', c3, A3, ys, false, by omega, by go_num, rfl, rfl, hr, h4, by omega, h2, h3, hrd3, hbX⟩
                  case measure => simp [intOf]; omega
                · go_wp2_with fail
                  refine (hasK A3 m' c3 ys v true _ (by rw [h5.out, hr.out]; rfl) hrd3 h4.out (by omega) h3.out).mono ?_
                  rintro e w3 ⟨rfl, hb3⟩
                  replace hrd3 := hrd3.up hb3
                  go_wp2_with fail
                  obtain ⟨g, hg1, hg2⟩ := gapT hr.out
                  refine (gapK A3 m' c3 ys v g _ (by rw [if_pos h5.out]; exact hg1.out) hrd3 h4.out (by omega) h3.out).mono ?_
                  rintro e w4 ⟨rfl, hb4⟩
                  replace hrd3 := hrd3.up hb4
                  have hbX := (hB2.trans (hb3.mono hB2.size)).trans (hb4.mono (Nat.le_trans hB2.size hb3.size))
                  go_wp2
                  go_roundw
                  case rel => exact ⟨k + 1, m', c3, A3, ys, true, by omega, by go_num, rfl, rfl, hr, h4, by omega, h2, h3, hrd3, hbX⟩
                  case measure => simp [intOf]; omega
              · have hr := Lib.hid (((h6.out v).trans (keep_out zs x1 x2 v false (by omega))).trans Hz.out)
                clear h6 Hz
                cases hz
                · go_wp2_with fail
                  refine (hasK A3 m' c3 ys v false _ (by rw [h5.out, hr.out]; rfl) hrd3 h4.out (by omega) h3.out).mono ?_
                  rintro e w3 ⟨rfl, hb3⟩
                  replace hrd3 := hrd3.up hb3
                  go_wp2_with fail
                  refine (gapK A3 m' c3 ys v v _ (by rw [if_pos h5.out]; exact gap_out hr.out) hrd3 h4.out (by omega) h3.out).mono ?_
                  rintro e w4 ⟨rfl, hb4⟩
                  replace hrd3 := hrd3.up hb4
                  have hbX := (hB2.trans (hb3.mono hB2.size)).trans (hb4.mono (Nat.le_trans hB2.size hb3.size))
                  go_wp2
                  go_roundw
                  case rel => exact ⟨k + 1, m', c3, A3, ys, false, by omega, by go_num, rfl, rfl, hr, h4, by omega, h2, h3, hrd3, hbX⟩
                  case measure => simp [intOf]; omega
                · go_wp2_with fail
                  refine (hasK A3 m' c3 ys v true _ (by rw [h5.out, hr.out]; rfl) hrd3 h4.out (by omega) h3.out).mono ?_
                  rintro e w3 ⟨rfl, hb3⟩
                  replace hrd3 := hrd3.up hb3
                  go_wp2_with fail
                  obtain ⟨g, hg1, hg2⟩ := gapT hr.out
                  refine (gapK A3 m' c3 ys v g _ (by rw [if_pos h5.out]; exact hg1.out) hrd3 h4.out (by omega) h3.out).mono ?_
                  rintro e w4 ⟨rfl, hb4⟩
                  replace hrd3 := hrd3.up hb4
                  have hbX := (hB2.trans (hb3.mono hB2.size)).trans (hb4.mono (Nat.le_trans hB2.size hb3.size))
                  go_wp2
                  go_roundw
                  case rel => exact ⟨k + 1, m', c3, A3, ys, true, by omega, by go_num, rfl, rfl, hr, h4, by omega, h2, h3, hrd3, hbX⟩
                  case measure => simp [intOf]; omega
        · clear hr2
          have hd : decide ((k : Int) < (n2 : Int)) = false := by simp; omega
          go_wp2_with fail
          by_cases hxx : x2 < x1
          · refine (addK _ m c1 zs x1 x2 wr [] 2 0 (stepN zs x1 x2 true hcan.out hUz.out (by rw [hm1.out]; omega) hxx) rfl hrd hm1.out (by omega) hUz.out (by omega) (by omega)).mono ?_
            rintro e w1 ⟨A3, c3, rfl, hrd3, hb1⟩
            replace c1' := cell_up hb1 c1'; replace c2' := cell_up hb1 c2'
            have hB1 := hb.trans (hb1.mono hb.size)
            go_wp2_with fail
            go_quiet (fail)
            go_wp2_with fail
            refine (aliveC _).mono ?_
            rintro e w2 ⟨rfl, hb2⟩
            replace hb2 := (dq w1 _).trans hb2
            go_wp2
            go_ret
            exact ⟨rfl, hB1.trans (hb2.mono hB1.size)⟩
          · obtain ⟨ys, m', hm', h1, h2, h3, h4, h5, h6⟩ := stepH zs x1 x2 true m hm1.out hcan.out hUz.out (by omega) (by omega) (by omega) (by omega)
            refine (addK _ m c1 zs x1 x2 wr ys 0 m' h1.out h4.out hrd hm1.out (by omega) hUz.out (by omega) (by omega)).mono ?_
            rintro e w1 ⟨A3, c3, rfl, hrd3, hb1⟩
            replace c1' := cell_up hb1 c1'; replace c2' := cell_up hb1 c2'
            have hB1 := hb.trans (hb1.mono hb.size)
            clear hrd h1
            go_wp2_with fail
            go_quiet (fail)
            go_wp2_with fail
            refine (mayK A3 m' c3 ys true (w1.drewN _) h5.out (hrd3.up (dq _ _)) h4.out (by omega)).mono ?_
            rintro e w2 ⟨rfl, hb2⟩
            replace hb2 := (dq w1 _).trans hb2
            replace c1' := cell_up hb2 c1'; replace c2' := cell_up hb2 c2'
            replace hrd3 := hrd3.up hb2
            have hB2 := hB1.trans (hb2.mono hB1.size)
            rcases (show (x1 ≤ v ∧ v < x2) ∨ (x1 ≤ v ∧ ¬ v < x2) ∨ ¬ x1 ≤ v by omega) with ⟨hv1, hv2⟩ | ⟨hv1, hv2⟩ | hv1
            · have hr := Lib.hid ((h6.out v).trans (keep_in zs x1 x2 v true ⟨hv1, hv2⟩))
              clear h6 Hz
              go_wp2_with fail
              refine (hasK A3 m' c3 ys v true _ (by rw [h5.out, hr.out]; rfl) hrd3 h4.out (by omega) h3.out).mono ?_
              rintro e w3 ⟨rfl, hb3⟩
              replace hrd3 := hrd3.up hb3
              go_wp2_with fail
              obtain ⟨g, hg1, hg2⟩ := gapT hr.out
              refine (gapK A3 m' c3 ys v g _ (by rw [if_pos h5.out]; exact hg1.out) hrd3 h4.out (by omega) h3.out).mono ?_
              rintro e w4 ⟨rfl, hb4⟩
              replace hrd3 := hrd3.up hb4
              have hbX := (hB2.trans (hb3.mono hB2.size)).trans (hb4.mono (Nat.le_trans hB2.size hb3.size))
              go_wp2
              go_roundw
              case rel => exact ⟨k + 1, m', c3, A3, ys, true, by omega, by go_num, rfl, rfl, hr, h4, by omega, h2, h3, hrd3, hbX⟩
              case measure => simp [intOf]; omega
            · have hr := Lib.hid (((h6.out v).trans (keep_out zs x1 x2 v true (by omega))).trans Hz.out)
              clear h6 Hz
              cases hz
              · go_wp2_with fail
                refine (hasK A3 m' c3 ys v false _ (by rw [h5.out, hr.out]; rfl) hrd3 h4.out (by omega) h3.out).mono ?_
                rintro e w3 ⟨rfl, hb3⟩
                replace hrd3 := hrd3.up hb3
                go_wp2_with fail
                refine (gapK A3 m' c3 ys v v _ (by rw [if_pos h5.out]; exact gap_out hr.out) hrd3 h4.out (by omega) h3.out).mono ?_
                rintro e w4 ⟨rfl, hb4⟩
                replace hrd3 := hrd3.up hb4
                have hbX := (hB2.trans (hb3.mono hB2.size)).trans (hb4.mono (Nat.le_trans hB2.size hb3.size))
                go_wp2
                go_roundw
                case rel => exact ⟨k + 1, m', c3, A3, ys, false, by omega, by go_num, rfl, rfl, hr, h4, by omega, h2, h3, hrd3, hbX⟩
                case measure => simp [intOf]; omega
              · go_wp2_with fail
                refine (hasK A3 m' c3 ys v true _ (by rw [h5.out, hr.out]; rfl) hrd3 h4.out (by omega) h3.out).mono ?_
                rintro e w3 ⟨rfl, hb3⟩
                replace hrd3 := hrd3.up hb3
                go_wp2_with fail
                obtain ⟨g, hg1, hg2⟩ := gapT hr.out
                refine (gapK A3 m' c3 ys v g _ (by rw [if_pos h5.out]; exact hg1.out) hrd3 h4.out (by omega) h3.out).mono ?_
                rintro e w4 ⟨rfl, hb4⟩
                replace hrd3 := hrd3.up hb4
                have hbX := (hB2.trans (hb3.mono hB2.size)).trans (hb4.mono (Nat.le_trans hB2.size hb3.size))
                go_wp2
                go_roundw
                case rel => exact ⟨k + 1, m', c3, A3, ys, true, by omega, by go_num, rfl, rfl, hr, h4, by omega, h2, h3, hrd3, hbX⟩
                case measure => simp [intOf]; omega
            · have hr := Lib.hid (((h6.out v).trans (keep_out zs x1 x2 v true (by omega))).trans Hz.out)
              clear h6 Hz
              cases hz
              · go_wp2_with fail
                refine (hasK A3 m' c3 ys v false _ (by rw [h5.out, hr.out]; rfl) hrd3 h4.out (by omega) h3.out).mono ?_
                rintro e w3 ⟨rfl, hb3⟩
                replace hrd3 := hrd3.up hb3
                go_wp2_with fail
                refine (gapK A3 m' c3 ys v v _ (by rw [if_pos h5.out]; exact gap_out hr.out) hrd3 h4.out (by omega) h3.out).mono ?_
                rintro e w4 ⟨rfl, hb4⟩
                replace hrd3 := hrd3.up hb4
                have hbX := (hB2.trans (hb3.mono hB2.size)).trans (hb4.mono (Nat.le_trans hB2.size hb3.size))
                go_wp2
                go_roundw
                case rel => exact ⟨k + 1, m', c3, A3, ys, false, by omega, by go_num, rfl, rfl, hr, h4, by omega, h2, h3, hrd3, hbX⟩
                case measure => simp [intOf]; omega
              · go_wp2_with fail
                refine (hasK A3 m' c3 ys v true _ (by rw [h5.out, hr.out]; rfl) hrd3 h4.out (by omega) h3.out).mono ?_
                rintro e w3 ⟨rfl, hb3⟩
                replace hrd3 := hrd3.up hb3
                go_wp2_with fail
                obtain ⟨g, hg1, hg2⟩ := gapT hr.out
                refine (gapK A3 m' c3 ys v g _ (by rw [if_pos h5.out]; exact hg1.out) hrd3 h4.out (by omega) h3.out).mono ?_
                rintro e w4 ⟨rfl, hb4⟩
                replace hrd3 := hrd3.up hb4
                have hbX := (hB2.trans (hb3.mono hB2.size)).trans (hb4.mono (Nat.le_trans hB2.size hb3.size))
                go_wp2
                go_roundw
                case rel => exact ⟨k + 1, m', c3, A3, ys, true, by omega, by go_num, rfl, rfl, hr, h4, by omega, h2, h3, hrd3, hbX⟩
                case measure => simp [intOf]; omega
      · go_wp2_with fail
        refine (aliveC _).mono ?_
        rintro e w2 ⟨rfl, hb2⟩
        go_wp2
        go_ret
        exact ⟨rfl, hb.trans (hb2.mono hb.size)⟩
end Go.Proofs.Ytejknbpadlidaaa.sp
