/- The document's answer for spans: May, Has, Covers, Gap, Len, Same: what each returns for every input. Condition: the arguments fit their kinds. -/
import Derived.Test.YtejknbpadlidaaaSpanB
namespace Go.Proofs.Ytejknbpadlidaaa.sp
open Go.RowKit Go.Shelf Go.Lib Go.Sort Go.Proofs.Ytejknbpadlidaaa.spm
set_option linter.unusedVariables false

set_option maxHeartbeats 400000 in
theorem refMayC (A : Option Addr) (n c : Nat) (xs : List (Int × Int)) (w : World) (hr : Rd w A xs) (hn : xs.length = n) (hm : n ≤ maxLen) :
    Calls Try.prog 24 #[.slice A n c] w fun e w' => e = .returned (.bool (mayB xs)) ∧ Below w.heap.size w w' := by
  unfold maxLen at hm
  have HN := Lib.hid hn; clear hn
  by_cases hl : n ≤ 256
  · go_enter Try.func24, Try.ntmps24
    go_wp2
    go_loopw [3] (fun i wr => ∃ k : Nat, k ≤ n ∧ i = .int .i64 k ∧ Hid (∀ j, j < k → okAt xs j = true) ∧ Below w.heap.size w wr) (fun i _ => n - (intOf i).toNat)
    case atStart => exact ⟨0, Nat.zero_le _, rfl, fun j hj => absurd hj (Nat.not_lt_zero _), Below.refl _ _⟩
    case round =>
      obtain ⟨k, hk, rfl, hall, hb⟩ := hrel
      by_cases hlt : k < n
      · have hlt' : k < xs.length := by rw [HN.out]; exact hlt
        have hlp : k - 1 < xs.length := by omega
        obtain ⟨b, off, rfl, hbl, x1, x2, y1, y2, c1, c2, hx, d1, d2, hy⟩ := (hr.below hb (Nat.le_refl _)).two hlt' hlp
        clear hr
        have q1 := Kin.cell c1; have q2 := Kin.cell c2; have q3 := Kin.cell d2
        by_cases he : x2 ≤ x1
        · have hno := Lib.hid (mayB_no hlt' (show okAt xs k = false by rw [okAt_is hx.out]; simp; omega))
          clear hlt' hlp d1 d2 hy c1 c2
          go_wp2
          refine wp_region_kin (by kernel_rfl) (by kernel_rfl) ?_
          repeat (go_big_quiet_step (fail))
          refine wpQuiet_nil ?_
          rintro _ ⟨⟨w1, hb1⟩, rfl⟩
          go_wp2
          go_ret
          exact ⟨ret_bool hno.out.symm, hb.trans (hb1.mono hb.size)⟩
        · have he' : x1 < x2 := by omega
          have he2 : decide (x2 ≤ x1) = false := by simpa using he
          clear he
          by_cases hk0 : k = 0
          · have hyes := Lib.hid (show okAt xs k = true by rw [okAt_is hx.out]; simp [hk0, he'])
            have hk0' : decide (0 < k) = false := by simp [hk0]
            clear hk0 hlt' hlp d1 d2 hy c1 c2
            go_wp2
            refine wp_region_kin (by kernel_rfl) (by kernel_rfl) ?_
            repeat (go_big_quiet_step (fail))
            refine wpQuiet_nil ?_
            rintro _ ⟨⟨w1, hb1⟩, rfl⟩
            go_wp2
            go_roundw
            case rel => exact ⟨k + 1, by omega, by go_num, all_succ hall hyes.out, hb.trans (hb1.mono hb.size)⟩
            case measure => simp [intOf]; omega
          · have hk0' : 0 < k := by omega
            by_cases ht : x1 ≤ y2
            · have hno := Lib.hid (mayB_no hlt' (show okAt xs k = false by rw [okAt_is2 hx.out hy.out]; simp [hk0]; omega))
              clear hk0 hlt' hlp d1 d2 hy c1 c2
              go_wp2
              refine wp_region_kin (by kernel_rfl) (by kernel_rfl) ?_
              repeat (go_big_quiet_step (fail))
              refine wpQuiet_nil ?_
              rintro _ ⟨⟨w1, hb1⟩, rfl⟩
              go_wp2
              go_ret
              exact ⟨ret_bool hno.out.symm, hb.trans (hb1.mono hb.size)⟩
            · have ht' : y2 < x1 := by omega
              have hyes := Lib.hid (show okAt xs k = true by rw [okAt_is2 hx.out hy.out]; simp [he', ht'])
              clear ht hk0 hlt' hlp d1 d2 hy c1 c2
              go_wp2
              refine wp_region_kin (by kernel_rfl) (by kernel_rfl) ?_
              repeat (go_big_quiet_step (fail))
              refine wpQuiet_nil ?_
              rintro _ ⟨⟨w1, hb1⟩, rfl⟩
              go_wp2
              go_roundw
              case rel => exact ⟨k + 1, by omega, by go_num, all_succ hall hyes.out, hb.trans (hb1.mono hb.size)⟩
              case measure => simp [intOf]; omega
      · have hyes := Lib.hid (mayB_yes (xs := xs) (by rw [HN.out]; exact hl) (fun j hj => hall.out j (by rw [HN.out] at hj; omega)))
        go_wp2
        go_ret
        exact ⟨ret_bool hyes.out.symm, hb⟩
  · go_enter Try.func24, Try.ntmps24
    go_wp2
    go_ret
    exact ⟨ret_bool (by unfold mayB; rw [HN.out]; simp [hl]), Below.refl _ _⟩

set_option maxHeartbeats 400000 in
theorem refHasC (A : Option Addr) (n c : Nat) (xs : List (Int × Int)) (v : Int) (w : World) (hr : Rd w A xs) (hn : xs.length = n) (hm : n ≤ maxLen) :
    Calls Try.prog 27 #[.slice A n c, .int .u64 v] w fun e w' => e = .returned (.bool (hasB xs v)) ∧ Below w.heap.size w w' := by
  unfold maxLen at hm
  have HN := Lib.hid hn; clear hn
  go_enter Try.func27, Try.ntmps27
  go_wp2
  go_loopw [5] (fun i wr => ∃ k : Nat, k ≤ n ∧ i = .int .i64 k ∧ Hid (∀ j, j < k → inB (xs.getD j (0, 0)) v = false) ∧ Below w.heap.size w wr) (fun i _ => n - (intOf i).toNat)
  case atStart => exact ⟨0, Nat.zero_le _, rfl, fun j hj => absurd hj (Nat.not_lt_zero _), Below.refl _ _⟩
  case round =>
    obtain ⟨k, hk, rfl, hall, hb⟩ := hrel
    by_cases hlt : k < n
    · have hlt' : k < xs.length := by rw [HN.out]; exact hlt
      obtain ⟨b, off, rfl, hbl, x1, x2, c1, c2, hx⟩ := (hr.below hb (Nat.le_refl _)).at_ hlt'
      have hxk : xs.getD k (0, 0) = (x1, x2) := by simp [List.getD, hx.out]
      by_cases hin : x1 ≤ v ∧ v < x2
      · have hyes := Lib.hid (show hasB xs v = true from (hasB_iff xs v).2 ⟨(x1, x2), List.mem_of_getElem? hx.out, hin⟩)
        obtain ⟨h1, h2⟩ := hin
        clear hr hxk hlt'
        go_wp2
        go_ret
        exact ⟨ret_bool hyes.out.symm, hb⟩
      · have hno := Lib.hid (show inB (xs.getD k (0, 0)) v = false by rw [hxk]; unfold inB; simp; omega)
        clear hxk hlt' hr
        by_cases h1 : x1 ≤ v
        all_goals
          go_wp2
          go_roundw
          case rel => exact ⟨k + 1, by omega, by go_num, all_succ hall hno.out, hb⟩
          case measure => simp [intOf]; omega
    · have hno := Lib.hid (show hasB xs v = false by
        rw [Bool.eq_false_iff]; intro h
        obtain ⟨s, hs, h1⟩ := (hasB_iff xs v).1 h
        obtain ⟨j, hj, hjs⟩ := List.mem_iff_getElem.1 hs
        have := hall.out j (by rw [HN.out] at hj; omega)
        rw [show xs.getD j (0, 0) = s by simp [List.getD, hj, hjs]] at this
        rw [(inB_iff s v).2 h1] at this
        cases this)
      go_wp2
      go_ret
      exact ⟨ret_bool hno.out.symm, hb⟩

theorem atL_none {xs : List (Int × Int)} {v : Int} {n : Nat} (hn : xs.length = n) (hall : ∀ j, j < n → inB (xs.getD j (0, 0)) v = false) : atL xs v = none := by
  unfold atL
  rw [List.find?_eq_none]
  intro s hs
  obtain ⟨j, hj, hjs⟩ := List.mem_iff_getElem.1 hs
  have := hall j (by omega)
  rw [show xs.getD j (0, 0) = s by simp [List.getD, hj, hjs]] at this
  rw [this]; simp
theorem atL_first {xs : List (Int × Int)} {v : Int} {k : Nat} {x : Int × Int} (hx : xs[k]? = some x) (hall : ∀ j, j < k → inB (xs.getD j (0, 0)) v = false) (h : inB x v = true) : atL xs v = some x := by
  unfold atL
  obtain ⟨hk, he⟩ := List.getElem?_eq_some_iff.1 hx
  rw [List.find?_eq_some_iff_getElem]
  refine ⟨h, k, hk, he, fun j hj => ?_⟩
  have := hall j hj
  rw [show xs.getD j (0, 0) = xs[j] by simp [List.getD, show j < xs.length by omega]] at this
  simp [this]

set_option maxHeartbeats 400000 in
theorem refGapC (A : Option Addr) (n c : Nat) (xs : List (Int × Int)) (v : Int) (w : World) (hr : Rd w A xs) (hn : xs.length = n) (hm : n ≤ maxLen) :
    Calls Try.prog 31 #[.slice A n c, .int .u64 v] w fun e w' => e = .returned (.int .u64 (if mayB xs then gapL xs v else 0)) ∧ Below w.heap.size w w' := by
  have hM := refMayC A n c xs w hr hn hm
  unfold maxLen at hm
  have HN := Lib.hid hn; clear hn
  cases hmay : mayB xs
  · rw [hmay] at hM
    have HC := Lib.hid hM; clear hM hmay hr
    go_enter Try.func31, Try.ntmps31
    go_wp2_with (go_at_call 24; refine HC.out.mono ?_; rintro e w' ⟨rfl, hb'⟩)
    go_ret
    exact ⟨rfl, hb'⟩
  · rw [hmay] at hM
    have HC := Lib.hid hM; clear hM hmay
    go_enter Try.func31, Try.ntmps31
    go_wp2_with fail
    refine HC.out.mono ?_
    rintro e w1 ⟨rfl, hb1⟩
    go_wp2
    go_loopw [5] (fun i wr => ∃ k : Nat, k ≤ n ∧ i = .int .i64 k ∧ Hid (∀ j, j < k → inB (xs.getD j (0, 0)) v = false) ∧ Below w.heap.size w wr) (fun i _ => n - (intOf i).toNat)
    case atStart => exact ⟨0, Nat.zero_le _, rfl, fun j hj => absurd hj (Nat.not_lt_zero _), hb1⟩
    case round =>
      obtain ⟨k, hk, rfl, hall, hb⟩ := hrel
      by_cases hlt : k < n
      · have hlt' : k < xs.length := by rw [HN.out]; exact hlt
        obtain ⟨b, off, rfl, hbl, x1, x2, c1, c2, hx⟩ := (hr.below hb (Nat.le_refl _)).at_ hlt'
        have hxk : xs.getD k (0, 0) = (x1, x2) := by simp [List.getD, hx.out]
        by_cases hin : x1 ≤ v ∧ v < x2
        · have hyes := Lib.hid (show gapL xs v = x2 by unfold gapL; rw [atL_first hx.out hall.out ((inB_iff _ _).2 hin)])
          obtain ⟨h1, h2⟩ := hin
          clear hr hxk hlt'
          go_wp2
          go_ret
          exact ⟨ret_int hyes.out.symm, hb⟩
        · have hno := Lib.hid (show inB (xs.getD k (0, 0)) v = false by rw [hxk]; unfold inB; simp; omega)
          clear hxk hlt' hr
          by_cases h1 : x1 ≤ v
          all_goals
            go_wp2
            go_roundw
            case rel => exact ⟨k + 1, by omega, by go_num, all_succ hall hno.out, hb⟩
            case measure => simp [intOf]; omega
      · have hno := Lib.hid (show gapL xs v = v by unfold gapL; rw [atL_none HN.out (fun j hj => hall.out j (by omega))])
        go_wp2
        go_ret
        exact ⟨ret_int hno.out.symm, hb⟩

theorem covB_none {xs : List (Int × Int)} {a b : Int} {n : Nat} (hn : xs.length = n) (hall : ∀ j, j < n → (decide ((xs.getD j (0, 0)).1 ≤ a) && decide (b ≤ (xs.getD j (0, 0)).2)) = false) : covB xs a b = false := by
  unfold covB
  rw [List.any_eq_false]
  intro s hs
  obtain ⟨j, hj, hjs⟩ := List.mem_iff_getElem.1 hs
  have := hall j (by omega)
  rw [show xs.getD j (0, 0) = s by simp [List.getD, hj, hjs]] at this
  rw [this]; simp
theorem covB_some {xs : List (Int × Int)} {a b : Int} {k : Nat} {x1 x2 : Int} (hx : xs[k]? = some (x1, x2)) (h1 : x1 ≤ a) (h2 : b ≤ x2) : covB xs a b = true := by
  unfold covB
  rw [List.any_eq_true]
  exact ⟨(x1, x2), List.mem_of_getElem? hx, by simp [h1, h2]⟩

set_option maxHeartbeats 1000000 in
theorem refCoversC (A : Option Addr) (n c : Nat) (xs : List (Int × Int)) (a b : Int) (w : World) (hr : Rd w A xs) (hn : xs.length = n) (hm : n ≤ maxLen) :
    Calls Try.prog 29 #[.slice A n c, .agg #[.int .u64 a, .int .u64 b]] w fun e w' => e = .returned (.bool (coversL xs a b)) ∧ Below w.heap.size w w' := by
  obtain ⟨W, hW⟩ : ∃ W, Hid (W = w.alloc (.cells #[.int .u64 a, .int .u64 b] 31)) := ⟨_, rfl⟩
  have hB : Below w.heap.size w W := by rw [hW.out]; exact (Below.refl _ _).alloc (Nat.le_refl _) _
  have g1 : W.cell? ⟨w.heap.size, 0, none⟩ = some (.int .u64 a) := by rw [hW.out]; go_simp
  have g2 : W.cell? ⟨w.heap.size, 1, none⟩ = some (.int .u64 b) := by rw [hW.out]; go_simp
  have hM := refMayC A n c xs W (hr.below hB (Nat.le_refl _)) hn hm
  unfold maxLen at hm
  have HN := Lib.hid hn; clear hn
  cases hmay : mayB xs
  · rw [hmay] at hM
    have HF := Lib.hid (show coversL xs a b = false by unfold coversL; simp [hmay])
    have HC := Lib.hid hM; clear hM hmay hr g1 g2
    go_enter Try.func29, Try.ntmps29
    go_wp2_with fail
    rw [← hW.out]
    refine HC.out.mono ?_
    rintro e w1 ⟨rfl, hb1⟩
    go_wp2
    go_ret
    exact ⟨ret_bool HF.out.symm, hB.trans (hb1.mono hB.size)⟩
  · rw [hmay] at hM
    by_cases hab : a ≤ b
    · by_cases he : a = b
      · have HF := Lib.hid (show coversL xs a b = true by unfold coversL; simp [hmay, he])
        have HC := Lib.hid hM; clear hM hmay hr
        subst he
        go_enter Try.func29, Try.ntmps29
        go_wp2_with fail
        rw [← hW.out]
        refine HC.out.mono ?_
        rintro e w1 ⟨rfl, hb1⟩
        replace g1 := cell_up hb1 g1; replace g2 := cell_up hb1 g2
        go_wp2
        go_ret
        exact ⟨ret_bool HF.out.symm, hB.trans (hb1.mono hB.size)⟩
      · have HF := Lib.hid (show coversL xs a b = covB xs a b by unfold coversL; simp [hmay, hab]; intro h; omega)
        have hne : (a == b) = false := by rw [beq_eq_false_iff_ne]; exact he
        have HC := Lib.hid hM; clear hM hmay he
        go_enter Try.func29, Try.ntmps29
        go_wp2_with fail
        rw [← hW.out]
        refine HC.out.mono ?_
        rintro e w1 ⟨rfl, hb1⟩
        replace g1 := cell_up hb1 g1; replace g2 := cell_up hb1 g2
        have hB1 : Below w.heap.size w w1 := hB.trans (hb1.mono hB.size)
        clear hB hW hb1 HC
        go_wp2
        go_loopw [5] (fun i wr => ∃ k : Nat, k ≤ n ∧ i = .int .i64 k ∧ Hid (∀ j, j < k → (decide ((xs.getD j (0, 0)).1 ≤ a) && decide (b ≤ (xs.getD j (0, 0)).2)) = false) ∧ Below w.heap.size w wr ∧ wr.cell? ⟨w.heap.size, 0, none⟩ = some (.int .u64 a) ∧ wr.cell? ⟨w.heap.size, 1, none⟩ = some (.int .u64 b)) (fun i _ => n - (intOf i).toNat)
        case atStart => exact ⟨0, Nat.zero_le _, rfl, fun j hj => absurd hj (Nat.not_lt_zero _), hB1, g1, g2⟩
        case round =>
          obtain ⟨k, hk, rfl, hall, hb, e1, e2⟩ := hrel
          clear g1 g2 hB1
          by_cases hlt : k < n
          · have hlt' : k < xs.length := by rw [HN.out]; exact hlt
            obtain ⟨bb, off, rfl, hbl, x1, x2, c1, c2, hx⟩ := (hr.below hb (Nat.le_refl _)).at_ hlt'
            have hxk : xs.getD k (0, 0) = (x1, x2) := by simp [List.getD, hx.out]
            have q1 := Kin.cell c1; have q2 := Kin.cell c2; have q3 := Kin.cell e1; have q4 := Kin.cell e2
            by_cases hin : x1 ≤ a ∧ b ≤ x2
            · have hyes := Lib.hid (covB_some hx.out hin.1 hin.2)
              obtain ⟨h1, h2⟩ := hin
              clear hr hxk hlt' c1 c2
              go_wp2
              refine wp_region_kin (by kernel_rfl) (by kernel_rfl) ?_
              repeat (go_big_quiet_step (fail))
              refine wpQuiet_nil ?_
              rintro _ ⟨⟨w2, hb2⟩, rfl⟩
              go_wp2
              go_ret
              exact ⟨ret_bool (by rw [HF.out, hyes.out]), hb.trans (hb2.mono hb.size)⟩
            · have hno := Lib.hid (show (decide ((xs.getD k (0, 0)).1 ≤ a) && decide (b ≤ (xs.getD k (0, 0)).2)) = false by rw [hxk]; simp; omega)
              by_cases h1 : x1 ≤ a
              · have h2 : x2 < b := by omega
                clear hxk hlt' hr c1 c2 hin
                go_wp2
                refine wp_region_kin (by kernel_rfl) (by kernel_rfl) ?_
                repeat (go_big_quiet_step (fail))
                refine wpQuiet_nil ?_
                rintro _ ⟨⟨w2, hb2⟩, rfl⟩
                go_wp2
                go_roundw
                case rel => exact ⟨k + 1, by omega, by go_num, all_succ hall hno.out, hb.trans (hb2.mono hb.size), cell_up hb2 e1, cell_up hb2 e2⟩
                case measure => simp [intOf]; omega
              · have h2 : decide (x1 ≤ a) = false := by simpa using h1
                clear hxk hlt' hr c1 c2 hin h1
                go_wp2
                refine wp_region_kin (by kernel_rfl) (by kernel_rfl) ?_
                repeat (go_big_quiet_step (fail))
                refine wpQuiet_nil ?_
                rintro _ ⟨⟨w2, hb2⟩, rfl⟩
                go_wp2
                go_roundw
                case rel => exact ⟨k + 1, by omega, by go_num, all_succ hall hno.out, hb.trans (hb2.mono hb.size), cell_up hb2 e1, cell_up hb2 e2⟩
                case measure => simp [intOf]; omega
          · have hno := Lib.hid (covB_none HN.out (fun j hj => hall.out j (by omega)))
            go_wp2
            go_ret
            exact ⟨ret_bool (by rw [HF.out, hno.out]), hb⟩
    · have HF := Lib.hid (show coversL xs a b = false by unfold coversL; simp [hmay, hab])
      have hba : b < a := by omega
      have HC := Lib.hid hM; clear hM hmay hr hab
      go_enter Try.func29, Try.ntmps29
      go_wp2_with fail
      rw [← hW.out]
      refine HC.out.mono ?_
      rintro e w1 ⟨rfl, hb1⟩
      replace g1 := cell_up hb1 g1; replace g2 := cell_up hb1 g2
      go_wp2
      go_ret
      exact ⟨ret_bool HF.out.symm, hB.trans (hb1.mono hB.size)⟩
end Go.Proofs.Ytejknbpadlidaaa.sp
