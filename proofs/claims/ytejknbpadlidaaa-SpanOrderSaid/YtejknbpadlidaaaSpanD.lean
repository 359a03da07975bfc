/- The document's answer for spans: Len, Same: what each returns for every input. Condition: the arguments fit their kinds. -/
import Derived.Test.YtejknbpadlidaaaSpanC
import Derived.Laws.StructEq
namespace Go.Proofs.Ytejknbpadlidaaa.sp
open Go.RowKit Go.Shelf Go.Lib Go.Sort Go.Proofs.Ytejknbpadlidaaa.spm
set_option linter.unusedVariables false

theorem u64w (n : Int) : IntKind.u64.wrap n = n % 18446744073709551616 := by
  simp [IntKind.wrap, IntKind.signed, IntKind.bits]

set_option maxHeartbeats 1000000 in
theorem refLenC (A : Option Addr) (n c : Nat) (xs : List (Int × Int)) (w : World) (hr : Rd w A xs) (hn : xs.length = n) (hm : n < 4611686018427387904) (hU : U xs) :
    Calls Try.prog 33 #[.slice A n c] w fun e w' => e = .returned (.int .u64 (if mayB xs then sumI xs else 0)) ∧ Below w.heap.size w w' := by
  have hM := fun (w1 : World) (hb1 : Below w.heap.size w w1) => refMayC A n c xs w1 (hr.below hb1 (Nat.le_refl _)) hn (by unfold maxLen; omega)
  have hcan := (mayB_can xs hU.lo)
  have HN := Lib.hid hn; clear hn
  cases hmay : mayB xs
  · rw [hmay] at hM
    have HC := Lib.hid hM; clear hM hmay hcan hr
    by_cases h0 : n = 0
    · have hlt : n ≤ 0 := by omega
      clear h0
      go_enter Try.func33, Try.ntmps33
      go_wp2
      refine wp_loop_rounds 1 ?_; rw [rounds_succ]
      go_wp2
      go_ret
      exact ⟨rfl, Below.refl _ _⟩
    · have hlt : 0 < n := by omega
      clear h0
      go_enter Try.func33, Try.ntmps33
      go_wp2
      refine wp_loop_rounds 1 ?_; rw [rounds_succ]
      go_wp2_with (go_at_call 24; refine (HC.out _ (Below.refl _ _)).mono ?_; rintro e w' ⟨rfl, hb'⟩)
      go_ret
      exact ⟨rfl, by assumption⟩
  · rw [hmay] at hM
    have hca := (hcan.1 hmay).2
    have HS := Lib.hid (Canon.sum_at hca hU)
    have HLo := Lib.hid (fun (s : Sp) (hs : s ∈ xs) => (hca.lo hs).2)
    have HC := Lib.hid hM; have HU := Lib.hid hU; clear hM hmay hcan hU hca
    have HT := Lib.hid (show xs.take n = xs by rw [← HN.out]; exact List.take_length)
    go_enter Try.func33, Try.ntmps33
    go_wp2
    go_loopw [3, 4] (fun s i wr => ∃ k : Nat, k ≤ n ∧ i = .int .i64 k ∧ s = .int .u64 (sumI (xs.take k)) ∧ Below w.heap.size w wr) (fun _ i _ => n - (intOf i).toNat)
    case atStart => exact ⟨0, Nat.zero_le _, rfl, rfl, Below.refl _ _⟩
    case round =>
      obtain ⟨k, hk, rfl, rfl, hb⟩ := hrel
      by_cases hlt : k < n
      · go_wp2_with fail
        refine (HC.out _ hb).mono ?_
        rintro e w1 ⟨rfl, hb1⟩
        have hB1 := hb.trans (hb1.mono hb.size)
        obtain ⟨b, off, rfl, hbl, x1, x2, c1, c2, hx⟩ := (hr.below hB1 (Nat.le_refl _)).at_ (k := k) (by rw [HN.out]; exact hlt)
        have s1 := HS.out k
        have s2 := HS.out (k + 1)
        have e2 := Lib.hid (show sumI (xs.take (k + 1)) = sumI (xs.take k) + (x2 - x1) by rw [take_snoc' hx.out, sumI_snoc])
        rw [e2.out] at s2
        obtain ⟨u1, u2, u3, u4⟩ := HU.out (x1, x2) (List.mem_of_getElem? hx.out)
        have hlt12 : x1 < x2 := HLo.out (x1, x2) (List.mem_of_getElem? hx.out)
        simp only at u1 u2 u3 u4
        generalize sumI (xs.take k) = S at *
        have q1 := Kin.cell c1; have q2 := Kin.cell c2
        clear hr c1 c2
        by_cases hS : S + x2 ≤ 18446744073709551615
        · go_wp2_with fail
          refine wp_region_kin (by kernel_rfl) (by kernel_rfl) ?_
          repeat (go_big_quiet_step (fail))
          refine wpQuiet_nil ?_
          rintro _ ⟨⟨w2, hb2⟩, rfl⟩
          go_wp2
          go_roundw
          case rel => exact ⟨k + 1, by omega, by go_num, by rw [e2.out]; go_num, hB1.trans (hb2.mono hB1.size)⟩
          case measure => simp [intOf]; omega
        · have f1 : IntKind.u64.wrap (S + x2) = S + x2 - 18446744073709551616 := by rw [u64w]; omega
          have f2 : IntKind.u64.wrap (S + x2 - 18446744073709551616 - x1) = S + x2 - x1 := by rw [u64w]; omega
          go_wp2_with fail
          refine wp_region_kin (by kernel_rfl) (by kernel_rfl) ?_
          repeat (go_big_quiet_step (fail))
          refine wpQuiet_nil ?_
          rintro _ ⟨⟨w2, hb2⟩, rfl⟩
          clear f1 f2
          go_wp2
          go_roundw
          case rel => exact ⟨k + 1, by omega, by go_num, by rw [e2.out]; go_num, hB1.trans (hb2.mono hB1.size)⟩
          case measure => simp [intOf]; omega
      · obtain rfl : k = n := by omega
        go_wp2
        go_ret
        exact ⟨ret_int (by rw [HT.out]), hb⟩

set_option maxHeartbeats 1000000 in
theorem sameC (A A' : Option Addr) (n n' c c' : Nat) (xs ys : List (Int × Int)) (w : World) (hr : Rd w A xs) (hn : xs.length = n) (hr' : Rd w A' ys) (hn' : ys.length = n') (hm : n ≤ maxLen) (hm' : n' ≤ maxLen) :
    Calls Try.prog 25 #[.slice A n c, .slice A' n' c'] w fun e w' => e = .returned (.bool (decide (xs = ys))) ∧ Below w.heap.size w w' := by
  unfold maxLen at hm hm'
  by_cases hnn : n = n'
  · subst hnn
    have HN := Lib.hid hn; have HN' := Lib.hid hn'; clear hn hn'
    go_enter Try.func25, Try.ntmps25
    go_wp2
    go_loopw [5] (fun i wr => ∃ k : Nat, k ≤ n ∧ i = .int .i64 k ∧ Hid (∀ j, j < k → xs[j]? = ys[j]?) ∧ Below w.heap.size w wr) (fun i _ => n - (intOf i).toNat)
    case atStart => exact ⟨0, Nat.zero_le _, rfl, fun j hj => absurd hj (Nat.not_lt_zero _), Below.refl _ _⟩
    case round =>
      obtain ⟨k, hk, rfl, hall, hb⟩ := hrel
      by_cases hlt : k < n
      · obtain ⟨b, off, rfl, hbl, x1, x2, c1, c2, hx⟩ := (hr.below hb (Nat.le_refl _)).at_ (k := k) (by rw [HN.out]; exact hlt)
        obtain ⟨b', off', rfl, hbl', y1, y2, d1, d2, hy⟩ := (hr'.below hb (Nat.le_refl _)).at_ (k := k) (by rw [HN'.out]; exact hlt)
        have q1 := Kin.cell c1; have q2 := Kin.cell c2; have q3 := Kin.cell d1; have q4 := Kin.cell d2
        clear hr hr' c1 c2 d1 d2
        by_cases e1 : x1 = y1
        · by_cases e2 : x2 = y2
          · subst e1 e2
            have hyes := Lib.hid (show xs[k]? = ys[k]? by rw [hx.out, hy.out])
            go_wp2_with fail
            refine wp_region_kin (by kernel_rfl) (by kernel_rfl) ?_
            repeat (go_big_quiet_step (fail))
            refine wpQuiet_nil ?_
            rintro _ ⟨⟨w1, hb1⟩, rfl⟩
            go_wp2
            go_roundw
            case rel => exact ⟨k + 1, by omega, by go_num, all_succ hall hyes.out, hb.trans (hb1.mono hb.size)⟩
            case measure => simp [intOf]; omega
          · subst e1
            have hno := Lib.hid (show decide (xs = ys) = false by rw [decide_eq_false_iff_not]; intro h; have := hx.out; rw [h, hy.out] at this; cases this; exact e2 rfl)
            go_wp2_with fail
            refine wp_region_kin (by kernel_rfl) (by kernel_rfl) ?_
            repeat (go_big_quiet_step (fail))
            refine wpQuiet_nil ?_
            rintro _ ⟨⟨w1, hb1⟩, rfl⟩
            go_wp2
            go_ret
            exact ⟨ret_bool hno.out.symm, hb.trans (hb1.mono hb.size)⟩
        · have hno := Lib.hid (show decide (xs = ys) = false by rw [decide_eq_false_iff_not]; intro h; have := hx.out; rw [h, hy.out] at this; cases this; exact e1 rfl)
          go_wp2_with fail
          refine wp_region_kin (by kernel_rfl) (by kernel_rfl) ?_
          repeat (go_big_quiet_step (fail))
          refine wpQuiet_nil ?_
          rintro _ ⟨⟨w1, hb1⟩, rfl⟩
          go_wp2
          go_ret
          exact ⟨ret_bool hno.out.symm, hb.trans (hb1.mono hb.size)⟩
      · have hyes := Lib.hid (show decide (xs = ys) = true by
          rw [decide_eq_true_iff]
          apply List.ext_getElem?
          intro j
          by_cases hj : j < k
          · exact hall.out j hj
          · rw [List.getElem?_eq_none (by rw [HN.out]; omega), List.getElem?_eq_none (by rw [HN'.out]; omega)])
        go_wp2
        go_ret
        exact ⟨ret_bool hyes.out.symm, hb⟩
  · have hno := Lib.hid (show decide (xs = ys) = false by rw [decide_eq_false_iff_not]; intro h; subst h; exact hnn (hn.symm.trans hn'))
    have hne : ((n : Int) != (n' : Int)) = true := by rw [bne_iff_ne]; omega
    clear hn hn' hr hr'
    go_enter Try.func25, Try.ntmps25
    go_wp2
    go_ret
    exact ⟨ret_bool hno.out.symm, Below.refl _ _⟩
end Go.Proofs.Ytejknbpadlidaaa.sp
