/- Package span's second law, walked: it returns true, for every input. Condition: the arguments fit their kinds. -/
import Derived.Test.YtejknbpadlidaaaSpanR
namespace Go.Proofs.Ytejknbpadlidaaa.sp
open Go.RowKit Go.Shelf Go.Lib Go.Sort Go.Proofs.Ytejknbpadlidaaa.spm
set_option linter.unusedVariables false

set_option maxHeartbeats 2000000 in
set_option maxRecDepth 100000 in
theorem lawTells (A : Option Addr) (n c : Nat) (xs : List (Int × Int)) (a b v : Int) (w : World) (hr : Rd w A xs) (hn : xs.length = n) (hm : n ≤ maxLen) (hU : U xs) :
    Calls Try.prog 5 #[.slice A n c, .agg #[.int .u64 a, .int .u64 b], .int .u64 v] w fun e w' => e = .returned (.bool true) ∧ RowKit.Below w.heap.size w w' := by
  obtain ⟨W, hW⟩ : ∃ W, Hid (W = w.alloc (.cells #[.int .u64 a, .int .u64 b] 31)) := ⟨_, rfl⟩
  have hB : RowKit.Below w.heap.size w W := by rw [hW.out]; exact (RowKit.Below.refl _ _).alloc (Nat.le_refl _) _
  have g1 : W.cell? ⟨w.heap.size, 0, none⟩ = some (.int .u64 a) := by rw [hW.out]; go_simp
  have g2 : W.cell? ⟨w.heap.size, 1, none⟩ = some (.int .u64 b) := by rw [hW.out]; go_simp
  have hl := hr.below hB (Nat.le_refl _)
  by_cases hlong : 300 < n
  · have HLong := Lib.hid (fun (W' : World) => longC A n c W' hm)
    have hd := Lib.hid (show decide (300 < n) = true by simpa using hlong)
    clear hr hl hn hU hm g1 g2
    go_enter Try.func5, Try.ntmps5
    go_wp2_with fail
    rw [← hW.out]
    refine (HLong.out _).mono ?_
    rintro e w1 ⟨rfl, rfl⟩
    rw [hd.out]
    go_wp2_with fail
    refine (aliveC _).mono ?_
    rintro e w1 ⟨rfl, hb1⟩
    go_wp2
    go_ret
    exact ⟨rfl, hB.trans (hb1.mono hB.size)⟩
  · have HLong := Lib.hid (fun (W' : World) => longC A n c W' hm)
    have hd := Lib.hid (show decide (300 < n) = false by simpa using hlong)
    have hm' : n < 1000000 := by omega
    have hT := fun (t : Kin W) => hl.up t.below
    have H26 := fun (t : Kin W) => hasC A n c xs v t.w (hT t) hn (by omega) hU.lo
    have H24 := fun (t : Kin W) => refMayC A n c xs t.w (hT t) hn hm
    have H27 := fun (t : Kin W) => refHasC A n c xs v t.w (hT t) hn hm
    have H28 := fun (t : Kin W) => coversC A n c xs a b t.w (hT t) hn (by omega) hU.lo
    have H29 := fun (t : Kin W) => refCoversC A n c xs a b t.w (hT t) hn hm
    have H30 := fun (t : Kin W) => gapC A n c xs v t.w (hT t) hn (by omega) hU.lo
    have H31 := fun (t : Kin W) => refGapC A n c xs v t.w (hT t) hn hm
    have H32 := fun (t : Kin W) => lenC A n c xs t.w (hT t) hn (by omega) hU
    have H33 := fun (t : Kin W) => refLenC A n c xs t.w (hT t) hn (by omega) hU
    have H19 := Lib.hid (fun (t : Kin W) => aliveC t.w)
    generalize (if mayB xs then gapL xs v else 0) = gv at H30 H31
    generalize (if mayB xs then sumI xs else 0) = lv at H32 H33
    generalize coversL xs a b = cv at H28 H29
    generalize hasB xs v = hv at H26 H27
    generalize mayB xs = mv at H26 H24
    have H26 := Lib.hid H26; have H24 := Lib.hid H24; have H27 := Lib.hid H27; have H28 := Lib.hid H28; have H29 := Lib.hid H29
    have H30 := Lib.hid H30; have H31 := Lib.hid H31; have H32 := Lib.hid H32; have H33 := Lib.hid H33
    replace g1 := Kin.cell g1; replace g2 := Kin.cell g2
    clear hr hl hn hU hm hT hlong
    cases mv
    all_goals
      go_enter Try.func5, Try.ntmps5
      go_wp2_with fail
      rw [← hW.out]
      refine (HLong.out _).mono ?_
      rintro e w1 ⟨rfl, rfl⟩
      rw [hd.out]
      go_wp2_with fail
      refine wp_region_kin (by kernel_rfl) (by kernel_rfl) ?_
      repeat (go_big_quiet_step ((first | (go_at_call 26; exact Kin.call _ (H26.out _)) | (go_at_call 24; exact Kin.call _ (H24.out _)) | (go_at_call 27; exact Kin.call _ (H27.out _)) | (go_at_call 28; exact Kin.call _ (H28.out _)) | (go_at_call 29; exact Kin.call _ (H29.out _)) | (go_at_call 30; exact Kin.call _ (H30.out _)) | (go_at_call 31; exact Kin.call _ (H31.out _)) | (go_at_call 32; exact Kin.call _ (H32.out _)) | (go_at_call 33; exact Kin.call _ (H33.out _)) | (go_at_call 19; exact Kin.call _ (H19.out _)))))
      refine wpQuiet_nil ?_
      rintro _ ⟨⟨w2, hb2⟩, rfl⟩
      go_wp2
      go_ret
      exact ⟨rfl, hB.trans (hb2.mono hB.size)⟩
end Go.Proofs.Ytejknbpadlidaaa.sp
