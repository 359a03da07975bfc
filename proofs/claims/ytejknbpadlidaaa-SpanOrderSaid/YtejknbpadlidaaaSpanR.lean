/- Package span's first and second law, walked: each returns true, for every input. Condition: the arguments fit their kinds. -/
import Derived.Test.YtejknbpadlidaaaSpanQ
namespace Go.Proofs.Ytejknbpadlidaaa.sp
open Go.RowKit Go.Shelf Go.Lib Go.Sort Go.Proofs.Ytejknbpadlidaaa.spm
set_option linter.unusedVariables false

theorem refK (A : Option Addr) (n c : Nat) (xs : List (Int × Int)) (a b : Int) (add : Bool) (w : World) (ys : List Sp) (er : Int) (n' : Nat) (hs : setL xs (a, b) add = (ys, er)) (hn' : ys.length = n') (hr : Rd w A xs) (hn : xs.length = n) (hm : n < 1000000) :
    Calls Try.prog 21 #[.slice A n c, .agg #[.int .u64 a, .int .u64 b], .bool add] w (KPost w ys er n') := (refSetC A n c xs a b add w hr hn hm).mono fun _ _ h => h.k hs hn'
theorem setL_len (xs : List Sp) (x : Sp) (add : Bool) : (setL xs x add).1.length ≤ 256 := by
  unfold setL
  split
  · split
    · simp
    · split
      · simp
      · simp; omega
  · simp

set_option maxHeartbeats 2000000 in
set_option maxRecDepth 100000 in
theorem lawSets (A : Option Addr) (n c : Nat) (xs : List (Int × Int)) (a b : Int) (w : World) (hr : Rd w A xs) (hn : xs.length = n) (hm : n ≤ maxLen) (hU : U xs) (ha : 0 ≤ a ∧ a ≤ 18446744073709551615) (hb : 0 ≤ b ∧ b ≤ 18446744073709551615) :
    Calls Try.prog 4 #[.slice A n c, .agg #[.int .u64 a, .int .u64 b]] w fun e w' => e = .returned (.bool true) ∧ RowKit.Below w.heap.size w w' := by
  obtain ⟨W, hW⟩ : ∃ W, Hid (W = w.alloc (.cells #[.int .u64 a, .int .u64 b] 31)) := ⟨_, rfl⟩
  have hB : RowKit.Below w.heap.size w W := by rw [hW.out]; exact (RowKit.Below.refl _ _).alloc (Nat.le_refl _) _
  have g1 : W.cell? ⟨w.heap.size, 0, none⟩ = some (.int .u64 a) := by rw [hW.out]; go_simp
  have g2 : W.cell? ⟨w.heap.size, 1, none⟩ = some (.int .u64 b) := by rw [hW.out]; go_simp
  have hl := hr.below hB (Nat.le_refl _)
  by_cases hlong : 300 < n
  · have HLong := Lib.hid (fun (W' : World) => longC A n c W' hm)
    have hd := Lib.hid (show decide (300 < n) = true by simpa using hlong)
    clear hr hl hn hU hm
    go_enter Try.func4, Try.ntmps4
    go_wp2_with fail
    rw [← hW.out]
    refine (HLong.out _).mono ?_
    rintro e w1 ⟨rfl, rfl⟩
    rw [hd.out]
    go_wp2_with fail
    refine (aliveC _).mono ?_
    rintro e w1 ⟨rfl, hb1⟩
    go_wp2
    go_ret
    exact ⟨rfl, hB.trans (hb1.mono hB.size)⟩
  · have HLong := Lib.hid (fun (W' : World) => longC A n c W' hm)
    have hd := Lib.hid (show decide (300 < n) = false by simpa using hlong)
    have hm' : n < 1000000 := by omega
    have hm2 : n ≤ maxLen := hm
    obtain ⟨R1, hR1⟩ : ∃ R, Hid (setL xs (a, b) true = R) := ⟨_, rfl⟩
    obtain ⟨R2, hR2⟩ : ∃ R, Hid (setL xs (a, b) false = R) := ⟨_, rfl⟩
    have hL1 := setL_len xs (a, b) true
    have hL2 := setL_len xs (a, b) false
    rw [hR1.out] at hL1
    rw [hR2.out] at hL2
    obtain ⟨ys, er⟩ := R1
    obtain ⟨zs, es⟩ := R2
    obtain ⟨ny, hny⟩ : ∃ k, Hid (ys.length = k) := ⟨_, rfl⟩
    obtain ⟨nz, hnz⟩ : ∃ k, Hid (zs.length = k) := ⟨_, rfl⟩
    simp only [hny.out, hnz.out] at hL1 hL2
    have HA := Lib.hid (fun (w1 : World) (h : Rd w1 A xs) => addK A n c xs a b w1 ys er ny hR1.out hny.out h hn hm' hU ha.1 hb.1)
    have HC := Lib.hid (fun (w1 : World) (h : Rd w1 A xs) => cutK A n c xs a b w1 zs es nz hR2.out hnz.out h hn hm' hU ha.1 hb.1)
    have HR1 := Lib.hid (fun (w1 : World) (h : Rd w1 A xs) => refK A n c xs a b true w1 ys er ny hR1.out hny.out h hn hm')
    have HR2 := Lib.hid (fun (w1 : World) (h : Rd w1 A xs) => refK A n c xs a b false w1 zs es nz hR2.out hnz.out h hn hm')
    obtain ⟨mb, hmb⟩ : ∃ k, Hid (mayB xs = k) := ⟨_, rfl⟩
    have HM1 := Lib.hid (fun (w1 : World) (h : Rd w1 A xs) => mayK A n c xs mb w1 hmb.out h hn hm')
    have HM2 := Lib.hid (fun (w1 : World) (h : Rd w1 A xs) => refMayC A n c xs w1 h hn hm2)
    clear hr hn hU hm hm2 hlong ha hb
    go_enter Try.func4, Try.ntmps4
    go_wp2_with fail
    rw [← hW.out]
    refine (HLong.out _).mono ?_
    rintro e w1 ⟨rfl, rfl⟩
    rw [hd.out]
    go_wp2_with fail
    refine (HA.out _ hl).mono ?_
    rintro e w1 ⟨A1, c1, rfl, hr1, hb1⟩
    replace hl := hl.up hb1
    replace g1 := cell_up hb1 g1; replace g2 := cell_up hb1 g2
    have hB1 := hB.trans (hb1.mono hB.size)
    clear hb1 hB hW
    go_wp2_with fail
    refine (HR1.out _ hl).mono ?_
    rintro e w2 ⟨A2, c2, rfl, hr2, hb2⟩
    replace hl := hl.up hb2; replace hr1 := hr1.up hb2
    replace g1 := cell_up hb2 g1; replace g2 := cell_up hb2 g2
    have hB2 := hB1.trans (hb2.mono hB1.size)
    clear hb2 hB1
    go_wp2_with fail
    refine (HC.out _ hl).mono ?_
    rintro e w3 ⟨A3, c3, rfl, hr3, hb3⟩
    replace hl := hl.up hb3; replace hr1 := hr1.up hb3; replace hr2 := hr2.up hb3
    replace g1 := cell_up hb3 g1; replace g2 := cell_up hb3 g2
    have hB3 := hB2.trans (hb3.mono hB2.size)
    clear hb3 hB2
    go_wp2_with fail
    refine (HR2.out _ hl).mono ?_
    rintro e w4 ⟨A4, c4, rfl, hr4, hb4⟩
    replace hl := hl.up hb4; replace hr1 := hr1.up hb4; replace hr2 := hr2.up hb4; replace hr3 := hr3.up hb4
    have hB4 := hB3.trans (hb4.mono hB3.size)
    clear hb4 hB3 g1 g2
    go_wp2_with fail
    refine (HM1.out _ hl).mono ?_
    rintro e w5 ⟨rfl, hb5⟩
    replace hl := hl.up hb5; replace hr1 := hr1.up hb5; replace hr2 := hr2.up hb5; replace hr3 := hr3.up hb5; replace hr4 := hr4.up hb5
    have hB5 := hB4.trans (hb5.mono hB4.size)
    clear hb5 hB4
    go_wp2_with fail
    refine (HM2.out _ hl).mono ?_
    rintro e w6 ⟨rfl, hb6⟩
    rw [hmb.out]
    replace hr1 := hr1.up hb6; replace hr2 := hr2.up hb6; replace hr3 := hr3.up hb6; replace hr4 := hr4.up hb6
    have hB6 := hB5.trans (hb6.mono hB5.size)
    clear hb6 hB5 hl
    go_wp2_with fail
    refine (sameY A1 A2 ny c1 c2 ys _ hr1 hny.out hr2 (by unfold maxLen; omega)).mono ?_
    rintro e w7 ⟨rfl, hb7⟩
    replace hr3 := hr3.up hb7; replace hr4 := hr4.up hb7
    have hB7 := hB6.trans (hb7.mono hB6.size)
    clear hb7 hB6 hr1 hr2
    go_wp2_with fail
    refine (sameY A3 A4 nz c3 c4 zs _ hr3 hnz.out hr4 (by unfold maxLen; omega)).mono ?_
    rintro e w8 ⟨rfl, hb8⟩
    have hB8 := hB7.trans (hb8.mono hB7.size)
    clear hb8 hB7 hr3 hr4
    go_wp2_with fail
    refine (aliveC _).mono ?_
    rintro e w9 ⟨rfl, hb9⟩
    have hB9 := hB8.trans (hb9.mono hB8.size)
    clear hb9 hB8
    go_wp2
    go_ret
    exact ⟨rfl, hB9⟩
end Go.Proofs.Ytejknbpadlidaaa.sp
