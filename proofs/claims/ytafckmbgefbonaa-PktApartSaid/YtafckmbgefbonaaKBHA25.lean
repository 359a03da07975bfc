/- B H A: contracts, part 25. Condition: as each says. -/
import Derived.Test.YtafckmbgefbonaaKBHA24
import Derived.Laws.EntriesVeiled
set_option linter.unusedVariables false
set_option linter.unusedSimpArgs false
namespace Go.Proofs.Ytafckmbgefbonaa.ip
open Go.RowKit Go.Shelf Go.Proofs.Ytafckmbgefbonaa.sm Go.Proofs.Ytafckmbgefbonaa.nb Go.Proofs.Ytafckmbgefbonaa.im
set_option linter.unusedVariables false

theorem Box.c7 {W : World} {b : Nat} {x0 x1 x2 x3 x4 x5 x6 : Value} (h : Box W b [x0, x1, x2, x3, x4, x5, x6]) : W.cell? ⟨b, 0, none⟩ = some x0 ∧ W.cell? ⟨b, 1, none⟩ = some x1 ∧ W.cell? ⟨b, 2, none⟩ = some x2 ∧ W.cell? ⟨b, 3, none⟩ = some x3 ∧ W.cell? ⟨b, 4, none⟩ = some x4 ∧ W.cell? ⟨b, 5, none⟩ = some x5 ∧ W.cell? ⟨b, 6, none⟩ = some x6 ∧ W.frozen? ⟨b, 0, none⟩ = false ∧ W.frozen? ⟨b, 1, none⟩ = false ∧ W.frozen? ⟨b, 2, none⟩ = false ∧ W.frozen? ⟨b, 3, none⟩ = false ∧ W.frozen? ⟨b, 4, none⟩ = false ∧ W.frozen? ⟨b, 5, none⟩ = false ∧ W.frozen? ⟨b, 6, none⟩ = false :=
  ⟨h.at 0 rfl, h.at 1 rfl, h.at 2 rfl, h.at 3 rfl, h.at 4 rfl, h.at 5 rfl, h.at 6 rfl, h.fr 0 rfl, h.fr 1 rfl, h.fr 2 rfl, h.fr 3 rfl, h.fr 4 rfl, h.fr 5 rfl, h.fr 6 rfl⟩
theorem put7 {W : World} {b : Nat} {x0 x1 x2 x3 x4 x5 x6 : Value} (hB : Box W b [x0, x1, x2, x3, x4, x5, x6]) (y0 y1 y2 y3 y4 y5 y6 : Value) : Box (((((((W.setCell ⟨b, 0, none⟩ y0).setCell ⟨b, 1, none⟩ y1).setCell ⟨b, 2, none⟩ y2).setCell ⟨b, 3, none⟩ y3).setCell ⟨b, 4, none⟩ y4).setCell ⟨b, 5, none⟩ y5).setCell ⟨b, 6, none⟩ y6) b [y0, y1, y2, y3, y4, y5, y6] := (((((((hB.set 0 y0).set 1 y1).set 2 y2).set 3 y3).set 4 y4).set 5 y5).set 6 y6)
theorem ups7 {w W : World} {b : Nat} (hu : Up w W) (hb : w.heap.size ≤ b) (y0 y1 y2 y3 y4 y5 y6 : Value) : Up w (((((((W.setCell ⟨b, 0, none⟩ y0).setCell ⟨b, 1, none⟩ y1).setCell ⟨b, 2, none⟩ y2).setCell ⟨b, 3, none⟩ y3).setCell ⟨b, 4, none⟩ y4).setCell ⟨b, 5, none⟩ y5).setCell ⟨b, 6, none⟩ y6) := (up_set (up_set (up_set (up_set (up_set (up_set (up_set hu hb) hb) hb) hb) hb) hb) hb)
def DV (l : List UInt8) : Value := if dec l = 0 then .tuple #[RV l, .string (tx (l.drop 20)), .int .i64 0] else .tuple #[HV 0 0 0 0 0 0 false, .string ByteArray.empty, .int .i64 (dec l : Nat)]
theorem DV_err {l : List UInt8} {n : Nat} (h : dec l = n) (hn : n ≠ 0) : DV l = .tuple #[HV 0 0 0 0 0 0 false, .string ByteArray.empty, .int .i64 n] := by
  unfold DV; rw [h, if_neg hn]
theorem DV_ok {l : List UInt8} (h : dec l = 0) : DV l = .tuple #[RV l, .string (tx (l.drop 20)), .int .i64 0] := by unfold DV; rw [if_pos h]
def Inv (l : List UInt8) (k : Nat) : Prop :=
  (1 ≤ k → ¬ l.length < 20) ∧ (2 ≤ k → bt l 0 / 16 = 4) ∧ (3 ≤ k → bt l 0 % 16 = 5) ∧ (4 ≤ k → wd l 2 = (l.length : Int)) ∧ (5 ≤ k → ck (wsum (l.take 20)) = 0) ∧ (6 ≤ k → ¬ (wd l 6 ≠ 0 ∧ wd l 6 ≠ 16384))

theorem inv_next0 {l : List UInt8} (h : Inv l 0) (hc : ¬ (l.length < 20)) : Inv l 1 := ⟨fun _ => hc, fun hh => by omega, fun hh => by omega, fun hh => by omega, fun hh => by omega, fun hh => by omega⟩
theorem inv_next1 {l : List UInt8} (h : Inv l 1) (hc : ¬ (bt l 0 / 16 ≠ 4)) : Inv l 2 := ⟨fun _ => h.1 (by omega), fun _ => Decidable.not_not.1 hc, fun hh => by omega, fun hh => by omega, fun hh => by omega, fun hh => by omega⟩
theorem inv_next2 {l : List UInt8} (h : Inv l 2) (hc : ¬ (bt l 0 % 16 ≠ 5)) : Inv l 3 := ⟨fun _ => h.1 (by omega), fun _ => h.2.1 (by omega), fun _ => Decidable.not_not.1 hc, fun hh => by omega, fun hh => by omega, fun hh => by omega⟩
theorem inv_next3 {l : List UInt8} (h : Inv l 3) (hc : ¬ (wd l 2 ≠ (l.length : Int))) : Inv l 4 := ⟨fun _ => h.1 (by omega), fun _ => h.2.1 (by omega), fun _ => h.2.2.1 (by omega), fun _ => Decidable.not_not.1 hc, fun hh => by omega, fun hh => by omega⟩
theorem inv_next4 {l : List UInt8} (h : Inv l 4) (hc : ¬ (ck (wsum (l.take 20)) ≠ 0)) : Inv l 5 := ⟨fun _ => h.1 (by omega), fun _ => h.2.1 (by omega), fun _ => h.2.2.1 (by omega), fun _ => h.2.2.2.1 (by omega), fun _ => Decidable.not_not.1 hc, fun hh => by omega⟩
theorem inv_next5 {l : List UInt8} (h : Inv l 5) (hc : ¬ (wd l 6 ≠ 0 ∧ wd l 6 ≠ 16384)) : Inv l 6 := ⟨fun _ => h.1 (by omega), fun _ => h.2.1 (by omega), fun _ => h.2.2.1 (by omega), fun _ => h.2.2.2.1 (by omega), fun _ => h.2.2.2.2.1 (by omega), fun _ => hc⟩
abbrev Z7 : List Value := [.int .u32 0, .int .u32 0, .int .u8 0, .int .u8 0, .int .u8 0, .int .u16 0, .bool false]
set_option maxHeartbeats 8000000 in
set_option maxRecDepth 100000 in
theorem decodeC (s : ByteArray) (w : World) (hs : s.size ≤ 1099511627776) :
    Calls Try.prog 20 #[.string s] w fun e w' => e = .returned (DV (L s)) ∧ Up w w' := by
  have HS := Lib.hid hs; clear hs
  go_enter Try.func20, Try.ntmps20
  go_upto_region 1 with fail
  have hB := Box.new w #[.int .u32 0, .int .u32 0, .int .u8 0, .int .u8 0, .int .u8 0, .int .u16 0, .bool false] 57
  have hu : Up w (w.alloc (.cells #[.int .u32 0, .int .u32 0, .int .u8 0, .int .u8 0, .int .u8 0, .int .u16 0, .bool false] 57)) := up_al _ (Below.refl _ _)
  have hz : w.heap.size < (w.alloc (.cells #[.int .u32 0, .int .u32 0, .int .u8 0, .int .u8 0, .int .u8 0, .int .u16 0, .bool false] 57)).heap.size := by simp
  generalize (w.alloc (.cells #[.int .u32 0, .int .u32 0, .int .u8 0, .int .u8 0, .int .u8 0, .int .u16 0, .bool false] 57)) = w0 at hB hu hz ⊢
  go_wp2_with fail
  refine (faultsC w0).mono ?_
  rintro e w1 ⟨rfl, rfl⟩
  have hF := Box.new w0 FC.toArray 86
  have hB1 := hB.alloc (.cells FC.toArray 86)
  have hu1 : Up w (w0.alloc (.cells FC.toArray 86)) := up_al _ hu
  generalize (w0.alloc (.cells FC.toArray 86)) = w1 at hF hB1 hu1 ⊢
  have hBF := Lib.hid (And.intro hB1 (And.intro hF hz))
  clear hB hB1 hF hz hu
  generalize w0.heap.size = n1 at hBF ⊢
  go_wp2
  go_loopw [9] (fun i wr => ∃ k : Nat, k ≤ 6 ∧ i = .int .i64 (k : Nat) ∧ Hid (Inv (L s) k) ∧ Hid (Box wr w.heap.size Z7 ∧ Box wr n1 FC ∧ w.heap.size < n1) ∧ Up w wr) (fun i _ => 6 - (intOf i).toNat)
  case atStart => exact ⟨0, by omega, rfl, by unfold Hid Inv; omega, hBF.out, hu1⟩
  case round =>
    clear hBF hu1
    obtain ⟨k, hk, rfl, hI, hBF, hu⟩ := hrel
    obtain ⟨hB, hF, hlt⟩ := hBF.out
    have hlt' := Lib.hid hlt; clear hlt
    rcases (by omega : k = 0 ∨ k = 1 ∨ k = 2 ∨ k = 3 ∨ k = 4 ∨ k = 5 ∨ k = 6) with rfl | rfl | rfl | rfl | rfl | rfl | rfl
    · have g0 := hF.at 0 rfl
      have g1 := hF.at 1 rfl
      by_cases hc : s.size < 20
      · have hd : decide (s.size < 20) = true := decide_eq_true hc
        have HD := Lib.hid (DV_err (dec_50 (l := L s) (by rw [L_len]; exact hc)) (by decide))
        clear hc
        go_wp2_with fail
        refine (fault1 s _).mono ?_
        rintro e w2 ⟨rfl, rfl⟩
        have hX := Box.new wr #[.int .i64 50, .func (.func 64) #[] #[]] 86
        have hB2 := hB.alloc (.cells #[.int .i64 50, .func (.func 64) #[] #[]] 86)
        have hu2 : Up w (wr.alloc (.cells #[.int .i64 50, .func (.func 64) #[] #[]] 86)) := up_al _ hu
        generalize (wr.alloc (.cells #[.int .i64 50, .func (.func 64) #[] #[]] 86)) = w2 at hX hB2 hu2 ⊢
        have hne : wr.heap.size ≠ w.heap.size := Nat.ne_of_gt hB.1
        have hne' : w.heap.size ≠ wr.heap.size := Nat.ne_of_lt hB.1
        clear g0 g1 hB hF hu hBF
        generalize wr.heap.size = n2 at hX hne hne' ⊢
        have x0 := hX.at 0 rfl
        have x1 := hX.at 1 rfl
        go_upto_region 5 with fail
        obtain ⟨k0, k1, k2, k3, k4, k5, k6, f0, f1, f2, f3, f4, f5, f6⟩ := Box.c7 hB2
        go_region
        all_goals
          have hB3 := Box.drew (put7 hB2 (.int .u32 0) (.int .u32 0) (.int .u8 0) (.int .u8 0) (.int .u8 0) (.int .u16 0) (.bool false))
          have hu3 := up_dr (ups7 (b := w.heap.size) hu2 (Nat.le_refl _) (.int .u32 0) (.int .u32 0) (.int .u8 0) (.int .u8 0) (.int .u8 0) (.int .u16 0) (.bool false))
          generalize World.drew _ = W3 at hB3 hu3 ⊢
          clear k0 k1 k2 k3 k4 k5 k6 f0 f1 f2 f3 f4 f5 f6 hB2 hu2 x0 x1 hX
          obtain ⟨k0, k1, k2, k3, k4, k5, k6, f0, f1, f2, f3, f4, f5, f6⟩ := Box.c7 hB3
          go_wp2
          (try simp only [Exit.inBlock, Exit.then])
          refine bodyPost_ret (v := .tuple #[HV 0 0 0 0 0 0 false, .string ByteArray.empty, .int .i64 50]) ?_ rfl ⟨congrArg Ending.returned HD.out.symm, hu3⟩
          rw [results_cell_tmp2 rfl]; go_simp; rfl
      · have hd : decide (s.size < 20) = false := decide_eq_false hc
        have hJ : Hid (Inv (L s) 1) := inv_next0 hI.out (by first | exact hc | (rw [L_len]; exact hc))
        clear hc
        go_wp2_with fail
        refine (fault1 s _).mono ?_
        rintro e w2 ⟨rfl, rfl⟩
        go_wp2
        go_roundw
        case rel => exact ⟨1, by omega, by go_num, hJ, ⟨hB.alloc _, hF.alloc _, hlt'.out⟩, up_al _ hu⟩
        case measure => simp [intOf]
    · have g0 := hF.at 2 rfl
      have g1 := hF.at 3 rfl
      have h20 : 20 ≤ s.size := by have := hI.out.1 (by omega); rw [L_len] at this; omega
      by_cases hc : bt (L s) 0 / 16 ≠ 4
      · have hd : decide (bt (L s) 0 / 16 ≠ 4) = true := decide_eq_true hc
        have HD := Lib.hid (DV_err (dec_51 (l := L s) (by rw [L_len]; omega) hc) (by decide))
        clear hc
        go_wp2_with fail
        refine (fault2 s _ HS.out (by omega)).mono ?_
        rintro e w2 ⟨rfl, rfl⟩
        have hX := Box.new wr #[.int .i64 51, .func (.func 65) #[] #[]] 86
        have hB2 := hB.alloc (.cells #[.int .i64 51, .func (.func 65) #[] #[]] 86)
        have hu2 : Up w (wr.alloc (.cells #[.int .i64 51, .func (.func 65) #[] #[]] 86)) := up_al _ hu
        generalize (wr.alloc (.cells #[.int .i64 51, .func (.func 65) #[] #[]] 86)) = w2 at hX hB2 hu2 ⊢
        have hne : wr.heap.size ≠ w.heap.size := Nat.ne_of_gt hB.1
        have hne' : w.heap.size ≠ wr.heap.size := Nat.ne_of_lt hB.1
        clear g0 g1 hB hF hu hBF
        generalize wr.heap.size = n2 at hX hne hne' ⊢
        have x0 := hX.at 0 rfl
        have x1 := hX.at 1 rfl
        go_upto_region 5 with fail
        obtain ⟨k0, k1, k2, k3, k4, k5, k6, f0, f1, f2, f3, f4, f5, f6⟩ := Box.c7 hB2
        go_region
        all_goals
          have hB3 := Box.drew (put7 hB2 (.int .u32 0) (.int .u32 0) (.int .u8 0) (.int .u8 0) (.int .u8 0) (.int .u16 0) (.bool false))
          have hu3 := up_dr (ups7 (b := w.heap.size) hu2 (Nat.le_refl _) (.int .u32 0) (.int .u32 0) (.int .u8 0) (.int .u8 0) (.int .u8 0) (.int .u16 0) (.bool false))
          generalize World.drew _ = W3 at hB3 hu3 ⊢
          clear k0 k1 k2 k3 k4 k5 k6 f0 f1 f2 f3 f4 f5 f6 hB2 hu2 x0 x1 hX
          obtain ⟨k0, k1, k2, k3, k4, k5, k6, f0, f1, f2, f3, f4, f5, f6⟩ := Box.c7 hB3
          go_wp2
          (try simp only [Exit.inBlock, Exit.then])
          refine bodyPost_ret (v := .tuple #[HV 0 0 0 0 0 0 false, .string ByteArray.empty, .int .i64 51]) ?_ rfl ⟨congrArg Ending.returned HD.out.symm, hu3⟩
          rw [results_cell_tmp2 rfl]; go_simp; rfl
      · have hd : decide (bt (L s) 0 / 16 ≠ 4) = false := decide_eq_false hc
        have hJ : Hid (Inv (L s) 2) := inv_next1 hI.out (by first | exact hc | (rw [L_len]; exact hc))
        clear hc
        go_wp2_with fail
        refine (fault2 s _ HS.out (by omega)).mono ?_
        rintro e w2 ⟨rfl, rfl⟩
        go_wp2
        go_roundw
        case rel => exact ⟨2, by omega, by go_num, hJ, ⟨hB.alloc _, hF.alloc _, hlt'.out⟩, up_al _ hu⟩
        case measure => simp [intOf]
    · have g0 := hF.at 4 rfl
      have g1 := hF.at 5 rfl
      have h20 : 20 ≤ s.size := by have := hI.out.1 (by omega); rw [L_len] at this; omega
      by_cases hc : bt (L s) 0 % 16 ≠ 5
      · have hd : decide (bt (L s) 0 % 16 ≠ 5) = true := decide_eq_true hc
        have HD := Lib.hid (DV_err (dec_52 (l := L s) (by rw [L_len]; omega) (hI.out.2.1 (by omega)) hc) (by decide))
        clear hc
        go_wp2_with fail
        refine (fault3 s _ HS.out (by omega)).mono ?_
        rintro e w2 ⟨rfl, rfl⟩
        have hX := Box.new wr #[.int .i64 52, .func (.func 66) #[] #[]] 86
        have hB2 := hB.alloc (.cells #[.int .i64 52, .func (.func 66) #[] #[]] 86)
        have hu2 : Up w (wr.alloc (.cells #[.int .i64 52, .func (.func 66) #[] #[]] 86)) := up_al _ hu
        generalize (wr.alloc (.cells #[.int .i64 52, .func (.func 66) #[] #[]] 86)) = w2 at hX hB2 hu2 ⊢
        have hne : wr.heap.size ≠ w.heap.size := Nat.ne_of_gt hB.1
        have hne' : w.heap.size ≠ wr.heap.size := Nat.ne_of_lt hB.1
        clear g0 g1 hB hF hu hBF
        generalize wr.heap.size = n2 at hX hne hne' ⊢
        have x0 := hX.at 0 rfl
        have x1 := hX.at 1 rfl
        go_upto_region 5 with fail
        obtain ⟨k0, k1, k2, k3, k4, k5, k6, f0, f1, f2, f3, f4, f5, f6⟩ := Box.c7 hB2
        go_region
        all_goals
          have hB3 := Box.drew (put7 hB2 (.int .u32 0) (.int .u32 0) (.int .u8 0) (.int .u8 0) (.int .u8 0) (.int .u16 0) (.bool false))
          have hu3 := up_dr (ups7 (b := w.heap.size) hu2 (Nat.le_refl _) (.int .u32 0) (.int .u32 0) (.int .u8 0) (.int .u8 0) (.int .u8 0) (.int .u16 0) (.bool false))
          generalize World.drew _ = W3 at hB3 hu3 ⊢
          clear k0 k1 k2 k3 k4 k5 k6 f0 f1 f2 f3 f4 f5 f6 hB2 hu2 x0 x1 hX
          obtain ⟨k0, k1, k2, k3, k4, k5, k6, f0, f1, f2, f3, f4, f5, f6⟩ := Box.c7 hB3
          go_wp2
          (try simp only [Exit.inBlock, Exit.then])
          refine bodyPost_ret (v := .tuple #[HV 0 0 0 0 0 0 false, .string ByteArray.empty, .int .i64 52]) ?_ rfl ⟨congrArg Ending.returned HD.out.symm, hu3⟩
          rw [results_cell_tmp2 rfl]; go_simp; rfl
      · have hd : decide (bt (L s) 0 % 16 ≠ 5) = false := decide_eq_false hc
        have hJ : Hid (Inv (L s) 3) := inv_next2 hI.out (by first | exact hc | (rw [L_len]; exact hc))
        clear hc
        go_wp2_with fail
        refine (fault3 s _ HS.out (by omega)).mono ?_
        rintro e w2 ⟨rfl, rfl⟩
        go_wp2
        go_roundw
        case rel => exact ⟨3, by omega, by go_num, hJ, ⟨hB.alloc _, hF.alloc _, hlt'.out⟩, up_al _ hu⟩
        case measure => simp [intOf]
    · have g0 := hF.at 6 rfl
      have g1 := hF.at 7 rfl
      have h20 : 20 ≤ s.size := by have := hI.out.1 (by omega); rw [L_len] at this; omega
      by_cases hc : wd (L s) 2 ≠ (s.size : Int)
      · have hd : decide (wd (L s) 2 ≠ (s.size : Int)) = true := decide_eq_true hc
        have HD := Lib.hid (DV_err (dec_53 (l := L s) (by rw [L_len]; omega) (hI.out.2.1 (by omega)) (hI.out.2.2.1 (by omega)) hc) (by decide))
        clear hc
        go_wp2_with fail
        refine (fault4 s _ HS.out (by omega)).mono ?_
        rintro e w2 ⟨rfl, rfl⟩
        have hX := Box.new wr #[.int .i64 53, .func (.func 67) #[] #[]] 86
        have hB2 := hB.alloc (.cells #[.int .i64 53, .func (.func 67) #[] #[]] 86)
        have hu2 : Up w (wr.alloc (.cells #[.int .i64 53, .func (.func 67) #[] #[]] 86)) := up_al _ hu
        generalize (wr.alloc (.cells #[.int .i64 53, .func (.func 67) #[] #[]] 86)) = w2 at hX hB2 hu2 ⊢
        have hne : wr.heap.size ≠ w.heap.size := Nat.ne_of_gt hB.1
        have hne' : w.heap.size ≠ wr.heap.size := Nat.ne_of_lt hB.1
        clear g0 g1 hB hF hu hBF
        generalize wr.heap.size = n2 at hX hne hne' ⊢
        have x0 := hX.at 0 rfl
        have x1 := hX.at 1 rfl
        go_upto_region 5 with fail
        obtain ⟨k0, k1, k2, k3, k4, k5, k6, f0, f1, f2, f3, f4, f5, f6⟩ := Box.c7 hB2
        go_region
        all_goals
          have hB3 := Box.drew (put7 hB2 (.int .u32 0) (.int .u32 0) (.int .u8 0) (.int .u8 0) (.int .u8 0) (.int .u16 0) (.bool false))
          have hu3 := up_dr (ups7 (b := w.heap.size) hu2 (Nat.le_refl _) (.int .u32 0) (.int .u32 0) (.int .u8 0) (.int .u8 0) (.int .u8 0) (.int .u16 0) (.bool false))
          generalize World.drew _ = W3 at hB3 hu3 ⊢
          clear k0 k1 k2 k3 k4 k5 k6 f0 f1 f2 f3 f4 f5 f6 hB2 hu2 x0 x1 hX
          obtain ⟨k0, k1, k2, k3, k4, k5, k6, f0, f1, f2, f3, f4, f5, f6⟩ := Box.c7 hB3
          go_wp2
          (try simp only [Exit.inBlock, Exit.then])
          refine bodyPost_ret (v := .tuple #[HV 0 0 0 0 0 0 false, .string ByteArray.empty, .int .i64 53]) ?_ rfl ⟨congrArg Ending.returned HD.out.symm, hu3⟩
          rw [results_cell_tmp2 rfl]; go_simp; rfl
      · have hd : decide (wd (L s) 2 ≠ (s.size : Int)) = false := decide_eq_false hc
        have hJ : Hid (Inv (L s) 4) := inv_next3 hI.out (by first | exact hc | (rw [L_len]; exact hc))
        clear hc
        go_wp2_with fail
        refine (fault4 s _ HS.out (by omega)).mono ?_
        rintro e w2 ⟨rfl, rfl⟩
        go_wp2
        go_roundw
        case rel => exact ⟨4, by omega, by go_num, hJ, ⟨hB.alloc _, hF.alloc _, hlt'.out⟩, up_al _ hu⟩
        case measure => simp [intOf]
    · have g0 := hF.at 8 rfl
      have g1 := hF.at 9 rfl
      have h20 : 20 ≤ s.size := by have := hI.out.1 (by omega); rw [L_len] at this; omega
      by_cases hc : ck (wsum ((L s).take 20)) ≠ 0
      · have hd : decide (ck (wsum ((L s).take 20)) ≠ 0) = true := decide_eq_true hc
        have HD := Lib.hid (DV_err (dec_55 (l := L s) (by rw [L_len]; omega) (hI.out.2.1 (by omega)) (hI.out.2.2.1 (by omega)) (hI.out.2.2.2.1 (by omega)) hc) (by decide))
        clear hc
        go_wp2_with fail
        refine (fault5 s _ HS.out (by omega)).mono ?_
        rintro e w2 ⟨rfl, hv⟩
        have hX := (Box.new wr #[.int .i64 55, .func (.func 68) #[] #[]] 86).up hv
        have hB2 := (hB.alloc (.cells #[.int .i64 55, .func (.func 68) #[] #[]] 86)).up hv
        have hu2 : Up w w2 := (up_al _ hu).on hv
        have hne : wr.heap.size ≠ w.heap.size := Nat.ne_of_gt hB.1
        have hne' : w.heap.size ≠ wr.heap.size := Nat.ne_of_lt hB.1
        clear g0 g1 hB hF hu hBF
        generalize wr.heap.size = n2 at hX hne hne' ⊢
        have x0 := hX.at 0 rfl
        have x1 := hX.at 1 rfl
        go_upto_region 5 with fail
        obtain ⟨k0, k1, k2, k3, k4, k5, k6, f0, f1, f2, f3, f4, f5, f6⟩ := Box.c7 hB2
        go_region
        all_goals
          have hB3 := Box.drew (put7 hB2 (.int .u32 0) (.int .u32 0) (.int .u8 0) (.int .u8 0) (.int .u8 0) (.int .u16 0) (.bool false))
          have hu3 := up_dr (ups7 (b := w.heap.size) hu2 (Nat.le_refl _) (.int .u32 0) (.int .u32 0) (.int .u8 0) (.int .u8 0) (.int .u8 0) (.int .u16 0) (.bool false))
          generalize World.drew _ = W3 at hB3 hu3 ⊢
          clear k0 k1 k2 k3 k4 k5 k6 f0 f1 f2 f3 f4 f5 f6 hB2 hu2 x0 x1 hX
          obtain ⟨k0, k1, k2, k3, k4, k5, k6, f0, f1, f2, f3, f4, f5, f6⟩ := Box.c7 hB3
          go_wp2
          (try simp only [Exit.inBlock, Exit.then])
          refine bodyPost_ret (v := .tuple #[HV 0 0 0 0 0 0 false, .string ByteArray.empty, .int .i64 55]) ?_ rfl ⟨congrArg Ending.returned HD.out.symm, hu3⟩
          rw [results_cell_tmp2 rfl]; go_simp; rfl
      · have hd : decide (ck (wsum ((L s).take 20)) ≠ 0) = false := decide_eq_false hc
        have hJ : Hid (Inv (L s) 5) := inv_next4 hI.out (by first | exact hc | (rw [L_len]; exact hc))
        clear hc
        go_wp2_with fail
        refine (fault5 s _ HS.out (by omega)).mono ?_
        rintro e w2 ⟨rfl, hv⟩
        go_wp2
        go_roundw
        case rel => exact ⟨5, by omega, by go_num, hJ, ⟨(hB.alloc _).up hv, (hF.alloc _).up hv, hlt'.out⟩, (up_al _ hu).on hv⟩
        case measure => simp [intOf]
    · have g0 := hF.at 10 rfl
      have g1 := hF.at 11 rfl
      have h20 : 20 ≤ s.size := by have := hI.out.1 (by omega); rw [L_len] at this; omega
      by_cases hc : wd (L s) 6 ≠ 0 ∧ wd (L s) 6 ≠ 16384
      · have hd : decide (wd (L s) 6 ≠ 0 ∧ wd (L s) 6 ≠ 16384) = true := decide_eq_true hc
        have HD := Lib.hid (DV_err (dec_54 (l := L s) (by rw [L_len]; omega) (hI.out.2.1 (by omega)) (hI.out.2.2.1 (by omega)) (hI.out.2.2.2.1 (by omega)) (hI.out.2.2.2.2.1 (by omega)) hc) (by decide))
        clear hc
        go_wp2_with fail
        refine (fault6 s _ HS.out (by omega)).mono ?_
        rintro e w2 ⟨rfl, rfl⟩
        have hX := Box.new wr #[.int .i64 54, .func (.func 70) #[] #[]] 86
        have hB2 := hB.alloc (.cells #[.int .i64 54, .func (.func 70) #[] #[]] 86)
        have hu2 : Up w (wr.alloc (.cells #[.int .i64 54, .func (.func 70) #[] #[]] 86)) := up_al _ hu
        generalize (wr.alloc (.cells #[.int .i64 54, .func (.func 70) #[] #[]] 86)) = w2 at hX hB2 hu2 ⊢
        have hne : wr.heap.size ≠ w.heap.size := Nat.ne_of_gt hB.1
        have hne' : w.heap.size ≠ wr.heap.size := Nat.ne_of_lt hB.1
        clear g0 g1 hB hF hu hBF
        generalize wr.heap.size = n2 at hX hne hne' ⊢
        have x0 := hX.at 0 rfl
        have x1 := hX.at 1 rfl
        go_upto_region 5 with fail
        obtain ⟨k0, k1, k2, k3, k4, k5, k6, f0, f1, f2, f3, f4, f5, f6⟩ := Box.c7 hB2
        go_region
        all_goals
          have hB3 := Box.drew (put7 hB2 (.int .u32 0) (.int .u32 0) (.int .u8 0) (.int .u8 0) (.int .u8 0) (.int .u16 0) (.bool false))
          have hu3 := up_dr (ups7 (b := w.heap.size) hu2 (Nat.le_refl _) (.int .u32 0) (.int .u32 0) (.int .u8 0) (.int .u8 0) (.int .u8 0) (.int .u16 0) (.bool false))
          generalize World.drew _ = W3 at hB3 hu3 ⊢
          clear k0 k1 k2 k3 k4 k5 k6 f0 f1 f2 f3 f4 f5 f6 hB2 hu2 x0 x1 hX
          obtain ⟨k0, k1, k2, k3, k4, k5, k6, f0, f1, f2, f3, f4, f5, f6⟩ := Box.c7 hB3
          go_wp2
          (try simp only [Exit.inBlock, Exit.then])
          refine bodyPost_ret (v := .tuple #[HV 0 0 0 0 0 0 false, .string ByteArray.empty, .int .i64 54]) ?_ rfl ⟨congrArg Ending.returned HD.out.symm, hu3⟩
          rw [results_cell_tmp2 rfl]; go_simp; rfl
      · have hd : decide (wd (L s) 6 ≠ 0 ∧ wd (L s) 6 ≠ 16384) = false := decide_eq_false hc
        have hJ : Hid (Inv (L s) 6) := inv_next5 hI.out (by first | exact hc | (rw [L_len]; exact hc))
        clear hc
        go_wp2_with fail
        refine (fault6 s _ HS.out (by omega)).mono ?_
        rintro e w2 ⟨rfl, rfl⟩
        go_wp2
        go_roundw
        case rel => exact ⟨6, by omega, by go_num, hJ, ⟨hB.alloc _, hF.alloc _, hlt'.out⟩, up_al _ hu⟩
        case measure => simp [intOf]
    · have h20 : 20 ≤ s.size := by have := hI.out.1 (by omega); rw [L_len] at this; omega
      obtain ⟨i1, i2, i3, i4, i5, i6⟩ := hI.out
      have hd0 : dec (L s) = 0 := dec_0 (i1 (by omega)) (i2 (by omega)) (i3 (by omega)) (i4 (by omega)) (i5 (by omega)) (i6 (by omega))
      have HD := Lib.hid (DV_ok hd0)
      have hx : wd (L s) 6 = 0 ∨ wd (L s) 6 = 16384 := by have := i6 (by omega); omega
      have HX := Lib.hid hx
      clear i1 i2 i3 i4 i5 i6 hd0 hx
      have h20I : (20 : Int) ≤ (s.size : Int) := by omega
      have hsl : (s.extract 20 s.size).size ≤ 1099511627776 := by have := HS.out; simp; omega
      have hL : tx ((L s).drop 20) = s.extract 20 s.size := by rw [tx_extract, List.take_of_length_le (by rw [List.length_drop, L_len]; exact Nat.le_refl _)]
      have HSL := Lib.hid hsl; have HL := Lib.hid hL
      have HT := Lib.hid h20
      clear hsl hL
      go_upto_region 7 with fail
      clear hF hBF
      have V0 : Up wr wr := Below.refl _ _
      go_region_with (first
        | (go_at_call 40; refine (readC s _ HS.out HT.out HX.out).mono ?_; rintro e v1 ⟨rfl, h1⟩; have V1 : Up wr v1 := Up.on (by repeat (first | assumption | exact Below.refl _ _ | apply up_al | apply up_dr | apply up_drN)) h1)
        | (go_at_call 31; refine (cloneC _ _ HSL.out).mono ?_; rintro e v2 ⟨rfl, h2⟩; have V2 : Up wr v2 := Up.on (by repeat (first | assumption | exact Below.refl _ _ | apply up_al | apply up_dr | apply up_drN)) h2; obtain ⟨k0, k1, k2, k3, k4, k5, k6, f0, f1, f2, f3, f4, f5, f6⟩ := Box.c7 (hB.up V2)))
      all_goals go_wp2
      all_goals
        refine fin7 (hB.up (by assumption)) (hu.on (by assumption)) (Nat.le_refl _) ?_
        intro W3 hB3 hu3
        obtain ⟨k0, k1, k2, k3, k4, k5, k6, f0, f1, f2, f3, f4, f5, f6⟩ := Box.c7 hB3
        (try simp only [Exit.inBlock, Exit.then])
        refine bodyPost_ret (v := .tuple #[RV (L s), .string (s.extract 20 s.size), .int .i64 0]) ?_ rfl ⟨?_, hu3⟩
        · rw [results_cell_tmp2 rfl]; go_simp
        · rw [HD.out, HL.out]
end Go.Proofs.Ytafckmbgefbonaa.ip
