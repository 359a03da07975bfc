/- alive and long: some answers that the document fixes, walked. Condition: none. -/
import Derived.Test.YtejknbpadlidaaaSpanP
namespace Go.Proofs.Ytejknbpadlidaaa.sp
open Go.RowKit Go.Shelf Go.Lib Go.Sort Go.Proofs.Ytejknbpadlidaaa.spm
set_option linter.unusedVariables false

theorem Rd.up {w w' : World} {A : Option Addr} {xs : List (Int × Int)} (h : Rd w A xs) (hb : RowKit.Below w.heap.size w w') : Rd w' A xs := h.below hb (Nat.le_refl _)
theorem Rd.alloc_ {w : World} {A : Option Addr} {xs : List (Int × Int)} (h : Rd w A xs) (o : Obj) : Rd (w.alloc o) A xs := h.up ((RowKit.Below.refl _ _).alloc (Nat.le_refl _) _)
theorem rd_lit1 (w : World) (x y : Int) (t : TypeId) : Rd (w.alloc (.cells #[.int .u64 x, .int .u64 y] t)) (some ⟨w.heap.size, 0, none⟩) [(x, y)] := fun _ => ⟨w.heap.size, 0, rfl, by simp, fun k hk => by
  obtain rfl : k = 0 := by simpa using hk
  exact ⟨by go_simp, by go_simp⟩⟩
theorem rd_lit2 (w : World) (x y z u : Int) (t : TypeId) : Rd (w.alloc (.cells #[.int .u64 x, .int .u64 y, .int .u64 z, .int .u64 u] t)) (some ⟨w.heap.size, 0, none⟩) [(x, y), (z, u)] := fun _ => ⟨w.heap.size, 0, rfl, by simp, fun k hk => by
  rcases (show k = 0 ∨ k = 1 by simp at hk; omega) with rfl | rfl
  · exact ⟨by go_simp, by go_simp⟩
  · exact ⟨by go_simp, by go_simp⟩⟩
def KPost (w : World) (ys : List Sp) (er : Int) (n' : Nat) (e : Ending) (w' : World) : Prop :=
  ∃ A' c', e = .returned (.tuple #[.slice A' n' c', .int .i64 er]) ∧ Rd w' A' ys ∧ RowKit.Below w.heap.size w w'
theorem SetPost.k {w : World} {xs ys : List Sp} {x : Sp} {add : Bool} {e : Ending} {w' : World} {er : Int} {n' : Nat} (h : SetPost w xs x add e w') (hs : setL xs x add = (ys, er)) (hn : ys.length = n') : KPost w ys er n' e w' := by
  obtain ⟨A', n, c', he, hl, hr, hb⟩ := h
  rw [hs] at he hl hr
  obtain rfl : n = n' := by rw [← hl, ← hn]
  exact ⟨A', c', he, hr, hb⟩
theorem addK (A : Option Addr) (n c : Nat) (xs : List (Int × Int)) (a b : Int) (w : World) (ys : List Sp) (er : Int) (n' : Nat) (hs : setL xs (a, b) true = (ys, er)) (hn' : ys.length = n') (hr : Rd w A xs) (hn : xs.length = n) (hm : n < 1000000) (hU : U xs) (ha : 0 ≤ a) (hb0 : 0 ≤ b) :
    Calls Try.prog 20 #[.slice A n c, .agg #[.int .u64 a, .int .u64 b]] w (KPost w ys er n') := (addC A n c xs a b w hr hn hm hU ha hb0).mono fun _ _ h => h.k hs hn'
theorem cutK (A : Option Addr) (n c : Nat) (xs : List (Int × Int)) (a b : Int) (w : World) (ys : List Sp) (er : Int) (n' : Nat) (hs : setL xs (a, b) false = (ys, er)) (hn' : ys.length = n') (hr : Rd w A xs) (hn : xs.length = n) (hm : n < 1000000) (hU : U xs) (ha : 0 ≤ a) (hb0 : 0 ≤ b) :
    Calls Try.prog 22 #[.slice A n c, .agg #[.int .u64 a, .int .u64 b]] w (KPost w ys er n') := (cutC A n c xs a b w hr hn hm hU ha hb0).mono fun _ _ h => h.k hs hn'
theorem sameY (A A' : Option Addr) (n c c' : Nat) (xs : List (Int × Int)) (w : World) (hr : Rd w A xs) (hn : xs.length = n) (hr' : Rd w A' xs) (hm : n ≤ maxLen) :
    Calls Try.prog 25 #[.slice A n c, .slice A' n c'] w fun e w' => e = .returned (.bool true) ∧ RowKit.Below w.heap.size w w' := by
  have := sameC A A' n n c c' xs xs w hr hn hr' hn hm hm
  rw [show decide (xs = xs) = true by simp] at this
  exact this
theorem gapK (A : Option Addr) (n c : Nat) (xs : List (Int × Int)) (v r : Int) (w : World) (h : (if mayB xs then gapL xs v else 0) = r) (hr : Rd w A xs) (hn : xs.length = n) (hm : n < 1000000) (h0 : U xs) :
    Calls Try.prog 30 #[.slice A n c, .int .u64 v] w fun e w' => e = .returned (.int .u64 r) ∧ RowKit.Below w.heap.size w w' := by
  have := gapC A n c xs v w hr hn (by omega) h0.lo
  rw [h] at this; exact this
theorem hasK (A : Option Addr) (n c : Nat) (xs : List (Int × Int)) (v : Int) (r : Bool) (w : World) (h : (mayB xs && hasB xs v) = r) (hr : Rd w A xs) (hn : xs.length = n) (hm : n < 1000000) (h0 : U xs) :
    Calls Try.prog 26 #[.slice A n c, .int .u64 v] w fun e w' => e = .returned (.bool r) ∧ RowKit.Below w.heap.size w w' := by
  have := hasC A n c xs v w hr hn (by omega) h0.lo
  rw [h] at this; exact this
theorem coversK (A : Option Addr) (n c : Nat) (xs : List (Int × Int)) (a b : Int) (r : Bool) (w : World) (h : coversL xs a b = r) (hr : Rd w A xs) (hn : xs.length = n) (hm : n < 1000000) (h0 : U xs) :
    Calls Try.prog 28 #[.slice A n c, .agg #[.int .u64 a, .int .u64 b]] w fun e w' => e = .returned (.bool r) ∧ RowKit.Below w.heap.size w w' := by
  have := coversC A n c xs a b w hr hn (by omega) h0.lo
  rw [h] at this; exact this
theorem lenK (A : Option Addr) (n c : Nat) (xs : List (Int × Int)) (r : Int) (w : World) (h : (if mayB xs then sumI xs else 0) = r) (hr : Rd w A xs) (hn : xs.length = n) (hm : n < 1000000) (h0 : U xs) :
    Calls Try.prog 32 #[.slice A n c] w fun e w' => e = .returned (.int .u64 r) ∧ RowKit.Below w.heap.size w w' := by
  have := lenC A n c xs w hr hn (by omega) h0
  rw [h] at this; exact this
theorem mayK (A : Option Addr) (n c : Nat) (xs : List (Int × Int)) (r : Bool) (w : World) (h : mayB xs = r) (hr : Rd w A xs) (hn : xs.length = n) (hm : n < 1000000) :
    Calls Try.prog 23 #[.slice A n c] w fun e w' => e = .returned (.bool r) ∧ RowKit.Below w.heap.size w w' := by
  have := mayC A n c xs w hr hn (by unfold maxLen; omega)
  rw [h] at this; exact this
theorem U2 (x y z u : Int) (h : (0 ≤ x ∧ x ≤ 18446744073709551615 ∧ 0 ≤ y ∧ y ≤ 18446744073709551615) ∧ 0 ≤ z ∧ z ≤ 18446744073709551615 ∧ 0 ≤ u ∧ u ≤ 18446744073709551615) : U [(x, y), (z, u)] := by
  intro s hs; simp at hs; rcases hs with rfl | rfl
  · exact h.1
  · exact h.2
theorem U1 (x y : Int) (h : 0 ≤ x ∧ x ≤ 18446744073709551615 ∧ 0 ≤ y ∧ y ≤ 18446744073709551615) : U [(x, y)] := by
  intro s hs; simp at hs; subst hs; exact h
theorem k1 : setL [(2, 4), (6, 8)] (4, 6) true = ([(2, 8)], 0) := by decide
theorem k2 : setL [(2, 8)] (3, 5) false = ([(2, 3), (5, 8)], 0) := by decide
theorem k3 : setL [(2, 2)] (0, 0) true = ([], 8) := by decide
theorem k4 : setL [(2, 4), (6, 8)] (1, 0) false = ([], 2) := by decide
theorem k5 : (if mayB [(2, 4), (6, 8)] then gapL [(2, 4), (6, 8)] 2 else 0) = 4 := by decide
theorem k6 : (if mayB [(2, 4), (6, 8)] then gapL [(2, 4), (6, 8)] 0 else 0) = 0 := by decide
theorem k7 : mayB [(2, 4), (6, 8)] = true := by decide
theorem k8 : (mayB [(2, 4), (6, 8)] && hasB [(2, 4), (6, 8)] 7) = true := by decide
theorem k9 : (mayB [(2, 4), (6, 8)] && hasB [(2, 4), (6, 8)] 8) = false := by decide
theorem k10 : coversL [(2, 4), (6, 8)] 6 8 = true := by decide
theorem k11 : (if mayB [(2, 4), (6, 8)] then sumI [(2, 4), (6, 8)] else 0) = 4 := by decide

theorem longC (A : Option Addr) (n c : Nat) (w : World) (hm : n ≤ maxLen) : Calls Try.prog 18 #[.slice A n c] w fun e w' => e = .returned (.bool (decide (300 < n))) ∧ w = w' := by
  unfold maxLen at hm
  go_enter Try.func18, Try.ntmps18
  go_wp2
  go_ret
  exact ⟨ret_bool (by rw [Bool.eq_iff_iff]; simp; omega), rfl⟩

set_option maxHeartbeats 2000000 in
set_option maxRecDepth 100000 in
theorem aliveC (w : World) : Calls Try.prog 19 #[] w fun e w' => e = .returned (.bool true) ∧ RowKit.Below w.heap.size w w' := by
  obtain ⟨W, hW⟩ : ∃ W, Hid (W = w.alloc (.cells #[.int .u64 2, .int .u64 4, .int .u64 6, .int .u64 8] 31)) := ⟨_, rfl⟩
  have hB : RowKit.Below w.heap.size w W := by rw [hW.out]; exact (RowKit.Below.refl _ _).alloc (Nat.le_refl _) _
  have hl : Rd W (some ⟨w.heap.size, 0, none⟩) [(2, 4), (6, 8)] := by rw [hW.out]; exact rd_lit2 _ _ _ _ _ _
  have hU := Lib.hid (U2 2 4 6 8 (by omega))
  go_enter Try.func19, Try.ntmps19
  go_wp2_with fail
  rw [← hW.out]
  refine (addK _ 2 2 _ 4 6 W _ 0 1 k1 rfl hl rfl (by omega) hU.out (by omega) (by omega)).mono ?_
  rintro e w1 ⟨A1, c1, rfl, hr1, hb1⟩
  replace hl := hl.up hb1
  have hB1 := hB.trans (hb1.mono hB.size)
  clear hB hW hb1
  go_wp2_with fail
  refine (cutK A1 1 c1 _ 3 5 w1 _ 0 2 k2 rfl hr1 rfl (by omega) (U1 2 8 (by omega)) (by omega) (by omega)).mono ?_
  rintro e w2 ⟨A2, c2, rfl, hr2, hb2⟩
  replace hl := hl.up hb2
  replace hr1 := hr1.up hb2
  have hB2 := hB1.trans (hb2.mono hB1.size)
  clear hB1 hb2
  go_wp2_with fail
  refine (addK _ 1 1 _ 0 0 _ _ 8 0 k3 rfl (rd_lit1 _ _ _ _) rfl (by omega) (U1 2 2 (by omega)) (by omega) (by omega)).mono ?_
  rintro e w3 ⟨A3, c3, rfl, hr3, hb3⟩
  replace hl := (hl.alloc_ _).up hb3
  replace hr1 := (hr1.alloc_ _).up hb3
  replace hr2 := (hr2.alloc_ _).up hb3
  have hB3 := (hB2.alloc hB2.size _).trans (hb3.mono (Nat.le_trans hB2.size (by simp)))
  clear hB2 hb3
  go_wp2_with fail
  refine (cutK _ 2 2 _ 1 0 _ _ 2 0 k4 rfl hl rfl (by omega) hU.out (by omega) (by omega)).mono ?_
  rintro e w4 ⟨A4, c4, rfl, hr4, hb4⟩
  replace hl := hl.up hb4
  replace hr1 := hr1.up hb4
  replace hr2 := hr2.up hb4
  have hB4 := hB3.trans (hb4.mono hB3.size)
  clear hB3 hb4
  go_wp2_with fail
  refine (sameY A1 _ 1 c1 1 _ _ (hr1.alloc_ _) rfl (rd_lit1 _ _ _ _) (by unfold maxLen; omega)).mono ?_
  rintro e w5 ⟨rfl, hb5⟩
  replace hl := (hl.alloc_ _).up hb5
  replace hr2 := (hr2.alloc_ _).up hb5
  have hB5 := (hB4.alloc hB4.size _).trans (hb5.mono (Nat.le_trans hB4.size (by simp)))
  clear hB4 hb5 hr1
  go_wp2_with fail
  refine (sameY A2 _ 2 c2 2 _ _ (hr2.alloc_ _) rfl (rd_lit2 _ _ _ _ _ _) (by unfold maxLen; omega)).mono ?_
  rintro e w6 ⟨rfl, hb6⟩
  replace hl := (hl.alloc_ _).up hb6
  have hB6 := (hB5.alloc hB5.size _).trans (hb6.mono (Nat.le_trans hB5.size (by simp)))
  clear hB5 hb6 hr2
  go_wp2_with fail
  refine (gapK _ 2 2 _ 2 4 _ k5 hl rfl (by omega) hU.out).mono ?_
  rintro e w7 ⟨rfl, hb7⟩
  replace hl := hl.up hb7
  have hB7 := hB6.trans (hb7.mono hB6.size)
  clear hB6 hb7
  go_wp2_with fail
  refine (gapK _ 2 2 _ 0 0 _ k6 hl rfl (by omega) hU.out).mono ?_
  rintro e w8 ⟨rfl, hb8⟩
  replace hl := hl.up hb8
  have hB8 := hB7.trans (hb8.mono hB7.size)
  clear hB7 hb8
  go_wp2_with fail
  refine (hasK _ 2 2 _ 7 true _ k8 hl rfl (by omega) hU.out).mono ?_
  rintro e w9 ⟨rfl, hb9⟩
  replace hl := hl.up hb9
  have hB9 := hB8.trans (hb9.mono hB8.size)
  clear hB8 hb9
  go_wp2_with fail
  refine (hasK _ 2 2 _ 8 false _ k9 hl rfl (by omega) hU.out).mono ?_
  rintro e w10 ⟨rfl, hb10⟩
  replace hl := hl.up hb10
  have hB10 := hB9.trans (hb10.mono hB9.size)
  clear hB9 hb10
  go_wp2_with fail
  refine (coversK _ 2 2 _ 6 8 true _ k10 hl rfl (by omega) hU.out).mono ?_
  rintro e w11 ⟨rfl, hb11⟩
  replace hl := hl.up hb11
  have hB11 := hB10.trans (hb11.mono hB10.size)
  clear hB10 hb11
  go_wp2_with fail
  refine (lenK _ 2 2 _ 4 _ k11 hl rfl (by omega) hU.out).mono ?_
  rintro e w12 ⟨rfl, hb12⟩
  replace hl := hl.up hb12
  have hB12 := hB11.trans (hb12.mono hB11.size)
  clear hB11 hb12
  go_wp2_with fail
  refine (mayK _ 2 2 _ true _ k7 hl rfl (by omega)).mono ?_
  rintro e w13 ⟨rfl, hb13⟩
  replace hl := hl.up hb13
  have hB13 := hB12.trans (hb13.mono hB12.size)
  clear hB12 hb13
  go_wp2
  go_ret
  exact ⟨rfl, hB13⟩
end Go.Proofs.Ytejknbpadlidaaa.sp
