/- The document's answer for tcp: what a segment's bytes are. Condition: the arguments fit their kinds. -/
import Derived.Test.YtecogakledajkaaTcpB
namespace Go.Proofs.Ytecogakledajkaa.tc
open Go.RowKit Go.Shelf Go.Proofs.Ytecogakledajkaa.sm Go.Proofs.Ytecogakledajkaa.nb Go.Proofs.Ytecogakledajkaa.cm
set_option linter.unusedVariables false

theorem Box.c8 {W : World} {b : Nat} {x0 x1 x2 x3 x4 x5 x6 x7 : Value} (h : Box W b [x0, x1, x2, x3, x4, x5, x6, x7]) : W.cell? ⟨b, 0, none⟩ = some x0 ∧ W.cell? ⟨b, 1, none⟩ = some x1 ∧ W.cell? ⟨b, 2, none⟩ = some x2 ∧ W.cell? ⟨b, 3, none⟩ = some x3 ∧ W.cell? ⟨b, 4, none⟩ = some x4 ∧ W.cell? ⟨b, 5, none⟩ = some x5 ∧ W.cell? ⟨b, 6, none⟩ = some x6 ∧ W.cell? ⟨b, 7, none⟩ = some x7 ∧ W.frozen? ⟨b, 0, none⟩ = false ∧ W.frozen? ⟨b, 1, none⟩ = false ∧ W.frozen? ⟨b, 2, none⟩ = false ∧ W.frozen? ⟨b, 3, none⟩ = false ∧ W.frozen? ⟨b, 4, none⟩ = false ∧ W.frozen? ⟨b, 5, none⟩ = false ∧ W.frozen? ⟨b, 6, none⟩ = false ∧ W.frozen? ⟨b, 7, none⟩ = false :=
  ⟨h.at 0 rfl, h.at 1 rfl, h.at 2 rfl, h.at 3 rfl, h.at 4 rfl, h.at 5 rfl, h.at 6 rfl, h.at 7 rfl, h.fr 0 rfl, h.fr 1 rfl, h.fr 2 rfl, h.fr 3 rfl, h.fr 4 rfl, h.fr 5 rfl, h.fr 6 rfl, h.fr 7 rfl⟩
theorem put8 {W : World} {b : Nat} {x0 x1 x2 x3 x4 x5 x6 x7 : Value} (hB : Box W b [x0, x1, x2, x3, x4, x5, x6, x7]) (y0 y1 y2 y3 y4 y5 y6 y7 : Value) : Box ((((((((W.setCell ⟨b, 0, none⟩ y0).setCell ⟨b, 1, none⟩ y1).setCell ⟨b, 2, none⟩ y2).setCell ⟨b, 3, none⟩ y3).setCell ⟨b, 4, none⟩ y4).setCell ⟨b, 5, none⟩ y5).setCell ⟨b, 6, none⟩ y6).setCell ⟨b, 7, none⟩ y7) b [y0, y1, y2, y3, y4, y5, y6, y7] := (Box.set (Box.set (Box.set (Box.set (Box.set (Box.set (Box.set (Box.set hB 0 y0) 1 y1) 2 y2) 3 y3) 4 y4) 5 y5) 6 y6) 7 y7)
theorem ups8 {w W : World} {b : Nat} (hu : Up w W) (hb : w.heap.size ≤ b) (y0 y1 y2 y3 y4 y5 y6 y7 : Value) : Up w ((((((((W.setCell ⟨b, 0, none⟩ y0).setCell ⟨b, 1, none⟩ y1).setCell ⟨b, 2, none⟩ y2).setCell ⟨b, 3, none⟩ y3).setCell ⟨b, 4, none⟩ y4).setCell ⟨b, 5, none⟩ y5).setCell ⟨b, 6, none⟩ y6).setCell ⟨b, 7, none⟩ y7) := (up_set (up_set (up_set (up_set (up_set (up_set (up_set (up_set hu hb) hb) hb) hb) hb) hb) hb) hb)
theorem far8 {W : World} {b c : Nat} {vs : List Value} (h : Box W b vs) (hc : c ≠ b) (y0 y1 y2 y3 y4 y5 y6 y7 : Value) : Box ((((((((W.setCell ⟨c, 0, none⟩ y0).setCell ⟨c, 1, none⟩ y1).setCell ⟨c, 2, none⟩ y2).setCell ⟨c, 3, none⟩ y3).setCell ⟨c, 4, none⟩ y4).setCell ⟨c, 5, none⟩ y5).setCell ⟨c, 6, none⟩ y6).setCell ⟨c, 7, none⟩ y7) b vs := (Box.far (Box.far (Box.far (Box.far (Box.far (Box.far (Box.far (Box.far h hc y0) hc y1) hc y2) hc y3) hc y4) hc y5) hc y6) hc y7)
/-- the head of bytes -/
def TV (l : List UInt8) : Value := HV (wd l 0) (wd l 2) (qd l 4) (qd l 8) (bt l 13) (wd l 14) (wd l 18) (tx ((l.drop 20).take ((hl l).toNat - 20)))
/-- what Decode answers -/
def DV (x y : Nat) (l : List UInt8) : Value :=
  if dec x y l = 0 then .tuple #[TV l, .string (tx (l.drop (hl l).toNat)), .int .i64 0] else .tuple #[HV 0 0 0 0 0 0 0 { data := #[] }, .string { data := #[] }, .int .i64 (dec x y l : Nat)]
theorem DV_err {x y : Nat} {l : List UInt8} {n : Nat} (h : dec x y l = n) (hn : n ≠ 0) : DV x y l = .tuple #[HV 0 0 0 0 0 0 0 { data := #[] }, .string { data := #[] }, .int .i64 n] := by
  unfold DV; rw [h, if_neg hn]
theorem DV_ok {x y : Nat} {l : List UInt8} (h : dec x y l = 0) : DV x y l = .tuple #[TV l, .string (tx (l.drop (hl l).toNat)), .int .i64 0] := by unfold DV; rw [if_pos h]
abbrev Z8 : List Value := [.int .u16 0, .int .u16 0, .int .u32 0, .int .u32 0, .int .u8 0, .int .u16 0, .int .u16 0, .string { data := #[] }]
set_option maxHeartbeats 4000000 in
set_option maxRecDepth 100000 in
theorem refDecode0 (x y : Nat) (s : ByteArray) (w : World) (hx : x ≤ 4294967295) (hy : y ≤ 4294967295) (hs : s.size ≤ 1099511627776) (c0 : (L s).length < 20) :
    Calls Try.prog 11 #[.int .u32 x, .int .u32 y, .string s] w fun e w' => e = .returned (DV x y (L s)) ∧ Up w w' := by
  have HD := Lib.hid (DV_err (dec_50 (x := x) (y := y) c0) (by decide))
  have i1 : (s.size : Int) < 20 := by rw [L_len] at c0; omega
  clear c0
  go_enter Try.func11, Try.ntmps11
  go_upto_region 1 with fail
  have hB := Box.new w #[.int .u16 0, .int .u16 0, .int .u32 0, .int .u32 0, .int .u8 0, .int .u16 0, .int .u16 0, .string { data := #[] }] 25
  have hu : Up w (w.alloc (.cells #[.int .u16 0, .int .u16 0, .int .u32 0, .int .u32 0, .int .u8 0, .int .u16 0, .int .u16 0, .string { data := #[] }] 25)) := up_al _ (Below.refl _ _)
  generalize (w.alloc (.cells #[.int .u16 0, .int .u16 0, .int .u32 0, .int .u32 0, .int .u8 0, .int .u16 0, .int .u16 0, .string { data := #[] }] 25)) = w0 at hB hu ⊢
  obtain ⟨k0, k1, k2, k3, k4, k5, k6, k7, f0, f1, f2, f3, f4, f5, f6, f7⟩ := Box.c8 hB
  go_wp2_with fail
  have hBB := put8 hB (.int .u16 0) (.int .u16 0) (.int .u32 0) (.int .u32 0) (.int .u8 0) (.int .u16 0) (.int .u16 0) (.string { data := #[] })
  have huu := ups8 (b := w.heap.size) hu (Nat.le_refl _) (.int .u16 0) (.int .u16 0) (.int .u32 0) (.int .u32 0) (.int .u8 0) (.int .u16 0) (.int .u16 0) (.string { data := #[] })
  generalize World.setCell _ ⟨w.heap.size, 7, none⟩ _ = W3 at hBB huu ⊢
  clear k0 k1 k2 k3 k4 k5 k6 k7 f0 f1 f2 f3 f4 f5 f6 f7 hB hu
  obtain ⟨k0, k1, k2, k3, k4, k5, k6, k7, f0, f1, f2, f3, f4, f5, f6, f7⟩ := Box.c8 hBB
  (try simp only [Exit.inBlock, Exit.then])
  refine bodyPost_ret (v := .tuple #[HV 0 0 0 0 0 0 0 { data := #[] }, .string { data := #[] }, .int .i64 50]) ?_ rfl ⟨congrArg Ending.returned HD.out.symm, huu⟩
  rw [results_cell_tmp2 rfl]; go_simp
set_option maxHeartbeats 4000000 in
set_option maxRecDepth 100000 in
theorem refDecode1 (x y : Nat) (s : ByteArray) (w : World) (hx : x ≤ 4294967295) (hy : y ≤ 4294967295) (hs : s.size ≤ 1099511627776) (c0 : ¬ ((L s).length < 20)) (c1 : 65515 < (L s).length) :
    Calls Try.prog 11 #[.int .u32 x, .int .u32 y, .string s] w fun e w' => e = .returned (DV x y (L s)) ∧ Up w w' := by
  have HD := Lib.hid (DV_err (dec_4 (x := x) (y := y) c0 c1) (by decide))
  have i1 : ¬ (s.size : Int) < 20 := by rw [L_len] at c0; omega
  have i2 : (65515 : Int) < (s.size : Int) := by rw [L_len] at c1; omega
  clear c0 c1
  go_enter Try.func11, Try.ntmps11
  go_upto_region 1 with fail
  have hB := Box.new w #[.int .u16 0, .int .u16 0, .int .u32 0, .int .u32 0, .int .u8 0, .int .u16 0, .int .u16 0, .string { data := #[] }] 25
  have hu : Up w (w.alloc (.cells #[.int .u16 0, .int .u16 0, .int .u32 0, .int .u32 0, .int .u8 0, .int .u16 0, .int .u16 0, .string { data := #[] }] 25)) := up_al _ (Below.refl _ _)
  generalize (w.alloc (.cells #[.int .u16 0, .int .u16 0, .int .u32 0, .int .u32 0, .int .u8 0, .int .u16 0, .int .u16 0, .string { data := #[] }] 25)) = w0 at hB hu ⊢
  obtain ⟨k0, k1, k2, k3, k4, k5, k6, k7, f0, f1, f2, f3, f4, f5, f6, f7⟩ := Box.c8 hB
  go_wp2_with fail
  have hBB := put8 hB (.int .u16 0) (.int .u16 0) (.int .u32 0) (.int .u32 0) (.int .u8 0) (.int .u16 0) (.int .u16 0) (.string { data := #[] })
  have huu := ups8 (b := w.heap.size) hu (Nat.le_refl _) (.int .u16 0) (.int .u16 0) (.int .u32 0) (.int .u32 0) (.int .u8 0) (.int .u16 0) (.int .u16 0) (.string { data := #[] })
  generalize World.setCell _ ⟨w.heap.size, 7, none⟩ _ = W3 at hBB huu ⊢
  clear k0 k1 k2 k3 k4 k5 k6 k7 f0 f1 f2 f3 f4 f5 f6 f7 hB hu
  obtain ⟨k0, k1, k2, k3, k4, k5, k6, k7, f0, f1, f2, f3, f4, f5, f6, f7⟩ := Box.c8 hBB
  (try simp only [Exit.inBlock, Exit.then])
  refine bodyPost_ret (v := .tuple #[HV 0 0 0 0 0 0 0 { data := #[] }, .string { data := #[] }, .int .i64 4]) ?_ rfl ⟨congrArg Ending.returned HD.out.symm, huu⟩
  rw [results_cell_tmp2 rfl]; go_simp
set_option maxHeartbeats 4000000 in
set_option maxRecDepth 100000 in
theorem refDecode2 (x y : Nat) (s : ByteArray) (w : World) (hx : x ≤ 4294967295) (hy : y ≤ 4294967295) (hs : s.size ≤ 1099511627776) (c0 : ¬ ((L s).length < 20)) (c1 : ¬ (65515 < (L s).length)) (c2 : ck (ts x y (L s)) ≠ 0) :
    Calls Try.prog 11 #[.int .u32 x, .int .u32 y, .string s] w fun e w' => e = .returned (DV x y (L s)) ∧ Up w w' := by
  have HD := Lib.hid (DV_err (dec_55 c0 c1 c2) (by decide))
  have h20 : 20 ≤ s.size := by rw [L_len] at c0; omega
  have hmx : s.size ≤ 65515 := by rw [L_len] at c1; omega
  have i1 : ¬ (s.size : Int) < 20 := by omega
  have i2 : ¬ (65515 : Int) < (s.size : Int) := by omega
  clear c0 c1
  go_enter Try.func11, Try.ntmps11
  go_upto_region 1 with fail
  have hB := Box.new w #[.int .u16 0, .int .u16 0, .int .u32 0, .int .u32 0, .int .u8 0, .int .u16 0, .int .u16 0, .string { data := #[] }] 25
  have hu : Up w (w.alloc (.cells #[.int .u16 0, .int .u16 0, .int .u32 0, .int .u32 0, .int .u8 0, .int .u16 0, .int .u16 0, .string { data := #[] }] 25)) := up_al _ (Below.refl _ _)
  generalize (w.alloc (.cells #[.int .u16 0, .int .u16 0, .int .u32 0, .int .u32 0, .int .u8 0, .int .u16 0, .int .u16 0, .string { data := #[] }] 25)) = w0 at hB hu ⊢
  obtain ⟨k0, k1, k2, k3, k4, k5, k6, k7, f0, f1, f2, f3, f4, f5, f6, f7⟩ := Box.c8 hB
  go_wp2_with fail
  refine (refSum x y s w0 hx hy (by omega)).mono ?_
  rintro e w1 ⟨rfl, hv1⟩
  have hB1 := hB.up hv1
  have hu1 := hu.on hv1
  clear k0 k1 k2 k3 k4 k5 k6 k7 f0 f1 f2 f3 f4 f5 f6 f7 hB hu hv1
  obtain ⟨k0, k1, k2, k3, k4, k5, k6, k7, f0, f1, f2, f3, f4, f5, f6, f7⟩ := Box.c8 hB1
  go_wp2_with fail
  have hBB := put8 hB1 (.int .u16 0) (.int .u16 0) (.int .u32 0) (.int .u32 0) (.int .u8 0) (.int .u16 0) (.int .u16 0) (.string { data := #[] })
  have huu := ups8 (b := w.heap.size) hu1 (Nat.le_refl _) (.int .u16 0) (.int .u16 0) (.int .u32 0) (.int .u32 0) (.int .u8 0) (.int .u16 0) (.int .u16 0) (.string { data := #[] })
  generalize World.setCell _ ⟨w.heap.size, 7, none⟩ _ = W3 at hBB huu ⊢
  clear k0 k1 k2 k3 k4 k5 k6 k7 f0 f1 f2 f3 f4 f5 f6 f7 hB1 hu1
  obtain ⟨k0, k1, k2, k3, k4, k5, k6, k7, f0, f1, f2, f3, f4, f5, f6, f7⟩ := Box.c8 hBB
  (try simp only [Exit.inBlock, Exit.then])
  refine bodyPost_ret (v := .tuple #[HV 0 0 0 0 0 0 0 { data := #[] }, .string { data := #[] }, .int .i64 55]) ?_ rfl ⟨congrArg Ending.returned HD.out.symm, huu⟩
  rw [results_cell_tmp2 rfl]; go_simp
set_option maxHeartbeats 4000000 in
set_option maxRecDepth 100000 in
theorem refDecode3a (x y : Nat) (s : ByteArray) (w : World) (hx : x ≤ 4294967295) (hy : y ≤ 4294967295) (hs : s.size ≤ 1099511627776) (c0 : ¬ ((L s).length < 20)) (c1 : ¬ (65515 < (L s).length)) (c2 : ¬ (ck (ts x y (L s)) ≠ 0)) (c : hl (L s) < 20) :
    Calls Try.prog 11 #[.int .u32 x, .int .u32 y, .string s] w fun e w' => e = .returned (DV x y (L s)) ∧ Up w w' := by
  have HD := Lib.hid (DV_err (dec_60 c0 c1 c2 (by omega)) (by decide))
  have h20 : 20 ≤ s.size := by rw [L_len] at c0; omega
  have hmx : s.size ≤ 65515 := by rw [L_len] at c1; omega
  have g2 : ck (ts x y (L s)) = 0 := Decidable.not_not.1 c2
  have l12 : 12 < s.size := by omega
  have j12 : (12 : Int) < (s.size : Int) := by omega
  have e12 := bt_at s 12 l12
  have b12 := c_lt (s[12]'l12)
  obtain ⟨N, hN⟩ : ∃ N : Nat, ((s[12]'l12).toNat : Int) / 16 * 4 = (N : Int) := ⟨(s[12]'l12).toNat / 16 * 4, by omega⟩
  have hHl : hl (L s) = (N : Int) := by unfold hl; rw [← e12]; exact hN
  have hN60 : N ≤ 60 := by omega
  have i3 : (N : Int) < 20 := by rw [← hHl]; exact c
  have i1 : ¬ (s.size : Int) < 20 := by omega
  have i2 : ¬ (65515 : Int) < (s.size : Int) := by omega
  clear c0 c1 c2 c hHl e12
  go_enter Try.func11, Try.ntmps11
  go_upto_region 1 with fail
  have hB := Box.new w #[.int .u16 0, .int .u16 0, .int .u32 0, .int .u32 0, .int .u8 0, .int .u16 0, .int .u16 0, .string { data := #[] }] 25
  have hu : Up w (w.alloc (.cells #[.int .u16 0, .int .u16 0, .int .u32 0, .int .u32 0, .int .u8 0, .int .u16 0, .int .u16 0, .string { data := #[] }] 25)) := up_al _ (Below.refl _ _)
  generalize (w.alloc (.cells #[.int .u16 0, .int .u16 0, .int .u32 0, .int .u32 0, .int .u8 0, .int .u16 0, .int .u16 0, .string { data := #[] }] 25)) = w0 at hB hu ⊢
  obtain ⟨k0, k1, k2, k3, k4, k5, k6, k7, f0, f1, f2, f3, f4, f5, f6, f7⟩ := Box.c8 hB
  go_wp2_with fail
  refine (refSum x y s w0 hx hy (by omega)).mono ?_
  rintro e w1 ⟨rfl, hv1⟩
  have hB1 := hB.up hv1
  have hu1 := hu.on hv1
  clear k0 k1 k2 k3 k4 k5 k6 k7 f0 f1 f2 f3 f4 f5 f6 f7 hB hu hv1
  obtain ⟨k0, k1, k2, k3, k4, k5, k6, k7, f0, f1, f2, f3, f4, f5, f6, f7⟩ := Box.c8 hB1
  go_wp2_with fail
  have hBB := put8 hB1 (.int .u16 0) (.int .u16 0) (.int .u32 0) (.int .u32 0) (.int .u8 0) (.int .u16 0) (.int .u16 0) (.string { data := #[] })
  have huu := ups8 (b := w.heap.size) hu1 (Nat.le_refl _) (.int .u16 0) (.int .u16 0) (.int .u32 0) (.int .u32 0) (.int .u8 0) (.int .u16 0) (.int .u16 0) (.string { data := #[] })
  generalize World.setCell _ ⟨w.heap.size, 7, none⟩ _ = W3 at hBB huu ⊢
  clear k0 k1 k2 k3 k4 k5 k6 k7 f0 f1 f2 f3 f4 f5 f6 f7 hB1 hu1
  obtain ⟨k0, k1, k2, k3, k4, k5, k6, k7, f0, f1, f2, f3, f4, f5, f6, f7⟩ := Box.c8 hBB
  (try simp only [Exit.inBlock, Exit.then])
  refine bodyPost_ret (v := .tuple #[HV 0 0 0 0 0 0 0 { data := #[] }, .string { data := #[] }, .int .i64 60]) ?_ rfl ⟨congrArg Ending.returned HD.out.symm, huu⟩
  rw [results_cell_tmp2 rfl]; go_simp
set_option maxHeartbeats 4000000 in
set_option maxRecDepth 100000 in
theorem refDecode3b (x y : Nat) (s : ByteArray) (w : World) (hx : x ≤ 4294967295) (hy : y ≤ 4294967295) (hs : s.size ≤ 1099511627776) (c0 : ¬ ((L s).length < 20)) (c1 : ¬ (65515 < (L s).length)) (c2 : ¬ (ck (ts x y (L s)) ≠ 0)) (c : ¬ hl (L s) < 20 ∧ ((L s).length : Int) < hl (L s)) :
    Calls Try.prog 11 #[.int .u32 x, .int .u32 y, .string s] w fun e w' => e = .returned (DV x y (L s)) ∧ Up w w' := by
  have HD := Lib.hid (DV_err (dec_60 c0 c1 c2 (by omega)) (by decide))
  have h20 : 20 ≤ s.size := by rw [L_len] at c0; omega
  have hmx : s.size ≤ 65515 := by rw [L_len] at c1; omega
  have g2 : ck (ts x y (L s)) = 0 := Decidable.not_not.1 c2
  have l12 : 12 < s.size := by omega
  have j12 : (12 : Int) < (s.size : Int) := by omega
  have e12 := bt_at s 12 l12
  have b12 := c_lt (s[12]'l12)
  obtain ⟨N, hN⟩ : ∃ N : Nat, ((s[12]'l12).toNat : Int) / 16 * 4 = (N : Int) := ⟨(s[12]'l12).toNat / 16 * 4, by omega⟩
  have hHl : hl (L s) = (N : Int) := by unfold hl; rw [← e12]; exact hN
  have hN60 : N ≤ 60 := by omega
  have i3 : ¬ (N : Int) < 20 := by rw [← hHl]; exact c.1
  have i4 : (s.size : Int) < (N : Int) := by rw [← hHl]; exact c.2
  have i1 : ¬ (s.size : Int) < 20 := by omega
  have i2 : ¬ (65515 : Int) < (s.size : Int) := by omega
  clear c0 c1 c2 c hHl e12
  go_enter Try.func11, Try.ntmps11
  go_upto_region 1 with fail
  have hB := Box.new w #[.int .u16 0, .int .u16 0, .int .u32 0, .int .u32 0, .int .u8 0, .int .u16 0, .int .u16 0, .string { data := #[] }] 25
  have hu : Up w (w.alloc (.cells #[.int .u16 0, .int .u16 0, .int .u32 0, .int .u32 0, .int .u8 0, .int .u16 0, .int .u16 0, .string { data := #[] }] 25)) := up_al _ (Below.refl _ _)
  generalize (w.alloc (.cells #[.int .u16 0, .int .u16 0, .int .u32 0, .int .u32 0, .int .u8 0, .int .u16 0, .int .u16 0, .string { data := #[] }] 25)) = w0 at hB hu ⊢
  obtain ⟨k0, k1, k2, k3, k4, k5, k6, k7, f0, f1, f2, f3, f4, f5, f6, f7⟩ := Box.c8 hB
  go_wp2_with fail
  refine (refSum x y s w0 hx hy (by omega)).mono ?_
  rintro e w1 ⟨rfl, hv1⟩
  have hB1 := hB.up hv1
  have hu1 := hu.on hv1
  clear k0 k1 k2 k3 k4 k5 k6 k7 f0 f1 f2 f3 f4 f5 f6 f7 hB hu hv1
  obtain ⟨k0, k1, k2, k3, k4, k5, k6, k7, f0, f1, f2, f3, f4, f5, f6, f7⟩ := Box.c8 hB1
  go_wp2_with fail
  have hBB := put8 hB1 (.int .u16 0) (.int .u16 0) (.int .u32 0) (.int .u32 0) (.int .u8 0) (.int .u16 0) (.int .u16 0) (.string { data := #[] })
  have huu := ups8 (b := w.heap.size) hu1 (Nat.le_refl _) (.int .u16 0) (.int .u16 0) (.int .u32 0) (.int .u32 0) (.int .u8 0) (.int .u16 0) (.int .u16 0) (.string { data := #[] })
  generalize World.setCell _ ⟨w.heap.size, 7, none⟩ _ = W3 at hBB huu ⊢
  clear k0 k1 k2 k3 k4 k5 k6 k7 f0 f1 f2 f3 f4 f5 f6 f7 hB1 hu1
  obtain ⟨k0, k1, k2, k3, k4, k5, k6, k7, f0, f1, f2, f3, f4, f5, f6, f7⟩ := Box.c8 hBB
  (try simp only [Exit.inBlock, Exit.then])
  refine bodyPost_ret (v := .tuple #[HV 0 0 0 0 0 0 0 { data := #[] }, .string { data := #[] }, .int .i64 60]) ?_ rfl ⟨congrArg Ending.returned HD.out.symm, huu⟩
  rw [results_cell_tmp2 rfl]; go_simp
set_option maxHeartbeats 4000000 in
set_option maxRecDepth 100000 in
theorem refDecode4a (x y : Nat) (s : ByteArray) (w : World) (hx : x ≤ 4294967295) (hy : y ≤ 4294967295) (hs : s.size ≤ 1099511627776) (c0 : ¬ ((L s).length < 20)) (c1 : ¬ (65515 < (L s).length)) (c2 : ¬ (ck (ts x y (L s)) ≠ 0)) (c3 : ¬ (hl (L s) < 20 ∨ ((L s).length : Int) < hl (L s))) (c : bt (L s) 12 % 16 ≠ 0) :
    Calls Try.prog 11 #[.int .u32 x, .int .u32 y, .string s] w fun e w' => e = .returned (DV x y (L s)) ∧ Up w w' := by
  have HD := Lib.hid (DV_err (dec_61 c0 c1 c2 c3 (by omega)) (by decide))
  have h20 : 20 ≤ s.size := by rw [L_len] at c0; omega
  have hmx : s.size ≤ 65515 := by rw [L_len] at c1; omega
  have g2 : ck (ts x y (L s)) = 0 := Decidable.not_not.1 c2
  have l12 : 12 < s.size := by omega
  have j12 : (12 : Int) < (s.size : Int) := by omega
  have e12 := bt_at s 12 l12
  have b12 := c_lt (s[12]'l12)
  obtain ⟨N, hN⟩ : ∃ N : Nat, ((s[12]'l12).toNat : Int) / 16 * 4 = (N : Int) := ⟨(s[12]'l12).toNat / 16 * 4, by omega⟩
  have hHl : hl (L s) = (N : Int) := by unfold hl; rw [← e12]; exact hN
  have hN60 : N ≤ 60 := by omega
  have l13 : 13 < s.size := by omega
  have j13 : (13 : Int) < (s.size : Int) := by omega
  have e13 := bt_at s 13 l13
  have b13 := c_lt (s[13]'l13)
  have i3 : ¬ (N : Int) < 20 := by rw [← hHl]; omega
  have i4 : ¬ (s.size : Int) < (N : Int) := by rw [← hHl]; rw [L_len] at c3; omega
  have i5 : ¬ ((s[12]'l12).toNat : Int) % 16 = 0 := by rw [e12]; exact c
  have i1 : ¬ (s.size : Int) < 20 := by omega
  have i2 : ¬ (65515 : Int) < (s.size : Int) := by omega
  clear c0 c1 c2 c3 c hHl e12 e13
  go_enter Try.func11, Try.ntmps11
  go_upto_region 1 with fail
  have hB := Box.new w #[.int .u16 0, .int .u16 0, .int .u32 0, .int .u32 0, .int .u8 0, .int .u16 0, .int .u16 0, .string { data := #[] }] 25
  have hu : Up w (w.alloc (.cells #[.int .u16 0, .int .u16 0, .int .u32 0, .int .u32 0, .int .u8 0, .int .u16 0, .int .u16 0, .string { data := #[] }] 25)) := up_al _ (Below.refl _ _)
  generalize (w.alloc (.cells #[.int .u16 0, .int .u16 0, .int .u32 0, .int .u32 0, .int .u8 0, .int .u16 0, .int .u16 0, .string { data := #[] }] 25)) = w0 at hB hu ⊢
  obtain ⟨k0, k1, k2, k3, k4, k5, k6, k7, f0, f1, f2, f3, f4, f5, f6, f7⟩ := Box.c8 hB
  go_wp2_with fail
  refine (refSum x y s w0 hx hy (by omega)).mono ?_
  rintro e w1 ⟨rfl, hv1⟩
  have hB1 := hB.up hv1
  have hu1 := hu.on hv1
  clear k0 k1 k2 k3 k4 k5 k6 k7 f0 f1 f2 f3 f4 f5 f6 f7 hB hu hv1
  obtain ⟨k0, k1, k2, k3, k4, k5, k6, k7, f0, f1, f2, f3, f4, f5, f6, f7⟩ := Box.c8 hB1
  go_wp2_with fail
  have hBB := put8 hB1 (.int .u16 0) (.int .u16 0) (.int .u32 0) (.int .u32 0) (.int .u8 0) (.int .u16 0) (.int .u16 0) (.string { data := #[] })
  have huu := ups8 (b := w.heap.size) hu1 (Nat.le_refl _) (.int .u16 0) (.int .u16 0) (.int .u32 0) (.int .u32 0) (.int .u8 0) (.int .u16 0) (.int .u16 0) (.string { data := #[] })
  generalize World.setCell _ ⟨w.heap.size, 7, none⟩ _ = W3 at hBB huu ⊢
  clear k0 k1 k2 k3 k4 k5 k6 k7 f0 f1 f2 f3 f4 f5 f6 f7 hB1 hu1
  obtain ⟨k0, k1, k2, k3, k4, k5, k6, k7, f0, f1, f2, f3, f4, f5, f6, f7⟩ := Box.c8 hBB
  (try simp only [Exit.inBlock, Exit.then])
  refine bodyPost_ret (v := .tuple #[HV 0 0 0 0 0 0 0 { data := #[] }, .string { data := #[] }, .int .i64 61]) ?_ rfl ⟨congrArg Ending.returned HD.out.symm, huu⟩
  rw [results_cell_tmp2 rfl]; go_simp
set_option maxHeartbeats 4000000 in
set_option maxRecDepth 100000 in
theorem refDecode4b (x y : Nat) (s : ByteArray) (w : World) (hx : x ≤ 4294967295) (hy : y ≤ 4294967295) (hs : s.size ≤ 1099511627776) (c0 : ¬ ((L s).length < 20)) (c1 : ¬ (65515 < (L s).length)) (c2 : ¬ (ck (ts x y (L s)) ≠ 0)) (c3 : ¬ (hl (L s) < 20 ∨ ((L s).length : Int) < hl (L s))) (c : bt (L s) 12 % 16 = 0 ∧ 64 ≤ bt (L s) 13) :
    Calls Try.prog 11 #[.int .u32 x, .int .u32 y, .string s] w fun e w' => e = .returned (DV x y (L s)) ∧ Up w w' := by
  have HD := Lib.hid (DV_err (dec_61 c0 c1 c2 c3 (by omega)) (by decide))
  have h20 : 20 ≤ s.size := by rw [L_len] at c0; omega
  have hmx : s.size ≤ 65515 := by rw [L_len] at c1; omega
  have g2 : ck (ts x y (L s)) = 0 := Decidable.not_not.1 c2
  have l12 : 12 < s.size := by omega
  have j12 : (12 : Int) < (s.size : Int) := by omega
  have e12 := bt_at s 12 l12
  have b12 := c_lt (s[12]'l12)
  obtain ⟨N, hN⟩ : ∃ N : Nat, ((s[12]'l12).toNat : Int) / 16 * 4 = (N : Int) := ⟨(s[12]'l12).toNat / 16 * 4, by omega⟩
  have hHl : hl (L s) = (N : Int) := by unfold hl; rw [← e12]; exact hN
  have hN60 : N ≤ 60 := by omega
  have l13 : 13 < s.size := by omega
  have j13 : (13 : Int) < (s.size : Int) := by omega
  have e13 := bt_at s 13 l13
  have b13 := c_lt (s[13]'l13)
  have i3 : ¬ (N : Int) < 20 := by rw [← hHl]; omega
  have i4 : ¬ (s.size : Int) < (N : Int) := by rw [← hHl]; rw [L_len] at c3; omega
  have i5 : ((s[12]'l12).toNat : Int) % 16 = 0 := by rw [e12]; exact c.1
  have i6 : (64 : Int) ≤ ((s[13]'l13).toNat : Int) := by rw [e13]; exact c.2
  have i1 : ¬ (s.size : Int) < 20 := by omega
  have i2 : ¬ (65515 : Int) < (s.size : Int) := by omega
  clear c0 c1 c2 c3 c hHl e12 e13
  go_enter Try.func11, Try.ntmps11
  go_upto_region 1 with fail
  have hB := Box.new w #[.int .u16 0, .int .u16 0, .int .u32 0, .int .u32 0, .int .u8 0, .int .u16 0, .int .u16 0, .string { data := #[] }] 25
  have hu : Up w (w.alloc (.cells #[.int .u16 0, .int .u16 0, .int .u32 0, .int .u32 0, .int .u8 0, .int .u16 0, .int .u16 0, .string { data := #[] }] 25)) := up_al _ (Below.refl _ _)
  generalize (w.alloc (.cells #[.int .u16 0, .int .u16 0, .int .u32 0, .int .u32 0, .int .u8 0, .int .u16 0, .int .u16 0, .string { data := #[] }] 25)) = w0 at hB hu ⊢
  obtain ⟨k0, k1, k2, k3, k4, k5, k6, k7, f0, f1, f2, f3, f4, f5, f6, f7⟩ := Box.c8 hB
  go_wp2_with fail
  refine (refSum x y s w0 hx hy (by omega)).mono ?_
  rintro e w1 ⟨rfl, hv1⟩
  have hB1 := hB.up hv1
  have hu1 := hu.on hv1
  clear k0 k1 k2 k3 k4 k5 k6 k7 f0 f1 f2 f3 f4 f5 f6 f7 hB hu hv1
  obtain ⟨k0, k1, k2, k3, k4, k5, k6, k7, f0, f1, f2, f3, f4, f5, f6, f7⟩ := Box.c8 hB1
  go_wp2_with fail
  have hBB := put8 hB1 (.int .u16 0) (.int .u16 0) (.int .u32 0) (.int .u32 0) (.int .u8 0) (.int .u16 0) (.int .u16 0) (.string { data := #[] })
  have huu := ups8 (b := w.heap.size) hu1 (Nat.le_refl _) (.int .u16 0) (.int .u16 0) (.int .u32 0) (.int .u32 0) (.int .u8 0) (.int .u16 0) (.int .u16 0) (.string { data := #[] })
  generalize World.setCell _ ⟨w.heap.size, 7, none⟩ _ = W3 at hBB huu ⊢
  clear k0 k1 k2 k3 k4 k5 k6 k7 f0 f1 f2 f3 f4 f5 f6 f7 hB1 hu1
  obtain ⟨k0, k1, k2, k3, k4, k5, k6, k7, f0, f1, f2, f3, f4, f5, f6, f7⟩ := Box.c8 hBB
  (try simp only [Exit.inBlock, Exit.then])
  refine bodyPost_ret (v := .tuple #[HV 0 0 0 0 0 0 0 { data := #[] }, .string { data := #[] }, .int .i64 61]) ?_ rfl ⟨congrArg Ending.returned HD.out.symm, huu⟩
  rw [results_cell_tmp2 rfl]; go_simp
set_option maxHeartbeats 4000000 in
set_option maxRecDepth 100000 in
theorem refDecode5 (x y : Nat) (s : ByteArray) (w : World) (hx : x ≤ 4294967295) (hy : y ≤ 4294967295) (hs : s.size ≤ 1099511627776) (c0 : ¬ ((L s).length < 20)) (c1 : ¬ (65515 < (L s).length)) (c2 : ¬ (ck (ts x y (L s)) ≠ 0)) (c3 : ¬ (hl (L s) < 20 ∨ ((L s).length : Int) < hl (L s))) (c4 : ¬ (bt (L s) 12 % 16 ≠ 0 ∨ 64 ≤ bt (L s) 13)) :
    Calls Try.prog 11 #[.int .u32 x, .int .u32 y, .string s] w fun e w' => e = .returned (DV x y (L s)) ∧ Up w w' := by
  have HD := Lib.hid (DV_ok (dec_0 c0 c1 c2 c3 c4))
  have h20 : 20 ≤ s.size := by rw [L_len] at c0; omega
  have hmx : s.size ≤ 65515 := by rw [L_len] at c1; omega
  have g2 : ck (ts x y (L s)) = 0 := Decidable.not_not.1 c2
  have l12 : 12 < s.size := by omega
  have j12 : (12 : Int) < (s.size : Int) := by omega
  have e12 := bt_at s 12 l12
  have b12 := c_lt (s[12]'l12)
  obtain ⟨N, hN⟩ : ∃ N : Nat, ((s[12]'l12).toNat : Int) / 16 * 4 = (N : Int) := ⟨(s[12]'l12).toNat / 16 * 4, by omega⟩
  have hHl : hl (L s) = (N : Int) := by unfold hl; rw [← e12]; exact hN
  have hN60 : N ≤ 60 := by omega
  have l13 : 13 < s.size := by omega
  have j13 : (13 : Int) < (s.size : Int) := by omega
  have e13 := bt_at s 13 l13
  have b13 := c_lt (s[13]'l13)
  have i3 : ¬ (N : Int) < 20 := by rw [← hHl]; omega
  have i4 : ¬ (s.size : Int) < (N : Int) := by rw [← hHl]; rw [L_len] at c3; omega
  have i5 : ((s[12]'l12).toNat : Int) % 16 = 0 := by rw [e12]; omega
  have i6 : ¬ (64 : Int) ≤ ((s[13]'l13).toNat : Int) := by rw [e13]; omega
  have i1 : ¬ (s.size : Int) < 20 := by omega
  have i2 : ¬ (65515 : Int) < (s.size : Int) := by omega
  have i7 : (20 : Int) ≤ (N : Int) := by omega
  have i8 : (N : Int) ≤ (s.size : Int) := by omega
  have hTV : TV (L s) = HV (wd (L s) 0) (wd (L s) 2) (qd (L s) 4) (qd (L s) 8) ((s[13]'l13).toNat : Int) (wd (L s) 14) (wd (L s) 18) (s.extract 20 N) := by
    unfold TV; rw [hHl, e13, Int.toNat_natCast, tx_extract]
  have hDT : tx ((L s).drop (hl (L s)).toNat) = s.extract N s.size := by
    rw [hHl, Int.toNat_natCast, tx_extract, List.take_of_length_le (by rw [List.length_drop, L_len]; exact Nat.le_refl _)]
  have HTV := Lib.hid hTV; have HDT := Lib.hid hDT
  have HT := Lib.hid h20
  have p2 : (2 : Int) ≤ (s.size : Int) := by omega
  have p4 : (4 : Int) ≤ (s.size : Int) := by omega
  have p8 : (8 : Int) ≤ (s.size : Int) := by omega
  have p12 : (12 : Int) ≤ (s.size : Int) := by omega
  have p14 : (14 : Int) ≤ (s.size : Int) := by omega
  have p16 : (16 : Int) ≤ (s.size : Int) := by omega
  have p18 : (18 : Int) ≤ (s.size : Int) := by omega
  have p20 : (20 : Int) ≤ (s.size : Int) := by omega
  have y0 : IntKind.u16.wrap (wd (L s) 0) = wd (L s) 0 := by rw [IntKind.wrap_u16]; have := wd_bd (L s) 0; omega
  have y2 : IntKind.u16.wrap (wd (L s) 2) = wd (L s) 2 := by rw [IntKind.wrap_u16]; have := wd_bd (L s) 2; omega
  have y14 : IntKind.u16.wrap (wd (L s) 14) = wd (L s) 14 := by rw [IntKind.wrap_u16]; have := wd_bd (L s) 14; omega
  have y18 : IntKind.u16.wrap (wd (L s) 18) = wd (L s) 18 := by rw [IntKind.wrap_u16]; have := wd_bd (L s) 18; omega
  clear c0 c1 c2 c3 c4 hHl e12 e13 hTV hDT
  go_enter Try.func11, Try.ntmps11
  go_upto_region 1 with fail
  have hB := Box.new w #[.int .u16 0, .int .u16 0, .int .u32 0, .int .u32 0, .int .u8 0, .int .u16 0, .int .u16 0, .string { data := #[] }] 25
  have hu : Up w (w.alloc (.cells #[.int .u16 0, .int .u16 0, .int .u32 0, .int .u32 0, .int .u8 0, .int .u16 0, .int .u16 0, .string { data := #[] }] 25)) := up_al _ (Below.refl _ _)
  generalize (w.alloc (.cells #[.int .u16 0, .int .u16 0, .int .u32 0, .int .u32 0, .int .u8 0, .int .u16 0, .int .u16 0, .string { data := #[] }] 25)) = w0 at hB hu ⊢
  obtain ⟨k0, k1, k2, k3, k4, k5, k6, k7, f0, f1, f2, f3, f4, f5, f6, f7⟩ := Box.c8 hB
  go_wp2_with fail
  refine (refSum x y s w0 hx hy (by omega)).mono ?_
  rintro e w1 ⟨rfl, hv1⟩
  have hB1 := hB.up hv1
  have hu1 := hu.on hv1
  clear k0 k1 k2 k3 k4 k5 k6 k7 f0 f1 f2 f3 f4 f5 f6 f7 hB hu hv1
  obtain ⟨k0, k1, k2, k3, k4, k5, k6, k7, f0, f1, f2, f3, f4, f5, f6, f7⟩ := Box.c8 hB1
  go_upto_region 12 with fail
  clear k0 k1 k2 k3 k4 k5 k6 k7 f0 f1 f2 f3 f4 f5 f6 f7
  refine wp_region_rel4 18 (fun W => Up w1 W) (fun W W' => Up W W') (Ys [Det (.string s),
      Det (.string (s.extract 0 2)),
      Det (.int .u32 (wd (L s) 0)),
      Det (.int .u16 (wd (L s) 0)),
      Det (.string s),
      Det (.string (s.extract 2 4)),
      Det (.int .u32 (wd (L s) 2)),
      Det (.int .u16 (wd (L s) 2)),
      Det (.string s),
      Det (.string (s.extract 4 8)),
      Det (.int .u32 (qd (L s) 4)),
      Det (.string s),
      Det (.string (s.extract 8 12)),
      Det (.int .u32 (qd (L s) 8)),
      Det (.string s),
      Det (.int .u8 ((s[13]'l13).toNat : Int)),
      Det (.agg #[.int .u16 (wd (L s) 0), .int .u16 (wd (L s) 2), .int .u32 (qd (L s) 4), .int .u32 (qd (L s) 8), .int .u8 ((s[13]'l13).toNat : Int), .int .u16 0, .int .u16 0, .string { data := #[] }]),
      New w1.heap.size [.int .u16 0, .int .u16 0, .int .u32 0, .int .u32 0, .int .u8 0, .int .u16 0, .int .u16 0, .string { data := #[] }]]) (by kernel_rfl) (by kernel_rfl) (by kernel_rfl) (up_dr (Below.refl _ _)) (Stable.ys ⟨Det.st _, Det.st _, Det.st _, Det.st _, Det.st _, Det.st _, Det.st _, Det.st _, Det.st _, Det.st _, Det.st _, Det.st _, Det.st _, Det.st _, Det.st _, Det.st _, Det.st _, New.st _ _, trivial⟩) ?_ ?_
  all_goals simp only [List.take_succ_cons, List.take_zero, List.drop_succ_cons, List.drop_zero]
  ·
    -- 0: Op.move t2
    refine obligs_cons ?_ ?_
    · intro aa ww hC hdep hvar KK hK
      have d2 : aa.tmps.getD 2 undef = .string s := hvar 2 (slotOk_spec (by kernel_rfl))
      have d2_ := d2; rw [Array.getD_eq_getD_getElem?] at d2_
      clear hdep hvar
      (unfold opTo; go_simp; try simp only [opUpon])
      exact hK _ _ rfl hC (Below.refl _ _)
    -- 1: Op.slice 9 t49 (some (const (0:i64))) (some (const (2:i64))) none
    refine obligs_cons ?_ ?_
    · intro aa ww hC hdep hvar KK hK
      have d49 : aa.tmps.getD 49 undef = .string s := dep_of hdep 0 49 (by kernel_rfl)
      have d49_ := d49; rw [Array.getD_eq_getD_getElem?] at d49_
      clear hdep hvar
      (unfold opTo; go_simp; try simp only [opUpon])
      exact hK _ _ rfl hC (Below.refl _ _)
    -- 2: Op.call { value (Operand.func 21), args := #[t50], argTypes := #[9] }
    refine obligs_cons ?_ ?_
    · intro aa ww hC hdep hvar KK hK
      have d50 : aa.tmps.getD 50 undef = .string (s.extract 0 2) := dep_of hdep 1 50 (by kernel_rfl)
      have d50_ := d50; rw [Array.getD_eq_getD_getElem?] at d50_
      clear hdep hvar
      (unfold opTo; go_simp; try simp only [opUpon])
      exact (num2 s 0 (by have := HT.out; omega) _).mono fun e w2 h => by obtain ⟨h1, rfl⟩ := h; exact ⟨_, h1, hK _ _ rfl hC (Below.refl _ _)⟩
    -- 3: Op.convert 22 23 t51
    refine obligs_cons ?_ ?_
    · intro aa ww hC hdep hvar KK hK
      have d51 : aa.tmps.getD 51 undef = .int .u32 (wd (L s) 0) := dep_of hdep 2 51 (by kernel_rfl)
      have d51_ := d51; rw [Array.getD_eq_getD_getElem?] at d51_
      clear hdep hvar
      (unfold opTo; go_simp; try simp only [opUpon])
      exact hK _ _ rfl hC (Below.refl _ _)
    -- 4: Op.move t2
    refine obligs_cons ?_ ?_
    · intro aa ww hC hdep hvar KK hK
      have d2 : aa.tmps.getD 2 undef = .string s := hvar 2 (slotOk_spec (by kernel_rfl))
      have d2_ := d2; rw [Array.getD_eq_getD_getElem?] at d2_
      clear hdep hvar
      (unfold opTo; go_simp; try simp only [opUpon])
      exact hK _ _ rfl hC (Below.refl _ _)
    -- 5: Op.slice 9 t53 (some (const (2:i64))) (some (const (4:i64))) none
    refine obligs_cons ?_ ?_
    · intro aa ww hC hdep hvar KK hK
      have d53 : aa.tmps.getD 53 undef = .string s := dep_of hdep 4 53 (by kernel_rfl)
      have d53_ := d53; rw [Array.getD_eq_getD_getElem?] at d53_
      clear hdep hvar
      (unfold opTo; go_simp; try simp only [opUpon])
      exact hK _ _ rfl hC (Below.refl _ _)
    -- 6: Op.call { value (Operand.func 21), args := #[t54], argTypes := #[9] }
    refine obligs_cons ?_ ?_
    · intro aa ww hC hdep hvar KK hK
      have d54 : aa.tmps.getD 54 undef = .string (s.extract 2 4) := dep_of hdep 5 54 (by kernel_rfl)
      have d54_ := d54; rw [Array.getD_eq_getD_getElem?] at d54_
      clear hdep hvar
      (unfold opTo; go_simp; try simp only [opUpon])
      exact (num2 s 2 (by have := HT.out; omega) _).mono fun e w2 h => by obtain ⟨h1, rfl⟩ := h; exact ⟨_, h1, hK _ _ rfl hC (Below.refl _ _)⟩
    -- 7: Op.convert 22 23 t55
    refine obligs_cons ?_ ?_
    · intro aa ww hC hdep hvar KK hK
      have d55 : aa.tmps.getD 55 undef = .int .u32 (wd (L s) 2) := dep_of hdep 6 55 (by kernel_rfl)
      have d55_ := d55; rw [Array.getD_eq_getD_getElem?] at d55_
      clear hdep hvar
      (unfold opTo; go_simp; try simp only [opUpon])
      exact hK _ _ rfl hC (Below.refl _ _)
    -- 8: Op.move t2
    refine obligs_cons ?_ ?_
    · intro aa ww hC hdep hvar KK hK
      have d2 : aa.tmps.getD 2 undef = .string s := hvar 2 (slotOk_spec (by kernel_rfl))
      have d2_ := d2; rw [Array.getD_eq_getD_getElem?] at d2_
      clear hdep hvar
      (unfold opTo; go_simp; try simp only [opUpon])
      exact hK _ _ rfl hC (Below.refl _ _)
    -- 9: Op.slice 9 t57 (some (const (4:i64))) (some (const (8:i64))) none
    refine obligs_cons ?_ ?_
    · intro aa ww hC hdep hvar KK hK
      have d57 : aa.tmps.getD 57 undef = .string s := dep_of hdep 8 57 (by kernel_rfl)
      have d57_ := d57; rw [Array.getD_eq_getD_getElem?] at d57_
      clear hdep hvar
      (unfold opTo; go_simp; try simp only [opUpon])
      exact hK _ _ rfl hC (Below.refl _ _)
    -- 10: Op.call { value (Operand.func 21), args := #[t58], argTypes := #[9] }
    refine obligs_cons ?_ ?_
    · intro aa ww hC hdep hvar KK hK
      have d58 : aa.tmps.getD 58 undef = .string (s.extract 4 8) := dep_of hdep 9 58 (by kernel_rfl)
      have d58_ := d58; rw [Array.getD_eq_getD_getElem?] at d58_
      clear hdep hvar
      (unfold opTo; go_simp; try simp only [opUpon])
      exact (num4 s 4 (by have := HT.out; omega) _).mono fun e w2 h => by obtain ⟨h1, rfl⟩ := h; exact ⟨_, h1, hK _ _ rfl hC (Below.refl _ _)⟩
    -- 11: Op.move t2
    refine obligs_cons ?_ ?_
    · intro aa ww hC hdep hvar KK hK
      have d2 : aa.tmps.getD 2 undef = .string s := hvar 2 (slotOk_spec (by kernel_rfl))
      have d2_ := d2; rw [Array.getD_eq_getD_getElem?] at d2_
      clear hdep hvar
      (unfold opTo; go_simp; try simp only [opUpon])
      exact hK _ _ rfl hC (Below.refl _ _)
    -- 12: Op.slice 9 t60 (some (const (8:i64))) (some (const (12:i64))) none
    refine obligs_cons ?_ ?_
    · intro aa ww hC hdep hvar KK hK
      have d60 : aa.tmps.getD 60 undef = .string s := dep_of hdep 11 60 (by kernel_rfl)
      have d60_ := d60; rw [Array.getD_eq_getD_getElem?] at d60_
      clear hdep hvar
      (unfold opTo; go_simp; try simp only [opUpon])
      exact hK _ _ rfl hC (Below.refl _ _)
    -- 13: Op.call { value (Operand.func 21), args := #[t61], argTypes := #[9] }
    refine obligs_cons ?_ ?_
    · intro aa ww hC hdep hvar KK hK
      have d61 : aa.tmps.getD 61 undef = .string (s.extract 8 12) := dep_of hdep 12 61 (by kernel_rfl)
      have d61_ := d61; rw [Array.getD_eq_getD_getElem?] at d61_
      clear hdep hvar
      (unfold opTo; go_simp; try simp only [opUpon])
      exact (num4 s 8 (by have := HT.out; omega) _).mono fun e w2 h => by obtain ⟨h1, rfl⟩ := h; exact ⟨_, h1, hK _ _ rfl hC (Below.refl _ _)⟩
    -- 14: Op.move t2
    refine obligs_cons ?_ ?_
    · intro aa ww hC hdep hvar KK hK
      have d2 : aa.tmps.getD 2 undef = .string s := hvar 2 (slotOk_spec (by kernel_rfl))
      have d2_ := d2; rw [Array.getD_eq_getD_getElem?] at d2_
      clear hdep hvar
      (unfold opTo; go_simp; try simp only [opUpon])
      exact hK _ _ rfl hC (Below.refl _ _)
    -- 15: Op.index 9 t63 (const (13:i64))
    refine obligs_cons ?_ ?_
    · intro aa ww hC hdep hvar KK hK
      have d63 : aa.tmps.getD 63 undef = .string s := dep_of hdep 14 63 (by kernel_rfl)
      have d63_ := d63; rw [Array.getD_eq_getD_getElem?] at d63_
      clear hdep hvar
      (unfold opTo; go_simp; try simp only [opUpon])
      exact hK _ _ rfl hC (Below.refl _ _)
    -- 16: Op.build 25 #[(0, t52), (1, t56), (2, t59), (3, t62), (4, t64)]
    refine obligs_cons ?_ ?_
    · intro aa ww hC hdep hvar KK hK
      have d52 : aa.tmps.getD 52 undef = .int .u16 (wd (L s) 0) := dep_of hdep 3 52 (by kernel_rfl)
      have d56 : aa.tmps.getD 56 undef = .int .u16 (wd (L s) 2) := dep_of hdep 7 56 (by kernel_rfl)
      have d59 : aa.tmps.getD 59 undef = .int .u32 (qd (L s) 4) := dep_of hdep 10 59 (by kernel_rfl)
      have d62 : aa.tmps.getD 62 undef = .int .u32 (qd (L s) 8) := dep_of hdep 13 62 (by kernel_rfl)
      have d64 : aa.tmps.getD 64 undef = .int .u8 ((s[13]'l13).toNat : Int) := dep_of hdep 15 64 (by kernel_rfl)
      have d52_ := d52; rw [Array.getD_eq_getD_getElem?] at d52_
      have d56_ := d56; rw [Array.getD_eq_getD_getElem?] at d56_
      have d59_ := d59; rw [Array.getD_eq_getD_getElem?] at d59_
      have d62_ := d62; rw [Array.getD_eq_getD_getElem?] at d62_
      have d64_ := d64; rw [Array.getD_eq_getD_getElem?] at d64_
      clear hdep hvar
      (unfold opTo; go_simp; try simp only [opUpon])
      exact hK _ _ rfl hC (Below.refl _ _)
    -- 17: Op.alloc 25
    refine obligs_cons ?_ ?_
    · intro aa ww hC hdep hvar KK hK
      clear hdep hvar
      (unfold opTo; go_simp; try simp only [opUpon])
      exact hK _ _ ⟨_, rfl, hC.size, Box.new _ _ _⟩ (up_al _ hC) (up_al _ (Below.refl _ _))
    exact obligs_nil
  intro vals ww hC hY
  have e0 : vals 0 = .string s := hY 0 _ _ rfl rfl
  have e1 : vals 1 = .string (s.extract 0 2) := hY 1 _ _ rfl rfl
  have e2 : vals 2 = .int .u32 (wd (L s) 0) := hY 2 _ _ rfl rfl
  have e3 : vals 3 = .int .u16 (wd (L s) 0) := hY 3 _ _ rfl rfl
  have e4 : vals 4 = .string s := hY 4 _ _ rfl rfl
  have e5 : vals 5 = .string (s.extract 2 4) := hY 5 _ _ rfl rfl
  have e6 : vals 6 = .int .u32 (wd (L s) 2) := hY 6 _ _ rfl rfl
  have e7 : vals 7 = .int .u16 (wd (L s) 2) := hY 7 _ _ rfl rfl
  have e8 : vals 8 = .string s := hY 8 _ _ rfl rfl
  have e9 : vals 9 = .string (s.extract 4 8) := hY 9 _ _ rfl rfl
  have e10 : vals 10 = .int .u32 (qd (L s) 4) := hY 10 _ _ rfl rfl
  have e11 : vals 11 = .string s := hY 11 _ _ rfl rfl
  have e12 : vals 12 = .string (s.extract 8 12) := hY 12 _ _ rfl rfl
  have e13 : vals 13 = .int .u32 (qd (L s) 8) := hY 13 _ _ rfl rfl
  have e14 : vals 14 = .string s := hY 14 _ _ rfl rfl
  have e15 : vals 15 = .int .u8 ((s[13]'l13).toNat : Int) := hY 15 _ _ rfl rfl
  have e16 : vals 16 = .agg #[.int .u16 (wd (L s) 0), .int .u16 (wd (L s) 2), .int .u32 (qd (L s) 4), .int .u32 (qd (L s) 8), .int .u8 ((s[13]'l13).toNat : Int), .int .u16 0, .int .u16 0, .string { data := #[] }] := hY 16 _ _ rfl rfl
  obtain ⟨n10, e17, hM10, hN10⟩ : New w1.heap.size [.int .u16 0, .int .u16 0, .int .u32 0, .int .u32 0, .int .u8 0, .int .u16 0, .int .u16 0, .string { data := #[] }] (vals 17) ww := hY 17 _ _ rfl rfl
  clear hY
  simp only [putAll, Act.put, List.setIfInBounds_toArray, List.set_cons_zero, List.set_cons_succ, e0, e1, e2, e3, e4, e5, e6, e7, e8, e9, e10, e11, e12, e13, e14, e15, e16, e17]
  clear e0 e1 e2 e3 e4 e5 e6 e7 e8 e9 e10 e11 e12 e13 e14 e15 e16 e17
  have hB2 := hB1.up hC
  have hu2 := hu1.on hC
  have hM := Nat.le_trans hu1.size hM10
  have hne : n10 ≠ w.heap.size := by have := hB1.1; omega
  have hne' : w.heap.size ≠ n10 := fun h => hne h.symm
  clear hB1 hu1 hC hM10
  obtain ⟨k0, k1, k2, k3, k4, k5, k6, k7, f0, f1, f2, f3, f4, f5, f6, f7⟩ := Box.c8 hN10
  go_wp2_with fail
  have hN2 := put8 hN10 (.int .u16 (wd (L s) 0)) (.int .u16 (wd (L s) 2)) (.int .u32 (qd (L s) 4)) (.int .u32 (qd (L s) 8)) (.int .u8 ((s[13]'l13).toNat : Int)) (.int .u16 0) (.int .u16 0) (.string { data := #[] })
  have hB3 := far8 hB2 hne (.int .u16 (wd (L s) 0)) (.int .u16 (wd (L s) 2)) (.int .u32 (qd (L s) 4)) (.int .u32 (qd (L s) 8)) (.int .u8 ((s[13]'l13).toNat : Int)) (.int .u16 0) (.int .u16 0) (.string { data := #[] })
  have hu3 := ups8 (b := n10) hu2 hM (.int .u16 (wd (L s) 0)) (.int .u16 (wd (L s) 2)) (.int .u32 (qd (L s) 4)) (.int .u32 (qd (L s) 8)) (.int .u8 ((s[13]'l13).toNat : Int)) (.int .u16 0) (.int .u16 0) (.string { data := #[] })
  clear k0 k1 k2 k3 k4 k5 k6 k7 f0 f1 f2 f3 f4 f5 f6 f7 hN10 hB2 hu2
  generalize World.setCell _ ⟨n10, 7, none⟩ _ = w3 at hN2 hB3 hu3 ⊢
  refine (num2 s 14 (by omega) w3).mono ?_
  rintro e w4 ⟨rfl, rfl⟩
  have m5 := hN2.at 5 rfl
  have v5 := hN2.fr 5 rfl
  go_wp2_with fail
  have hN3 := hN2.set 5 (.int .u16 (wd (L s) 14))
  have hB4 := hB3.far hne (.int .u16 (wd (L s) 14)) (o := 5)
  have hu4 := up_set (o := 5) (v := .int .u16 (wd (L s) 14)) hu3 hM
  clear m5 v5 hN2 hB3 hu3
  generalize World.setCell _ ⟨n10, 5, none⟩ _ = w5 at hN3 hB4 hu4 ⊢
  refine (num2 s 18 (by omega) w5).mono ?_
  rintro e w6 ⟨rfl, rfl⟩
  have m6 := hN3.at 6 rfl
  have v6 := hN3.fr 6 rfl
  have m7 := hN3.at 7 rfl
  have v7 := hN3.fr 7 rfl
  go_upto_region 16 with fail
  have hN4 := (hN3.set 6 (.int .u16 (wd (L s) 18))).set 7 (.string (s.extract 20 N))
  have hB5 := (hB4.far hne (.int .u16 (wd (L s) 18)) (o := 6)).far hne (.string (s.extract 20 N)) (o := 7)
  have hu5 := up_set (o := 7) (v := .string (s.extract 20 N)) (up_set (o := 6) (v := .int .u16 (wd (L s) 18)) hu4 hM) hM
  clear m6 v6 m7 v7 hN3 hB4 hu4
  generalize World.setCell _ ⟨n10, 7, none⟩ _ = w7 at hN4 hB5 hu5 ⊢
  obtain ⟨k0, k1, k2, k3, k4, k5, k6, k7, f0, f1, f2, f3, f4, f5, f6, f7⟩ := Box.c8 hB5
  obtain ⟨m0, m1, m2, m3, m4, m5, m6, m7⟩ := Box.e8 hN4
  go_region
  all_goals
    have hB6 := Box.drew (put8 hB5 (.int .u16 (wd (L s) 0)) (.int .u16 (wd (L s) 2)) (.int .u32 (qd (L s) 4)) (.int .u32 (qd (L s) 8)) (.int .u8 ((s[13]'l13).toNat : Int)) (.int .u16 (wd (L s) 14)) (.int .u16 (wd (L s) 18)) (.string (s.extract 20 N)))
    have hu6 := up_dr (ups8 (b := w.heap.size) hu5 (Nat.le_refl _) (.int .u16 (wd (L s) 0)) (.int .u16 (wd (L s) 2)) (.int .u32 (qd (L s) 4)) (.int .u32 (qd (L s) 8)) (.int .u8 ((s[13]'l13).toNat : Int)) (.int .u16 (wd (L s) 14)) (.int .u16 (wd (L s) 18)) (.string (s.extract 20 N)))
    generalize World.drew _ = W4 at hB6 hu6 ⊢
    clear k0 k1 k2 k3 k4 k5 k6 k7 f0 f1 f2 f3 f4 f5 f6 f7 hB5 hu5 hN4 m0 m1 m2 m3 m4 m5 m6 m7
    obtain ⟨k0, k1, k2, k3, k4, k5, k6, k7, f0, f1, f2, f3, f4, f5, f6, f7⟩ := Box.c8 hB6
    go_wp2
    (try simp only [Exit.inBlock, Exit.then])
    refine bodyPost_ret (v := .tuple #[HV (wd (L s) 0) (wd (L s) 2) (qd (L s) 4) (qd (L s) 8) ((s[13]'l13).toNat : Int) (wd (L s) 14) (wd (L s) 18) (s.extract 20 N), .string (s.extract N s.size), .int .i64 0]) ?_ rfl ⟨?_, hu6⟩
    · rw [results_cell_tmp2 rfl]; go_simp
    · rw [HD.out, HTV.out, HDT.out]
theorem refDecode (x y : Nat) (s : ByteArray) (w : World) (hx : x ≤ 4294967295) (hy : y ≤ 4294967295) (hs : s.size ≤ 1099511627776) :
    Calls Try.prog 11 #[.int .u32 x, .int .u32 y, .string s] w fun e w' => e = .returned (DV x y (L s)) ∧ Up w w' := by
  by_cases c0 : (L s).length < 20
  · exact refDecode0 x y s w hx hy hs c0
  by_cases c1 : 65515 < (L s).length
  · exact refDecode1 x y s w hx hy hs c0 c1
  by_cases c2 : ck (ts x y (L s)) ≠ 0
  · exact refDecode2 x y s w hx hy hs c0 c1 c2
  by_cases c3 : (hl (L s) < 20 ∨ ((L s).length : Int) < hl (L s))
  · by_cases c : hl (L s) < 20
    · exact refDecode3a x y s w hx hy hs c0 c1 c2 c
    · exact refDecode3b x y s w hx hy hs c0 c1 c2 (by omega)
  by_cases c4 : (bt (L s) 12 % 16 ≠ 0 ∨ 64 ≤ bt (L s) 13)
  · by_cases c : bt (L s) 12 % 16 = 0
    · exact refDecode4b x y s w hx hy hs c0 c1 c2 c3 (by omega)
    · exact refDecode4a x y s w hx hy hs c0 c1 c2 c3 c
  exact refDecode5 x y s w hx hy hs c0 c1 c2 c3 c4
end Go.Proofs.Ytecogakledajkaa.tc
