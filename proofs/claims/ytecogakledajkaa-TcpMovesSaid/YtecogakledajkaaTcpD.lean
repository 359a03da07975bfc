/- Package tcp: what a segment's bytes are. Condition: the bytes are at most 2^40. -/
import Derived.Test.YtecogakledajkaaTcpH
namespace Go.Proofs.Ytecogakledajkaa.tc
open Go.RowKit Go.Shelf Go.Proofs.Ytecogakledajkaa.sm Go.Proofs.Ytecogakledajkaa.nb Go.Proofs.Ytecogakledajkaa.cm
set_option linter.unusedVariables false

set_option maxHeartbeats 4000000 in
set_option maxRecDepth 100000 in
theorem decode0 (x y : Nat) (s : ByteArray) (w : World) (hx : x ≤ 4294967295) (hy : y ≤ 4294967295) (hs : s.size ≤ 1099511627776) (n : Nat) (hn : dec x y (L s) = n) (h0 : n ≠ 0) :
    Calls Try.prog 10 #[.int .u32 x, .int .u32 y, .string s] w fun e w' => e = .returned (DV x y (L s)) ∧ Up w w' := by
  have HD := Lib.hid (DV_err hn h0)
  have HN := Lib.hid hn; clear hn
  have i0 : ¬ (n : Int) = 0 := by omega
  go_enter Try.func10, Try.ntmps10
  go_upto_region 1 with fail
  have hB := Box.new w #[.int .u16 0, .int .u16 0, .int .u32 0, .int .u32 0, .int .u8 0, .int .u16 0, .int .u16 0, .string { data := #[] }] 25
  have hu : Up w (w.alloc (.cells #[.int .u16 0, .int .u16 0, .int .u32 0, .int .u32 0, .int .u8 0, .int .u16 0, .int .u16 0, .string { data := #[] }] 25)) := up_al _ (Below.refl _ _)
  generalize (w.alloc (.cells #[.int .u16 0, .int .u16 0, .int .u32 0, .int .u32 0, .int .u8 0, .int .u16 0, .int .u16 0, .string { data := #[] }] 25)) = w0 at hB hu ⊢
  go_wp2_with fail
  refine (faultC x y s w0 hx hy hs).mono ?_
  rintro e w1 ⟨rfl, hv⟩
  rw [HN.out]
  have hB2 := hB.up hv
  have hu2 := hu.on hv
  clear hB hu hv
  obtain ⟨k0, k1, k2, k3, k4, k5, k6, k7, f0, f1, f2, f3, f4, f5, f6, f7⟩ := Box.c8 hB2
  go_wp2_with fail
  have hBB := put8 hB2 (.int .u16 0) (.int .u16 0) (.int .u32 0) (.int .u32 0) (.int .u8 0) (.int .u16 0) (.int .u16 0) (.string { data := #[] })
  have huu := ups8 (b := w.heap.size) hu2 (Nat.le_refl _) (.int .u16 0) (.int .u16 0) (.int .u32 0) (.int .u32 0) (.int .u8 0) (.int .u16 0) (.int .u16 0) (.string { data := #[] })
  generalize World.setCell _ ⟨w.heap.size, 7, none⟩ _ = W3 at hBB huu ⊢
  clear k0 k1 k2 k3 k4 k5 k6 k7 f0 f1 f2 f3 f4 f5 f6 f7 hB2 hu2
  obtain ⟨k0, k1, k2, k3, k4, k5, k6, k7, f0, f1, f2, f3, f4, f5, f6, f7⟩ := Box.c8 hBB
  (try simp only [Exit.inBlock, Exit.then])
  refine bodyPost_ret (v := .tuple #[HV 0 0 0 0 0 0 0 { data := #[] }, .string { data := #[] }, .int .i64 n]) ?_ rfl ⟨congrArg Ending.returned HD.out.symm, huu⟩
  rw [results_cell_tmp2 rfl]; go_simp
set_option maxHeartbeats 4000000 in
set_option maxRecDepth 100000 in
theorem decode1 (x y : Nat) (s : ByteArray) (w : World) (hx : x ≤ 4294967295) (hy : y ≤ 4294967295) (hs : s.size ≤ 1099511627776) (hn : dec x y (L s) = 0) :
    Calls Try.prog 10 #[.int .u32 x, .int .u32 y, .string s] w fun e w' => e = .returned (DV x y (L s)) ∧ Up w w' := by
  have HD := Lib.hid (DV_ok hn)
  obtain ⟨c0, c1, c2, c3, c4⟩ := dec_is0 hn
  have h20 : 20 ≤ s.size := by rw [L_len] at c0; omega
  obtain ⟨N, hN⟩ := Int.eq_ofNat_of_zero_le (show 0 ≤ hl (L s) by omega)
  rw [hN, L_len] at c3
  have hN20 : 20 ≤ N := by omega
  have hNs : N ≤ s.size := by omega
  have i8 : (N : Int) ≤ (s.size : Int) := by omega
  obtain ⟨X, hX⟩ : ∃ X, X = tx (((L s).drop 20).take ((hl (L s)).toNat - 20)) := ⟨_, rfl⟩
  have HTV : Hid (TV (L s) = HV (wd (L s) 0) (wd (L s) 2) (qd (L s) 4) (qd (L s) 8) (bt (L s) 13) (wd (L s) 14) (wd (L s) 18) X) := by unfold Hid TV; rw [hX]
  clear hX
  have hDT : tx ((L s).drop (hl (L s)).toNat) = s.extract N s.size := by
    rw [hN, Int.toNat_natCast, tx_extract, List.take_of_length_le (by rw [List.length_drop, L_len]; exact Nat.le_refl _)]
  have HDT := Lib.hid hDT; clear hDT
  have zE : (s.extract N s.size).size ≤ 1099511627776 := by simp; omega
  have HN := Lib.hid hN
  have HF := Lib.hid (fun w => readC s w hs h20 N hN hN20 hNs)
  have H0 := Lib.hid hn
  clear hN hn c0 c1 c2 c3 c4
  go_enter Try.func10, Try.ntmps10
  go_upto_region 1 with fail
  have hB := Box.new w #[.int .u16 0, .int .u16 0, .int .u32 0, .int .u32 0, .int .u8 0, .int .u16 0, .int .u16 0, .string { data := #[] }] 25
  have hu : Up w (w.alloc (.cells #[.int .u16 0, .int .u16 0, .int .u32 0, .int .u32 0, .int .u8 0, .int .u16 0, .int .u16 0, .string { data := #[] }] 25)) := up_al _ (Below.refl _ _)
  generalize (w.alloc (.cells #[.int .u16 0, .int .u16 0, .int .u32 0, .int .u32 0, .int .u8 0, .int .u16 0, .int .u16 0, .string { data := #[] }] 25)) = w0 at hB hu ⊢
  go_wp2_with fail
  refine (faultC x y s w0 hx hy hs).mono ?_
  rintro e w1 ⟨rfl, hv⟩
  rw [H0.out]
  have hB2 := hB.up hv
  have hu2 := hu.on hv
  clear hB hu hv
  go_wp2_with fail
  refine (HF.out _).mono ?_
  rintro e w2 ⟨rfl, hv⟩
  rw [HTV.out]
  have hB3 := hB2.up hv
  have hu3 := hu2.on hv
  clear hB2 hu2 hv
  go_wp2_with fail
  refine (start_at s _ hs (by omega)).mono ?_
  rintro e w3 ⟨rfl, rfl⟩
  rw [HN.out]
  go_wp2_with fail
  refine (cloneC _ _ zE).mono ?_
  rintro e w4 ⟨rfl, hv⟩
  have hB4 := hB3.up hv
  have hu4 := hu3.on hv
  clear hB3 hu3 hv
  obtain ⟨k0, k1, k2, k3, k4, k5, k6, k7, f0, f1, f2, f3, f4, f5, f6, f7⟩ := Box.c8 hB4
  go_wp2_with fail
  have hBB := put8 hB4 (.int .u16 (wd (L s) 0)) (.int .u16 (wd (L s) 2)) (.int .u32 (qd (L s) 4)) (.int .u32 (qd (L s) 8)) (.int .u8 (bt (L s) 13)) (.int .u16 (wd (L s) 14)) (.int .u16 (wd (L s) 18)) (.string X)
  have huu := ups8 (b := w.heap.size) hu4 (Nat.le_refl _) (.int .u16 (wd (L s) 0)) (.int .u16 (wd (L s) 2)) (.int .u32 (qd (L s) 4)) (.int .u32 (qd (L s) 8)) (.int .u8 (bt (L s) 13)) (.int .u16 (wd (L s) 14)) (.int .u16 (wd (L s) 18)) (.string X)
  generalize World.setCell _ ⟨w.heap.size, 7, none⟩ _ = W3 at hBB huu ⊢
  clear k0 k1 k2 k3 k4 k5 k6 k7 f0 f1 f2 f3 f4 f5 f6 f7 hB4 hu4
  obtain ⟨k0, k1, k2, k3, k4, k5, k6, k7, f0, f1, f2, f3, f4, f5, f6, f7⟩ := Box.c8 hBB
  (try simp only [Exit.inBlock, Exit.then])
  refine bodyPost_ret (v := .tuple #[HV (wd (L s) 0) (wd (L s) 2) (qd (L s) 4) (qd (L s) 8) (bt (L s) 13) (wd (L s) 14) (wd (L s) 18) X, .string (s.extract N s.size), .int .i64 0]) ?_ rfl ⟨?_, huu⟩
  · rw [results_cell_tmp2 rfl]; go_simp
  · rw [HD.out, HTV.out, HDT.out]
theorem decC : DecC := fun x y s w hx hy hs => by
  by_cases h : dec x y (L s) = 0
  · exact decode1 x y s w hx hy hs h
  · exact decode0 x y s w hx hy hs _ rfl h
end Go.Proofs.Ytecogakledajkaa.tc
