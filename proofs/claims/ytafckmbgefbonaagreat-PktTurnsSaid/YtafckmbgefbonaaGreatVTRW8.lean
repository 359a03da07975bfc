/- T R W: contracts, part 8. Condition: as each says. -/
import Derived.Test.YtafckmbgefbonaaGreatVTRW7
import Derived.Deep.RegionLaw
set_option linter.unusedVariables false
set_option linter.unusedSimpArgs false
set_option maxRecDepth 100000
set_option maxHeartbeats 8000000
namespace Go.Proofs.YtafckmbgefbonaaGreat.op
open RowKit Shelf Lib sm nb om

theorem numW2 (s : ByteArray) (w : World) (h : s.size = 2) : Calls Tryz.prog 49 #[.string s] w fun e w' => e = .returned (.int .u32 (wd (L s) 0)) ∧ w = w' := by
 refine (refNum s w (by omega)).mono fun e w' ⟨h1, h2⟩ => ⟨?_, h2⟩
 rw [h1, h]
 have e2 := nm2 (L s) 0
 rw [List.drop_zero, List.take_of_length_le (by rw [L_len]; omega)] at e2
 rw [e2]
theorem put_2 (o : Opz) (p : List UInt8) : put o (2, p) = { o with mss := (wd p 0).toNat } := rfl
theorem put_3 (o : Opz) (p : List UInt8) : put o (3, p) = { o with sc := min (bt p 0) 14 } := rfl
theorem put_4 (o : Opz) (p : List UInt8) : put o (4, p) = { o with sk := true } := rfl
theorem put_5 (o : Opz) (p : List UInt8) : put o (5, p) = { o with bl := o.bl ++ blocks p } := rfl
theorem put_8 (o : Opz) (p : List UInt8) : put o (8, p) = { o with tm := true, va := (qd p 0).toNat, ec := (qd p 4).toNat } := rfl
theorem put_x (o : Opz) (j : Nat) (p : List UInt8) (h2 : j ≠ 2) (h3 : j ≠ 3) (h4 : j ≠ 4) (h5 : j ≠ 5) (h8 : j ≠ 8) : put o (j, p) = o := by simp [put, h2, h3, h4, h5, h8]
theorem take4 (m : Nat) (s : Int) (k t : Bool) (v e : Nat) (A : Option Addr) (n c : Nat) (S : ByteArray) (w : World) (hS : S.size = 0) :
  Calls Tryz.prog 79 #[OA m s k A n c t v e, .int .i64 4, .string S] w fun e_ w' => e_ = .returned (.tuple #[OA m s true A n c t v e, .bool true]) ∧ Up w w' := by
 go_enter Tryz.func79, Tryz.ntmps79
 go_upto_region 1 with fail
 have hu : Up w ((w.alloc (.cells #[.int .u16 m, .int .i64 s, .bool k, .slice A n c, .bool t, .int .u32 v, .int .u32 e] 28)).alloc (.cells #[.int .u16 0, .int .i64 0, .bool false, .slice none 0 0, .bool false, .int .u32 0, .int .u32 0] 28)) := up_al _ (up_al _ bR)
 have hA := (Box.new w #[.int .u16 m, .int .i64 s, .bool k, .slice A n c, .bool t, .int .u32 v, .int .u32 e] 28).alloc (.cells #[.int .u16 0, .int .i64 0, .bool false, .slice none 0 0, .bool false, .int .u32 0, .int .u32 0] 28)
 have hB := Box.new (w.alloc (.cells #[.int .u16 m, .int .i64 s, .bool k, .slice A n c, .bool t, .int .u32 v, .int .u32 e] 28)) #[.int .u16 0, .int .i64 0, .bool false, .slice none 0 0, .bool false, .int .u32 0, .int .u32 0] 28
 rw [show (w.alloc (.cells #[.int .u16 m, .int .i64 s, .bool k, .slice A n c, .bool t, .int .u32 v, .int .u32 e] 28)).heap.size = w.heap.size + 1 by simp] at hB
 have hz : w.heap.size + 2 ≤ ((w.alloc (.cells #[.int .u16 m, .int .i64 s, .bool k, .slice A n c, .bool t, .int .u32 v, .int .u32 e] 28)).alloc (.cells #[.int .u16 0, .int .i64 0, .bool false, .slice none 0 0, .bool false, .int .u32 0, .int .u32 0] 28)).heap.size := by simp
 generalize ((w.alloc (.cells #[.int .u16 m, .int .i64 s, .bool k, .slice A n c, .bool t, .int .u32 v, .int .u32 e] 28)).alloc (.cells #[.int .u16 0, .int .i64 0, .bool false, .slice none 0 0, .bool false, .int .u32 0, .int .u32 0] 28)) = w0 at hu hA hB hz ⊢
 obtain ⟨n0, hn0⟩ : ∃ n0, n0 = w.heap.size := ⟨_, rfl⟩
 have hle0 : w.heap.size ≤ n0 := by omega
 have hle1 : w.heap.size ≤ n0 + 1 := by omega
 have hne : n0 ≠ n0 + 1 := by omega
 have hne' : n0 + 1 ≠ n0 := by omega
 rw [← hn0] at hA hB hz ⊢
 clear hn0
 obtain ⟨k0, k1, k2, k3, k4, k5, k6, f0, f1, f2, f3, f4, f5, f6⟩ := Box.c7 hA
 go_upto_region 18 with fail
 have hA2 := hA.set 2 (.bool true)
 have hB2 := hB.far hne (.bool true) (o := 2)
 have hu2 := up_set (o := 2) (v := .bool true) hu hle0
 clear k0 f0 k1 f1 k2 f2 k3 f3 k4 f4 k5 f5 k6 f6
 generalize World.setCell _ ⟨n0, 2, none⟩ _ = w2 at hA2 hB2 hu2 ⊢
 obtain ⟨k0, k1, k2, k3, k4, k5, k6, f0, f1, f2, f3, f4, f5, f6⟩ := Box.c7 hA2
 obtain ⟨m0, m1, m2, m3, m4, m5, m6, g0, g1, g2, g3, g4, g5, g6⟩ := Box.c7 hB2
 go_wp2_with fail
 have hBB := put7 hB2 (.int .u16 m) (.int .i64 s) (.bool true) (.slice A n c) (.bool t) (.int .u32 v) (.int .u32 e)
 have huu := ups7 (b := n0 + 1) hu2 hle1 (.int .u16 m) (.int .i64 s) (.bool true) (.slice A n c) (.bool t) (.int .u32 v) (.int .u32 e)
 generalize World.setCell _ ⟨n0 + 1, 6, none⟩ _ = W9 at hBB huu ⊢
 clear k0 f0 k1 f1 k2 f2 k3 f3 k4 f4 k5 f5 k6 f6 m0 g0 m1 g1 m2 g2 m3 g3 m4 g4 m5 g5 m6 g6
 obtain ⟨m0, m1, m2, m3, m4, m5, m6, g0, g1, g2, g3, g4, g5, g6⟩ := Box.c7 hBB
 (try simp only [Exit.inBlock, Exit.then])
 refine bodyPost_ret (v := .tuple #[.agg #[.int .u16 m, .int .i64 s, .bool true, .slice A n c, .bool t, .int .u32 v, .int .u32 e], .bool true]) ?_ rfl ⟨?_, huu⟩
 ·rw [results_cell_tmp rfl]; go_simp
 ·rfl
theorem takex (m : Nat) (s : Int) (k t : Bool) (v e : Nat) (A : Option Addr) (n c : Nat) (S : ByteArray) (w : World) (K : Nat) (h2 : K ≠ 2) (h3 : K ≠ 3) (h4 : K ≠ 4) (h5 : K ≠ 5) (h8 : K ≠ 8) :
  Calls Tryz.prog 79 #[OA m s k A n c t v e, .int .i64 K, .string S] w fun e_ w' => e_ = .returned (.tuple #[OA m s k A n c t v e, .bool true]) ∧ Up w w' := by
 have i2 : ¬ (K : Int) = 2 := by omega
 have i3 : ¬ (K : Int) = 3 := by omega
 have i4 : ¬ (K : Int) = 4 := by omega
 have i5 : ¬ (K : Int) = 5 := by omega
 have i8 : ¬ (K : Int) = 8 := by omega
 go_enter Tryz.func79, Tryz.ntmps79
 go_upto_region 1 with fail
 have hu : Up w ((w.alloc (.cells #[.int .u16 m, .int .i64 s, .bool k, .slice A n c, .bool t, .int .u32 v, .int .u32 e] 28)).alloc (.cells #[.int .u16 0, .int .i64 0, .bool false, .slice none 0 0, .bool false, .int .u32 0, .int .u32 0] 28)) := up_al _ (up_al _ bR)
 have hA := (Box.new w #[.int .u16 m, .int .i64 s, .bool k, .slice A n c, .bool t, .int .u32 v, .int .u32 e] 28).alloc (.cells #[.int .u16 0, .int .i64 0, .bool false, .slice none 0 0, .bool false, .int .u32 0, .int .u32 0] 28)
 have hB := Box.new (w.alloc (.cells #[.int .u16 m, .int .i64 s, .bool k, .slice A n c, .bool t, .int .u32 v, .int .u32 e] 28)) #[.int .u16 0, .int .i64 0, .bool false, .slice none 0 0, .bool false, .int .u32 0, .int .u32 0] 28
 rw [show (w.alloc (.cells #[.int .u16 m, .int .i64 s, .bool k, .slice A n c, .bool t, .int .u32 v, .int .u32 e] 28)).heap.size = w.heap.size + 1 by simp] at hB
 have hz : w.heap.size + 2 ≤ ((w.alloc (.cells #[.int .u16 m, .int .i64 s, .bool k, .slice A n c, .bool t, .int .u32 v, .int .u32 e] 28)).alloc (.cells #[.int .u16 0, .int .i64 0, .bool false, .slice none 0 0, .bool false, .int .u32 0, .int .u32 0] 28)).heap.size := by simp
 generalize ((w.alloc (.cells #[.int .u16 m, .int .i64 s, .bool k, .slice A n c, .bool t, .int .u32 v, .int .u32 e] 28)).alloc (.cells #[.int .u16 0, .int .i64 0, .bool false, .slice none 0 0, .bool false, .int .u32 0, .int .u32 0] 28)) = w0 at hu hA hB hz ⊢
 obtain ⟨n0, hn0⟩ : ∃ n0, n0 = w.heap.size := ⟨_, rfl⟩
 have hle0 : w.heap.size ≤ n0 := by omega
 have hle1 : w.heap.size ≤ n0 + 1 := by omega
 have hne : n0 ≠ n0 + 1 := by omega
 have hne' : n0 + 1 ≠ n0 := by omega
 rw [← hn0] at hA hB hz ⊢
 clear hn0
 obtain ⟨k0, k1, k2, k3, k4, k5, k6, f0, f1, f2, f3, f4, f5, f6⟩ := Box.c7 hA
 go_upto_region 18 with fail
 obtain ⟨m0, m1, m2, m3, m4, m5, m6, g0, g1, g2, g3, g4, g5, g6⟩ := Box.c7 hB
 go_wp2_with fail
 have hBB := put7 hB (.int .u16 m) (.int .i64 s) (.bool k) (.slice A n c) (.bool t) (.int .u32 v) (.int .u32 e)
 have huu := ups7 (b := n0 + 1) hu hle1 (.int .u16 m) (.int .i64 s) (.bool k) (.slice A n c) (.bool t) (.int .u32 v) (.int .u32 e)
 generalize World.setCell _ ⟨n0 + 1, 6, none⟩ _ = W9 at hBB huu ⊢
 clear k0 f0 k1 f1 k2 f2 k3 f3 k4 f4 k5 f5 k6 f6 m0 g0 m1 g1 m2 g2 m3 g3 m4 g4 m5 g5 m6 g6
 obtain ⟨m0, m1, m2, m3, m4, m5, m6, g0, g1, g2, g3, g4, g5, g6⟩ := Box.c7 hBB
 (try simp only [Exit.inBlock, Exit.then])
 refine bodyPost_ret (v := .tuple #[.agg #[.int .u16 m, .int .i64 s, .bool k, .slice A n c, .bool t, .int .u32 v, .int .u32 e], .bool true]) ?_ rfl ⟨?_, huu⟩
 ·rw [results_cell_tmp rfl]; go_simp
 ·rfl
theorem take3 (m : Nat) (s : Int) (k t : Bool) (v e : Nat) (A : Option Addr) (n c : Nat) (S : ByteArray) (w : World) (hS : S.size = 1) :
  Calls Tryz.prog 79 #[OA m s k A n c t v e, .int .i64 3, .string S] w fun e_ w' => e_ = .returned (.tuple #[OA m (min (bt (L S) 0) 14) k A n c t v e, .bool true]) ∧ Up w w' := by
 have l0 : 0 < S.size := by omega
 have j0 : (0 : Int) < (S.size : Int) := by omega
 have HA := Lib.hid (at_nb S 0 l0)
 obtain ⟨q, hq⟩ : ∃ q, q = nb (L S) 0 := ⟨_, rfl⟩
 have ha : (S[0]'l0).toNat = q := by rw [HA.out, hq]
 have hq0 : q ≤ 255 := by rw [hq]; exact nb_le _ _
 have HQ : Hid (min (bt (L S) 0) 14 = min (q : Int) 14) := by unfold Hid; rw [hq, nb_bt]
 clear hq HA
 obtain ⟨r, hr⟩ : ∃ r, r = if (14 : Int) < (q : Int) then (14 : Int) else (q : Int) := ⟨_, rfl⟩
 rw [HQ.out, show min (q : Int) 14 = r by rw [hr]; split <;> omega]
 have HR := Lib.hid hr; clear hr
 go_enter Tryz.func79, Tryz.ntmps79
 go_upto_region 1 with fail
 have hu : Up w ((w.alloc (.cells #[.int .u16 m, .int .i64 s, .bool k, .slice A n c, .bool t, .int .u32 v, .int .u32 e] 28)).alloc (.cells #[.int .u16 0, .int .i64 0, .bool false, .slice none 0 0, .bool false, .int .u32 0, .int .u32 0] 28)) := up_al _ (up_al _ bR)
 have hA := (Box.new w #[.int .u16 m, .int .i64 s, .bool k, .slice A n c, .bool t, .int .u32 v, .int .u32 e] 28).alloc (.cells #[.int .u16 0, .int .i64 0, .bool false, .slice none 0 0, .bool false, .int .u32 0, .int .u32 0] 28)
 have hB := Box.new (w.alloc (.cells #[.int .u16 m, .int .i64 s, .bool k, .slice A n c, .bool t, .int .u32 v, .int .u32 e] 28)) #[.int .u16 0, .int .i64 0, .bool false, .slice none 0 0, .bool false, .int .u32 0, .int .u32 0] 28
 rw [show (w.alloc (.cells #[.int .u16 m, .int .i64 s, .bool k, .slice A n c, .bool t, .int .u32 v, .int .u32 e] 28)).heap.size = w.heap.size + 1 by simp] at hB
 have hz : w.heap.size + 2 ≤ ((w.alloc (.cells #[.int .u16 m, .int .i64 s, .bool k, .slice A n c, .bool t, .int .u32 v, .int .u32 e] 28)).alloc (.cells #[.int .u16 0, .int .i64 0, .bool false, .slice none 0 0, .bool false, .int .u32 0, .int .u32 0] 28)).heap.size := by simp
 generalize ((w.alloc (.cells #[.int .u16 m, .int .i64 s, .bool k, .slice A n c, .bool t, .int .u32 v, .int .u32 e] 28)).alloc (.cells #[.int .u16 0, .int .i64 0, .bool false, .slice none 0 0, .bool false, .int .u32 0, .int .u32 0] 28)) = w0 at hu hA hB hz ⊢
 obtain ⟨n0, hn0⟩ : ∃ n0, n0 = w.heap.size := ⟨_, rfl⟩
 have hle0 : w.heap.size ≤ n0 := by omega
 have hle1 : w.heap.size ≤ n0 + 1 := by omega
 have hne : n0 ≠ n0 + 1 := by omega
 have hne' : n0 + 1 ≠ n0 := by omega
 rw [← hn0] at hA hB hz ⊢
 clear hn0
 obtain ⟨k0, k1, k2, k3, k4, k5, k6, f0, f1, f2, f3, f4, f5, f6⟩ := Box.c7 hA
 go_upto_region 18 with fail
 rw [← HR.out]
 have hA2 := hA.set 1 (.int .i64 r)
 have hB2 := hB.far hne (.int .i64 r) (o := 1)
 have hu2 := up_set (o := 1) (v := .int .i64 r) hu hle0
 clear k0 f0 k1 f1 k2 f2 k3 f3 k4 f4 k5 f5 k6 f6
 generalize World.setCell _ ⟨n0, 1, none⟩ _ = w2 at hA2 hB2 hu2 ⊢
 obtain ⟨k0, k1, k2, k3, k4, k5, k6, f0, f1, f2, f3, f4, f5, f6⟩ := Box.c7 hA2
 obtain ⟨m0, m1, m2, m3, m4, m5, m6, g0, g1, g2, g3, g4, g5, g6⟩ := Box.c7 hB2
 go_wp2_with fail
 have hBB := put7 hB2 (.int .u16 m) (.int .i64 r) (.bool k) (.slice A n c) (.bool t) (.int .u32 v) (.int .u32 e)
 have huu := ups7 (b := n0 + 1) hu2 hle1 (.int .u16 m) (.int .i64 r) (.bool k) (.slice A n c) (.bool t) (.int .u32 v) (.int .u32 e)
 generalize World.setCell _ ⟨n0 + 1, 6, none⟩ _ = W9 at hBB huu ⊢
 clear k0 f0 k1 f1 k2 f2 k3 f3 k4 f4 k5 f5 k6 f6 m0 g0 m1 g1 m2 g2 m3 g3 m4 g4 m5 g5 m6 g6
 obtain ⟨m0, m1, m2, m3, m4, m5, m6, g0, g1, g2, g3, g4, g5, g6⟩ := Box.c7 hBB
 (try simp only [Exit.inBlock, Exit.then])
 refine bodyPost_ret (v := .tuple #[.agg #[.int .u16 m, .int .i64 r, .bool k, .slice A n c, .bool t, .int .u32 v, .int .u32 e], .bool true]) ?_ rfl ⟨?_, huu⟩
 ·rw [results_cell_tmp rfl]; go_simp
 ·rfl
theorem take2 (m : Nat) (s : Int) (k t : Bool) (v e : Nat) (A : Option Addr) (n c : Nat) (S : ByteArray) (w : World) (hS : S.size = 2) :
  Calls Tryz.prog 79 #[OA m s k A n c t v e, .int .i64 2, .string S] w fun e_ w' => e_ = .returned (.tuple #[OA (wd (L S) 0).toNat s k A n c t v e, .bool (!decide (wd (L S) 0 = 0))]) ∧ Up w w' := by
 obtain ⟨q, hq⟩ := Int.eq_ofNat_of_zero_le (wd_bd (L S) 0).1
 have hq1 := (wd_bd (L S) 0).2
 rw [hq] at hq1 ⊢
 rw [Int.toNat_natCast]
 have HQ := Lib.hid hq; clear hq
 have hwr : IntKind.u16.wrap (q : Int) = (q : Int) := by rw [IntKind.wrap_u16]; omega
 go_enter Tryz.func79, Tryz.ntmps79
 go_upto_region 1 with fail
 have hu : Up w ((w.alloc (.cells #[.int .u16 m, .int .i64 s, .bool k, .slice A n c, .bool t, .int .u32 v, .int .u32 e] 28)).alloc (.cells #[.int .u16 0, .int .i64 0, .bool false, .slice none 0 0, .bool false, .int .u32 0, .int .u32 0] 28)) := up_al _ (up_al _ bR)
 have hA := (Box.new w #[.int .u16 m, .int .i64 s, .bool k, .slice A n c, .bool t, .int .u32 v, .int .u32 e] 28).alloc (.cells #[.int .u16 0, .int .i64 0, .bool false, .slice none 0 0, .bool false, .int .u32 0, .int .u32 0] 28)
 have hB := Box.new (w.alloc (.cells #[.int .u16 m, .int .i64 s, .bool k, .slice A n c, .bool t, .int .u32 v, .int .u32 e] 28)) #[.int .u16 0, .int .i64 0, .bool false, .slice none 0 0, .bool false, .int .u32 0, .int .u32 0] 28
 rw [show (w.alloc (.cells #[.int .u16 m, .int .i64 s, .bool k, .slice A n c, .bool t, .int .u32 v, .int .u32 e] 28)).heap.size = w.heap.size + 1 by simp] at hB
 have hz : w.heap.size + 2 ≤ ((w.alloc (.cells #[.int .u16 m, .int .i64 s, .bool k, .slice A n c, .bool t, .int .u32 v, .int .u32 e] 28)).alloc (.cells #[.int .u16 0, .int .i64 0, .bool false, .slice none 0 0, .bool false, .int .u32 0, .int .u32 0] 28)).heap.size := by simp
 generalize ((w.alloc (.cells #[.int .u16 m, .int .i64 s, .bool k, .slice A n c, .bool t, .int .u32 v, .int .u32 e] 28)).alloc (.cells #[.int .u16 0, .int .i64 0, .bool false, .slice none 0 0, .bool false, .int .u32 0, .int .u32 0] 28)) = w0 at hu hA hB hz ⊢
 obtain ⟨n0, hn0⟩ : ∃ n0, n0 = w.heap.size := ⟨_, rfl⟩
 have hle0 : w.heap.size ≤ n0 := by omega
 have hle1 : w.heap.size ≤ n0 + 1 := by omega
 have hne : n0 ≠ n0 + 1 := by omega
 have hne' : n0 + 1 ≠ n0 := by omega
 rw [← hn0] at hA hB hz ⊢
 clear hn0
 obtain ⟨k0, k1, k2, k3, k4, k5, k6, f0, f1, f2, f3, f4, f5, f6⟩ := Box.c7 hA
 go_wp2_with fail
 refine (numW2 S w0 hS).mono ?_
 rintro e_ w1 ⟨rfl, rfl⟩
 rw [HQ.out]
 go_upto_region 4 with fail
 have hA2 := hA.set 0 (.int .u16 q)
 have hB2 := hB.far hne (.int .u16 q) (o := 0)
 have hu2 := up_set (o := 0) (v := .int .u16 q) hu hle0
 clear k0 f0 k1 f1 k2 f2 k3 f3 k4 f4 k5 f5 k6 f6
 generalize World.setCell _ ⟨n0, 0, none⟩ _ = w2 at hA2 hB2 hu2 ⊢
 obtain ⟨k0, k1, k2, k3, k4, k5, k6, f0, f1, f2, f3, f4, f5, f6⟩ := Box.c7 hA2
 obtain ⟨m0, m1, m2, m3, m4, m5, m6, g0, g1, g2, g3, g4, g5, g6⟩ := Box.c7 hB2
 go_region
 all_goals
  have hBB := Box.drew (put7 hB2 (.int .u16 q) (.int .i64 s) (.bool k) (.slice A n c) (.bool t) (.int .u32 v) (.int .u32 e))
  have huu := up_dr (ups7 (b := n0 + 1) hu2 hle1 (.int .u16 q) (.int .i64 s) (.bool k) (.slice A n c) (.bool t) (.int .u32 v) (.int .u32 e))
  generalize World.drew _ = W9 at hBB huu ⊢
  clear k0 f0 k1 f1 k2 f2 k3 f3 k4 f4 k5 f5 k6 f6 m0 g0 m1 g1 m2 g2 m3 g3 m4 g4 m5 g5 m6 g6
  obtain ⟨m0, m1, m2, m3, m4, m5, m6, g0, g1, g2, g3, g4, g5, g6⟩ := Box.c7 hBB
  go_wp2
  (try simp only [Exit.inBlock, Exit.then])
  refine bodyPost_ret (v := .tuple #[.agg #[.int .u16 q, .int .i64 s, .bool k, .slice A n c, .bool t, .int .u32 v, .int .u32 e], .bool ((q : Int) != 0)]) ?_ rfl ⟨?_, huu⟩
  ·rw [results_cell_tmp rfl]; go_simp
  ·rw [show ((q : Int) != 0) = !decide ((q : Int) = 0) by rw [bne_dec]; simp]

def Num4 (X : ByteArray) (x : Int) : Prop := X.size = 4 ∧ nm (L X) 4 = x
theorem numK (X : ByteArray) (x : Int) (w : World) (h : Num4 X x) : Calls Tryz.prog 49 #[.string X] w fun e w' => e = .returned (.int .u32 x) ∧ w = w' := by
 refine (refNum X w (by have := h.1; omega)).mono fun e w' ⟨h1, h2⟩ => ⟨?_, h2⟩
 rw [h1, h.1, h.2]
theorem num4_at (s : ByteArray) (i : Nat) (h : i + 4 ≤ s.size) (x : Nat) (hx : x = (qd (L s) i).toNat) : Num4 (s.extract i (i + 4)) x := by
 refine ⟨by rw [sub_size s i (i + 4) (by omega) h]; omega, ?_⟩
 rw [L_extract, show i + 4 - i = 4 by omega, nm4, hx]
 have := (qd_bd (L s) i).1; omega
theorem blocks_at (p : List UInt8) (j : Nat) (h : j < p.length / 8) : (blocks p)[j]? = some ((qd p (8 * j)).toNat, (qd p (8 * j + 4)).toNat) := by
 unfold blocks; simp [h]
theorem blocks_take (p : List UInt8) (j : Nat) (h : j < p.length / 8) : (blocks p).take (j + 1) = (blocks p).take j ++ [((qd p (8 * j)).toNat, (qd p (8 * j + 4)).toNat)] := by
 have e := blocks_at p j h
 obtain ⟨hj, he⟩ := List.getElem?_eq_some_iff.1 e
 rw [List.take_succ_eq_append_getElem hj, he]
theorem own7 {W : World} {B b : Nat} {x : Value} {xs : List (Nat × Nat)} (h : OwnK W B x xs) (hb : b < B) (y0 y1 y2 y3 y4 y5 y6 : Value) : OwnK (((((((W.setCell ⟨b, 0, none⟩ y0).setCell ⟨b, 1, none⟩ y1).setCell ⟨b, 2, none⟩ y2).setCell ⟨b, 3, none⟩ y3).setCell ⟨b, 4, none⟩ y4).setCell ⟨b, 5, none⟩ y5).setCell ⟨b, 6, none⟩ y6) B x xs :=
 ownsRow_setCell_below (ownsRow_setCell_below (ownsRow_setCell_below (ownsRow_setCell_below (ownsRow_setCell_below (ownsRow_setCell_below (ownsRow_setCell_below h (a := ⟨b, 0, none⟩) hb _) (a := ⟨b, 1, none⟩) hb _) (a := ⟨b, 2, none⟩) hb _) (a := ⟨b, 3, none⟩) hb _) (a := ⟨b, 4, none⟩) hb _) (a := ⟨b, 5, none⟩) hb _) (a := ⟨b, 6, none⟩) hb _
theorem OwnK.far {w : World} {B n c : Nat} {A : Option Addr} {xs : List (Nat × Nat)} (h : OwnK w B (.slice A n c) xs) : ∀ ad, A = some ad → B ≤ ad.block := by
 intro ad he
 rcases own_form h with ⟨h1, _⟩ | ⟨g, cap, h1, hB, _⟩
 ·cases h1; cases he
 ·cases h1; cases he; exact hB
def TakeZ (m : Nat) (s : Int) (k t : Bool) (v e q : Nat) (bs : List (Nat × Nat)) (w : World) (e_ : Ending) (w' : World) : Prop := ∃ A' c', e_ = .returned (.tuple #[OA m s k A' q c' t v e, .bool true]) ∧ OwnK w' w.heap.size (.slice A' q c') bs ∧ Up w w'
theorem take5 (m : Nat) (s : Int) (k t : Bool) (v e : Nat) (S : ByteArray) (q : Nat) (w : World) (hS : S.size = 8 * q) (hq : q ≤ 4) :
  Calls Tryz.prog 79 #[OA m s k none 0 0 t v e, .int .i64 5, .string S] w fun e_ w' => TakeZ m s k t v e q (blocks (L S)) w e_ w' := by
 have hbl : (blocks (L S)).length = q := by rw [blocks_len, L_len, hS]; omega
 have HT := Lib.hid (fun j (h : j < q) => blocks_take (L S) j (by rw [L_len, hS]; omega))
 have HS := Lib.hid hS
 obtain ⟨bs, hbs⟩ : ∃ bs, bs = blocks (L S) := ⟨_, rfl⟩
 rw [← hbs] at hbl HT ⊢
 clear hbs
 go_enter Tryz.func79, Tryz.ntmps79
 go_upto_region 1 with fail
 have hu : Up w ((w.alloc (.cells #[.int .u16 m, .int .i64 s, .bool k, .slice none 0 0, .bool t, .int .u32 v, .int .u32 e] 28)).alloc (.cells #[.int .u16 0, .int .i64 0, .bool false, .slice none 0 0, .bool false, .int .u32 0, .int .u32 0] 28)) := up_al _ (up_al _ bR)
 have hA := (Box.new w #[.int .u16 m, .int .i64 s, .bool k, .slice none 0 0, .bool t, .int .u32 v, .int .u32 e] 28).alloc (.cells #[.int .u16 0, .int .i64 0, .bool false, .slice none 0 0, .bool false, .int .u32 0, .int .u32 0] 28)
 have hB := Box.new (w.alloc (.cells #[.int .u16 m, .int .i64 s, .bool k, .slice none 0 0, .bool t, .int .u32 v, .int .u32 e] 28)) #[.int .u16 0, .int .i64 0, .bool false, .slice none 0 0, .bool false, .int .u32 0, .int .u32 0] 28
 rw [show (w.alloc (.cells #[.int .u16 m, .int .i64 s, .bool k, .slice none 0 0, .bool t, .int .u32 v, .int .u32 e] 28)).heap.size = w.heap.size + 1 by simp] at hB
 have hz : w.heap.size + 2 ≤ ((w.alloc (.cells #[.int .u16 m, .int .i64 s, .bool k, .slice none 0 0, .bool t, .int .u32 v, .int .u32 e] 28)).alloc (.cells #[.int .u16 0, .int .i64 0, .bool false, .slice none 0 0, .bool false, .int .u32 0, .int .u32 0] 28)).heap.size := by simp
 generalize ((w.alloc (.cells #[.int .u16 m, .int .i64 s, .bool k, .slice none 0 0, .bool t, .int .u32 v, .int .u32 e] 28)).alloc (.cells #[.int .u16 0, .int .i64 0, .bool false, .slice none 0 0, .bool false, .int .u32 0, .int .u32 0] 28)) = w0 at hu hA hB hz ⊢
 obtain ⟨n0, hn0⟩ : ∃ n0, n0 = w.heap.size := ⟨_, rfl⟩
 have hle0 : w.heap.size ≤ n0 := by omega
 have hle1 : w.heap.size ≤ n0 + 1 := by omega
 have hne : n0 ≠ n0 + 1 := by omega
 have hne' : n0 + 1 ≠ n0 := by omega
 rw [← hn0] at hA hB hz ⊢
 clear hn0
 obtain ⟨k0, k1, k2, k3, k4, k5, k6, f0, f1, f2, f3, f4, f5, f6⟩ := Box.c7 hA

 go_wp2_with fail
 go_loopw [8] (fun i wr => ∃ (j p : Nat) (sl : Value), j ≤ q ∧ i = .int .i64 p ∧ Hid (p = 8 * j) ∧ Box wr n0 [.int .u16 m, .int .i64 s, .bool k, sl, .bool t, .int .u32 v, .int .u32 e] ∧ OwnK wr (n0 + 2) sl (bs.take j) ∧ Box wr (n0 + 1) [.int .u16 0, .int .i64 0, .bool false, .slice none 0 0, .bool false, .int .u32 0, .int .u32 0] ∧ Up w wr ∧ n0 + 2 ≤ wr.heap.size) (fun i _ => S.size - (intOf i).toNat)
 case atStart => exact ⟨0, 0, _, Nat.zero_le _, rfl, rfl, hA, OwnK.nil_ _ _, hB, hu, hz⟩
 case round =>
  obtain ⟨j, p, sl, hj, rfl, hp, hAr, hO, hBr, hur, hzr⟩ := hrel
  clear k0 f0 k1 f1 k2 f2 k3 f3 k4 f4 k5 f5 k6 f6
  obtain ⟨k0, k1, k2, k3, k4, k5, k6, f0, f1, f2, f3, f4, f5, f6⟩ := Box.c7 hAr
  by_cases hlt : j < q
  ·have hp8 : p + 8 ≤ S.size := by rw [HS.out, hp.out]; omega
   have hS32 : S.size ≤ 32 := by omega
   obtain ⟨x1, hx1⟩ : ∃ x1, x1 = (qd (L S) p).toNat := ⟨_, rfl⟩
   obtain ⟨x2, hx2⟩ : ∃ x2, x2 = (qd (L S) (p + 4)).toNat := ⟨_, rfl⟩
   have I1 := num4_at S p (by omega) x1 hx1
   have I2 := num4_at S (p + 4) (by omega) x2 hx2
   have HB : Hid (bs.take (j + 1) = bs.take j ++ [(x1, x2)]) := by unfold Hid; rw [HT.out j hlt, hx1, hx2, hp.out]
   have hl : (bs.take j).length ≤ 4 := by rw [List.length_take]; omega
   clear hx1 hx2 hA hB hS
   have d0 : (p : Int) < (S.size : Int) := by omega
   have d1 : (p : Int) + 4 ≤ (S.size : Int) := by omega
   have d2 : (p : Int) + 8 ≤ (S.size : Int) := by omega
   have d3 : (p : Int) ≤ (p : Int) + 4 := by omega
   have d4 : (p : Int) + 4 ≤ (p : Int) + 8 := by omega
   have d5 : ((p : Int) + 4).toNat = p + 4 := by omega
   have d6 : ((p : Int) + 8).toNat = p + 8 := by omega
   have d7 : IntKind.i64.wrap ((p : Int) + 4) = (p : Int) + 4 := IntWalk.i64_in _ (by omega)
   have d8 : IntKind.i64.wrap ((p : Int) + 8) = (p : Int) + 8 := IntWalk.i64_in _ (by omega)
   have d9 : (0 : Int) ≤ (p : Int) + 4 := by omega
   have d10 : (0 : Int) ≤ (p : Int) + 8 := by omega
   have hal : ∀ o, (wr.alloc o).cell? ⟨n0, 3, none⟩ = some sl := fun o => (hAr.alloc o).at 3 rfl
   generalize bs.take j = xs at hO hl HB
   go_upto_region 13 with fail
   go_region_law (first
    | (go_simp; go_at_call 49; refine (numK _ _ _ (by first | exact I1 | exact I2)).mono ?_; rintro e_ w2 ⟨rfl, rfl⟩)
    | (refine step_app2 (.tmp 39) (.tmp 54) _ [(x1, x2)] (hO.up (by first | exact up_al _ (up_dr bR) | exact up_dr (up_al _ bR))) rfl rfl rfl rfl (cells_new1 (by go_simp) (by go_simp)) (by omega) (by simp) (by simp; omega) ?_; intro v4 w4 hO4 hb4; obtain ⟨A4, c4, rfl, hr4⟩ := hO4.rd; obtain ⟨n4, hn4⟩ : ∃ n4, n4 = (xs ++ [(x1, x2)]).length := ⟨_, rfl⟩; rw [← hn4] at hO4 ⊢; clear hr4 hn4; have hA4 := (Box.up hAr (by first | exact up_al _ (up_dr bR) | exact up_dr (up_al _ bR))).below hb4 (by omega); have hB40 := (Box.up hBr (by first | exact up_al _ (up_dr bR) | exact up_dr (up_al _ bR))).below hb4 (by omega); have hu40 := (hur.on (by first | exact up_al _ (up_dr bR) | exact up_dr (up_al _ bR))).trans (hb4.mono (by omega)); obtain ⟨m0, m1, m2, m3, m4, m5, m6, g0, g1, g2, g3, g4, g5, g6⟩ := Box.c7 hA4))
   all_goals
    have hB4 := hB40.far hne (.slice A4 n4 c4) (o := 3)
    have hu4 := up_set (o := 3) (v := .slice A4 n4 c4) hu40 hle0
    have hA5 := hA4.set 3 (.slice A4 n4 c4)
    have hO5 : OwnK (w4.setCell ⟨n0, 3, none⟩ (.slice A4 n4 c4)) (n0 + 2) (.slice A4 n4 c4) (xs ++ [(x1, x2)]) := RowKit.ownsRow_setCell_below hO4 (a := ⟨n0, 3, none⟩) (by show n0 < _; omega) _
    have hz5 : n0 + 2 ≤ (w4.setCell ⟨n0, 3, none⟩ (.slice A4 n4 c4)).heap.size := by simpa using Nat.le_trans hzr (Nat.le_trans (by simp) hb4.size)
    generalize (w4.setCell ⟨n0, 3, none⟩ (.slice A4 n4 c4)) = w5 at hB4 hu4 hA5 hO5 hz5 ⊢
    go_wp2
    go_roundw
    case rel => exact ⟨j + 1, p + 8, _, by omega, by go_num, by unfold Hid; rw [hp.out]; omega, hA5, by rw [HB.out]; exact hO5, hB4, hu4, hz5⟩
    case measure => simp [intOf]; omega
  ·obtain rfl : j = q := by omega
   have d0 : ¬ (p : Int) < (S.size : Int) := by rw [HS.out, hp.out]; omega
   obtain ⟨A', c', rfl, hrd⟩ := hO.rd
   rw [List.take_of_length_le (by omega)] at hrd hO hAr
   rw [hbl] at hAr
   clear k0 f0 k1 f1 k2 f2 k3 f3 k4 f4 k5 f5 k6 f6
   obtain ⟨k0, k1, k2, k3, k4, k5, k6, f0, f1, f2, f3, f4, f5, f6⟩ := Box.c7 hAr
   obtain ⟨m0, m1, m2, m3, m4, m5, m6, g0, g1, g2, g3, g4, g5, g6⟩ := Box.c7 hBr
   clear hA hB
   go_wp2_with fail
   have hBB := put7 hBr (.int .u16 m) (.int .i64 s) (.bool k) (.slice A' j c') (.bool t) (.int .u32 v) (.int .u32 e)
   have huu := ups7 (b := n0 + 1) hur hle1 (.int .u16 m) (.int .i64 s) (.bool k) (.slice A' j c') (.bool t) (.int .u32 v) (.int .u32 e)
   have hOO := own7 hO (b := n0 + 1) (by omega) (.int .u16 m) (.int .i64 s) (.bool k) (.slice A' j c') (.bool t) (.int .u32 v) (.int .u32 e)
   generalize World.setCell _ ⟨n0 + 1, 6, none⟩ _ = W9 at hBB huu hOO ⊢
   clear k0 f0 k1 f1 k2 f2 k3 f3 k4 f4 k5 f5 k6 f6 m0 g0 m1 g1 m2 g2 m3 g3 m4 g4 m5 g5 m6 g6
   obtain ⟨m0, m1, m2, m3, m4, m5, m6, g0, g1, g2, g3, g4, g5, g6⟩ := Box.c7 hBB
   (try simp only [Exit.inBlock, Exit.then])
   refine bodyPost_ret (v := .tuple #[.agg #[.int .u16 m, .int .i64 s, .bool k, .slice A' j c', .bool t, .int .u32 v, .int .u32 e], .bool true]) ?_ rfl ⟨A', c', rfl, ?_, huu⟩
   ·rw [results_cell_tmp rfl]; go_simp
   ·rw [hbl] at hOO; exact World.ownsRow.mono hOO (by omega)
theorem take8 (m : Nat) (s : Int) (k t : Bool) (v e : Nat) (A : Option Addr) (n c : Nat) (S : ByteArray) (w : World) (hS : S.size = 8) :
  Calls Tryz.prog 79 #[OA m s k A n c t v e, .int .i64 8, .string S] w fun e_ w' => e_ = .returned (.tuple #[OA m s k A n c true (qd (L S) 0).toNat (qd (L S) 4).toNat, .bool true]) ∧ Up w w' := by
 obtain ⟨q, hq⟩ := Int.eq_ofNat_of_zero_le (qd_bd (L S) 0).1
 obtain ⟨r, hr⟩ := Int.eq_ofNat_of_zero_le (qd_bd (L S) 4).1
 rw [hq, hr, Int.toNat_natCast, Int.toNat_natCast]
 have HQ := Lib.hid hq; have HR := Lib.hid hr; clear hq hr
 have HN1 := Lib.hid (fun w => num4 S 0 (by omega) w)
 have HN2 := Lib.hid (fun w => num4 S 4 (by omega) w)
 go_enter Tryz.func79, Tryz.ntmps79
 go_upto_region 1 with fail
 have hu : Up w ((w.alloc (.cells #[.int .u16 m, .int .i64 s, .bool k, .slice A n c, .bool t, .int .u32 v, .int .u32 e] 28)).alloc (.cells #[.int .u16 0, .int .i64 0, .bool false, .slice none 0 0, .bool false, .int .u32 0, .int .u32 0] 28)) := up_al _ (up_al _ bR)
 have hA := (Box.new w #[.int .u16 m, .int .i64 s, .bool k, .slice A n c, .bool t, .int .u32 v, .int .u32 e] 28).alloc (.cells #[.int .u16 0, .int .i64 0, .bool false, .slice none 0 0, .bool false, .int .u32 0, .int .u32 0] 28)
 have hB := Box.new (w.alloc (.cells #[.int .u16 m, .int .i64 s, .bool k, .slice A n c, .bool t, .int .u32 v, .int .u32 e] 28)) #[.int .u16 0, .int .i64 0, .bool false, .slice none 0 0, .bool false, .int .u32 0, .int .u32 0] 28
 rw [show (w.alloc (.cells #[.int .u16 m, .int .i64 s, .bool k, .slice A n c, .bool t, .int .u32 v, .int .u32 e] 28)).heap.size = w.heap.size + 1 by simp] at hB
 have hz : w.heap.size + 2 ≤ ((w.alloc (.cells #[.int .u16 m, .int .i64 s, .bool k, .slice A n c, .bool t, .int .u32 v, .int .u32 e] 28)).alloc (.cells #[.int .u16 0, .int .i64 0, .bool false, .slice none 0 0, .bool false, .int .u32 0, .int .u32 0] 28)).heap.size := by simp
 generalize ((w.alloc (.cells #[.int .u16 m, .int .i64 s, .bool k, .slice A n c, .bool t, .int .u32 v, .int .u32 e] 28)).alloc (.cells #[.int .u16 0, .int .i64 0, .bool false, .slice none 0 0, .bool false, .int .u32 0, .int .u32 0] 28)) = w0 at hu hA hB hz ⊢
 obtain ⟨n0, hn0⟩ : ∃ n0, n0 = w.heap.size := ⟨_, rfl⟩
 have hle0 : w.heap.size ≤ n0 := by omega
 have hle1 : w.heap.size ≤ n0 + 1 := by omega
 have hne : n0 ≠ n0 + 1 := by omega
 have hne' : n0 + 1 ≠ n0 := by omega
 rw [← hn0] at hA hB hz ⊢
 clear hn0
 obtain ⟨k0, k1, k2, k3, k4, k5, k6, f0, f1, f2, f3, f4, f5, f6⟩ := Box.c7 hA
 go_upto_region 16 with fail
 have hA2 := hA.set 4 (.bool true)
 have hB2 := hB.far hne (.bool true) (o := 4)
 have hu2 := up_set (o := 4) (v := .bool true) hu hle0
 clear k0 f0 k1 f1 k2 f2 k3 f3 k4 f4 k5 f5 k6 f6
 generalize World.setCell _ ⟨n0, 4, none⟩ _ = w2 at hA2 hB2 hu2 ⊢
 obtain ⟨k0, k1, k2, k3, k4, k5, k6, f0, f1, f2, f3, f4, f5, f6⟩ := Box.c7 hA2
 have j4 : (4 : Int) ≤ (S.size : Int) := by omega
 go_wp2_with fail
 refine (HN1.out w2).mono ?_
 rintro e_ w1 ⟨rfl, rfl⟩
 rw [HQ.out]
 go_upto_region 17 with fail
 have hA3 := hA2.set 5 (.int .u32 q)
 have hB3 := hB2.far hne (.int .u32 q) (o := 5)
 have hu3 := up_set (o := 5) (v := .int .u32 q) hu2 hle0
 clear k0 f0 k1 f1 k2 f2 k3 f3 k4 f4 k5 f5 k6 f6
 generalize World.setCell _ ⟨n0, 5, none⟩ _ = w3 at hA3 hB3 hu3 ⊢
 obtain ⟨k0, k1, k2, k3, k4, k5, k6, f0, f1, f2, f3, f4, f5, f6⟩ := Box.c7 hA3
 go_wp2_with fail
 refine (HN2.out w3).mono ?_
 rintro e_ w1 ⟨rfl, rfl⟩
 rw [HR.out]
 go_upto_region 18 with fail
 have hA4 := hA3.set 6 (.int .u32 r)
 have hB4 := hB3.far hne (.int .u32 r) (o := 6)
 have hu4 := up_set (o := 6) (v := .int .u32 r) hu3 hle0
 clear k0 f0 k1 f1 k2 f2 k3 f3 k4 f4 k5 f5 k6 f6
 generalize World.setCell _ ⟨n0, 6, none⟩ _ = w4 at hA4 hB4 hu4 ⊢
 obtain ⟨k0, k1, k2, k3, k4, k5, k6, f0, f1, f2, f3, f4, f5, f6⟩ := Box.c7 hA4
 obtain ⟨m0, m1, m2, m3, m4, m5, m6, g0, g1, g2, g3, g4, g5, g6⟩ := Box.c7 hB4
 go_wp2_with fail
 have hBB := put7 hB4 (.int .u16 m) (.int .i64 s) (.bool k) (.slice A n c) (.bool true) (.int .u32 q) (.int .u32 r)
 have huu := ups7 (b := n0 + 1) hu4 hle1 (.int .u16 m) (.int .i64 s) (.bool k) (.slice A n c) (.bool true) (.int .u32 q) (.int .u32 r)
 generalize World.setCell _ ⟨n0 + 1, 6, none⟩ _ = W9 at hBB huu ⊢
 clear k0 f0 k1 f1 k2 f2 k3 f3 k4 f4 k5 f5 k6 f6 m0 g0 m1 g1 m2 g2 m3 g3 m4 g4 m5 g5 m6 g6
 obtain ⟨m0, m1, m2, m3, m4, m5, m6, g0, g1, g2, g3, g4, g5, g6⟩ := Box.c7 hBB
 (try simp only [Exit.inBlock, Exit.then])
 refine bodyPost_ret (v := .tuple #[.agg #[.int .u16 m, .int .i64 s, .bool k, .slice A n c, .bool true, .int .u32 q, .int .u32 r], .bool true]) ?_ rfl ⟨?_, huu⟩
 ·rw [results_cell_tmp rfl]; go_simp
 ·rfl
abbrev OV (o : Opz) (A : Option Addr) (n c : Nat) : Value := OA o.mss o.sc o.sk A n c o.tm o.va o.ec
def TkZ (B : Nat) (o : Opz) (K : Nat) (X : List UInt8) (w : World) (e_ : Ending) (w' : World) : Prop :=
 ∃ A' n' c', e_ = .returned (.tuple #[OV (put o (K, X)) A' n' c', .bool (nzb K X)]) ∧ OwnK w' B (.slice A' n' c') (put o (K, X)).bl ∧ (put o (K, X)).bl.length = n' ∧ ((put o (K, X)).bl = [] → A' = none ∧ n' = 0 ∧ c' = 0) ∧ Up w w'
theorem refTake (B : Nat) (m : Nat) (s : Int) (k t : Bool) (v e : Nat) (A : Option Addr) (n c : Nat) (b : List (Nat × Nat)) (K : Nat) (S : ByteArray) (w : World) (hBw : B ≤ w.heap.size) (hl : lenOk K (S.size + 2) = true) (hO : OwnK w B (.slice A n c) b) (hn : b.length = n) (hb : b = [] → A = none ∧ n = 0 ∧ c = 0) (h5 : K = 5 → b = []) :
  Calls Tryz.prog 79 #[OA m s k A n c t v e, .int .i64 K, .string S] w fun e_ w' => TkZ B ⟨m, s, k, b, t, v, e⟩ K (L S) w e_ w' := by
 by_cases h2 : K = 2
 ·subst h2
  have hS : S.size = 2 := by have h := beq_iff_eq.1 (show (S.size + 2 == 4) = true from hl); omega
  refine (take2 m s k t v e A n c S w hS).mono ?_
  rintro e_ w' ⟨rfl, hu⟩
  refine ⟨A, n, c, ?_, hO.up hu, hn, hb, hu⟩
  rw [put_2]; rfl
 by_cases h3 : K = 3
 ·subst h3
  have hS : S.size = 1 := by have h := beq_iff_eq.1 (show (S.size + 2 == 3) = true from hl); omega
  refine (take3 m s k t v e A n c S w hS).mono ?_
  rintro e_ w' ⟨rfl, hu⟩
  exact ⟨A, n, c, by rw [put_3, nzb_x (by decide)], hO.up hu, hn, hb, hu⟩
 by_cases h4 : K = 4
 ·subst h4
  have hS : S.size = 0 := by have h := beq_iff_eq.1 (show (S.size + 2 == 2) = true from hl); omega
  refine (take4 m s k t v e A n c S w hS).mono ?_
  rintro e_ w' ⟨rfl, hu⟩
  exact ⟨A, n, c, by rw [put_4, nzb_x (by decide)], hO.up hu, hn, hb, hu⟩
 by_cases h5' : K = 5
 ·subst h5'
  obtain ⟨rfl, rfl, rfl⟩ := hb (h5 rfl)
  obtain rfl := h5 rfl
  have hS := len5 hl
  obtain ⟨q, hq⟩ : ∃ q, S.size = 8 * q := ⟨S.size / 8, by omega⟩
  have hbl : (blocks (L S)).length = q := by rw [blocks_len, L_len, hq]; omega
  refine (take5 m s k t v e S q w hq (by omega)).mono ?_
  rintro e_ w' ⟨A', c', rfl, hO', hu⟩
  refine ⟨A', q, c', by rw [put_5, nzb_x (by decide)], by rw [put_5]; exact World.ownsRow.mono hO' hBw, by rw [put_5]; exact hbl, fun h => ?_, hu⟩
  rw [put_5] at h
  have : blocks (L S) = [] := h
  rw [this] at hbl
  simp at hbl; omega
 by_cases h8 : K = 8
 ·subst h8
  have hS : S.size = 8 := by have := len8 hl; omega
  refine (take8 m s k t v e A n c S w hS).mono ?_
  rintro e_ w' ⟨rfl, hu⟩
  exact ⟨A, n, c, by rw [put_8, nzb_x (by decide)], hO.up hu, hn, hb, hu⟩
 ·refine (takex m s k t v e A n c S w K h2 h3 h4 h5' h8).mono ?_
  rintro e_ w' ⟨rfl, hu⟩
  rw [show TkZ B ⟨m, s, k, b, t, v, e⟩ K (L S) w = TkZ B ⟨m, s, k, b, t, v, e⟩ K (L S) w from rfl]
  unfold TkZ
  rw [put_x _ K _ h2 h3 h4 h5' h8, nzb_x h2]
  exact ⟨A, n, c, rfl, hO.up hu, hn, hb, hu⟩
end Go.Proofs.YtafckmbgefbonaaGreat.op

namespace Go.Proofs.YtafckmbgefbonaaGreat.op
open RowKit Shelf Lib sm nb om

theorem own_apart {W : World} {B : Nat} {A : Option Addr} {n c b : Nat} {xs : List (Nat × Nat)} {a : Int} {r : List Value} (h : OwnK W B (.slice A n c) xs) (hx : xs = [] → A = none) (hB : Box W b (.int .u16 a :: r)) : (Value.slice A n c).ownBlock ≠ some b := by
 cases A with
 | none => simp [Value.ownBlock]
 | some ad =>
  cases xs with
  | nil => cases hx rfl
  | cons x t =>
   rcases own_form h with ⟨he, _⟩ | ⟨g, cap, he, _⟩
   ·cases he
   ·cases he
    have hc := World.ownsRow.cellAt h 0 (by simp)
    intro hb
    have hg : g = b := by simpa [Value.ownBlock] using hb
    subst hg
    rw [hB.at 0 rfl] at hc
    simp [cells] at hc
theorem own7x {W : World} {B b : Nat} {x : Value} {xs : List (Nat × Nat)} (h : OwnK W B x xs) (hb : x.ownBlock ≠ some b) (y0 y1 y2 y3 y4 y5 y6 : Value) : OwnK (((((((W.setCell ⟨b, 0, none⟩ y0).setCell ⟨b, 1, none⟩ y1).setCell ⟨b, 2, none⟩ y2).setCell ⟨b, 3, none⟩ y3).setCell ⟨b, 4, none⟩ y4).setCell ⟨b, 5, none⟩ y5).setCell ⟨b, 6, none⟩ y6) B x xs :=
 ownsRow_setCell_other (ownsRow_setCell_other (ownsRow_setCell_other (ownsRow_setCell_other (ownsRow_setCell_other (ownsRow_setCell_other (ownsRow_setCell_other h (a := ⟨b, 0, none⟩) hb _) (a := ⟨b, 1, none⟩) hb _) (a := ⟨b, 2, none⟩) hb _) (a := ⟨b, 3, none⟩) hb _) (a := ⟨b, 4, none⟩) hb _) (a := ⟨b, 5, none⟩) hb _) (a := ⟨b, 6, none⟩) hb _
def OpV (B : Nat) (o : Opz) (x : Value) (W : World) : Prop := ∃ A n c, x = OV o A n c ∧ OwnK W B (.slice A n c) o.bl ∧ o.bl.length = n ∧ (o.bl = [] → A = none ∧ n = 0 ∧ c = 0)
theorem OpV.st (B : Nat) (o : Opz) : ∀ v w w', OpV B o v w → Up w w' → OpV B o v w' := fun _ _ _ ⟨A, n, c, h1, h2, h3, h4⟩ hu => ⟨A, n, c, h1, h2.up hu, h3, h4⟩
def TkV (B : Nat) (o : Opz) (bz : Bool) (x : Value) (W : World) : Prop := ∃ y, x = .tuple #[y, .bool bz] ∧ OpV B o y W
theorem TkV.st (B : Nat) (o : Opz) (bz : Bool) : ∀ v w w', TkV B o bz v w → Up w w' → TkV B o bz v w' := fun _ _ _ ⟨y, h1, h2⟩ hu => ⟨y, h1, OpV.st B o _ _ _ h2 hu⟩
def DecZ (l : List UInt8) (w : World) (e_ : Ending) (w' : World) : Prop := ∃ x, e_ = .returned (.tuple #[x, .int .i64 (err l : Nat)]) ∧ OptV w' x (decO l) ∧ Up w w'
def OptN (B : Nat) (w : World) (x : Value) (o : Opz) : Prop := ∃ A n c, x = OA o.mss o.sc o.sk A n c o.tm o.va o.ec ∧ o.bl.length = n ∧ RdB w A o.bl ∧ ∀ ad, A = some ad → B ≤ ad.block
def DecN (l : List UInt8) (w : World) (e_ : Ending) (w' : World) : Prop := ∃ x, e_ = .returned (.tuple #[x, .int .i64 (err l : Nat)]) ∧ OptN w.heap.size w' x (decO l) ∧ Up w w'
theorem DecN.z {l : List UInt8} {w : World} {e_ : Ending} {w' : World} (h : DecN l w e_ w') : DecZ l w e_ w' := by
 obtain ⟨x, he, ⟨A, n, c, h1, h2, h3, _⟩, hu⟩ := h
 exact ⟨x, he, ⟨A, n, c, h1, h2, h3⟩, hu⟩
theorem DecN.bad {l : List UInt8} {n : Nat} {w : World} {e_ : Ending} {w' : World} (h : err l = n ∧ decO l = zero_) (he : e_ = .returned (.tuple #[OA 0 0 false none 0 0 false 0 0, .int .i64 n])) (hu : Up w w') : DecN l w e_ w' := by
 refine ⟨_, by rw [he, h.1], ?_, hu⟩
 rw [h.2]
 exact ⟨none, 0, 0, rfl, rfl, (fun h => absurd rfl h), (fun ad e => by cases e)⟩
theorem fold_bl : ∀ (its : List om.Item) (o : Opz), (∀ x ∈ its, x.1 ≠ 5) → (its.foldl put o).bl = o.bl
 | [], _, _ => rfl
 | x :: t, o, h => by
  rw [List.foldl_cons, fold_bl t _ (fun y hy => h y (by simp [hy]))]
  have := h x (by simp)
  unfold put
  (repeat' split) <;> first | rfl | (exfalso; omega)
structure Dn (s : List UInt8) (pl : List Nat) (j : Nat) (o : Opz) : Prop where
 val : o = ((pl.take j).map (itm s)).foldl put none_
 noz : ∀ q ∈ pl.take j, NoZ (itm s q)
theorem Dn.start (s : List UInt8) (pl : List Nat) : Dn s pl 0 none_ := ⟨rfl, fun q hq => by simp at hq⟩
theorem Dn.next {s : List UInt8} {pl : List Nat} {j p : Nat} {o : Opz} (h : Dn s pl j o) (hp : pl[j]? = some p) (hz : NoZ (itm s p)) : Dn s pl (j + 1) (put o (itm s p)) := by
 obtain ⟨hj, he⟩ := List.getElem?_eq_some_iff.1 hp
 have e : pl.take (j + 1) = pl.take j ++ [p] := by rw [List.take_succ_eq_append_getElem hj, he]
 refine ⟨by rw [e, List.map_append, List.foldl_append, ← h.val]; rfl, ?_⟩
 rw [e]
 intro q hq
 rcases List.mem_append.1 hq with hq | hq
 ·exact h.noz q hq
 ·simp at hq; subst hq; exact hz
theorem Dn.fin {s : List UInt8} {pl : List Nat} {j : Nat} {o : Opz} (h : Dn s pl j o) (hg : om.Good s pl) (hj : pl.length ≤ j) : om.dec s = some o := by
 have e : pl.take j = pl := List.take_of_length_le hj
 rw [h.val, e]
 exact hg.dec (fun q hq => h.noz q (by rw [e]; exact hq))
theorem Dn.five {s : List UInt8} {pl : List Nat} {j p : Nat} {o : Opz} (h : Dn s pl j o) (hg : om.Good s pl) (hp : pl[j]? = some p) (h5 : nb s p = 5) : o.bl = [] := by
 obtain ⟨hj, he⟩ := List.getElem?_eq_some_iff.1 hp
 rw [h.val, fold_bl]
 ·rfl
 ·intro x hx hx5
  obtain ⟨q, hq, rfl⟩ := List.mem_map.1 hx
  have hcl := hg.cl
  rw [List.pairwise_map] at hcl
  have hpl : pl = pl.take j ++ pl.drop j := (List.take_append_drop j pl).symm
  rw [hpl, List.pairwise_append] at hcl
  have := hcl.2.2 q hq p (by rw [List.drop_eq_getElem_cons hj, he]; simp)
  have hq5 : nb s q = 5 := hx5
  exact this (show known (nb s q) = true by rw [hq5]; rfl) (show nb s q = nb s p by omega)
theorem decode0 (s : ByteArray) (w : World) (hs : s.size ≤ 1048576) (hl : 40 < s.size) :
  Calls Tryz.prog 40 #[.string s] w fun e_ w' => DecN (L s) w e_ w' := by
 have HD := Lib.hid (err_4 (l := L s) (by rw [L_len]; exact hl))
 go_enter Tryz.func40, Tryz.ntmps40
 go_upto_region 1 with fail
 have hB := Box.new w #[.int .u16 0, .int .i64 0, .bool false, .slice none 0 0, .bool false, .int .u32 0, .int .u32 0] 28
 have hu : Up w (w.alloc (.cells #[.int .u16 0, .int .i64 0, .bool false, .slice none 0 0, .bool false, .int .u32 0, .int .u32 0] 28)) := up_al _ bR
 generalize World.alloc w _ = w0 at hB hu ⊢
 obtain ⟨k0, k1, k2, k3, k4, k5, k6, f0, f1, f2, f3, f4, f5, f6⟩ := Box.c7 hB
 go_wp2_with fail
 have hBB := put7 hB (.int .u16 0) (.int .i64 0) (.bool false) (.slice none 0 0) (.bool false) (.int .u32 0) (.int .u32 0)
 have huu := ups7 (b := w.heap.size) hu (Nat.le_refl _) (.int .u16 0) (.int .i64 0) (.bool false) (.slice none 0 0) (.bool false) (.int .u32 0) (.int .u32 0)
 generalize World.setCell _ ⟨w.heap.size, 6, none⟩ _ = W9 at hBB huu ⊢
 clear k0 f0 k1 f1 k2 f2 k3 f3 k4 f4 k5 f5 k6 f6
 obtain ⟨k0, k1, k2, k3, k4, k5, k6, f0, f1, f2, f3, f4, f5, f6⟩ := Box.c7 hBB
 (try simp only [Exit.inBlock, Exit.then])
 refine bodyPost_ret (v := .tuple #[.agg #[.int .u16 0, .int .i64 0, .bool false, .slice none 0 0, .bool false, .int .u32 0, .int .u32 0], .int .i64 4]) ?_ rfl (DecN.bad HD.out rfl huu)
 rw [results_cell_tmp rfl]; go_simp
theorem refDecodeN (s : ByteArray) (w : World) (hs : s.size ≤ 1048576) :
  Calls Tryz.prog 40 #[.string s] w fun e_ w' => DecN (L s) w e_ w' := by
 by_cases hl : 40 < s.size
 ·exact decode0 s w hs hl
 have i0 : ¬ (40 : Int) < (s.size : Int) := by omega
 have H4 := Lib.hid (show (L s).length ≤ 40 by rw [L_len]; omega)
 have HP := Lib.hid (fun w => refPlaces s w hs)
 go_enter Tryz.func40, Tryz.ntmps40
 go_upto_region 1 with fail
 have hB := Box.new w #[.int .u16 0, .int .i64 0, .bool false, .slice none 0 0, .bool false, .int .u32 0, .int .u32 0] 28
 have hu : Up w (w.alloc (.cells #[.int .u16 0, .int .i64 0, .bool false, .slice none 0 0, .bool false, .int .u32 0, .int .u32 0] 28)) := up_al _ bR
 generalize World.alloc w _ = w0 at hB hu ⊢
 obtain ⟨n0, hn0⟩ : ∃ n0, n0 = w.heap.size := ⟨_, rfl⟩
 have hle0 : w.heap.size ≤ n0 := by omega
 rw [← hn0] at hB ⊢
 clear hn0
 go_wp2_with fail
 refine (HP.out w0).mono ?_
 rintro e_ w1 ⟨hv, ⟨x1, pl, rfl, hO1, hG, hpn⟩ | ⟨rfl, hbad⟩⟩
 case inr =>
  have HD := Lib.hid (err_70 hbad H4.out)
  have hB1 := hB.up hv
  have hu1 := hu.on hv
  clear hB hu hv
  obtain ⟨k0, k1, k2, k3, k4, k5, k6, f0, f1, f2, f3, f4, f5, f6⟩ := Box.c7 hB1
  go_wp2_with fail
  have hBB := put7 hB1 (.int .u16 0) (.int .i64 0) (.bool false) (.slice none 0 0) (.bool false) (.int .u32 0) (.int .u32 0)
  have huu := ups7 (b := n0) hu1 hle0 (.int .u16 0) (.int .i64 0) (.bool false) (.slice none 0 0) (.bool false) (.int .u32 0) (.int .u32 0)
  generalize World.setCell _ ⟨n0, 6, none⟩ _ = W9 at hBB huu ⊢
  clear k0 f0 k1 f1 k2 f2 k3 f3 k4 f4 k5 f5 k6 f6
  obtain ⟨k0, k1, k2, k3, k4, k5, k6, f0, f1, f2, f3, f4, f5, f6⟩ := Box.c7 hBB
  (try simp only [Exit.inBlock, Exit.then])
  refine bodyPost_ret (v := .tuple #[.agg #[.int .u16 0, .int .i64 0, .bool false, .slice none 0 0, .bool false, .int .u32 0, .int .u32 0], .int .i64 70]) ?_ rfl (DecN.bad HD.out rfl huu)
  rw [results_cell_tmp rfl]; go_simp
 case inl =>
  have hB1 := hB.up hv
  have hu1 := hu.on hv
  have hlt1 := hB1.1
  clear hB hu hv
  obtain ⟨Al, cl, rfl, hR1⟩ := hO1.rd
  obtain ⟨np, hnp⟩ : ∃ np, pl.length = np := ⟨_, rfl⟩
  rw [hnp]
  have HNP := Lib.hid hnp
  have hnp2 : np ≤ 1048576 := by omega
  clear hO1 hnp
  go_wp2_with fail
  refine (refNone w1).mono ?_
  rintro e_ w2 ⟨rfl, hv2⟩
  go_upto_region 7 with fail
  have hC0 := Box.new w2 #[.int .u16 0, .int .i64 (-1), .bool false, .slice none 0 0, .bool false, .int .u32 0, .int .u32 0] 28
  have hB2 := (hB1.up hv2).alloc (.cells #[.int .u16 0, .int .i64 (-1), .bool false, .slice none 0 0, .bool false, .int .u32 0, .int .u32 0] 28)
  have hR2 := hR1.up hv2
  have hu2 : Up w w2 := hu1.on hv2
  have hur0 : Up w2 (w2.alloc (.cells #[.int .u16 0, .int .i64 (-1), .bool false, .slice none 0 0, .bool false, .int .u32 0, .int .u32 0] 28)) := up_al _ bR
  have hlt2 : n0 < w2.heap.size := Nat.lt_of_lt_of_le hlt1 hv2.size
  generalize World.alloc w2 _ = w3 at hC0 hB2 hur0 ⊢
  obtain ⟨n1, hn1⟩ : ∃ n1, n1 = w2.heap.size := ⟨_, rfl⟩
  rw [← hn1] at hC0 hlt2 ⊢
  have hle1 : w.heap.size ≤ n1 := by omega
  have hle2 : w2.heap.size ≤ n1 := by omega
  have hne : n0 ≠ n1 := by omega
  have hne' : n1 ≠ n0 := by omega
  clear hn1 hB1 hR1 hu1 hv2 hlt1
  have HS := Lib.hid hs; clear hs hl i0 HP
  go_wp2_with fail
  go_loopw [7] (fun i wr => ∃ (j : Nat) (m : Nat) (s' : Int) (k : Bool) (b : List (Nat × Nat)) (t : Bool) (v e : Nat) (A : Option Addr) (n c : Nat), j ≤ np ∧ i = .int .i64 j ∧ Box wr n1 [.int .u16 (m : Nat), .int .i64 s', .bool k, .slice A n c, .bool t, .int .u32 (v : Nat), .int .u32 (e : Nat)]
   ∧ OwnK wr w.heap.size (.slice A n c) b ∧ b.length = n ∧ (b = [] → A = none ∧ n = 0 ∧ c = 0) ∧ Dn (L s) pl j ⟨m, s', k, b, t, v, e⟩ ∧ Box wr n0 [.int .u16 0, .int .i64 0, .bool false, .slice none 0 0, .bool false, .int .u32 0, .int .u32 0] ∧ Up w2 wr) (fun i _ => np - (intOf i).toNat)
  case atStart => exact ⟨0, 0, -1, false, [], false, 0, 0, none, 0, 0, Nat.zero_le _, rfl, hC0, World.ownsRow_nil _ _ _ _, rfl, fun _ => ⟨rfl, rfl, rfl⟩, Dn.start _ _, hB2, hur0⟩
  case round =>
   obtain ⟨j, m, s', k, b, t, v, e, A, n, c, hj, rfl, hO, hK1, hlen, hnil, hDn, hBr, hur⟩ := hrel
   have hR := hR2.up hur
   clear hC0 hB2 hR2
   by_cases hlt : j < np
   case neg =>
    have HF := Lib.hid (err_0 (hDn.fin hG (by rw [HNP.out]; omega)) H4.out)
    clear hDn
    obtain ⟨k0, k1, k2, k3, k4, k5, k6, f0, f1, f2, f3, f4, f5, f6⟩ := Box.c7 hO
    obtain ⟨m0, m1, m2, m3, m4, m5, m6, g0, g1, g2, g3, g4, g5, g6⟩ := Box.c7 hBr
    go_wp2_with fail
    have hBB := put7 hBr (.int .u16 m) (.int .i64 s') (.bool k) (.slice A n c) (.bool t) (.int .u32 v) (.int .u32 e)
    have huu := ups7 (b := n0) (hu2.on hur) hle0 (.int .u16 m) (.int .i64 s') (.bool k) (.slice A n c) (.bool t) (.int .u32 v) (.int .u32 e)
    have hKK := own7x hK1 (own_apart hK1 (fun h => (hnil h).1) hBr) (.int .u16 m) (.int .i64 s') (.bool k) (.slice A n c) (.bool t) (.int .u32 v) (.int .u32 e)
    generalize World.setCell _ ⟨n0, 6, none⟩ _ = W9 at hBB huu hKK ⊢
    clear k0 f0 k1 f1 k2 f2 k3 f3 k4 f4 k5 f5 k6 f6 m0 g0 m1 g1 m2 g2 m3 g3 m4 g4 m5 g5 m6 g6
    obtain ⟨m0, m1, m2, m3, m4, m5, m6, g0, g1, g2, g3, g4, g5, g6⟩ := Box.c7 hBB
    (try simp only [Exit.inBlock, Exit.then])
    refine bodyPost_ret (v := .tuple #[.agg #[.int .u16 m, .int .i64 s', .bool k, .slice A n c, .bool t, .int .u32 v, .int .u32 e], .int .i64 0]) ?_ rfl ⟨OA m s' k A n c t v e, ?_, ?_, huu⟩
    ·rw [results_cell_tmp rfl]; go_simp
    ·rw [HF.out.1]; rfl
    ·rw [HF.out.2]
     obtain ⟨A2, c2, he, hr2⟩ := hKK.rd
     rw [hlen] at he
     cases he
     exact ⟨A, n, c, rfl, hlen, hr2, hKK.far⟩
   case pos =>
    obtain ⟨g, off, hA, hg, p, c1, hp⟩ := hR.at_ (k := j) (by rw [HNP.out]; exact hlt)
    have hAt := hG.all p (List.mem_of_getElem? hp.out)
    obtain ⟨hK2, hlk, hpn2⟩ := hAt
    have hN2 := lenOk_two hlk
    rw [L_len] at hpn2
    have hl0 : p < s.size := by omega
    have hl1 : p + 1 < s.size := by omega
    have HA0 := Lib.hid (at_nb s p hl0)
    have HA1 := Lib.hid (at_nb s (p + 1) hl1)
    obtain ⟨K, hKd⟩ : ∃ K, K = nb (L s) p := ⟨_, rfl⟩
    obtain ⟨N, hNd⟩ : ∃ N, N = nb (L s) (p + 1) := ⟨_, rfl⟩
    have ha0 : (s[p]'hl0).toNat = K := by rw [HA0.out, hKd]
    have ha1 : (s[p + 1]'hl1).toNat = N := by rw [HA1.out, hNd]
    have hwk : IntKind.i64.wrap (K : Int) = (K : Int) := IntWalk.i64_in _ (by have := nb_le (L s) p; omega)
    have hwn : IntKind.i64.wrap (N : Int) = (N : Int) := IntWalk.i64_in _ (by have := nb_le (L s) (p + 1); omega)
    have hKb : K ≤ 255 := by rw [hKd]; exact nb_le _ _
    have hNb : N ≤ 255 := by rw [hNd]; exact nb_le _ _
    rw [← hKd] at hlk hK2
    rw [← hNd] at hlk hpn2 hN2
    obtain ⟨X, hX⟩ : ∃ X, X = s.extract (p + 2) (p + N) := ⟨_, rfl⟩
    have zX : X.size + 2 = N := by rw [hX]; simp; omega
    have hit : itm (L s) p = (K, L X) := by
     unfold itm; rw [hX, L_extract, ← hKd, ← hNd, show p + N - (p + 2) = N - 2 by omega]
    have h5 : K = 5 → b = [] := fun h => hDn.five hG hp.out (by rw [← hKd]; exact h)
    obtain ⟨bz, hbz⟩ : ∃ bz, bz = nzb K (L X) := ⟨_, rfl⟩
    obtain ⟨oz, hoz⟩ : ∃ oz, oz = put ⟨m, s', k, b, t, v, e⟩ (K, L X) := ⟨_, rfl⟩
    have HX := Lib.hid hX
    have HTk : Hid (∀ W, Up wr W → Calls Tryz.prog 79 #[OA m s' k A n c t v e, .int .i64 K, .string X] W fun e_ w' => ∃ x, e_ = .returned x ∧ TkV w.heap.size oz bz x w' ∧ Up W w') := fun W hW =>
     (refTake w.heap.size m s' k t v e A n c b K X W (Nat.le_trans hu2.size (Nat.le_trans hur.size hW.size)) (by rw [zX]; exact hlk) (hK1.up hW) hlen hnil h5).mono fun e_ w' ⟨A', n', c', h1, h2, h3, h4, h6⟩ => ⟨_, h1, ⟨_, by rw [hbz], ⟨A', n', c', by rw [hoz], by rw [hoz]; exact h2, by rw [hoz]; exact h3, by rw [hoz]; exact h4⟩⟩, h6⟩
    have HNX : Hid (bz = true → Dn (L s) pl (j + 1) oz) := fun h => by
     rw [hoz, ← hit]
     exact hDn.next hp.out (nzb_t (by rw [hit]; show nzb K (L X) = true; rw [← hbz]; exact h))
    have HBD : Hid (bz = false → err (L s) = 70 ∧ decO (L s) = zero_) := fun h =>
     err_70 (hG.bad (List.mem_of_getElem? hp.out) (nzb_f (by rw [hit]; show nzb K (L X) = false; rw [← hbz]; exact h))) H4.out
    have hpi : (p : Int) < (s.size : Int) := by omega
    have hpi1 : (p : Int) + 1 < (s.size : Int) := by omega
    have d1 : ((p : Int) + 1).toNat = p + 1 := by omega
    have d2 : ((p : Int) + 2).toNat = p + 2 := by omega
    have d3 : ((p : Int) + (N : Int)).toNat = p + N := by omega
    have d4 : (0 : Int) ≤ (p : Int) + 1 := by omega
    have d5 : (0 : Int) ≤ (p : Int) + 2 := by omega
    have d6 : (p : Int) + 2 ≤ (p : Int) + (N : Int) := by omega
    have d7 : (p : Int) + (N : Int) ≤ (s.size : Int) := by omega
    have d8 : (0 : Int) ≤ (p : Int) + (N : Int) := by omega
    have hps := HS.out
    have wq1 : IntKind.i64.wrap ((p : Int) + 1) = (p : Int) + 1 := IntWalk.i64_in _ (by omega)
    have wq2 : IntKind.i64.wrap ((p : Int) + 2) = (p : Int) + 2 := IntWalk.i64_in _ (by omega)
    have wq3 : IntKind.i64.wrap ((p : Int) + (N : Int)) = (p : Int) + (N : Int) := IntWalk.i64_in _ (by omega)
    subst hA
    clear hK2 hlk hpn2 hN2 hX zX hit h5 hbz hoz hKd hNd HA0 HA1 hDn hp
    go_upto_region 10 with fail
    have hO0 := hO.1
    have hBr0 := hBr.1
    refine wp_region_rel6 33 31 (fun W => Up wr W) (fun W W' => Up W W') (Ys [Det (.agg #[.int .u16 m, .int .i64 s', .bool k, .slice A n c, .bool t, .int .u32 v, .int .u32 e]),
  Det (.string s),
  Det (.slice (some ⟨g, off, none⟩) np cl),
  Det (.int .i64 j),
  Det (.pointer (some ⟨g, off + j, none⟩)),
  Det (.int .i64 p),
  Det (.int .u8 K),
  Det (.int .i64 K),
  Det (.string s),
  Det (.slice (some ⟨g, off, none⟩) np cl),
  Det (.int .i64 j),
  Det (.pointer (some ⟨g, off + j, none⟩)),
  Det (.int .i64 p),
  Det (.int .i64 ((p : Int) + 2)),
  Det (.slice (some ⟨g, off, none⟩) np cl),
  Det (.int .i64 j),
  Det (.pointer (some ⟨g, off + j, none⟩)),
  Det (.int .i64 p),
  Det (.string s),
  Det (.slice (some ⟨g, off, none⟩) np cl),
  Det (.int .i64 j),
  Det (.pointer (some ⟨g, off + j, none⟩)),
  Det (.int .i64 p),
  Det (.int .i64 ((p : Int) + 1)),
  Det (.int .u8 N),
  Det (.int .i64 N),
  Det (.int .i64 ((p : Int) + (N : Int))),
  Det (.string X),
  TkV w.heap.size oz bz,
  TkV w.heap.size oz bz,
  OpV w.heap.size oz,
  Det (.bool bz),
  New wr.heap.size [.int .u16 0, .int .i64 0, .bool false, .slice none 0 0, .bool false, .int .u32 0, .int .u32 0]]) (by kernel_rfl) (by kernel_rfl) (by kernel_rfl) (up_dr bR) (Stable.ys ⟨Det.st _, Det.st _, Det.st _, Det.st _, Det.st _, Det.st _, Det.st _, Det.st _, Det.st _, Det.st _, Det.st _, Det.st _, Det.st _, Det.st _, Det.st _, Det.st _, Det.st _, Det.st _, Det.st _, Det.st _, Det.st _, Det.st _, Det.st _, Det.st _, Det.st _, Det.st _, Det.st _, Det.st _, TkV.st _ _ _, TkV.st _ _ _, OpV.st _ _, Det.st _, New.st _ _, trivial⟩) ?_ ?_ ?_
    all_goals simp only [List.take_succ_cons, List.take_zero, List.drop_succ_cons, List.drop_zero, List.set_cons_zero, List.set_cons_succ, List.headD_cons, List.cons_append, List.nil_append]
    ·
     refine oC ?_ ?_
     ·intro aa ww hC hdep hvar KK hK
      have d6 : aa.tmps.getD 6 undef = .pointer (some ⟨n1, 0, none⟩) := hvar 6 (slotOk_spec (by kernel_rfl))
      have d6_ := gD d6
      clear hdep hvar
      have hb := hO.up hC
      have c0 := hb.at 0 rfl; have c1 := hb.at 1 rfl; have c2 := hb.at 2 rfl; have c3 := hb.at 3 rfl; have c4 := hb.at 4 rfl; have c5 := hb.at 5 rfl; have c6 := hb.at 6 rfl
      simp (config := { decide := true }) [go_sem, opTo, opUpon, *]
      exact hK _ _ rfl hC bR
     refine oC ?_ ?_
     ·intro aa ww hC hdep hvar KK hK
      have d0 : aa.tmps.getD 0 undef = .string s := hvar 0 (slotOk_spec (by kernel_rfl))
      have d0_ := gD d0
      clear hdep hvar
      simp (config := { decide := true }) [go_sem, opTo, opUpon, *]
      exact hK _ _ rfl hC bR
     refine oC ?_ ?_
     ·intro aa ww hC hdep hvar KK hK
      have d4 : aa.tmps.getD 4 undef = .slice (some ⟨g, off, none⟩) np cl := hvar 4 (slotOk_spec (by kernel_rfl))
      have d4_ := gD d4
      clear hdep hvar
      simp (config := { decide := true }) [go_sem, opTo, opUpon, *]
      exact hK _ _ rfl hC bR
     refine oC ?_ ?_
     ·intro aa ww hC hdep hvar KK hK
      have d7 : aa.tmps.getD 7 undef = .int .i64 j := hvar 7 (slotOk_spec (by kernel_rfl))
      have d7_ := gD d7
      clear hdep hvar
      simp (config := { decide := true }) [go_sem, opTo, opUpon, *]
      exact hK _ _ rfl hC bR
     refine oC ?_ ?_
     ·intro aa ww hC hdep hvar KK hK
      have d32 : aa.tmps.getD 32 undef = .slice (some ⟨g, off, none⟩) np cl := dep_of hdep 2 32 (by kernel_rfl)
      have d33 : aa.tmps.getD 33 undef = .int .i64 j := dep_of hdep 3 33 (by kernel_rfl)
      have d32_ := gD d32
      have d33_ := gD d33
      clear hdep hvar
      (unfold opTo; go_simp; try simp only [opUpon])
      exact hK _ _ rfl hC bR
     refine oC ?_ ?_
     ·intro aa ww hC hdep hvar KK hK
      have d34 : aa.tmps.getD 34 undef = .pointer (some ⟨g, off + j, none⟩) := dep_of hdep 4 34 (by kernel_rfl)
      have d34_ := gD d34
      clear hdep hvar
      have cc := (hC.cell (p := ⟨g, off + j, none⟩) hg).trans c1
      (unfold opTo; go_simp; try simp only [opUpon])
      exact hK _ _ rfl hC bR
     refine oC ?_ ?_
     ·intro aa ww hC hdep hvar KK hK
      have d31 : aa.tmps.getD 31 undef = .string s := dep_of hdep 1 31 (by kernel_rfl)
      have d35 : aa.tmps.getD 35 undef = .int .i64 p := dep_of hdep 5 35 (by kernel_rfl)
      have d31_ := gD d31
      have d35_ := gD d35
      clear hdep hvar
      (unfold opTo; go_simp; try simp only [opUpon])
      exact hK _ _ rfl hC bR
     refine oC ?_ ?_
     ·intro aa ww hC hdep hvar KK hK
      have d36 : aa.tmps.getD 36 undef = .int .u8 K := dep_of hdep 6 36 (by kernel_rfl)
      have d36_ := gD d36
      clear hdep hvar
      (unfold opTo; go_simp; try simp only [opUpon])
      exact hK _ _ rfl hC bR
     refine oC ?_ ?_
     ·intro aa ww hC hdep hvar KK hK
      have d0 : aa.tmps.getD 0 undef = .string s := hvar 0 (slotOk_spec (by kernel_rfl))
      have d0_ := gD d0
      clear hdep hvar
      simp (config := { decide := true }) [go_sem, opTo, opUpon, *]
      exact hK _ _ rfl hC bR
     refine oC ?_ ?_
     ·intro aa ww hC hdep hvar KK hK
      have d4 : aa.tmps.getD 4 undef = .slice (some ⟨g, off, none⟩) np cl := hvar 4 (slotOk_spec (by kernel_rfl))
      have d4_ := gD d4
      clear hdep hvar
      simp (config := { decide := true }) [go_sem, opTo, opUpon, *]
      exact hK _ _ rfl hC bR
     refine oC ?_ ?_
     ·intro aa ww hC hdep hvar KK hK
      have d7 : aa.tmps.getD 7 undef = .int .i64 j := hvar 7 (slotOk_spec (by kernel_rfl))
      have d7_ := gD d7
      clear hdep hvar
      simp (config := { decide := true }) [go_sem, opTo, opUpon, *]
      exact hK _ _ rfl hC bR
     refine oC ?_ ?_
     ·intro aa ww hC hdep hvar KK hK
      have d39 : aa.tmps.getD 39 undef = .slice (some ⟨g, off, none⟩) np cl := dep_of hdep 9 39 (by kernel_rfl)
      have d40 : aa.tmps.getD 40 undef = .int .i64 j := dep_of hdep 10 40 (by kernel_rfl)
      have d39_ := gD d39
      have d40_ := gD d40
      clear hdep hvar
      (unfold opTo; go_simp; try simp only [opUpon])
      exact hK _ _ rfl hC bR
     refine oC ?_ ?_
     ·intro aa ww hC hdep hvar KK hK
      have d41 : aa.tmps.getD 41 undef = .pointer (some ⟨g, off + j, none⟩) := dep_of hdep 11 41 (by kernel_rfl)
      have d41_ := gD d41
      clear hdep hvar
      have cc := (hC.cell (p := ⟨g, off + j, none⟩) hg).trans c1
      (unfold opTo; go_simp; try simp only [opUpon])
      exact hK _ _ rfl hC bR
     refine oC ?_ ?_
     ·intro aa ww hC hdep hvar KK hK
      have d42 : aa.tmps.getD 42 undef = .int .i64 p := dep_of hdep 12 42 (by kernel_rfl)
      have d42_ := gD d42
      clear hdep hvar
      (unfold opTo; go_simp; try simp only [opUpon])
      exact hK _ _ rfl hC bR
     refine oC ?_ ?_
     ·intro aa ww hC hdep hvar KK hK
      have d4 : aa.tmps.getD 4 undef = .slice (some ⟨g, off, none⟩) np cl := hvar 4 (slotOk_spec (by kernel_rfl))
      have d4_ := gD d4
      clear hdep hvar
      simp (config := { decide := true }) [go_sem, opTo, opUpon, *]
      exact hK _ _ rfl hC bR
     refine oC ?_ ?_
     ·intro aa ww hC hdep hvar KK hK
      have d7 : aa.tmps.getD 7 undef = .int .i64 j := hvar 7 (slotOk_spec (by kernel_rfl))
      have d7_ := gD d7
      clear hdep hvar
      simp (config := { decide := true }) [go_sem, opTo, opUpon, *]
      exact hK _ _ rfl hC bR
     refine oC ?_ ?_
     ·intro aa ww hC hdep hvar KK hK
      have d44 : aa.tmps.getD 44 undef = .slice (some ⟨g, off, none⟩) np cl := dep_of hdep 14 44 (by kernel_rfl)
      have d45 : aa.tmps.getD 45 undef = .int .i64 j := dep_of hdep 15 45 (by kernel_rfl)
      have d44_ := gD d44
      have d45_ := gD d45
      clear hdep hvar
      (unfold opTo; go_simp; try simp only [opUpon])
      exact hK _ _ rfl hC bR
     refine oC ?_ ?_
     ·intro aa ww hC hdep hvar KK hK
      have d46 : aa.tmps.getD 46 undef = .pointer (some ⟨g, off + j, none⟩) := dep_of hdep 16 46 (by kernel_rfl)
      have d46_ := gD d46
      clear hdep hvar
      have cc := (hC.cell (p := ⟨g, off + j, none⟩) hg).trans c1
      (unfold opTo; go_simp; try simp only [opUpon])
      exact hK _ _ rfl hC bR
     refine oC ?_ ?_
     ·intro aa ww hC hdep hvar KK hK
      have d0 : aa.tmps.getD 0 undef = .string s := hvar 0 (slotOk_spec (by kernel_rfl))
      have d0_ := gD d0
      clear hdep hvar
      simp (config := { decide := true }) [go_sem, opTo, opUpon, *]
      exact hK _ _ rfl hC bR
     refine oC ?_ ?_
     ·intro aa ww hC hdep hvar KK hK
      have d4 : aa.tmps.getD 4 undef = .slice (some ⟨g, off, none⟩) np cl := hvar 4 (slotOk_spec (by kernel_rfl))
      have d4_ := gD d4
      clear hdep hvar
      simp (config := { decide := true }) [go_sem, opTo, opUpon, *]
      exact hK _ _ rfl hC bR
     refine oC ?_ ?_
     ·intro aa ww hC hdep hvar KK hK
      have d7 : aa.tmps.getD 7 undef = .int .i64 j := hvar 7 (slotOk_spec (by kernel_rfl))
      have d7_ := gD d7
      clear hdep hvar
      simp (config := { decide := true }) [go_sem, opTo, opUpon, *]
      exact hK _ _ rfl hC bR
     refine oC ?_ ?_
     ·intro aa ww hC hdep hvar KK hK
      have d49 : aa.tmps.getD 49 undef = .slice (some ⟨g, off, none⟩) np cl := dep_of hdep 19 49 (by kernel_rfl)
      have d50 : aa.tmps.getD 50 undef = .int .i64 j := dep_of hdep 20 50 (by kernel_rfl)
      have d49_ := gD d49
      have d50_ := gD d50
      clear hdep hvar
      (unfold opTo; go_simp; try simp only [opUpon])
      exact hK _ _ rfl hC bR
     refine oC ?_ ?_
     ·intro aa ww hC hdep hvar KK hK
      have d51 : aa.tmps.getD 51 undef = .pointer (some ⟨g, off + j, none⟩) := dep_of hdep 21 51 (by kernel_rfl)
      have d51_ := gD d51
      clear hdep hvar
      have cc := (hC.cell (p := ⟨g, off + j, none⟩) hg).trans c1
      (unfold opTo; go_simp; try simp only [opUpon])
      exact hK _ _ rfl hC bR
     refine oC ?_ ?_
     ·intro aa ww hC hdep hvar KK hK
      have d52 : aa.tmps.getD 52 undef = .int .i64 p := dep_of hdep 22 52 (by kernel_rfl)
      have d52_ := gD d52
      clear hdep hvar
      (unfold opTo; go_simp; try simp only [opUpon])
      exact hK _ _ rfl hC bR
     refine oC ?_ ?_
     ·intro aa ww hC hdep hvar KK hK
      have d48 : aa.tmps.getD 48 undef = .string s := dep_of hdep 18 48 (by kernel_rfl)
      have d53 : aa.tmps.getD 53 undef = .int .i64 ((p : Int) + 1) := dep_of hdep 23 53 (by kernel_rfl)
      have d48_ := gD d48
      have d53_ := gD d53
      clear hdep hvar
      (unfold opTo; go_simp; try simp only [opUpon])
      exact hK _ _ rfl hC bR
     refine oC ?_ ?_
     ·intro aa ww hC hdep hvar KK hK
      have d54 : aa.tmps.getD 54 undef = .int .u8 N := dep_of hdep 24 54 (by kernel_rfl)
      have d54_ := gD d54
      clear hdep hvar
      (unfold opTo; go_simp; try simp only [opUpon])
      exact hK _ _ rfl hC bR
     refine oC ?_ ?_
     ·intro aa ww hC hdep hvar KK hK
      have d47 : aa.tmps.getD 47 undef = .int .i64 p := dep_of hdep 17 47 (by kernel_rfl)
      have d55 : aa.tmps.getD 55 undef = .int .i64 N := dep_of hdep 25 55 (by kernel_rfl)
      have d47_ := gD d47
      have d55_ := gD d55
      clear hdep hvar
      (unfold opTo; go_simp; try simp only [opUpon])
      exact hK _ _ rfl hC bR
     refine oC ?_ ?_
     ·intro aa ww hC hdep hvar KK hK
      have d38 : aa.tmps.getD 38 undef = .string s := dep_of hdep 8 38 (by kernel_rfl)
      have d43 : aa.tmps.getD 43 undef = .int .i64 ((p : Int) + 2) := dep_of hdep 13 43 (by kernel_rfl)
      have d56 : aa.tmps.getD 56 undef = .int .i64 ((p : Int) + (N : Int)) := dep_of hdep 26 56 (by kernel_rfl)
      have d38_ := gD d38
      have d43_ := gD d43
      have d56_ := gD d56
      clear hdep hvar
      (unfold opTo; go_simp; try simp only [opUpon])
      rw [← HX.out]
      exact hK _ _ rfl hC bR
     refine oC ?_ ?_
     ·intro aa ww hC hdep hvar KK hK
      have d30 : aa.tmps.getD 30 undef = .agg #[.int .u16 m, .int .i64 s', .bool k, .slice A n c, .bool t, .int .u32 v, .int .u32 e] := dep_of hdep 0 30 (by kernel_rfl)
      have d37 : aa.tmps.getD 37 undef = .int .i64 K := dep_of hdep 7 37 (by kernel_rfl)
      have d57 : aa.tmps.getD 57 undef = .string X := dep_of hdep 27 57 (by kernel_rfl)
      have d30_ := gD d30
      have d37_ := gD d37
      have d57_ := gD d57
      clear hdep hvar
      (unfold opTo; go_simp; try simp only [opUpon])
      exact (HTk.out _ hC).mono fun e_ w2 ⟨x, h1, h2, h3⟩ => ⟨_, h1, hK _ _ h2 (Up.on hC h3) h3⟩
     refine oC ?_ ?_
     ·intro aa ww hC hdep hvar KK hK
      obtain ⟨x58, d58, p58⟩ : TkV w.heap.size oz bz (aa.tmps.getD 58 undef) ww := dep_of hdep 28 58 (by kernel_rfl)
      have d58_ := gD d58
      clear hdep hvar
      (unfold opTo; go_simp; try simp only [opUpon])
      exact hK _ _ ⟨_, rfl, p58⟩ hC bR
     refine oC ?_ ?_
     ·intro aa ww hC hdep hvar KK hK
      obtain ⟨x29, d29, p29⟩ : TkV w.heap.size oz bz (aa.tmps.getD 29 undef) ww := dep_of hdep 29 29 (by kernel_rfl)
      have d29_ := gD d29
      clear hdep hvar
      (unfold opTo; go_simp; try simp only [opUpon])
      exact hK _ _ p29 hC bR
     refine oC ?_ ?_
     ·intro aa ww hC hdep hvar KK hK
      obtain ⟨x29, d29, p29⟩ : TkV w.heap.size oz bz (aa.tmps.getD 29 undef) ww := dep_of hdep 29 29 (by kernel_rfl)
      have d29_ := gD d29
      clear hdep hvar
      (unfold opTo; go_simp; try simp only [opUpon])
      exact hK _ _ rfl hC bR
     refine oC ?_ ?_
     ·intro aa ww hC hdep hvar KK hK
      clear hdep hvar
      simp (config := { decide := true }) [go_sem, opTo, opUpon, *]
      exact hK _ _ ⟨_, rfl, hC.size, Box.new _ _ _⟩ (up_al _ hC) (up_al _ bR)
     exact obligs_nil
    ·
     intro vals ww hC hY
     have e0 : vals 0 = .agg #[.int .u16 m, .int .i64 s', .bool k, .slice A n c, .bool t, .int .u32 v, .int .u32 e] := hY 0 _ _ rfl rfl
     have e1 : vals 1 = .string s := hY 1 _ _ rfl rfl
     have e2 : vals 2 = .slice (some ⟨g, off, none⟩) np cl := hY 2 _ _ rfl rfl
     have e3 : vals 3 = .int .i64 j := hY 3 _ _ rfl rfl
     have e4 : vals 4 = .pointer (some ⟨g, off + j, none⟩) := hY 4 _ _ rfl rfl
     have e5 : vals 5 = .int .i64 p := hY 5 _ _ rfl rfl
     have e6 : vals 6 = .int .u8 K := hY 6 _ _ rfl rfl
     have e7 : vals 7 = .int .i64 K := hY 7 _ _ rfl rfl
     have e8 : vals 8 = .string s := hY 8 _ _ rfl rfl
     have e9 : vals 9 = .slice (some ⟨g, off, none⟩) np cl := hY 9 _ _ rfl rfl
     have e10 : vals 10 = .int .i64 j := hY 10 _ _ rfl rfl
     have e11 : vals 11 = .pointer (some ⟨g, off + j, none⟩) := hY 11 _ _ rfl rfl
     have e12 : vals 12 = .int .i64 p := hY 12 _ _ rfl rfl
     have e13 : vals 13 = .int .i64 ((p : Int) + 2) := hY 13 _ _ rfl rfl
     have e14 : vals 14 = .slice (some ⟨g, off, none⟩) np cl := hY 14 _ _ rfl rfl
     have e15 : vals 15 = .int .i64 j := hY 15 _ _ rfl rfl
     have e16 : vals 16 = .pointer (some ⟨g, off + j, none⟩) := hY 16 _ _ rfl rfl
     have e17 : vals 17 = .int .i64 p := hY 17 _ _ rfl rfl
     have e18 : vals 18 = .string s := hY 18 _ _ rfl rfl
     have e19 : vals 19 = .slice (some ⟨g, off, none⟩) np cl := hY 19 _ _ rfl rfl
     have e20 : vals 20 = .int .i64 j := hY 20 _ _ rfl rfl
     have e21 : vals 21 = .pointer (some ⟨g, off + j, none⟩) := hY 21 _ _ rfl rfl
     have e22 : vals 22 = .int .i64 p := hY 22 _ _ rfl rfl
     have e23 : vals 23 = .int .i64 ((p : Int) + 1) := hY 23 _ _ rfl rfl
     have e24 : vals 24 = .int .u8 N := hY 24 _ _ rfl rfl
     have e25 : vals 25 = .int .i64 N := hY 25 _ _ rfl rfl
     have e26 : vals 26 = .int .i64 ((p : Int) + (N : Int)) := hY 26 _ _ rfl rfl
     have e27 : vals 27 = .string X := hY 27 _ _ rfl rfl
     obtain ⟨x29, e29, t29⟩ : TkV w.heap.size oz bz (vals 29) ww := hY 29 _ _ rfl rfl
     obtain ⟨A1, N1, C1, e30, r1, r2, r3⟩ : OpV w.heap.size oz (vals 30) ww := hY 30 _ _ rfl rfl
     have e31 : vals 31 = .bool bz := hY 31 _ _ rfl rfl
     obtain ⟨n8, e32, hM8, hN8⟩ : New wr.heap.size [.int .u16 0, .int .i64 0, .bool false, .slice none 0 0, .bool false, .int .u32 0, .int .u32 0] (vals 32) ww := hY 32 _ _ rfl rfl
     clear hY
     simp only [putAll, Act.put, List.setIfInBounds_toArray, List.set_cons_zero, List.set_cons_succ, e0, e1, e2, e3, e4, e5, e6, e7, e8, e9, e10, e11, e12, e13, e14, e15, e16, e17, e18, e19, e20, e21, e22, e23, e24, e25, e26, e27, e29, e30, e31, e32]
     clear e0 e1 e2 e3 e4 e5 e6 e7 e8 e9 e10 e11 e12 e13 e14 e15 e16 e17 e18 e19 e20 e21 e22 e23 e24 e25 e26 e27 e29 e30 e31 e32
     have hO2 := hO.up hC
     have hB3 := hBr.up hC
     have hur2 := hur.on hC
     clear hO hBr hC hR hK1
     obtain ⟨p0, p1, p2, p3, p4, p5, p6, q0, q1, q2, q3, q4, q5, q6⟩ := Box.c7 hN8
     go_upto_region 11 with fail
     have hlt8 : n1 < n8 := Nat.lt_of_lt_of_le hO0 hM8
     have hlt8' : n0 < n8 := Nat.lt_of_lt_of_le hBr0 hM8
     have hX8 := put7 hN8 (.int .u16 oz.mss) (.int .i64 oz.sc) (.bool oz.sk) (.slice A1 N1 C1) (.bool oz.tm) (.int .u32 oz.va) (.int .u32 oz.ec)
     have hO3 := far7 hO2 (c := n8) (by omega) (.int .u16 oz.mss) (.int .i64 oz.sc) (.bool oz.sk) (.slice A1 N1 C1) (.bool oz.tm) (.int .u32 oz.va) (.int .u32 oz.ec)
     have hB4 := far7 hB3 (c := n8) (by omega) (.int .u16 oz.mss) (.int .i64 oz.sc) (.bool oz.sk) (.slice A1 N1 C1) (.bool oz.tm) (.int .u32 oz.va) (.int .u32 oz.ec)
     have hu3 := ups7 (b := n8) (hur2) (Nat.le_trans hur.size hM8) (.int .u16 oz.mss) (.int .i64 oz.sc) (.bool oz.sk) (.slice A1 N1 C1) (.bool oz.tm) (.int .u32 oz.va) (.int .u32 oz.ec)
     have hK3 := own7x r1 (own_apart r1 (fun h => (r3 h).1) hN8) (.int .u16 oz.mss) (.int .i64 oz.sc) (.bool oz.sk) (.slice A1 N1 C1) (.bool oz.tm) (.int .u32 oz.va) (.int .u32 oz.ec)
     clear p0 q0 p1 q1 p2 q2 p3 q3 p4 q4 p5 q5 p6 q6 hN8 hO2 hB3 hur2
     generalize World.setCell _ ⟨n8, 6, none⟩ _ = w8 at hX8 hO3 hB4 hu3 hK3 ⊢
     cases bz
     case false =>
      have HD := Lib.hid (HBD.out rfl)
      obtain ⟨m0, m1, m2, m3, m4, m5, m6, g0, g1, g2, g3, g4, g5, g6⟩ := Box.c7 hB4
      go_wp2_with fail
      have hBB := put7 hB4 (.int .u16 0) (.int .i64 0) (.bool false) (.slice none 0 0) (.bool false) (.int .u32 0) (.int .u32 0)
      have huu := ups7 (b := n0) (hu2.on hu3) hle0 (.int .u16 0) (.int .i64 0) (.bool false) (.slice none 0 0) (.bool false) (.int .u32 0) (.int .u32 0)
      generalize World.setCell _ ⟨n0, 6, none⟩ _ = W9 at hBB huu ⊢
      clear m0 g0 m1 g1 m2 g2 m3 g3 m4 g4 m5 g5 m6 g6
      obtain ⟨m0, m1, m2, m3, m4, m5, m6, g0, g1, g2, g3, g4, g5, g6⟩ := Box.c7 hBB
      (try simp only [Exit.inBlock, Exit.then])
      refine bodyPost_ret (v := .tuple #[.agg #[.int .u16 0, .int .i64 0, .bool false, .slice none 0 0, .bool false, .int .u32 0, .int .u32 0], .int .i64 70]) ?_ rfl (DecN.bad HD.out rfl huu)
      rw [results_cell_tmp rfl]; go_simp
     case true =>
      have HDn := Lib.hid (HNX.out rfl)
      obtain ⟨k0, k1, k2, k3, k4, k5, k6, f0, f1, f2, f3, f4, f5, f6⟩ := Box.c7 hO3
      obtain ⟨p0, p1, p2, p3, p4, p5, p6, q0, q1, q2, q3, q4, q5, q6⟩ := Box.c7 hX8
      go_wp2_with fail
      have hO4 := put7 hO3 (.int .u16 oz.mss) (.int .i64 oz.sc) (.bool oz.sk) (.slice A1 N1 C1) (.bool oz.tm) (.int .u32 oz.va) (.int .u32 oz.ec)
      have hB5 := far7 hB4 (c := n1) hne' (.int .u16 oz.mss) (.int .i64 oz.sc) (.bool oz.sk) (.slice A1 N1 C1) (.bool oz.tm) (.int .u32 oz.va) (.int .u32 oz.ec)
      have hu4 := ups7 (b := n1) hu3 hle2 (.int .u16 oz.mss) (.int .i64 oz.sc) (.bool oz.sk) (.slice A1 N1 C1) (.bool oz.tm) (.int .u32 oz.va) (.int .u32 oz.ec)
      have hK4 := own7x hK3 (own_apart hK3 (fun h => (r3 h).1) hO3) (.int .u16 oz.mss) (.int .i64 oz.sc) (.bool oz.sk) (.slice A1 N1 C1) (.bool oz.tm) (.int .u32 oz.va) (.int .u32 oz.ec)
      generalize World.setCell _ ⟨n1, 6, none⟩ _ = w9 at hO4 hB5 hu4 hK4 ⊢
      go_roundw
      case rel => exact ⟨j + 1, oz.mss, oz.sc, oz.sk, oz.bl, oz.tm, oz.va, oz.ec, A1, N1, C1, by omega, by go_num, hO4, hK4, r2, r3, HDn.out, hB5, hu4⟩
      case measure => simp [intOf]; omega
    ·
     intro vals ww hC hY
     have e0 : vals 0 = .agg #[.int .u16 m, .int .i64 s', .bool k, .slice A n c, .bool t, .int .u32 v, .int .u32 e] := hY 0 _ _ (by decide) rfl rfl
     have e1 : vals 1 = .string s := hY 1 _ _ (by decide) rfl rfl
     have e2 : vals 2 = .slice (some ⟨g, off, none⟩) np cl := hY 2 _ _ (by decide) rfl rfl
     have e3 : vals 3 = .int .i64 j := hY 3 _ _ (by decide) rfl rfl
     have e4 : vals 4 = .pointer (some ⟨g, off + j, none⟩) := hY 4 _ _ (by decide) rfl rfl
     have e5 : vals 5 = .int .i64 p := hY 5 _ _ (by decide) rfl rfl
     have e6 : vals 6 = .int .u8 K := hY 6 _ _ (by decide) rfl rfl
     have e7 : vals 7 = .int .i64 K := hY 7 _ _ (by decide) rfl rfl
     have e8 : vals 8 = .string s := hY 8 _ _ (by decide) rfl rfl
     have e9 : vals 9 = .slice (some ⟨g, off, none⟩) np cl := hY 9 _ _ (by decide) rfl rfl
     have e10 : vals 10 = .int .i64 j := hY 10 _ _ (by decide) rfl rfl
     have e11 : vals 11 = .pointer (some ⟨g, off + j, none⟩) := hY 11 _ _ (by decide) rfl rfl
     have e12 : vals 12 = .int .i64 p := hY 12 _ _ (by decide) rfl rfl
     have e13 : vals 13 = .int .i64 ((p : Int) + 2) := hY 13 _ _ (by decide) rfl rfl
     have e14 : vals 14 = .slice (some ⟨g, off, none⟩) np cl := hY 14 _ _ (by decide) rfl rfl
     have e15 : vals 15 = .int .i64 j := hY 15 _ _ (by decide) rfl rfl
     have e16 : vals 16 = .pointer (some ⟨g, off + j, none⟩) := hY 16 _ _ (by decide) rfl rfl
     have e17 : vals 17 = .int .i64 p := hY 17 _ _ (by decide) rfl rfl
     have e18 : vals 18 = .string s := hY 18 _ _ (by decide) rfl rfl
     have e19 : vals 19 = .slice (some ⟨g, off, none⟩) np cl := hY 19 _ _ (by decide) rfl rfl
     have e20 : vals 20 = .int .i64 j := hY 20 _ _ (by decide) rfl rfl
     have e21 : vals 21 = .pointer (some ⟨g, off + j, none⟩) := hY 21 _ _ (by decide) rfl rfl
     have e22 : vals 22 = .int .i64 p := hY 22 _ _ (by decide) rfl rfl
     have e23 : vals 23 = .int .i64 ((p : Int) + 1) := hY 23 _ _ (by decide) rfl rfl
     have e24 : vals 24 = .int .u8 N := hY 24 _ _ (by decide) rfl rfl
     have e25 : vals 25 = .int .i64 N := hY 25 _ _ (by decide) rfl rfl
     have e26 : vals 26 = .int .i64 ((p : Int) + (N : Int)) := hY 26 _ _ (by decide) rfl rfl
     have e27 : vals 27 = .string X := hY 27 _ _ (by decide) rfl rfl
     obtain ⟨x29, e29, t29⟩ : TkV w.heap.size oz bz (vals 29) ww := hY 29 _ _ (by decide) rfl rfl
     obtain ⟨A1, N1, C1, e30, r1, r2, r3⟩ : OpV w.heap.size oz (vals 30) ww := hY 30 _ _ (by decide) rfl rfl
     obtain ⟨n8, e32, hM8, hN8⟩ : New wr.heap.size [.int .u16 0, .int .i64 0, .bool false, .slice none 0 0, .bool false, .int .u32 0, .int .u32 0] (vals 32) ww := hY 32 _ _ (by decide) rfl rfl
     clear hY
     simp only [putAll, Act.put, List.setIfInBounds_toArray, List.set_cons_zero, List.set_cons_succ, e0, e1, e2, e3, e4, e5, e6, e7, e8, e9, e10, e11, e12, e13, e14, e15, e16, e17, e18, e19, e20, e21, e22, e23, e24, e25, e26, e27, e29, e30, e32]
     clear e0 e1 e2 e3 e4 e5 e6 e7 e8 e9 e10 e11 e12 e13 e14 e15 e16 e17 e18 e19 e20 e21 e22 e23 e24 e25 e26 e27 e29 e30 e32
     have hO2 := hO.up hC
     have hB3 := hBr.up hC
     have hur2 := hur.on hC
     clear hO hBr hC hR hK1
     obtain ⟨p0, p1, p2, p3, p4, p5, p6, q0, q1, q2, q3, q4, q5, q6⟩ := Box.c7 hN8
     go_upto_region 11 with fail
     have hlt8 : n1 < n8 := Nat.lt_of_lt_of_le hO0 hM8
     have hlt8' : n0 < n8 := Nat.lt_of_lt_of_le hBr0 hM8
     have hX8 := put7 hN8 (.int .u16 oz.mss) (.int .i64 oz.sc) (.bool oz.sk) (.slice A1 N1 C1) (.bool oz.tm) (.int .u32 oz.va) (.int .u32 oz.ec)
     have hO3 := far7 hO2 (c := n8) (by omega) (.int .u16 oz.mss) (.int .i64 oz.sc) (.bool oz.sk) (.slice A1 N1 C1) (.bool oz.tm) (.int .u32 oz.va) (.int .u32 oz.ec)
     have hB4 := far7 hB3 (c := n8) (by omega) (.int .u16 oz.mss) (.int .i64 oz.sc) (.bool oz.sk) (.slice A1 N1 C1) (.bool oz.tm) (.int .u32 oz.va) (.int .u32 oz.ec)
     have hu3 := ups7 (b := n8) (hur2) (Nat.le_trans hur.size hM8) (.int .u16 oz.mss) (.int .i64 oz.sc) (.bool oz.sk) (.slice A1 N1 C1) (.bool oz.tm) (.int .u32 oz.va) (.int .u32 oz.ec)
     have hK3 := own7x r1 (own_apart r1 (fun h => (r3 h).1) hN8) (.int .u16 oz.mss) (.int .i64 oz.sc) (.bool oz.sk) (.slice A1 N1 C1) (.bool oz.tm) (.int .u32 oz.va) (.int .u32 oz.ec)
     clear p0 q0 p1 q1 p2 q2 p3 q3 p4 q4 p5 q5 p6 q6 hN8 hO2 hB3 hur2
     generalize World.setCell _ ⟨n8, 6, none⟩ _ = w8 at hX8 hO3 hB4 hu3 hK3 ⊢
     cases bz
     case false =>
      have HD := Lib.hid (HBD.out rfl)
      obtain ⟨m0, m1, m2, m3, m4, m5, m6, g0, g1, g2, g3, g4, g5, g6⟩ := Box.c7 hB4
      go_wp2_with fail
      have hBB := put7 hB4 (.int .u16 0) (.int .i64 0) (.bool false) (.slice none 0 0) (.bool false) (.int .u32 0) (.int .u32 0)
      have huu := ups7 (b := n0) (hu2.on hu3) hle0 (.int .u16 0) (.int .i64 0) (.bool false) (.slice none 0 0) (.bool false) (.int .u32 0) (.int .u32 0)
      generalize World.setCell _ ⟨n0, 6, none⟩ _ = W9 at hBB huu ⊢
      clear m0 g0 m1 g1 m2 g2 m3 g3 m4 g4 m5 g5 m6 g6
      obtain ⟨m0, m1, m2, m3, m4, m5, m6, g0, g1, g2, g3, g4, g5, g6⟩ := Box.c7 hBB
      (try simp only [Exit.inBlock, Exit.then])
      refine bodyPost_ret (v := .tuple #[.agg #[.int .u16 0, .int .i64 0, .bool false, .slice none 0 0, .bool false, .int .u32 0, .int .u32 0], .int .i64 70]) ?_ rfl (DecN.bad HD.out rfl huu)
      rw [results_cell_tmp rfl]; go_simp
     case true =>
      have HDn := Lib.hid (HNX.out rfl)
      obtain ⟨k0, k1, k2, k3, k4, k5, k6, f0, f1, f2, f3, f4, f5, f6⟩ := Box.c7 hO3
      obtain ⟨p0, p1, p2, p3, p4, p5, p6, q0, q1, q2, q3, q4, q5, q6⟩ := Box.c7 hX8
      go_wp2_with fail
      have hO4 := put7 hO3 (.int .u16 oz.mss) (.int .i64 oz.sc) (.bool oz.sk) (.slice A1 N1 C1) (.bool oz.tm) (.int .u32 oz.va) (.int .u32 oz.ec)
      have hB5 := far7 hB4 (c := n1) hne' (.int .u16 oz.mss) (.int .i64 oz.sc) (.bool oz.sk) (.slice A1 N1 C1) (.bool oz.tm) (.int .u32 oz.va) (.int .u32 oz.ec)
      have hu4 := ups7 (b := n1) hu3 hle2 (.int .u16 oz.mss) (.int .i64 oz.sc) (.bool oz.sk) (.slice A1 N1 C1) (.bool oz.tm) (.int .u32 oz.va) (.int .u32 oz.ec)
      have hK4 := own7x hK3 (own_apart hK3 (fun h => (r3 h).1) hO3) (.int .u16 oz.mss) (.int .i64 oz.sc) (.bool oz.sk) (.slice A1 N1 C1) (.bool oz.tm) (.int .u32 oz.va) (.int .u32 oz.ec)
      generalize World.setCell _ ⟨n1, 6, none⟩ _ = w9 at hO4 hB5 hu4 hK4 ⊢
      go_roundw
      case rel => exact ⟨j + 1, oz.mss, oz.sc, oz.sk, oz.bl, oz.tm, oz.va, oz.ec, A1, N1, C1, by omega, by go_num, hO4, hK4, r2, r3, HDn.out, hB5, hu4⟩
      case measure => simp [intOf]; omega
end Go.Proofs.YtafckmbgefbonaaGreat.op

namespace Go.Proofs.YtafckmbgefbonaaGreat.op
open RowKit Shelf Lib sm nb om

def TV (l : List UInt8) (b v e : Nat) : Value := if err l = 0 then .tuple #[.string (tx (turnL b v e l)), .int .i64 0] else .tuple #[.string { data := #[] }, .int .i64 (err l : Nat)]
theorem TV_ok {l : List UInt8} {b v e : Nat} (h : err l = 0) : TV l b v e = .tuple #[.string (tx (turnL b v e l)), .int .i64 0] := if_pos h
theorem TV_no {l : List UInt8} {b v e n : Nat} (h : err l = n) (hn : n ≠ 0) : TV l b v e = .tuple #[.string { data := #[] }, .int .i64 n] := by
 unfold TV; rw [h]; exact if_neg hn
end Go.Proofs.YtafckmbgefbonaaGreat.op

namespace Go.Proofs.YtafckmbgefbonaaGreat.op
open RowKit Shelf Lib sm nb om

def OkA (w : World) (m : Nat) (s : Int) (k : Bool) (b : List (Nat × Nat)) (t : Bool) (v e : Nat) (A : Option Addr) (n : Nat) : Prop :=
 Wf ⟨m, s, k, b, t, v, e⟩ ∧ (-9223372036854775808 ≤ s ∧ s ≤ 9223372036854775807) ∧ RdB w A b ∧ b.length = n ∧ n ≤ maxLen
theorem OkA.up {w w' : World} {m : Nat} {s : Int} {k : Bool} {b : List (Nat × Nat)} {t : Bool} {v e : Nat} {A : Option Addr} {n : Nat} (h : OkA w m s k b t v e A n) (hu : Up w w') : OkA w' m s k b t v e A n :=
 ⟨h.1, h.2.1, h.2.2.1.up hu, h.2.2.2⟩
def NoneC : Prop := ∀ w, Calls Tryz.prog 23 #[] w fun e_ w' => e_ = .returned (OA 0 (-1) false none 0 0 false 0 0) ∧ Up w w'
def MayC : Prop := ∀ m s k b t v e A n c w, OkA w m s k b t v e A n → Calls Tryz.prog 31 #[OA m s k A n c t v e] w fun e_ w' => e_ = .returned (.bool (mayb ⟨m, s, k, b, t, v, e⟩)) ∧ Up w w'
def SameC : Prop := ∀ m s k b t v e A n c m' s' k' b' t' v' e' A' n' c' w, OkA w m s k b t v e A n → OkA w m' s' k' b' t' v' e' A' n' →
 Calls Tryz.prog 34 #[OA m s k A n c t v e, OA m' s' k' A' n' c' t' v' e'] w fun e_ w' => e_ = .returned (.bool (same ⟨m, s, k, b, t, v, e⟩ ⟨m', s', k', b', t', v', e'⟩)) ∧ Up w w'
def EncC : Prop := ∀ m s k b t v e A n c w, OkA w m s k b t v e A n → Calls Tryz.prog 24 #[OA m s k A n c t v e] w fun e_ w' => e_ = .returned (EVo ⟨m, s, k, b, t, v, e⟩) ∧ Up w w'
def DecC : Prop := ∀ (s : ByteArray) w, s.size ≤ 1048576 → Calls Tryz.prog 38 #[.string s] w fun e_ w' => DecZ (L s) w e_ w'
def TurnC : Prop := ∀ (s : ByteArray) (b v e : Nat) w, s.size ≤ 1048576 → b < M32 → v < M32 → e < M32 → Calls Tryz.prog 41 #[.string s, .int .u32 (b : Nat), .int .u32 (v : Nat), .int .u32 (e : Nat)] w fun e_ w' => e_ = .returned (TV (L s) b v e) ∧ Up w w'

end Go.Proofs.YtafckmbgefbonaaGreat.op
