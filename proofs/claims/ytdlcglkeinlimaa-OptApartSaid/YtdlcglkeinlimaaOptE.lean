/- The document's answer for opt: what an option says. Condition: the arguments fit their kinds. -/
import Derived.Test.YtdlcglkeinlimaaOptD
import Derived.Deep.RegionLaw
namespace Go.Proofs.Ytdlcglkeinlimaa.op
open Go.RowKit Go.Shelf Go.Lib Go.Proofs.Ytdlcglkeinlimaa.sm Go.Proofs.Ytdlcglkeinlimaa.nb Go.Proofs.Ytdlcglkeinlimaa.om
set_option linter.unusedVariables false

theorem numW2 (s : ByteArray) (w : World) (h : s.size = 2) : Calls Try.prog 46 #[.string s] w fun e w' => e = .returned (.int .u32 (wd (L s) 0)) ∧ w = w' := by
  refine (refNum s w (by omega)).mono fun e w' ⟨h1, h2⟩ => ⟨?_, h2⟩
  rw [h1, h]
  have e2 := nm2 (L s) 0
  rw [List.drop_zero, List.take_of_length_le (by rw [L_len]; omega)] at e2
  rw [e2]
theorem put_2 (o : Opz) (p : List UInt8) : put o (2, p) = { o with mss := (wd p 0).toNat } := rfl
theorem put_3 (o : Opz) (p : List UInt8) : put o (3, p) = { o with sc := min (bt p 0) 14 } := rfl
theorem put_4 (o : Opz) (p : List UInt8) : put o (4, p) = { o with sk := true } := rfl
theorem put_5 (o : Opz) (p : List UInt8) : put o (5, p) = { o with bl := o.bl ++ blocks p } := rfl
theorem put_8 (o : Opz) (p : List UInt8) : put o (8, p) = { o with tm := true, va := (qd p 0).toNat, ec := (qd p 4).toNat } := rfl
theorem put_x (o : Opz) (j : Nat) (p : List UInt8) (h2 : j ≠ 2) (h3 : j ≠ 3) (h4 : j ≠ 4) (h5 : j ≠ 5) (h8 : j ≠ 8) : put o (j, p) = o := by simp [put, h2, h3, h4, h5, h8]
set_option maxHeartbeats 4000000 in
set_option maxRecDepth 100000 in
theorem take4 (m : Nat) (s : Int) (k t : Bool) (v e : Nat) (A : Option Addr) (n c : Nat) (S : ByteArray) (w : World) (hS : S.size = 0) :
    Calls Try.prog 29 #[OA m s k A n c t v e, .int .i64 4, .string S] w fun e_ w' => e_ = .returned (.tuple #[OA m s true A n c t v e, .bool true]) ∧ Up w w' := by
  go_enter Try.func29, Try.ntmps29
  go_upto_region 1 with fail
  have hu : Up w ((w.alloc (.cells #[.int .u16 (m : Nat), .int .i64 s, .bool k, .slice A n c, .bool t, .int .u32 (v : Nat), .int .u32 (e : Nat)] 26)).alloc (.cells #[.int .u16 0, .int .i64 0, .bool false, .slice none 0 0, .bool false, .int .u32 0, .int .u32 0] 26)) := up_al _ (up_al _ (Below.refl _ _))
  have hA := (Box.new w #[.int .u16 (m : Nat), .int .i64 s, .bool k, .slice A n c, .bool t, .int .u32 (v : Nat), .int .u32 (e : Nat)] 26).alloc (.cells #[.int .u16 0, .int .i64 0, .bool false, .slice none 0 0, .bool false, .int .u32 0, .int .u32 0] 26)
  have hB := Box.new (w.alloc (.cells #[.int .u16 (m : Nat), .int .i64 s, .bool k, .slice A n c, .bool t, .int .u32 (v : Nat), .int .u32 (e : Nat)] 26)) #[.int .u16 0, .int .i64 0, .bool false, .slice none 0 0, .bool false, .int .u32 0, .int .u32 0] 26
  rw [show (w.alloc (.cells #[.int .u16 (m : Nat), .int .i64 s, .bool k, .slice A n c, .bool t, .int .u32 (v : Nat), .int .u32 (e : Nat)] 26)).heap.size = w.heap.size + 1 by simp] at hB
  have hz : w.heap.size + 2 ≤ ((w.alloc (.cells #[.int .u16 (m : Nat), .int .i64 s, .bool k, .slice A n c, .bool t, .int .u32 (v : Nat), .int .u32 (e : Nat)] 26)).alloc (.cells #[.int .u16 0, .int .i64 0, .bool false, .slice none 0 0, .bool false, .int .u32 0, .int .u32 0] 26)).heap.size := by simp
  generalize ((w.alloc (.cells #[.int .u16 (m : Nat), .int .i64 s, .bool k, .slice A n c, .bool t, .int .u32 (v : Nat), .int .u32 (e : Nat)] 26)).alloc (.cells #[.int .u16 0, .int .i64 0, .bool false, .slice none 0 0, .bool false, .int .u32 0, .int .u32 0] 26)) = w0 at hu hA hB hz ⊢
  obtain ⟨n0, hn0⟩ : ∃ n0, n0 = w.heap.size := ⟨_, rfl⟩
  have hle0 : w.heap.size ≤ n0 := by omega
  have hle1 : w.heap.size ≤ n0 + 1 := by omega
  have hne : n0 ≠ n0 + 1 := by omega
  have hne' : n0 + 1 ≠ n0 := by omega
  rw [← hn0] at hA hB hz ⊢
  clear hn0
  obtain ⟨k0, k1, k2, k3, k4, k5, k6, f0, f1, f2, f3, f4, f5, f6⟩ := Box.c7 hA
  go_upto_region 18 with fail
  have hA2 := hA.set 2 (.bool true)
  have hB2 := hB.far hne (.bool true) (o := 2)
  have hu2 := up_set (o := 2) (v := .bool true) hu hle0
  clear k0 f0 k1 f1 k2 f2 k3 f3 k4 f4 k5 f5 k6 f6
  generalize World.setCell _ ⟨n0, 2, none⟩ _ = w2 at hA2 hB2 hu2 ⊢
  obtain ⟨k0, k1, k2, k3, k4, k5, k6, f0, f1, f2, f3, f4, f5, f6⟩ := Box.c7 hA2
  obtain ⟨m0, m1, m2, m3, m4, m5, m6, g0, g1, g2, g3, g4, g5, g6⟩ := Box.c7 hB2
  go_wp2_with fail
  have hBB := put7 hB2 (.int .u16 (m : Nat)) (.int .i64 s) (.bool true) (.slice A n c) (.bool t) (.int .u32 (v : Nat)) (.int .u32 (e : Nat))
  have huu := ups7 (b := n0 + 1) hu2 hle1 (.int .u16 (m : Nat)) (.int .i64 s) (.bool true) (.slice A n c) (.bool t) (.int .u32 (v : Nat)) (.int .u32 (e : Nat))
  generalize World.setCell _ ⟨n0 + 1, 6, none⟩ _ = W9 at hBB huu ⊢
  clear k0 f0 k1 f1 k2 f2 k3 f3 k4 f4 k5 f5 k6 f6 m0 g0 m1 g1 m2 g2 m3 g3 m4 g4 m5 g5 m6 g6
  obtain ⟨m0, m1, m2, m3, m4, m5, m6, g0, g1, g2, g3, g4, g5, g6⟩ := Box.c7 hBB
  (try simp only [Exit.inBlock, Exit.then])
  refine bodyPost_ret (v := .tuple #[.agg #[.int .u16 (m : Nat), .int .i64 s, .bool true, .slice A n c, .bool t, .int .u32 (v : Nat), .int .u32 (e : Nat)], .bool true]) ?_ rfl ⟨?_, huu⟩
  · rw [results_cell_tmp rfl]; go_simp
  · rfl
set_option maxHeartbeats 4000000 in
set_option maxRecDepth 100000 in
theorem takex (m : Nat) (s : Int) (k t : Bool) (v e : Nat) (A : Option Addr) (n c : Nat) (S : ByteArray) (w : World) (K : Nat) (h2 : K ≠ 2) (h3 : K ≠ 3) (h4 : K ≠ 4) (h5 : K ≠ 5) (h8 : K ≠ 8) :
    Calls Try.prog 29 #[OA m s k A n c t v e, .int .i64 (K : Nat), .string S] w fun e_ w' => e_ = .returned (.tuple #[OA m s k A n c t v e, .bool true]) ∧ Up w w' := by
  have i2 : ¬ (K : Int) = 2 := by omega
  have i3 : ¬ (K : Int) = 3 := by omega
  have i4 : ¬ (K : Int) = 4 := by omega
  have i5 : ¬ (K : Int) = 5 := by omega
  have i8 : ¬ (K : Int) = 8 := by omega
  go_enter Try.func29, Try.ntmps29
  go_upto_region 1 with fail
  have hu : Up w ((w.alloc (.cells #[.int .u16 (m : Nat), .int .i64 s, .bool k, .slice A n c, .bool t, .int .u32 (v : Nat), .int .u32 (e : Nat)] 26)).alloc (.cells #[.int .u16 0, .int .i64 0, .bool false, .slice none 0 0, .bool false, .int .u32 0, .int .u32 0] 26)) := up_al _ (up_al _ (Below.refl _ _))
  have hA := (Box.new w #[.int .u16 (m : Nat), .int .i64 s, .bool k, .slice A n c, .bool t, .int .u32 (v : Nat), .int .u32 (e : Nat)] 26).alloc (.cells #[.int .u16 0, .int .i64 0, .bool false, .slice none 0 0, .bool false, .int .u32 0, .int .u32 0] 26)
  have hB := Box.new (w.alloc (.cells #[.int .u16 (m : Nat), .int .i64 s, .bool k, .slice A n c, .bool t, .int .u32 (v : Nat), .int .u32 (e : Nat)] 26)) #[.int .u16 0, .int .i64 0, .bool false, .slice none 0 0, .bool false, .int .u32 0, .int .u32 0] 26
  rw [show (w.alloc (.cells #[.int .u16 (m : Nat), .int .i64 s, .bool k, .slice A n c, .bool t, .int .u32 (v : Nat), .int .u32 (e : Nat)] 26)).heap.size = w.heap.size + 1 by simp] at hB
  have hz : w.heap.size + 2 ≤ ((w.alloc (.cells #[.int .u16 (m : Nat), .int .i64 s, .bool k, .slice A n c, .bool t, .int .u32 (v : Nat), .int .u32 (e : Nat)] 26)).alloc (.cells #[.int .u16 0, .int .i64 0, .bool false, .slice none 0 0, .bool false, .int .u32 0, .int .u32 0] 26)).heap.size := by simp
  generalize ((w.alloc (.cells #[.int .u16 (m : Nat), .int .i64 s, .bool k, .slice A n c, .bool t, .int .u32 (v : Nat), .int .u32 (e : Nat)] 26)).alloc (.cells #[.int .u16 0, .int .i64 0, .bool false, .slice none 0 0, .bool false, .int .u32 0, .int .u32 0] 26)) = w0 at hu hA hB hz ⊢
  obtain ⟨n0, hn0⟩ : ∃ n0, n0 = w.heap.size := ⟨_, rfl⟩
  have hle0 : w.heap.size ≤ n0 := by omega
  have hle1 : w.heap.size ≤ n0 + 1 := by omega
  have hne : n0 ≠ n0 + 1 := by omega
  have hne' : n0 + 1 ≠ n0 := by omega
  rw [← hn0] at hA hB hz ⊢
  clear hn0
  obtain ⟨k0, k1, k2, k3, k4, k5, k6, f0, f1, f2, f3, f4, f5, f6⟩ := Box.c7 hA
  go_upto_region 18 with fail
  obtain ⟨m0, m1, m2, m3, m4, m5, m6, g0, g1, g2, g3, g4, g5, g6⟩ := Box.c7 hB
  go_wp2_with fail
  have hBB := put7 hB (.int .u16 (m : Nat)) (.int .i64 s) (.bool k) (.slice A n c) (.bool t) (.int .u32 (v : Nat)) (.int .u32 (e : Nat))
  have huu := ups7 (b := n0 + 1) hu hle1 (.int .u16 (m : Nat)) (.int .i64 s) (.bool k) (.slice A n c) (.bool t) (.int .u32 (v : Nat)) (.int .u32 (e : Nat))
  generalize World.setCell _ ⟨n0 + 1, 6, none⟩ _ = W9 at hBB huu ⊢
  clear k0 f0 k1 f1 k2 f2 k3 f3 k4 f4 k5 f5 k6 f6 m0 g0 m1 g1 m2 g2 m3 g3 m4 g4 m5 g5 m6 g6
  obtain ⟨m0, m1, m2, m3, m4, m5, m6, g0, g1, g2, g3, g4, g5, g6⟩ := Box.c7 hBB
  (try simp only [Exit.inBlock, Exit.then])
  refine bodyPost_ret (v := .tuple #[.agg #[.int .u16 (m : Nat), .int .i64 s, .bool k, .slice A n c, .bool t, .int .u32 (v : Nat), .int .u32 (e : Nat)], .bool true]) ?_ rfl ⟨?_, huu⟩
  · rw [results_cell_tmp rfl]; go_simp
  · rfl
set_option maxHeartbeats 4000000 in
set_option maxRecDepth 100000 in
theorem take3 (m : Nat) (s : Int) (k t : Bool) (v e : Nat) (A : Option Addr) (n c : Nat) (S : ByteArray) (w : World) (hS : S.size = 1) :
    Calls Try.prog 29 #[OA m s k A n c t v e, .int .i64 3, .string S] w fun e_ w' => e_ = .returned (.tuple #[OA m (min (bt (L S) 0) 14) k A n c t v e, .bool true]) ∧ Up w w' := by
  have l0 : 0 < S.size := by omega
  have j0 : (0 : Int) < (S.size : Int) := by omega
  have HA := Lib.hid (at_nb S 0 l0)
  obtain ⟨q, hq⟩ : ∃ q, q = nb (L S) 0 := ⟨_, rfl⟩
  have ha : (S[0]'l0).toNat = q := by rw [HA.out, hq]
  have hq0 : q ≤ 255 := by rw [hq]; exact nb_le _ _
  have HQ : Hid (min (bt (L S) 0) 14 = min (q : Int) 14) := by unfold Hid; rw [hq, nb_bt]
  clear hq HA
  obtain ⟨r, hr⟩ : ∃ r, r = if (14 : Int) < (q : Int) then (14 : Int) else (q : Int) := ⟨_, rfl⟩
  rw [HQ.out, show min (q : Int) 14 = r by rw [hr]; split <;> omega]
  have HR := Lib.hid hr; clear hr
  go_enter Try.func29, Try.ntmps29
  go_upto_region 1 with fail
  have hu : Up w ((w.alloc (.cells #[.int .u16 (m : Nat), .int .i64 s, .bool k, .slice A n c, .bool t, .int .u32 (v : Nat), .int .u32 (e : Nat)] 26)).alloc (.cells #[.int .u16 0, .int .i64 0, .bool false, .slice none 0 0, .bool false, .int .u32 0, .int .u32 0] 26)) := up_al _ (up_al _ (Below.refl _ _))
  have hA := (Box.new w #[.int .u16 (m : Nat), .int .i64 s, .bool k, .slice A n c, .bool t, .int .u32 (v : Nat), .int .u32 (e : Nat)] 26).alloc (.cells #[.int .u16 0, .int .i64 0, .bool false, .slice none 0 0, .bool false, .int .u32 0, .int .u32 0] 26)
  have hB := Box.new (w.alloc (.cells #[.int .u16 (m : Nat), .int .i64 s, .bool k, .slice A n c, .bool t, .int .u32 (v : Nat), .int .u32 (e : Nat)] 26)) #[.int .u16 0, .int .i64 0, .bool false, .slice none 0 0, .bool false, .int .u32 0, .int .u32 0] 26
  rw [show (w.alloc (.cells #[.int .u16 (m : Nat), .int .i64 s, .bool k, .slice A n c, .bool t, .int .u32 (v : Nat), .int .u32 (e : Nat)] 26)).heap.size = w.heap.size + 1 by simp] at hB
  have hz : w.heap.size + 2 ≤ ((w.alloc (.cells #[.int .u16 (m : Nat), .int .i64 s, .bool k, .slice A n c, .bool t, .int .u32 (v : Nat), .int .u32 (e : Nat)] 26)).alloc (.cells #[.int .u16 0, .int .i64 0, .bool false, .slice none 0 0, .bool false, .int .u32 0, .int .u32 0] 26)).heap.size := by simp
  generalize ((w.alloc (.cells #[.int .u16 (m : Nat), .int .i64 s, .bool k, .slice A n c, .bool t, .int .u32 (v : Nat), .int .u32 (e : Nat)] 26)).alloc (.cells #[.int .u16 0, .int .i64 0, .bool false, .slice none 0 0, .bool false, .int .u32 0, .int .u32 0] 26)) = w0 at hu hA hB hz ⊢
  obtain ⟨n0, hn0⟩ : ∃ n0, n0 = w.heap.size := ⟨_, rfl⟩
  have hle0 : w.heap.size ≤ n0 := by omega
  have hle1 : w.heap.size ≤ n0 + 1 := by omega
  have hne : n0 ≠ n0 + 1 := by omega
  have hne' : n0 + 1 ≠ n0 := by omega
  rw [← hn0] at hA hB hz ⊢
  clear hn0
  obtain ⟨k0, k1, k2, k3, k4, k5, k6, f0, f1, f2, f3, f4, f5, f6⟩ := Box.c7 hA
  go_upto_region 18 with fail
  rw [← HR.out]
  have hA2 := hA.set 1 (.int .i64 r)
  have hB2 := hB.far hne (.int .i64 r) (o := 1)
  have hu2 := up_set (o := 1) (v := .int .i64 r) hu hle0
  clear k0 f0 k1 f1 k2 f2 k3 f3 k4 f4 k5 f5 k6 f6
  generalize World.setCell _ ⟨n0, 1, none⟩ _ = w2 at hA2 hB2 hu2 ⊢
  obtain ⟨k0, k1, k2, k3, k4, k5, k6, f0, f1, f2, f3, f4, f5, f6⟩ := Box.c7 hA2
  obtain ⟨m0, m1, m2, m3, m4, m5, m6, g0, g1, g2, g3, g4, g5, g6⟩ := Box.c7 hB2
  go_wp2_with fail
  have hBB := put7 hB2 (.int .u16 (m : Nat)) (.int .i64 r) (.bool k) (.slice A n c) (.bool t) (.int .u32 (v : Nat)) (.int .u32 (e : Nat))
  have huu := ups7 (b := n0 + 1) hu2 hle1 (.int .u16 (m : Nat)) (.int .i64 r) (.bool k) (.slice A n c) (.bool t) (.int .u32 (v : Nat)) (.int .u32 (e : Nat))
  generalize World.setCell _ ⟨n0 + 1, 6, none⟩ _ = W9 at hBB huu ⊢
  clear k0 f0 k1 f1 k2 f2 k3 f3 k4 f4 k5 f5 k6 f6 m0 g0 m1 g1 m2 g2 m3 g3 m4 g4 m5 g5 m6 g6
  obtain ⟨m0, m1, m2, m3, m4, m5, m6, g0, g1, g2, g3, g4, g5, g6⟩ := Box.c7 hBB
  (try simp only [Exit.inBlock, Exit.then])
  refine bodyPost_ret (v := .tuple #[.agg #[.int .u16 (m : Nat), .int .i64 r, .bool k, .slice A n c, .bool t, .int .u32 (v : Nat), .int .u32 (e : Nat)], .bool true]) ?_ rfl ⟨?_, huu⟩
  · rw [results_cell_tmp rfl]; go_simp
  · rfl
set_option maxHeartbeats 4000000 in
set_option maxRecDepth 100000 in
theorem take2 (m : Nat) (s : Int) (k t : Bool) (v e : Nat) (A : Option Addr) (n c : Nat) (S : ByteArray) (w : World) (hS : S.size = 2) :
    Calls Try.prog 29 #[OA m s k A n c t v e, .int .i64 2, .string S] w fun e_ w' => e_ = .returned (.tuple #[OA (wd (L S) 0).toNat s k A n c t v e, .bool (!decide (wd (L S) 0 = 0))]) ∧ Up w w' := by
  obtain ⟨q, hq⟩ := Int.eq_ofNat_of_zero_le (wd_bd (L S) 0).1
  have hq1 := (wd_bd (L S) 0).2
  rw [hq] at hq1 ⊢
  rw [Int.toNat_natCast]
  have HQ := Lib.hid hq; clear hq
  have hwr : IntKind.u16.wrap (q : Int) = (q : Int) := by rw [IntKind.wrap_u16]; omega
  go_enter Try.func29, Try.ntmps29
  go_upto_region 1 with fail
  have hu : Up w ((w.alloc (.cells #[.int .u16 (m : Nat), .int .i64 s, .bool k, .slice A n c, .bool t, .int .u32 (v : Nat), .int .u32 (e : Nat)] 26)).alloc (.cells #[.int .u16 0, .int .i64 0, .bool false, .slice none 0 0, .bool false, .int .u32 0, .int .u32 0] 26)) := up_al _ (up_al _ (Below.refl _ _))
  have hA := (Box.new w #[.int .u16 (m : Nat), .int .i64 s, .bool k, .slice A n c, .bool t, .int .u32 (v : Nat), .int .u32 (e : Nat)] 26).alloc (.cells #[.int .u16 0, .int .i64 0, .bool false, .slice none 0 0, .bool false, .int .u32 0, .int .u32 0] 26)
  have hB := Box.new (w.alloc (.cells #[.int .u16 (m : Nat), .int .i64 s, .bool k, .slice A n c, .bool t, .int .u32 (v : Nat), .int .u32 (e : Nat)] 26)) #[.int .u16 0, .int .i64 0, .bool false, .slice none 0 0, .bool false, .int .u32 0, .int .u32 0] 26
  rw [show (w.alloc (.cells #[.int .u16 (m : Nat), .int .i64 s, .bool k, .slice A n c, .bool t, .int .u32 (v : Nat), .int .u32 (e : Nat)] 26)).heap.size = w.heap.size + 1 by simp] at hB
  have hz : w.heap.size + 2 ≤ ((w.alloc (.cells #[.int .u16 (m : Nat), .int .i64 s, .bool k, .slice A n c, .bool t, .int .u32 (v : Nat), .int .u32 (e : Nat)] 26)).alloc (.cells #[.int .u16 0, .int .i64 0, .bool false, .slice none 0 0, .bool false, .int .u32 0, .int .u32 0] 26)).heap.size := by simp
  generalize ((w.alloc (.cells #[.int .u16 (m : Nat), .int .i64 s, .bool k, .slice A n c, .bool t, .int .u32 (v : Nat), .int .u32 (e : Nat)] 26)).alloc (.cells #[.int .u16 0, .int .i64 0, .bool false, .slice none 0 0, .bool false, .int .u32 0, .int .u32 0] 26)) = w0 at hu hA hB hz ⊢
  obtain ⟨n0, hn0⟩ : ∃ n0, n0 = w.heap.size := ⟨_, rfl⟩
  have hle0 : w.heap.size ≤ n0 := by omega
  have hle1 : w.heap.size ≤ n0 + 1 := by omega
  have hne : n0 ≠ n0 + 1 := by omega
  have hne' : n0 + 1 ≠ n0 := by omega
  rw [← hn0] at hA hB hz ⊢
  clear hn0
  obtain ⟨k0, k1, k2, k3, k4, k5, k6, f0, f1, f2, f3, f4, f5, f6⟩ := Box.c7 hA
  go_wp2_with fail
  refine (numW2 S w0 hS).mono ?_
  rintro e_ w1 ⟨rfl, rfl⟩
  rw [HQ.out]
  go_upto_region 4 with fail
  have hA2 := hA.set 0 (.int .u16 (q : Nat))
  have hB2 := hB.far hne (.int .u16 (q : Nat)) (o := 0)
  have hu2 := up_set (o := 0) (v := .int .u16 (q : Nat)) hu hle0
  clear k0 f0 k1 f1 k2 f2 k3 f3 k4 f4 k5 f5 k6 f6
  generalize World.setCell _ ⟨n0, 0, none⟩ _ = w2 at hA2 hB2 hu2 ⊢
  obtain ⟨k0, k1, k2, k3, k4, k5, k6, f0, f1, f2, f3, f4, f5, f6⟩ := Box.c7 hA2
  obtain ⟨m0, m1, m2, m3, m4, m5, m6, g0, g1, g2, g3, g4, g5, g6⟩ := Box.c7 hB2
  go_region
  all_goals
    have hBB := Box.drew (put7 hB2 (.int .u16 (q : Nat)) (.int .i64 s) (.bool k) (.slice A n c) (.bool t) (.int .u32 (v : Nat)) (.int .u32 (e : Nat)))
    have huu := up_dr (ups7 (b := n0 + 1) hu2 hle1 (.int .u16 (q : Nat)) (.int .i64 s) (.bool k) (.slice A n c) (.bool t) (.int .u32 (v : Nat)) (.int .u32 (e : Nat)))
    generalize World.drew _ = W9 at hBB huu ⊢
    clear k0 f0 k1 f1 k2 f2 k3 f3 k4 f4 k5 f5 k6 f6 m0 g0 m1 g1 m2 g2 m3 g3 m4 g4 m5 g5 m6 g6
    obtain ⟨m0, m1, m2, m3, m4, m5, m6, g0, g1, g2, g3, g4, g5, g6⟩ := Box.c7 hBB
    go_wp2
    (try simp only [Exit.inBlock, Exit.then])
    refine bodyPost_ret (v := .tuple #[.agg #[.int .u16 (q : Nat), .int .i64 s, .bool k, .slice A n c, .bool t, .int .u32 (v : Nat), .int .u32 (e : Nat)], .bool ((q : Int) != 0)]) ?_ rfl ⟨?_, huu⟩
    · rw [results_cell_tmp rfl]; go_simp
    · rw [show ((q : Int) != 0) = !decide ((q : Int) = 0) by rw [bne_dec]; simp]

def Num4 (X : ByteArray) (x : Int) : Prop := X.size = 4 ∧ nm (L X) 4 = x
theorem numK (X : ByteArray) (x : Int) (w : World) (h : Num4 X x) : Calls Try.prog 46 #[.string X] w fun e w' => e = .returned (.int .u32 x) ∧ w = w' := by
  refine (refNum X w (by have := h.1; omega)).mono fun e w' ⟨h1, h2⟩ => ⟨?_, h2⟩
  rw [h1, h.1, h.2]
theorem num4_at (s : ByteArray) (i : Nat) (h : i + 4 ≤ s.size) (x : Nat) (hx : x = (qd (L s) i).toNat) : Num4 (s.extract i (i + 4)) x := by
  refine ⟨by rw [sub_size s i (i + 4) (by omega) h]; omega, ?_⟩
  rw [L_extract, show i + 4 - i = 4 by omega, nm4, hx]
  have := (qd_bd (L s) i).1; omega
theorem blocks_at (p : List UInt8) (j : Nat) (h : j < p.length / 8) : (blocks p)[j]? = some ((qd p (8 * j)).toNat, (qd p (8 * j + 4)).toNat) := by
  unfold blocks; simp [h]
theorem blocks_take (p : List UInt8) (j : Nat) (h : j < p.length / 8) : (blocks p).take (j + 1) = (blocks p).take j ++ [((qd p (8 * j)).toNat, (qd p (8 * j + 4)).toNat)] := by
  have e := blocks_at p j h
  obtain ⟨hj, he⟩ := List.getElem?_eq_some_iff.1 e
  rw [List.take_succ_eq_append_getElem hj, he]
theorem own7 {W : World} {B b : Nat} {x : Value} {xs : List (Nat × Nat)} (h : OwnK W B x xs) (hb : b < B) (y0 y1 y2 y3 y4 y5 y6 : Value) : OwnK (((((((W.setCell ⟨b, 0, none⟩ y0).setCell ⟨b, 1, none⟩ y1).setCell ⟨b, 2, none⟩ y2).setCell ⟨b, 3, none⟩ y3).setCell ⟨b, 4, none⟩ y4).setCell ⟨b, 5, none⟩ y5).setCell ⟨b, 6, none⟩ y6) B x xs :=
  ownsRow_setCell_below (ownsRow_setCell_below (ownsRow_setCell_below (ownsRow_setCell_below (ownsRow_setCell_below (ownsRow_setCell_below (ownsRow_setCell_below h (a := ⟨b, 0, none⟩) hb _) (a := ⟨b, 1, none⟩) hb _) (a := ⟨b, 2, none⟩) hb _) (a := ⟨b, 3, none⟩) hb _) (a := ⟨b, 4, none⟩) hb _) (a := ⟨b, 5, none⟩) hb _) (a := ⟨b, 6, none⟩) hb _
def TakeZ (m : Nat) (s : Int) (k t : Bool) (v e q : Nat) (bs : List (Nat × Nat)) (w : World) (e_ : Ending) (w' : World) : Prop := ∃ A' c', e_ = .returned (.tuple #[OA m s k A' q c' t v e, .bool true]) ∧ OwnK w' 0 (.slice A' q c') bs ∧ Up w w'
set_option maxHeartbeats 4000000 in
set_option maxRecDepth 100000 in
theorem take5 (m : Nat) (s : Int) (k t : Bool) (v e : Nat) (S : ByteArray) (q : Nat) (w : World) (hS : S.size = 8 * q) (hq : q ≤ 4) :
    Calls Try.prog 29 #[OA m s k none 0 0 t v e, .int .i64 5, .string S] w fun e_ w' => TakeZ m s k t v e q (blocks (L S)) w e_ w' := by
  have hbl : (blocks (L S)).length = q := by rw [blocks_len, L_len, hS]; omega
  have HT := Lib.hid (fun j (h : j < q) => blocks_take (L S) j (by rw [L_len, hS]; omega))
  have HS := Lib.hid hS
  obtain ⟨bs, hbs⟩ : ∃ bs, bs = blocks (L S) := ⟨_, rfl⟩
  rw [← hbs] at hbl HT ⊢
  clear hbs
  go_enter Try.func29, Try.ntmps29
  go_upto_region 1 with fail
  have hu : Up w ((w.alloc (.cells #[.int .u16 (m : Nat), .int .i64 s, .bool k, .slice none 0 0, .bool t, .int .u32 (v : Nat), .int .u32 (e : Nat)] 26)).alloc (.cells #[.int .u16 0, .int .i64 0, .bool false, .slice none 0 0, .bool false, .int .u32 0, .int .u32 0] 26)) := up_al _ (up_al _ (Below.refl _ _))
  have hA := (Box.new w #[.int .u16 (m : Nat), .int .i64 s, .bool k, .slice none 0 0, .bool t, .int .u32 (v : Nat), .int .u32 (e : Nat)] 26).alloc (.cells #[.int .u16 0, .int .i64 0, .bool false, .slice none 0 0, .bool false, .int .u32 0, .int .u32 0] 26)
  have hB := Box.new (w.alloc (.cells #[.int .u16 (m : Nat), .int .i64 s, .bool k, .slice none 0 0, .bool t, .int .u32 (v : Nat), .int .u32 (e : Nat)] 26)) #[.int .u16 0, .int .i64 0, .bool false, .slice none 0 0, .bool false, .int .u32 0, .int .u32 0] 26
  rw [show (w.alloc (.cells #[.int .u16 (m : Nat), .int .i64 s, .bool k, .slice none 0 0, .bool t, .int .u32 (v : Nat), .int .u32 (e : Nat)] 26)).heap.size = w.heap.size + 1 by simp] at hB
  have hz : w.heap.size + 2 ≤ ((w.alloc (.cells #[.int .u16 (m : Nat), .int .i64 s, .bool k, .slice none 0 0, .bool t, .int .u32 (v : Nat), .int .u32 (e : Nat)] 26)).alloc (.cells #[.int .u16 0, .int .i64 0, .bool false, .slice none 0 0, .bool false, .int .u32 0, .int .u32 0] 26)).heap.size := by simp
  generalize ((w.alloc (.cells #[.int .u16 (m : Nat), .int .i64 s, .bool k, .slice none 0 0, .bool t, .int .u32 (v : Nat), .int .u32 (e : Nat)] 26)).alloc (.cells #[.int .u16 0, .int .i64 0, .bool false, .slice none 0 0, .bool false, .int .u32 0, .int .u32 0] 26)) = w0 at hu hA hB hz ⊢
  obtain ⟨n0, hn0⟩ : ∃ n0, n0 = w.heap.size := ⟨_, rfl⟩
  have hle0 : w.heap.size ≤ n0 := by omega
  have hle1 : w.heap.size ≤ n0 + 1 := by omega
  have hne : n0 ≠ n0 + 1 := by omega
  have hne' : n0 + 1 ≠ n0 := by omega
  rw [← hn0] at hA hB hz ⊢
  clear hn0
  obtain ⟨k0, k1, k2, k3, k4, k5, k6, f0, f1, f2, f3, f4, f5, f6⟩ := Box.c7 hA

  go_wp2_with fail
  go_loopw [8] (fun i wr => ∃ (j p : Nat) (sl : Value), j ≤ q ∧ i = .int .i64 p ∧ Hid (p = 8 * j) ∧ Box wr n0 [.int .u16 (m : Nat), .int .i64 s, .bool k, sl, .bool t, .int .u32 (v : Nat), .int .u32 (e : Nat)] ∧ OwnK wr (n0 + 2) sl (bs.take j) ∧ Box wr (n0 + 1) [.int .u16 0, .int .i64 0, .bool false, .slice none 0 0, .bool false, .int .u32 0, .int .u32 0] ∧ Up w wr ∧ n0 + 2 ≤ wr.heap.size) (fun i _ => S.size - (intOf i).toNat)
  case atStart => exact ⟨0, 0, _, Nat.zero_le _, rfl, rfl, hA, OwnK.nil_ _ _, hB, hu, hz⟩
  case round =>
    obtain ⟨j, p, sl, hj, rfl, hp, hAr, hO, hBr, hur, hzr⟩ := hrel
    clear k0 f0 k1 f1 k2 f2 k3 f3 k4 f4 k5 f5 k6 f6
    obtain ⟨k0, k1, k2, k3, k4, k5, k6, f0, f1, f2, f3, f4, f5, f6⟩ := Box.c7 hAr
    by_cases hlt : j < q
    · have hp8 : p + 8 ≤ S.size := by rw [HS.out, hp.out]; omega
      have hS32 : S.size ≤ 32 := by omega
      obtain ⟨x1, hx1⟩ : ∃ x1, x1 = (qd (L S) p).toNat := ⟨_, rfl⟩
      obtain ⟨x2, hx2⟩ : ∃ x2, x2 = (qd (L S) (p + 4)).toNat := ⟨_, rfl⟩
      have I1 := num4_at S p (by omega) x1 hx1
      have I2 := num4_at S (p + 4) (by omega) x2 hx2
      have HB : Hid (bs.take (j + 1) = bs.take j ++ [(x1, x2)]) := by unfold Hid; rw [HT.out j hlt, hx1, hx2, hp.out]
      have hl : (bs.take j).length ≤ 4 := by rw [List.length_take]; omega
      clear hx1 hx2 hA hB hS
      have d0 : (p : Int) < (S.size : Int) := by omega
      have d1 : (p : Int) + 4 ≤ (S.size : Int) := by omega
      have d2 : (p : Int) + 8 ≤ (S.size : Int) := by omega
      have d3 : (p : Int) ≤ (p : Int) + 4 := by omega
      have d4 : (p : Int) + 4 ≤ (p : Int) + 8 := by omega
      have d5 : ((p : Int) + 4).toNat = p + 4 := by omega
      have d6 : ((p : Int) + 8).toNat = p + 8 := by omega
      have d7 : IntKind.i64.wrap ((p : Int) + 4) = (p : Int) + 4 := IntWalk.i64_in _ (by omega)
      have d8 : IntKind.i64.wrap ((p : Int) + 8) = (p : Int) + 8 := IntWalk.i64_in _ (by omega)
      have d9 : (0 : Int) ≤ (p : Int) + 4 := by omega
      have d10 : (0 : Int) ≤ (p : Int) + 8 := by omega
      have hal : ∀ o, (wr.alloc o).cell? ⟨n0, 3, none⟩ = some sl := fun o => (hAr.alloc o).at 3 rfl
      generalize bs.take j = xs at hO hl HB
      go_upto_region 13 with fail
      go_region_law (first
        | (go_simp; go_at_call 46; refine (numK _ _ _ (by first | exact I1 | exact I2)).mono ?_; rintro e_ w2 ⟨rfl, rfl⟩)
        | (refine step_app2 (.tmp 39) (.tmp 54) _ [(x1, x2)] (hO.up (by first | exact up_al _ (up_dr (Below.refl _ _)) | exact up_dr (up_al _ (Below.refl _ _)))) rfl rfl rfl rfl (cells_new1 (by go_simp) (by go_simp)) (by omega) (by simp) (by simp; omega) ?_; intro v4 w4 hO4 hb4; obtain ⟨A4, c4, rfl, hr4⟩ := hO4.rd; obtain ⟨n4, hn4⟩ : ∃ n4, n4 = (xs ++ [(x1, x2)]).length := ⟨_, rfl⟩; rw [← hn4] at hO4 ⊢; clear hr4 hn4; have hA4 := (Box.up hAr (by first | exact up_al _ (up_dr (Below.refl _ _)) | exact up_dr (up_al _ (Below.refl _ _)))).below hb4 (by omega); have hB40 := (Box.up hBr (by first | exact up_al _ (up_dr (Below.refl _ _)) | exact up_dr (up_al _ (Below.refl _ _)))).below hb4 (by omega); have hu40 := (hur.on (by first | exact up_al _ (up_dr (Below.refl _ _)) | exact up_dr (up_al _ (Below.refl _ _)))).trans (hb4.mono (by omega)); obtain ⟨m0, m1, m2, m3, m4, m5, m6, g0, g1, g2, g3, g4, g5, g6⟩ := Box.c7 hA4))
      all_goals
        have hB4 := hB40.far hne (.slice A4 n4 c4) (o := 3)
        have hu4 := up_set (o := 3) (v := .slice A4 n4 c4) hu40 hle0
        have hA5 := hA4.set 3 (.slice A4 n4 c4)
        have hO5 : OwnK (w4.setCell ⟨n0, 3, none⟩ (.slice A4 n4 c4)) (n0 + 2) (.slice A4 n4 c4) (xs ++ [(x1, x2)]) := RowKit.ownsRow_setCell_below hO4 (a := ⟨n0, 3, none⟩) (by show n0 < _; omega) _
        have hz5 : n0 + 2 ≤ (w4.setCell ⟨n0, 3, none⟩ (.slice A4 n4 c4)).heap.size := by simpa using Nat.le_trans hzr (Nat.le_trans (by simp) hb4.size)
        generalize (w4.setCell ⟨n0, 3, none⟩ (.slice A4 n4 c4)) = w5 at hB4 hu4 hA5 hO5 hz5 ⊢
        go_wp2
        go_roundw
        case rel => exact ⟨j + 1, p + 8, _, by omega, by go_num, by unfold Hid; rw [hp.out]; omega, hA5, by rw [HB.out]; exact hO5, hB4, hu4, hz5⟩
        case measure => simp [intOf]; omega
    · obtain rfl : j = q := by omega
      have d0 : ¬ (p : Int) < (S.size : Int) := by rw [HS.out, hp.out]; omega
      obtain ⟨A', c', rfl, hrd⟩ := hO.rd
      rw [List.take_of_length_le (by omega)] at hrd hO hAr
      rw [hbl] at hAr
      clear k0 f0 k1 f1 k2 f2 k3 f3 k4 f4 k5 f5 k6 f6
      obtain ⟨k0, k1, k2, k3, k4, k5, k6, f0, f1, f2, f3, f4, f5, f6⟩ := Box.c7 hAr
      obtain ⟨m0, m1, m2, m3, m4, m5, m6, g0, g1, g2, g3, g4, g5, g6⟩ := Box.c7 hBr
      clear hA hB
      go_wp2_with fail
      have hBB := put7 hBr (.int .u16 (m : Nat)) (.int .i64 s) (.bool k) (.slice A' j c') (.bool t) (.int .u32 (v : Nat)) (.int .u32 (e : Nat))
      have huu := ups7 (b := n0 + 1) hur hle1 (.int .u16 (m : Nat)) (.int .i64 s) (.bool k) (.slice A' j c') (.bool t) (.int .u32 (v : Nat)) (.int .u32 (e : Nat))
      have hOO := own7 hO (b := n0 + 1) (by omega) (.int .u16 (m : Nat)) (.int .i64 s) (.bool k) (.slice A' j c') (.bool t) (.int .u32 (v : Nat)) (.int .u32 (e : Nat))
      generalize World.setCell _ ⟨n0 + 1, 6, none⟩ _ = W9 at hBB huu hOO ⊢
      clear k0 f0 k1 f1 k2 f2 k3 f3 k4 f4 k5 f5 k6 f6 m0 g0 m1 g1 m2 g2 m3 g3 m4 g4 m5 g5 m6 g6
      obtain ⟨m0, m1, m2, m3, m4, m5, m6, g0, g1, g2, g3, g4, g5, g6⟩ := Box.c7 hBB
      (try simp only [Exit.inBlock, Exit.then])
      refine bodyPost_ret (v := .tuple #[.agg #[.int .u16 (m : Nat), .int .i64 s, .bool k, .slice A' j c', .bool t, .int .u32 (v : Nat), .int .u32 (e : Nat)], .bool true]) ?_ rfl ⟨A', c', rfl, ?_, huu⟩
      · rw [results_cell_tmp rfl]; go_simp
      · rw [hbl] at hOO; exact World.ownsRow.mono hOO (Nat.zero_le _)
set_option maxHeartbeats 4000000 in
set_option maxRecDepth 100000 in
theorem take8 (m : Nat) (s : Int) (k t : Bool) (v e : Nat) (A : Option Addr) (n c : Nat) (S : ByteArray) (w : World) (hS : S.size = 8) :
    Calls Try.prog 29 #[OA m s k A n c t v e, .int .i64 8, .string S] w fun e_ w' => e_ = .returned (.tuple #[OA m s k A n c true (qd (L S) 0).toNat (qd (L S) 4).toNat, .bool true]) ∧ Up w w' := by
  obtain ⟨q, hq⟩ := Int.eq_ofNat_of_zero_le (qd_bd (L S) 0).1
  obtain ⟨r, hr⟩ := Int.eq_ofNat_of_zero_le (qd_bd (L S) 4).1
  rw [hq, hr, Int.toNat_natCast, Int.toNat_natCast]
  have HQ := Lib.hid hq; have HR := Lib.hid hr; clear hq hr
  have HN1 := Lib.hid (fun w => num4 S 0 (by omega) w)
  have HN2 := Lib.hid (fun w => num4 S 4 (by omega) w)
  go_enter Try.func29, Try.ntmps29
  go_upto_region 1 with fail
  have hu : Up w ((w.alloc (.cells #[.int .u16 (m : Nat), .int .i64 s, .bool k, .slice A n c, .bool t, .int .u32 (v : Nat), .int .u32 (e : Nat)] 26)).alloc (.cells #[.int .u16 0, .int .i64 0, .bool false, .slice none 0 0, .bool false, .int .u32 0, .int .u32 0] 26)) := up_al _ (up_al _ (Below.refl _ _))
  have hA := (Box.new w #[.int .u16 (m : Nat), .int .i64 s, .bool k, .slice A n c, .bool t, .int .u32 (v : Nat), .int .u32 (e : Nat)] 26).alloc (.cells #[.int .u16 0, .int .i64 0, .bool false, .slice none 0 0, .bool false, .int .u32 0, .int .u32 0] 26)
  have hB := Box.new (w.alloc (.cells #[.int .u16 (m : Nat), .int .i64 s, .bool k, .slice A n c, .bool t, .int .u32 (v : Nat), .int .u32 (e : Nat)] 26)) #[.int .u16 0, .int .i64 0, .bool false, .slice none 0 0, .bool false, .int .u32 0, .int .u32 0] 26
  rw [show (w.alloc (.cells #[.int .u16 (m : Nat), .int .i64 s, .bool k, .slice A n c, .bool t, .int .u32 (v : Nat), .int .u32 (e : Nat)] 26)).heap.size = w.heap.size + 1 by simp] at hB
  have hz : w.heap.size + 2 ≤ ((w.alloc (.cells #[.int .u16 (m : Nat), .int .i64 s, .bool k, .slice A n c, .bool t, .int .u32 (v : Nat), .int .u32 (e : Nat)] 26)).alloc (.cells #[.int .u16 0, .int .i64 0, .bool false, .slice none 0 0, .bool false, .int .u32 0, .int .u32 0] 26)).heap.size := by simp
  generalize ((w.alloc (.cells #[.int .u16 (m : Nat), .int .i64 s, .bool k, .slice A n c, .bool t, .int .u32 (v : Nat), .int .u32 (e : Nat)] 26)).alloc (.cells #[.int .u16 0, .int .i64 0, .bool false, .slice none 0 0, .bool false, .int .u32 0, .int .u32 0] 26)) = w0 at hu hA hB hz ⊢
  obtain ⟨n0, hn0⟩ : ∃ n0, n0 = w.heap.size := ⟨_, rfl⟩
  have hle0 : w.heap.size ≤ n0 := by omega
  have hle1 : w.heap.size ≤ n0 + 1 := by omega
  have hne : n0 ≠ n0 + 1 := by omega
  have hne' : n0 + 1 ≠ n0 := by omega
  rw [← hn0] at hA hB hz ⊢
  clear hn0
  obtain ⟨k0, k1, k2, k3, k4, k5, k6, f0, f1, f2, f3, f4, f5, f6⟩ := Box.c7 hA
  go_upto_region 16 with fail
  have hA2 := hA.set 4 (.bool true)
  have hB2 := hB.far hne (.bool true) (o := 4)
  have hu2 := up_set (o := 4) (v := .bool true) hu hle0
  clear k0 f0 k1 f1 k2 f2 k3 f3 k4 f4 k5 f5 k6 f6
  generalize World.setCell _ ⟨n0, 4, none⟩ _ = w2 at hA2 hB2 hu2 ⊢
  obtain ⟨k0, k1, k2, k3, k4, k5, k6, f0, f1, f2, f3, f4, f5, f6⟩ := Box.c7 hA2
  have j4 : (4 : Int) ≤ (S.size : Int) := by omega
  go_wp2_with fail
  refine (HN1.out w2).mono ?_
  rintro e_ w1 ⟨rfl, rfl⟩
  rw [HQ.out]
  go_upto_region 17 with fail
  have hA3 := hA2.set 5 (.int .u32 (q : Nat))
  have hB3 := hB2.far hne (.int .u32 (q : Nat)) (o := 5)
  have hu3 := up_set (o := 5) (v := .int .u32 (q : Nat)) hu2 hle0
  clear k0 f0 k1 f1 k2 f2 k3 f3 k4 f4 k5 f5 k6 f6
  generalize World.setCell _ ⟨n0, 5, none⟩ _ = w3 at hA3 hB3 hu3 ⊢
  obtain ⟨k0, k1, k2, k3, k4, k5, k6, f0, f1, f2, f3, f4, f5, f6⟩ := Box.c7 hA3
  go_wp2_with fail
  refine (HN2.out w3).mono ?_
  rintro e_ w1 ⟨rfl, rfl⟩
  rw [HR.out]
  go_upto_region 18 with fail
  have hA4 := hA3.set 6 (.int .u32 (r : Nat))
  have hB4 := hB3.far hne (.int .u32 (r : Nat)) (o := 6)
  have hu4 := up_set (o := 6) (v := .int .u32 (r : Nat)) hu3 hle0
  clear k0 f0 k1 f1 k2 f2 k3 f3 k4 f4 k5 f5 k6 f6
  generalize World.setCell _ ⟨n0, 6, none⟩ _ = w4 at hA4 hB4 hu4 ⊢
  obtain ⟨k0, k1, k2, k3, k4, k5, k6, f0, f1, f2, f3, f4, f5, f6⟩ := Box.c7 hA4
  obtain ⟨m0, m1, m2, m3, m4, m5, m6, g0, g1, g2, g3, g4, g5, g6⟩ := Box.c7 hB4
  go_wp2_with fail
  have hBB := put7 hB4 (.int .u16 (m : Nat)) (.int .i64 s) (.bool k) (.slice A n c) (.bool true) (.int .u32 (q : Nat)) (.int .u32 (r : Nat))
  have huu := ups7 (b := n0 + 1) hu4 hle1 (.int .u16 (m : Nat)) (.int .i64 s) (.bool k) (.slice A n c) (.bool true) (.int .u32 (q : Nat)) (.int .u32 (r : Nat))
  generalize World.setCell _ ⟨n0 + 1, 6, none⟩ _ = W9 at hBB huu ⊢
  clear k0 f0 k1 f1 k2 f2 k3 f3 k4 f4 k5 f5 k6 f6 m0 g0 m1 g1 m2 g2 m3 g3 m4 g4 m5 g5 m6 g6
  obtain ⟨m0, m1, m2, m3, m4, m5, m6, g0, g1, g2, g3, g4, g5, g6⟩ := Box.c7 hBB
  (try simp only [Exit.inBlock, Exit.then])
  refine bodyPost_ret (v := .tuple #[.agg #[.int .u16 (m : Nat), .int .i64 s, .bool k, .slice A n c, .bool true, .int .u32 (q : Nat), .int .u32 (r : Nat)], .bool true]) ?_ rfl ⟨?_, huu⟩
  · rw [results_cell_tmp rfl]; go_simp
  · rfl
abbrev OV (o : Opz) (A : Option Addr) (n c : Nat) : Value := OA o.mss o.sc o.sk A n c o.tm o.va o.ec
/-- what take answers -/
def TkZ (o : Opz) (K : Nat) (X : List UInt8) (w : World) (e_ : Ending) (w' : World) : Prop :=
  ∃ A' n' c', e_ = .returned (.tuple #[OV (put o (K, X)) A' n' c', .bool (nzb K X)]) ∧ OwnK w' 0 (.slice A' n' c') (put o (K, X)).bl ∧ (put o (K, X)).bl.length = n' ∧ ((put o (K, X)).bl = [] → A' = none ∧ n' = 0 ∧ c' = 0) ∧ Up w w'
theorem refTake (m : Nat) (s : Int) (k t : Bool) (v e : Nat) (A : Option Addr) (n c : Nat) (b : List (Nat × Nat)) (K : Nat) (S : ByteArray) (w : World) (hl : lenOk K (S.size + 2) = true) (hO : OwnK w 0 (.slice A n c) b) (hn : b.length = n) (hb : b = [] → A = none ∧ n = 0 ∧ c = 0) (h5 : K = 5 → b = []) :
    Calls Try.prog 29 #[OA m s k A n c t v e, .int .i64 (K : Nat), .string S] w fun e_ w' => TkZ ⟨m, s, k, b, t, v, e⟩ K (L S) w e_ w' := by
  by_cases h2 : K = 2
  · subst h2
    have hS : S.size = 2 := by have h := beq_iff_eq.1 (show (S.size + 2 == 4) = true from hl); omega
    refine (take2 m s k t v e A n c S w hS).mono ?_
    rintro e_ w' ⟨rfl, hu⟩
    refine ⟨A, n, c, ?_, hO.up hu, hn, hb, hu⟩
    rw [put_2]; rfl
  by_cases h3 : K = 3
  · subst h3
    have hS : S.size = 1 := by have h := beq_iff_eq.1 (show (S.size + 2 == 3) = true from hl); omega
    refine (take3 m s k t v e A n c S w hS).mono ?_
    rintro e_ w' ⟨rfl, hu⟩
    exact ⟨A, n, c, by rw [put_3, nzb_x (by decide)], hO.up hu, hn, hb, hu⟩
  by_cases h4 : K = 4
  · subst h4
    have hS : S.size = 0 := by have h := beq_iff_eq.1 (show (S.size + 2 == 2) = true from hl); omega
    refine (take4 m s k t v e A n c S w hS).mono ?_
    rintro e_ w' ⟨rfl, hu⟩
    exact ⟨A, n, c, by rw [put_4, nzb_x (by decide)], hO.up hu, hn, hb, hu⟩
  by_cases h5' : K = 5
  · subst h5'
    obtain ⟨rfl, rfl, rfl⟩ := hb (h5 rfl)
    obtain rfl := h5 rfl
    have hS := len5 hl
    obtain ⟨q, hq⟩ : ∃ q, S.size = 8 * q := ⟨S.size / 8, by omega⟩
    have hbl : (blocks (L S)).length = q := by rw [blocks_len, L_len, hq]; omega
    refine (take5 m s k t v e S q w hq (by omega)).mono ?_
    rintro e_ w' ⟨A', c', rfl, hO', hu⟩
    refine ⟨A', q, c', by rw [put_5, nzb_x (by decide)], by rw [put_5]; exact hO', by rw [put_5]; exact hbl, fun h => ?_, hu⟩
    rw [put_5] at h
    have : blocks (L S) = [] := h
    rw [this] at hbl
    simp at hbl; omega
  by_cases h8 : K = 8
  · subst h8
    have hS : S.size = 8 := by have := len8 hl; omega
    refine (take8 m s k t v e A n c S w hS).mono ?_
    rintro e_ w' ⟨rfl, hu⟩
    exact ⟨A, n, c, by rw [put_8, nzb_x (by decide)], hO.up hu, hn, hb, hu⟩
  · refine (takex m s k t v e A n c S w K h2 h3 h4 h5' h8).mono ?_
    rintro e_ w' ⟨rfl, hu⟩
    rw [show TkZ ⟨m, s, k, b, t, v, e⟩ K (L S) w = TkZ ⟨m, s, k, b, t, v, e⟩ K (L S) w from rfl]
    unfold TkZ
    rw [put_x _ K _ h2 h3 h4 h5' h8, nzb_x h2]
    exact ⟨A, n, c, rfl, hO.up hu, hn, hb, hu⟩
end Go.Proofs.Ytdlcglkeinlimaa.op
