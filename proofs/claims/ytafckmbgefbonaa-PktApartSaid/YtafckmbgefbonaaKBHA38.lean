/- B H A: contracts, part 38. Condition: as each says. -/
import Derived.Test.YtafckmbgefbonaaKBHA37
set_option linter.unusedVariables false
set_option linter.unusedSimpArgs false
namespace Go.Proofs.Ytafckmbgefbonaa.pk
open Go.RowKit Go.Shelf Go.Lib Go.Proofs.Ytafckmbgefbonaa.sm Go.Proofs.Ytafckmbgefbonaa.nb Go.Proofs.Ytafckmbgefbonaa.pm
set_option linter.unusedVariables false

theorem encV {x : Value} {g : Sg} (w : World) (h : SegV w x g) (hg : GoodS g) : Calls Try.prog 8 #[x] w fun e_ w' => e_ = .returned (EVP g) ∧ Up w w' := by
  obtain ⟨A, n, c, rfl, hn, hr⟩ := h
  obtain ⟨a, b, p, q, y, z, f, i, ⟨m, s, k, bl, t, v, e⟩, D⟩ := g
  exact encodeC a p b q y z f i m s k A n c t v e D bl w hg hn hr
theorem mayV {x : Value} {g : Sg} (w : World) (h : SegV w x g) (hg : GoodS g) : Calls Try.prog 16 #[x] w fun e_ w' => e_ = .returned (.bool (maysb g)) ∧ Up w w' := by
  obtain ⟨A, n, c, rfl, hn, hr⟩ := h
  obtain ⟨a, b, p, q, y, z, f, i, ⟨m, s, k, bl, t, v, e⟩, D⟩ := g
  exact mayC a p b q y z f i m s k A n c t v e D bl w hg hn hr
theorem nextV {x : Value} {g : Sg} (w : World) (h : SegV w x g) (hg : GoodS g) : Calls Try.prog 15 #[x] w fun e_ w' => e_ = .returned (.int .u32 (next g : Nat)) ∧ Up w w' := by
  obtain ⟨A, n, c, rfl, hn, hr⟩ := h
  obtain ⟨a, b, p, q, y, z, f, i, ⟨m, s, k, bl, t, v, e⟩, D⟩ := g
  have := nextC a p b q y z f i m s k A n c t v e (tx D) w hg.1.2.2.2.2.1 hg.1.2.2.2.2.2.2.1 (by rw [tx_size]; exact hg.2.2.2)
  rw [tx_size] at this
  exact this
def heavy (g : Sg) : Bool := decide (4096 < g.dt.length) || decide (100 < g.op.bl.length)
theorem heavyV {x : Value} {g : Sg} (w : World) (h : SegV w x g) : Calls Try.prog 6 #[x] w fun e_ w' => e_ = .returned (.bool (heavy g)) ∧ Up w w' := by
  obtain ⟨A, n, c, rfl, hn, hr⟩ := h
  obtain ⟨a, b, p, q, y, z, f, i, ⟨m, s, k, bl, t, v, e⟩, D⟩ := g
  have HH := Lib.hid (show heavy ⟨a, b, p, q, y, z, f, i, ⟨m, s, k, bl, t, v, e⟩, D⟩ = (decide (4096 < (tx D).size) || decide (100 < n)) by rw [tx_size, ← hn]; rfl)
  dsimp only
  generalize heavy _ = r at HH ⊢
  generalize tx D = S at HH ⊢
  clear hn hr
  go_enter Try.func6, Try.ntmps6
  go_upto_region 1 with fail
  have hA := Box.new w #[.int .u32 a, .int .u16 p, .int .u32 b, .int .u16 q, .int .u32 y, .int .u32 z, .int .u8 f, .int .u16 i, .int .u16 m, .int .i64 s, .bool k, .slice A n c, .bool t, .int .u32 v, .int .u32 e, .string S] 30
  have hu : Up w (w.alloc (.cells #[.int .u32 a, .int .u16 p, .int .u32 b, .int .u16 q, .int .u32 y, .int .u32 z, .int .u8 f, .int .u16 i, .int .u16 m, .int .i64 s, .bool k, .slice A n c, .bool t, .int .u32 v, .int .u32 e, .string S] 30)) := up_al _ (Below.refl _ _)
  generalize (w.alloc (.cells #[.int .u32 a, .int .u16 p, .int .u32 b, .int .u16 q, .int .u32 y, .int .u32 z, .int .u8 f, .int .u16 i, .int .u16 m, .int .i64 s, .bool k, .slice A n c, .bool t, .int .u32 v, .int .u32 e, .string S] 30)) = w0 at hA hu ⊢
  generalize w.heap.size = n0 at hA ⊢
  have k15 := hA.at 15 rfl
  have k11 := hA.at 11 rfl
  by_cases c0 : 4096 < S.size
  · have c1 : (4096 : Int) < (S.size : Int) := by omega
    go_wp2
    go_ret
    exact ⟨ret_bool (by rw [HH.out, decide_eq_true c0]; rfl), hu⟩
  · have c1 : ¬ (4096 : Int) < (S.size : Int) := by omega
    by_cases c2 : 100 < n
    · have c3 : (100 : Int) < (n : Int) := by omega
      go_wp2
      go_ret
      exact ⟨ret_bool (by rw [HH.out, decide_eq_false c0, decide_eq_true c2]; simp), hu⟩
    · have c3 : ¬ (100 : Int) < (n : Int) := by omega
      go_wp2
      go_ret
      exact ⟨ret_bool (by rw [HH.out, decide_eq_false c0, decide_eq_false c2]; simp), hu⟩

/-! ### a small segment -/
def g0 : Sg := ⟨167772161, 167772162, 4000, 80, 7, 0, 2, 100, ⟨1460, -1, false, [], false, 0, 0⟩, []⟩
def x0 : Sh := ⟨1, 3, 2, 4, 5, 6, 0, 0, 1, 0⟩
theorem wf_g0 : WfS g0 := ⟨by decide, by decide, by decide, by decide, by decide, by decide, by decide, by decide, by decide, by decide, by decide, by decide⟩
theorem may_g0 : MayS g0 := ⟨by decide, by decide, by decide⟩
theorem good_g0 : GoodS g0 := ⟨wf_g0, by decide, by decide, by decide⟩
theorem wf_x0 : WfX x0 := ⟨by decide, by decide, by decide, by decide, by decide, by decide, by decide, by decide⟩
def t0 : Sg := ⟨1, 3, 2, 4, 12, 0, 2, 200, ⟨1460, -1, false, [], false, 0, 0⟩, []⟩
theorem t0_is : tS x0 g0 = t0 := by kernel_rfl
theorem len_g0 : (tx (encS g0)).size = 44 := by rw [tx_size, enc_len]; decide +kernel
def b0 : Sg := ⟨0, 0, 0, 0, 0, 0, 3, 0, ⟨0, -1, false, [], false, 0, 0⟩, []⟩
theorem good_b0 : GoodS b0 := ⟨⟨by decide, by decide, by decide, by decide, by decide, by decide, by decide, by decide, by decide, by decide, by decide, by decide⟩, by decide, by decide, by decide⟩
theorem may_b0 : ¬ MayS b0 := by intro h; have := h.1; revert this; decide
theorem seg_g0 (w : World) (A : Option Addr) (c : Nat) : SegV w (.agg #[.int .u32 167772161, .int .u16 4000, .int .u32 167772162, .int .u16 80, .int .u32 7, .int .u32 0, .int .u8 2, .int .u16 100, .int .u16 1460, .int .i64 (-1), .bool false, .slice A 0 c, .bool false, .int .u32 0, .int .u32 0, .string { data := #[] }]) g0 := ⟨A, 0, c, rfl, rfl, fun h => absurd rfl h⟩
theorem seg_b0 (w : World) : SegV w (.agg #[.int .u32 0, .int .u16 0, .int .u32 0, .int .u16 0, .int .u32 0, .int .u32 0, .int .u8 3, .int .u16 0, .int .u16 0, .int .i64 (-1), .bool false, .slice none 0 0, .bool false, .int .u32 0, .int .u32 0, .string { data := #[] }]) b0 := ⟨none, 0, 0, rfl, rfl, fun h => absurd rfl h⟩
theorem seg_t0 (w : World) (A : Option Addr) (c : Nat) : SegV w (.agg #[.int .u32 1, .int .u16 2, .int .u32 3, .int .u16 4, .int .u32 12, .int .u32 0, .int .u8 2, .int .u16 200, .int .u16 1460, .int .i64 (-1), .bool false, .slice A 0 c, .bool false, .int .u32 0, .int .u32 0, .string { data := #[] }]) t0 := ⟨A, 0, c, rfl, rfl, fun h => absurd rfl h⟩
def TkT (v : Value) (_ : World) : Prop := ∃ A c, v = (.agg #[.int .u32 1, .int .u16 2, .int .u32 3, .int .u16 4, .int .u32 12, .int .u32 0, .int .u8 2, .int .u16 200, .int .u16 1460, .int .i64 (-1), .bool false, .slice A 0 c, .bool false, .int .u32 0, .int .u32 0, .string { data := #[] }])
theorem TkT.st : ∀ v w w', TkT v w → Up w w' → TkT v w' := fun _ _ _ h _ => h
theorem segC (w : World) : Calls Try.prog 13 #[] w fun e_ w' => e_ = .returned (.agg #[.int .u32 167772161, .int .u16 4000, .int .u32 167772162, .int .u16 80, .int .u32 7, .int .u32 0, .int .u8 2, .int .u16 100, .int .u16 1460, .int .i64 (-1), .bool false, .slice none 0 0, .bool false, .int .u32 0, .int .u32 0, .string { data := #[] }]) ∧ Up w w' := by
  go_enter Try.func13, Try.ntmps13
  go_upto_region 1 with fail
  have hA := Box.new w #[.int .u32 0, .int .u16 0, .int .u32 0, .int .u16 0, .int .u32 0, .int .u32 0, .int .u8 0, .int .u16 0, .int .u16 0, .int .i64 0, .bool false, .slice none 0 0, .bool false, .int .u32 0, .int .u32 0, .string { data := #[] }] 30
  have hu : Up w (w.alloc (.cells #[.int .u32 0, .int .u16 0, .int .u32 0, .int .u16 0, .int .u32 0, .int .u32 0, .int .u8 0, .int .u16 0, .int .u16 0, .int .i64 0, .bool false, .slice none 0 0, .bool false, .int .u32 0, .int .u32 0, .string { data := #[] }] 30)) := up_al _ (Below.refl _ _)
  generalize (w.alloc (.cells #[.int .u32 0, .int .u16 0, .int .u32 0, .int .u16 0, .int .u32 0, .int .u32 0, .int .u8 0, .int .u16 0, .int .u16 0, .int .i64 0, .bool false, .slice none 0 0, .bool false, .int .u32 0, .int .u32 0, .string { data := #[] }] 30)) = w0 at hA hu ⊢
  obtain ⟨a0, ha0⟩ : ∃ a0, a0 = w.heap.size := ⟨_, rfl⟩
  have hla : w.heap.size ≤ a0 := by omega
  rw [← ha0] at hA ⊢
  clear ha0
  obtain ⟨k0, k1, k2, k3, k4, k5, k6, k7, k8, k9, k10, k11, k12, k13, k14, k15, f0, f1, f2, f3, f4, f5, f6, f7, f8, f9, f10, f11, f12, f13, f14, f15⟩ := Box.c16 hA
  go_wp2_with fail
  have hA9 := put16 hA (.int .u32 167772161) (.int .u16 4000) (.int .u32 167772162) (.int .u16 80) (.int .u32 7) (.int .u32 0) (.int .u8 2) (.int .u16 100) (.int .u16 1460) (.int .i64 (-1)) (.bool false) (.slice none 0 0) (.bool false) (.int .u32 0) (.int .u32 0) (.string { data := #[] })
  have hu9 := ups16 (b := a0) hu hla (.int .u32 167772161) (.int .u16 4000) (.int .u32 167772162) (.int .u16 80) (.int .u32 7) (.int .u32 0) (.int .u8 2) (.int .u16 100) (.int .u16 1460) (.int .i64 (-1)) (.bool false) (.slice none 0 0) (.bool false) (.int .u32 0) (.int .u32 0) (.string { data := #[] })
  generalize World.setCell _ ⟨a0, 15, none⟩ _ = w9 at hA9 hu9 ⊢
  clear k0 k1 k2 k3 k4 k5 k6 k7 k8 k9 k10 k11 k12 k13 k14 k15 f0 f1 f2 f3 f4 f5 f6 f7 f8 f9 f10 f11 f12 f13 f14 f15
  obtain ⟨k0, k1, k2, k3, k4, k5, k6, k7, k8, k9, k10, k11, k12, k13, k14, k15, f0, f1, f2, f3, f4, f5, f6, f7, f8, f9, f10, f11, f12, f13, f14, f15⟩ := Box.c16 hA9
  (try simp only [Exit.inBlock, Exit.then])
  refine bodyPost_ret (v := (.agg #[.int .u32 167772161, .int .u16 4000, .int .u32 167772162, .int .u16 80, .int .u32 7, .int .u32 0, .int .u8 2, .int .u16 100, .int .u16 1460, .int .i64 (-1), .bool false, .slice none 0 0, .bool false, .int .u32 0, .int .u32 0, .string { data := #[] }])) ?_ rfl ⟨rfl, hu9⟩
  rw [ip.results_cell1 rfl]; go_simp
set_option maxHeartbeats 8000000 in
set_option maxRecDepth 100000 in
theorem aliveC (w : World) : Calls Try.prog 7 #[] w fun e_ w' => e_ = .returned (.bool true) ∧ Up w w' := by
  obtain ⟨S, hS⟩ : ∃ S, S = tx (encS g0) := ⟨_, rfl⟩
  obtain ⟨R, hR⟩ : ∃ R, R = tx (encS t0) := ⟨_, rfl⟩
  have hSz : (S.size : Int) = 44 := by rw [hS, len_g0]; rfl
  have hed := enc_dec may_g0 wf_g0
  have het : errP (encS t0) = 0 ∧ valP (encS t0) = t0 := by rw [← t0_is]; exact enc_dec (tS_may may_g0) (tS_wf wf_x0 wf_g0)
  have H1 : Hid (∀ w, Calls Try.prog 8 #[(.agg #[.int .u32 167772161, .int .u16 4000, .int .u32 167772162, .int .u16 80, .int .u32 7, .int .u32 0, .int .u8 2, .int .u16 100, .int .u16 1460, .int .i64 (-1), .bool false, .slice none 0 0, .bool false, .int .u32 0, .int .u32 0, .string { data := #[] }])] w fun e_ w' => e_ = .returned (.tuple #[.string S, .int .i64 0]) ∧ Up w w') := fun w => by
    have := encV w (seg_g0 w none 0) good_g0
    rw [EVP_ok may_g0, ← hS] at this
    exact this
  have H2 : Hid (∀ w, Calls Try.prog 9 #[.string S] w fun e_ w' => ∃ A c, e_ = .returned (.tuple #[(.agg #[.int .u32 167772161, .int .u16 4000, .int .u32 167772162, .int .u16 80, .int .u32 7, .int .u32 0, .int .u8 2, .int .u16 100, .int .u16 1460, .int .i64 (-1), .bool false, .slice A 0 c, .bool false, .int .u32 0, .int .u32 0, .string { data := #[] }]), .int .i64 0]) ∧ Up w w') := fun w => by
    refine (decodeC S w (by rw [hS, len_g0]; decide)).mono ?_
    rintro e w' ⟨x, rfl, ⟨A, n, c, rfl, hn, _⟩, hu⟩
    rw [hS, L_tx, decP_ok hed.1, hed.2] at hn ⊢
    rw [hed.1]
    have hn0 : 0 = n := hn
    subst hn0
    exact ⟨A, c, rfl, hu⟩
  have H3 : Hid (∀ w, Calls Try.prog 9 #[.string { data := #[] }] w fun e_ w' => ∃ A n c, e_ = .returned (.tuple #[SA 0 0 0 0 0 0 0 0 0 0 false A n c false 0 0 { data := #[] }, .int .i64 50]) ∧ Up w w') := fun w => by
    refine (decodeC ByteArray.empty w (by decide)).mono ?_
    rintro e w' ⟨x, rfl, ⟨A, n, c, rfl, hn, _⟩, hu⟩
    have he : errP (L ByteArray.empty) = 50 := by decide +kernel
    rw [decP_bad (by rw [he]; decide), he]
    exact ⟨A, n, c, rfl, hu⟩
  have H4 : Hid (∀ w, Calls Try.prog 8 #[(.agg #[.int .u32 0, .int .u16 0, .int .u32 0, .int .u16 0, .int .u32 0, .int .u32 0, .int .u8 3, .int .u16 0, .int .u16 0, .int .i64 (-1), .bool false, .slice none 0 0, .bool false, .int .u32 0, .int .u32 0, .string { data := #[] }])] w fun e_ w' => e_ = .returned (.tuple #[.string { data := #[] }, .int .i64 2]) ∧ Up w w') := fun w => by
    have := encV w (seg_b0 w) good_b0
    rw [EVP_no may_b0] at this
    exact this
  have H0 : Hid (∀ w, Calls Try.prog 14 #[] w fun e_ w' => e_ = .returned (.agg #[.int .u16 0, .int .i64 (-1), .bool false, .slice none 0 0, .bool false, .int .u32 0, .int .u32 0]) ∧ Up w w') := fun w => op.noneC w
  have H5 : Hid (∀ w, Calls Try.prog 10 #[.string S, (.agg #[.int .u32 1, .int .u16 2, .int .u32 3, .int .u16 4, .int .u32 5, .int .u32 6, .int .u32 0, .int .u32 0, .int .i64 1, .int .i64 0])] w fun e_ w' => e_ = .returned (.tuple #[.string R, .int .i64 0]) ∧ Up w w') := fun w => by
    have := rewriteC S 1 2 3 4 5 6 0 0 1 0 w (by rw [hS, len_g0]; decide) wf_x0
    have e : RWV (L S) ⟨1, 3, 2, 4, 5, 6, 0, 0, 1, 0⟩ = .tuple #[.string R, .int .i64 0] := by
      unfold RWV
      rw [hS, L_tx, if_pos hed.1, show rwP ⟨1, 3, 2, 4, 5, 6, 0, 0, 1, 0⟩ (encS g0) = encS (tS x0 g0) from rw_enc may_g0 wf_g0 wf_x0, t0_is, hR]
    rw [e] at this
    exact this
  have hRz : R.size ≤ 1048576 := by rw [hR, tx_size, ← t0_is, enc_len]; decide +kernel
  have H6 : Hid (∀ w, Calls Try.prog 9 #[.string R] w fun e_ w' => ∃ A c, e_ = .returned (.tuple #[(.agg #[.int .u32 1, .int .u16 2, .int .u32 3, .int .u16 4, .int .u32 12, .int .u32 0, .int .u8 2, .int .u16 200, .int .u16 1460, .int .i64 (-1), .bool false, .slice A 0 c, .bool false, .int .u32 0, .int .u32 0, .string { data := #[] }]), .int .i64 0]) ∧ Up w w') := fun w => by
    refine (decodeC R w hRz).mono ?_
    rintro e w' ⟨x, rfl, ⟨A, n, c, rfl, hn, _⟩, hu⟩
    rw [hR, L_tx, decP_ok het.1, het.2] at hn ⊢
    rw [het.1]
    have hn0 : 0 = n := hn
    subst hn0
    exact ⟨A, c, rfl, hu⟩
  have good_t0 : GoodS t0 := by rw [← t0_is]; exact good_t wf_x0 good_g0
  have H7 : Hid (∀ w A c, Calls Try.prog 12 #[(.agg #[.int .u32 167772161, .int .u16 4000, .int .u32 167772162, .int .u16 80, .int .u32 7, .int .u32 0, .int .u8 2, .int .u16 100, .int .u16 1460, .int .i64 (-1), .bool false, .slice A 0 c, .bool false, .int .u32 0, .int .u32 0, .string { data := #[] }]), (.agg #[.int .u32 167772161, .int .u16 4000, .int .u32 167772162, .int .u16 80, .int .u32 7, .int .u32 0, .int .u8 2, .int .u16 100, .int .u16 1460, .int .i64 (-1), .bool false, .slice none 0 0, .bool false, .int .u32 0, .int .u32 0, .string { data := #[] }])] w fun e_ w' => e_ = .returned (.bool true) ∧ Up w w') := fun w A c => by
    have := sameC w (seg_g0 w A c) (seg_g0 w none 0) good_g0 good_g0
    rw [sameS_t rfl] at this
    exact this
  have H8 : Hid (∀ w, Calls Try.prog 11 #[(.agg #[.int .u32 167772161, .int .u16 4000, .int .u32 167772162, .int .u16 80, .int .u32 7, .int .u32 0, .int .u8 2, .int .u16 100, .int .u16 1460, .int .i64 (-1), .bool false, .slice none 0 0, .bool false, .int .u32 0, .int .u32 0, .string { data := #[] }]), (.agg #[.int .u32 1, .int .u16 2, .int .u32 3, .int .u16 4, .int .u32 5, .int .u32 6, .int .u32 0, .int .u32 0, .int .i64 1, .int .i64 0])] w fun e_ w' => ∃ A c, e_ = .returned (.agg #[.int .u32 1, .int .u16 2, .int .u32 3, .int .u16 4, .int .u32 12, .int .u32 0, .int .u8 2, .int .u16 200, .int .u16 1460, .int .i64 (-1), .bool false, .slice A 0 c, .bool false, .int .u32 0, .int .u32 0, .string { data := #[] }]) ∧ Up w w') := fun w => by
    refine (turnedC 1 2 3 4 5 6 0 0 1 0 w (seg_g0 w none 0) good_g0 wf_x0).mono ?_
    rintro e w' ⟨x, rfl, ⟨A, n, c, rfl, hn, _⟩, hu⟩
    rw [show tS ⟨1, 3, 2, 4, 5, 6, 0, 0, 1, 0⟩ g0 = t0 from t0_is] at hn ⊢
    have hn0 : 0 = n := hn
    subst hn0
    exact ⟨A, c, rfl, hu⟩
  have H9 : Hid (∀ w A c A' c', Calls Try.prog 12 #[(.agg #[.int .u32 1, .int .u16 2, .int .u32 3, .int .u16 4, .int .u32 12, .int .u32 0, .int .u8 2, .int .u16 200, .int .u16 1460, .int .i64 (-1), .bool false, .slice A 0 c, .bool false, .int .u32 0, .int .u32 0, .string { data := #[] }]), (.agg #[.int .u32 1, .int .u16 2, .int .u32 3, .int .u16 4, .int .u32 12, .int .u32 0, .int .u8 2, .int .u16 200, .int .u16 1460, .int .i64 (-1), .bool false, .slice A' 0 c', .bool false, .int .u32 0, .int .u32 0, .string { data := #[] }])] w fun e_ w' => e_ = .returned (.bool true) ∧ Up w w') := fun w A c A' c' => by
    have := sameC w (seg_t0 w A c) (seg_t0 w A' c') good_t0 good_t0
    rw [sameS_t rfl] at this
    exact this
  have H10 : Hid (∀ w, Calls Try.prog 15 #[(.agg #[.int .u32 167772161, .int .u16 4000, .int .u32 167772162, .int .u16 80, .int .u32 7, .int .u32 0, .int .u8 2, .int .u16 100, .int .u16 1460, .int .i64 (-1), .bool false, .slice none 0 0, .bool false, .int .u32 0, .int .u32 0, .string { data := #[] }])] w fun e_ w' => e_ = .returned (.int .u32 8) ∧ Up w w') := fun w => nextV w (seg_g0 w none 0) good_g0
  have H11 : Hid (∀ w, Calls Try.prog 16 #[(.agg #[.int .u32 167772161, .int .u16 4000, .int .u32 167772162, .int .u16 80, .int .u32 7, .int .u32 0, .int .u8 2, .int .u16 100, .int .u16 1460, .int .i64 (-1), .bool false, .slice none 0 0, .bool false, .int .u32 0, .int .u32 0, .string { data := #[] }])] w fun e_ w' => e_ = .returned (.bool true) ∧ Up w w') := fun w => by
    have := mayV w (seg_g0 w none 0) good_g0
    rw [maysb_t may_g0] at this
    exact this
  clear hed het good_t0 hS hR hRz
  go_enter Try.func7, Try.ntmps7
  go_wp2_with fail
  refine (segC _).mono ?_
  rintro e_ w1 ⟨rfl, hv1⟩
  have hu1 := hv1
  clear hv1
  go_wp2_with fail
  refine (H1.out _).mono ?_
  rintro e_ w2 ⟨rfl, hv2⟩
  have hu2 := hu1.on hv2
  clear hu1 hv2
  go_wp2_with fail
  refine (H2.out _).mono ?_
  rintro e_ w3 ⟨A, c, rfl, hv3⟩
  have hu3 := hu2.on hv3
  clear hu2 hv3
  go_upto_region 3 with fail
  have hG_4 := Box.new w3 #[.int .u32 167772161, .int .u16 4000, .int .u32 167772162, .int .u16 80, .int .u32 7, .int .u32 0, .int .u8 2, .int .u16 100, .int .u16 1460, .int .i64 (-1), .bool false, .slice A 0 c, .bool false, .int .u32 0, .int .u32 0, .string { data := #[] }] 30
  have hu4 := up_al (.cells #[.int .u32 167772161, .int .u16 4000, .int .u32 167772162, .int .u16 80, .int .u32 7, .int .u32 0, .int .u8 2, .int .u16 100, .int .u16 1460, .int .i64 (-1), .bool false, .slice A 0 c, .bool false, .int .u32 0, .int .u32 0, .string { data := #[] }] 30) hu3
  generalize (w3.alloc (.cells #[.int .u32 167772161, .int .u16 4000, .int .u32 167772162, .int .u16 80, .int .u32 7, .int .u32 0, .int .u8 2, .int .u16 100, .int .u16 1460, .int .i64 (-1), .bool false, .slice A 0 c, .bool false, .int .u32 0, .int .u32 0, .string { data := #[] }] 30)) = w4 at hG_4  hu4 ⊢
  generalize w3.heap.size = b4 at hG_4 ⊢
  clear hu3
  go_wp2_with fail
  refine (H3.out _).mono ?_
  rintro e_ w5 ⟨A3, n3, c3, rfl, hv5⟩
  have hu5 := hu4.on hv5
  have hG_5 := hG_4.up hv5
  clear hG_4 hu4 hv5
  go_upto_region 4 with fail
  generalize hz6 : World.alloc w5 _ = w6
  have hv6 : Up w5 w6 := hz6 ▸ up_al _ (Below.refl _ _)
  clear hz6
  have hu6 := hu5.on hv6
  have hG_6 := hG_5.up hv6
  clear hG_5 hu5 hv6
  go_wp2_with fail
  refine (H0.out _).mono ?_
  rintro e_ w7 ⟨rfl, hv7⟩
  have hu7 := hu6.on hv7
  have hG_7 := hG_6.up hv7
  clear hG_6 hu6 hv7
  go_wp2_with fail
  refine (H4.out _).mono ?_
  rintro e_ w8 ⟨rfl, hv8⟩
  have hu8 := hu7.on hv8
  have hG_8 := hG_7.up hv8
  clear hG_7 hu7 hv8
  go_upto_region 6 with fail
  have hX_9 := Box.new w8 #[.int .u32 1, .int .u16 2, .int .u32 3, .int .u16 4, .int .u32 5, .int .u32 6, .int .u32 0, .int .u32 0, .int .i64 1, .int .i64 0] 32
  have hG_9 := hG_8.alloc (.cells #[.int .u32 1, .int .u16 2, .int .u32 3, .int .u16 4, .int .u32 5, .int .u32 6, .int .u32 0, .int .u32 0, .int .i64 1, .int .i64 0] 32)
  have hu9 := up_al (.cells #[.int .u32 1, .int .u16 2, .int .u32 3, .int .u16 4, .int .u32 5, .int .u32 6, .int .u32 0, .int .u32 0, .int .i64 1, .int .i64 0] 32) hu8
  generalize (w8.alloc (.cells #[.int .u32 1, .int .u16 2, .int .u32 3, .int .u16 4, .int .u32 5, .int .u32 6, .int .u32 0, .int .u32 0, .int .i64 1, .int .i64 0] 32)) = w9 at hX_9 hG_9 hu9 ⊢
  generalize w8.heap.size = b9 at hX_9 ⊢
  clear hG_8 hu8
  have l0 := hX_9.at 0 rfl; have l1 := hX_9.at 1 rfl; have l2 := hX_9.at 2 rfl; have l3 := hX_9.at 3 rfl; have l4 := hX_9.at 4 rfl; have l5 := hX_9.at 5 rfl; have l6 := hX_9.at 6 rfl; have l7 := hX_9.at 7 rfl; have l8 := hX_9.at 8 rfl; have l9 := hX_9.at 9 rfl
  go_wp2_with fail
  refine (H5.out _).mono ?_
  rintro e_ w10 ⟨rfl, hv10⟩
  clear l0 l1 l2 l3 l4 l5 l6 l7 l8 l9
  have hu10 := hu9.on hv10
  have hG_10 := hG_9.up hv10
  have hX_10 := hX_9.up hv10
  clear hG_9 hX_9 hu9 hv10
  go_wp2_with fail
  refine (H6.out _).mono ?_
  rintro e_ w11 ⟨A6, c6, rfl, hv11⟩
  have hu11 := hu10.on hv11
  have hG_11 := hG_10.up hv11
  have hX_11 := hX_10.up hv11
  clear hG_10 hX_10 hu10 hv11
  go_upto_region 8 with fail
  have hU_12 := Box.new w11 #[.int .u32 1, .int .u16 2, .int .u32 3, .int .u16 4, .int .u32 12, .int .u32 0, .int .u8 2, .int .u16 200, .int .u16 1460, .int .i64 (-1), .bool false, .slice A6 0 c6, .bool false, .int .u32 0, .int .u32 0, .string { data := #[] }] 30
  have hG_12 := hG_11.alloc (.cells #[.int .u32 1, .int .u16 2, .int .u32 3, .int .u16 4, .int .u32 12, .int .u32 0, .int .u8 2, .int .u16 200, .int .u16 1460, .int .i64 (-1), .bool false, .slice A6 0 c6, .bool false, .int .u32 0, .int .u32 0, .string { data := #[] }] 30)
  have hX_12 := hX_11.alloc (.cells #[.int .u32 1, .int .u16 2, .int .u32 3, .int .u16 4, .int .u32 12, .int .u32 0, .int .u8 2, .int .u16 200, .int .u16 1460, .int .i64 (-1), .bool false, .slice A6 0 c6, .bool false, .int .u32 0, .int .u32 0, .string { data := #[] }] 30)
  have hu12 := up_al (.cells #[.int .u32 1, .int .u16 2, .int .u32 3, .int .u16 4, .int .u32 12, .int .u32 0, .int .u8 2, .int .u16 200, .int .u16 1460, .int .i64 (-1), .bool false, .slice A6 0 c6, .bool false, .int .u32 0, .int .u32 0, .string { data := #[] }] 30) hu11
  generalize (w11.alloc (.cells #[.int .u32 1, .int .u16 2, .int .u32 3, .int .u16 4, .int .u32 12, .int .u32 0, .int .u8 2, .int .u16 200, .int .u16 1460, .int .i64 (-1), .bool false, .slice A6 0 c6, .bool false, .int .u32 0, .int .u32 0, .string { data := #[] }] 30)) = w12 at hU_12 hG_12 hX_12 hu12 ⊢
  generalize w11.heap.size = b12 at hU_12 ⊢
  clear hG_11 hX_11 hu11
  refine wp_region_rel2g (fun W => Up w12 W) (fun W W' => Up W W') (Ys [Det (.string S),
    Det (.int .i64 44),
    Det (.bool true),
    Det (.bool true),
    Det (.int .i64 0),
    Det (.bool true),
    Det (.bool true),
    Det (.bool true),
    Det ((.agg #[.int .u32 167772161, .int .u16 4000, .int .u32 167772162, .int .u16 80, .int .u32 7, .int .u32 0, .int .u8 2, .int .u16 100, .int .u16 1460, .int .i64 (-1), .bool false, .slice A 0 c, .bool false, .int .u32 0, .int .u32 0, .string { data := #[] }])),
    Det ((.agg #[.int .u32 167772161, .int .u16 4000, .int .u32 167772162, .int .u16 80, .int .u32 7, .int .u32 0, .int .u8 2, .int .u16 100, .int .u16 1460, .int .i64 (-1), .bool false, .slice none 0 0, .bool false, .int .u32 0, .int .u32 0, .string { data := #[] }])),
    Det (.bool true),
    Det (.bool true),
    Det (.bool true),
    Det (.int .i64 0),
    Det (.bool true),
    Det (.bool true),
    Det (.bool true),
    Det (.int .i64 50),
    Det (.bool true),
    Det (.bool true),
    Det (.bool true),
    Det (.int .i64 2),
    Det (.bool true),
    Det (.bool true),
    Det (.bool true),
    Det (.int .i64 0),
    Det (.bool true),
    Det (.bool true),
    Det (.bool true),
    Det (.int .i64 0),
    Det (.bool true),
    Det (.bool true),
    Det (.bool true),
    Det (.pointer (some ⟨b12, 4, none⟩)),
    Det (.int .u32 12),
    Det (.bool true),
    Det (.bool true),
    Det (.bool true),
    Det (.pointer (some ⟨b12, 5, none⟩)),
    Det (.int .u32 0),
    Det (.bool true),
    Det (.bool true),
    Det (.bool true),
    Det (.pointer (some ⟨b12, 7, none⟩)),
    Det (.int .u16 200),
    Det (.bool true),
    Det (.bool true),
    Det (.bool true),
    Det (.pointer (some ⟨b12, 2, none⟩)),
    Det (.pointer (some ⟨b12, 3, none⟩)),
    Det (.int .u16 4),
    Det (.bool true),
    Det (.bool true),
    Det (.bool true),
    Det ((.agg #[.int .u32 1, .int .u16 2, .int .u32 3, .int .u16 4, .int .u32 12, .int .u32 0, .int .u8 2, .int .u16 200, .int .u16 1460, .int .i64 (-1), .bool false, .slice A6 0 c6, .bool false, .int .u32 0, .int .u32 0, .string { data := #[] }])),
    Det ((.agg #[.int .u32 167772161, .int .u16 4000, .int .u32 167772162, .int .u16 80, .int .u32 7, .int .u32 0, .int .u8 2, .int .u16 100, .int .u16 1460, .int .i64 (-1), .bool false, .slice none 0 0, .bool false, .int .u32 0, .int .u32 0, .string { data := #[] }])),
    Det ((.agg #[.int .u32 1, .int .u16 2, .int .u32 3, .int .u16 4, .int .u32 5, .int .u32 6, .int .u32 0, .int .u32 0, .int .i64 1, .int .i64 0])),
    TkT,
    Det (.bool true),
    Det (.bool true),
    Det (.bool true),
    Det ((.agg #[.int .u32 167772161, .int .u16 4000, .int .u32 167772162, .int .u16 80, .int .u32 7, .int .u32 0, .int .u8 2, .int .u16 100, .int .u16 1460, .int .i64 (-1), .bool false, .slice none 0 0, .bool false, .int .u32 0, .int .u32 0, .string { data := #[] }])),
    Det (.int .u32 8),
    Det (.bool true),
    Det (.bool true),
    Det (.bool true),
    Det ((.agg #[.int .u32 167772161, .int .u16 4000, .int .u32 167772162, .int .u16 80, .int .u32 7, .int .u32 0, .int .u8 2, .int .u16 100, .int .u16 1460, .int .i64 (-1), .bool false, .slice none 0 0, .bool false, .int .u32 0, .int .u32 0, .string { data := #[] }])),
    Det (.bool true),
    Det (.bool true),
    Det (.bool true)]) (by kernel_rfl) (by kernel_rfl) (up_dr (Below.refl _ _)) (Stable.ys ⟨Det.st _, Det.st _, Det.st _, Det.st _, Det.st _, Det.st _, Det.st _, Det.st _, Det.st _, Det.st _, Det.st _, Det.st _, Det.st _, Det.st _, Det.st _, Det.st _, Det.st _, Det.st _, Det.st _, Det.st _, Det.st _, Det.st _, Det.st _, Det.st _, Det.st _, Det.st _, Det.st _, Det.st _, Det.st _, Det.st _, Det.st _, Det.st _, Det.st _, Det.st _, Det.st _, Det.st _, Det.st _, Det.st _, Det.st _, Det.st _, Det.st _, Det.st _, Det.st _, Det.st _, Det.st _, Det.st _, Det.st _, Det.st _, Det.st _, Det.st _, Det.st _, Det.st _, Det.st _, Det.st _, Det.st _, Det.st _, Det.st _, TkT.st, Det.st _, Det.st _, Det.st _, Det.st _, Det.st _, Det.st _, Det.st _, Det.st _, Det.st _, Det.st _, Det.st _, Det.st _, trivial⟩) [3, 7, 12, 16, 20, 24, 28, 32, 37, 42, 47, 53, 60, 65] (by kernel_rfl) (by intro g hg v w h; simp only [List.mem_cons, List.not_mem_nil, or_false] at hg; rcases hg with rfl | rfl | rfl | rfl | rfl | rfl | rfl | rfl | rfl | rfl | rfl | rfl | rfl | rfl <;> exact h) ?_ ?_
  ·
    refine obligs_cons ?_ ?_
    · as_aux_lemma =>
        intro aa ww hC hdep hvar KK hK
        have d1 : aa.tmps.getD 1 undef = .string S := hvar 1 (slotOk_spec (by kernel_rfl))
        have d1_ := d1; rw [Array.getD_eq_getD_getElem?] at d1_
        clear hdep hvar
        (unfold opTo; go_simp; try simp only [opUpon])
        exact hK _ _ rfl hC (Below.refl _ _)
    refine obligs_cons ?_ ?_
    · as_aux_lemma =>
        intro aa ww hC hdep hvar KK hK
        have d48 : aa.tmps.getD 48 undef = .string S := dep_of hdep 0 48 (by kernel_rfl)
        have d48_ := d48; rw [Array.getD_eq_getD_getElem?] at d48_
        clear hdep hvar
        (unfold opTo; go_simp; try simp only [opUpon])
        exact hK _ _ rfl hC (Below.refl _ _)
    refine obligs_cons ?_ ?_
    · as_aux_lemma =>
        intro aa ww hC hdep hvar KK hK
        have d49 : aa.tmps.getD 49 undef = .int .i64 44 := dep_of hdep 1 49 (by kernel_rfl)
        have d49_ := d49; rw [Array.getD_eq_getD_getElem?] at d49_
        clear hdep hvar
        (unfold opTo; go_simp; try simp only [opUpon])
        exact hK _ _ rfl hC (Below.refl _ _)
    refine obligs_cons ?_ ?_
    · as_aux_lemma =>
        intro aa ww hC hdep hvar KK hK
        have d50 : aa.tmps.getD 50 undef = .bool true := dep_of hdep 2 50 (by kernel_rfl)
        have d50_ := d50; rw [Array.getD_eq_getD_getElem?] at d50_
        clear hdep hvar
        (unfold opTo; go_simp; try simp only [opUpon])
        exact hK _ _ rfl hC (Below.refl _ _)
    refine obligs_cons ?_ ?_
    · as_aux_lemma =>
        intro aa ww hC hdep hvar KK hK
        have d2 : aa.tmps.getD 2 undef = .int .i64 0 := hvar 2 (slotOk_spec (by kernel_rfl))
        have d2_ := d2; rw [Array.getD_eq_getD_getElem?] at d2_
        clear hdep hvar
        (unfold opTo; go_simp; try simp only [opUpon])
        exact hK _ _ rfl hC (Below.refl _ _)
    refine obligs_cons ?_ ?_
    · as_aux_lemma =>
        intro aa ww hC hdep hvar KK hK
        have d52 : aa.tmps.getD 52 undef = .int .i64 0 := dep_of hdep 4 52 (by kernel_rfl)
        have d52_ := d52; rw [Array.getD_eq_getD_getElem?] at d52_
        clear hdep hvar
        (unfold opTo; go_simp; try simp only [opUpon])
        exact hK _ _ rfl hC (Below.refl _ _)
    refine obligs_cons ?_ ?_
    · as_aux_lemma =>
        intro aa ww hC hdep hvar KK hK
        have d51 : aa.tmps.getD 51 undef = .bool true := dep_of hdep 3 51 (by kernel_rfl)
        have d53 : aa.tmps.getD 53 undef = .bool true := dep_of hdep 5 53 (by kernel_rfl)
        have d51_ := d51; rw [Array.getD_eq_getD_getElem?] at d51_
        have d53_ := d53; rw [Array.getD_eq_getD_getElem?] at d53_
        clear hdep hvar
        (unfold opTo; go_simp; try simp only [opUpon])
        exact hK _ _ rfl hC (Below.refl _ _)
    refine obligs_cons ?_ ?_
    · as_aux_lemma =>
        intro aa ww hC hdep hvar KK hK
        have d54 : aa.tmps.getD 54 undef = .bool true := dep_of hdep 6 54 (by kernel_rfl)
        have d54_ := d54; rw [Array.getD_eq_getD_getElem?] at d54_
        clear hdep hvar
        (unfold opTo; go_simp; try simp only [opUpon])
        exact hK _ _ rfl hC (Below.refl _ _)
    refine obligs_cons ?_ ?_
    · as_aux_lemma =>
        intro aa ww hC hdep hvar KK hK
        have d3 : aa.tmps.getD 3 undef = .pointer (some ⟨b4, 0, none⟩) := hvar 3 (slotOk_spec (by kernel_rfl))
        have d3_ := d3; rw [Array.getD_eq_getD_getElem?] at d3_
        clear hdep hvar
        have hb := hG_12.up hC
        have cc0 := hb.at 0 rfl; have cc1 := hb.at 1 rfl; have cc2 := hb.at 2 rfl; have cc3 := hb.at 3 rfl; have cc4 := hb.at 4 rfl; have cc5 := hb.at 5 rfl; have cc6 := hb.at 6 rfl; have cc7 := hb.at 7 rfl; have cc8 := hb.at 8 rfl; have cc9 := hb.at 9 rfl; have cc10 := hb.at 10 rfl; have cc11 := hb.at 11 rfl; have cc12 := hb.at 12 rfl; have cc13 := hb.at 13 rfl; have cc14 := hb.at 14 rfl; have cc15 := hb.at 15 rfl
        (unfold opTo; go_simp; try simp only [opUpon])
        exact hK _ _ rfl hC (Below.refl _ _)
    refine obligs_cons ?_ ?_
    · as_aux_lemma =>
        intro aa ww hC hdep hvar KK hK
        clear hdep hvar
        (unfold opTo; go_simp; try simp only [opUpon])
        exact (segC _).mono fun e w9 h => ⟨_, h.1, hK _ _ rfl (Up.on hC h.2) h.2⟩
    refine obligs_cons ?_ ?_
    · as_aux_lemma =>
        intro aa ww hC hdep hvar KK hK
        have d56 : aa.tmps.getD 56 undef = (.agg #[.int .u32 167772161, .int .u16 4000, .int .u32 167772162, .int .u16 80, .int .u32 7, .int .u32 0, .int .u8 2, .int .u16 100, .int .u16 1460, .int .i64 (-1), .bool false, .slice A 0 c, .bool false, .int .u32 0, .int .u32 0, .string { data := #[] }]) := dep_of hdep 8 56 (by kernel_rfl)
        have d57 : aa.tmps.getD 57 undef = (.agg #[.int .u32 167772161, .int .u16 4000, .int .u32 167772162, .int .u16 80, .int .u32 7, .int .u32 0, .int .u8 2, .int .u16 100, .int .u16 1460, .int .i64 (-1), .bool false, .slice none 0 0, .bool false, .int .u32 0, .int .u32 0, .string { data := #[] }]) := dep_of hdep 9 57 (by kernel_rfl)
        have d56_ := d56; rw [Array.getD_eq_getD_getElem?] at d56_
        have d57_ := d57; rw [Array.getD_eq_getD_getElem?] at d57_
        clear hdep hvar
        (unfold opTo; go_simp; try simp only [opUpon])
        exact (H7.out _ _ _).mono fun e w9 h => ⟨_, h.1, hK _ _ rfl (Up.on hC h.2) h.2⟩
    refine obligs_cons ?_ ?_
    · as_aux_lemma =>
        intro aa ww hC hdep hvar KK hK
        have d55 : aa.tmps.getD 55 undef = .bool true := dep_of hdep 7 55 (by kernel_rfl)
        have d58 : aa.tmps.getD 58 undef = .bool true := dep_of hdep 10 58 (by kernel_rfl)
        have d55_ := d55; rw [Array.getD_eq_getD_getElem?] at d55_
        have d58_ := d58; rw [Array.getD_eq_getD_getElem?] at d58_
        clear hdep hvar
        (unfold opTo; go_simp; try simp only [opUpon])
        exact hK _ _ rfl hC (Below.refl _ _)
    refine obligs_cons ?_ ?_
    · as_aux_lemma =>
        intro aa ww hC hdep hvar KK hK
        have d59 : aa.tmps.getD 59 undef = .bool true := dep_of hdep 11 59 (by kernel_rfl)
        have d59_ := d59; rw [Array.getD_eq_getD_getElem?] at d59_
        clear hdep hvar
        (unfold opTo; go_simp; try simp only [opUpon])
        exact hK _ _ rfl hC (Below.refl _ _)
    refine obligs_cons ?_ ?_
    · as_aux_lemma =>
        intro aa ww hC hdep hvar KK hK
        have d4 : aa.tmps.getD 4 undef = .int .i64 0 := hvar 4 (slotOk_spec (by kernel_rfl))
        have d4_ := d4; rw [Array.getD_eq_getD_getElem?] at d4_
        clear hdep hvar
        (unfold opTo; go_simp; try simp only [opUpon])
        exact hK _ _ rfl hC (Below.refl _ _)
    refine obligs_cons ?_ ?_
    · as_aux_lemma =>
        intro aa ww hC hdep hvar KK hK
        have d61 : aa.tmps.getD 61 undef = .int .i64 0 := dep_of hdep 13 61 (by kernel_rfl)
        have d61_ := d61; rw [Array.getD_eq_getD_getElem?] at d61_
        clear hdep hvar
        (unfold opTo; go_simp; try simp only [opUpon])
        exact hK _ _ rfl hC (Below.refl _ _)
    refine obligs_cons ?_ ?_
    · as_aux_lemma =>
        intro aa ww hC hdep hvar KK hK
        have d60 : aa.tmps.getD 60 undef = .bool true := dep_of hdep 12 60 (by kernel_rfl)
        have d62 : aa.tmps.getD 62 undef = .bool true := dep_of hdep 14 62 (by kernel_rfl)
        have d60_ := d60; rw [Array.getD_eq_getD_getElem?] at d60_
        have d62_ := d62; rw [Array.getD_eq_getD_getElem?] at d62_
        clear hdep hvar
        (unfold opTo; go_simp; try simp only [opUpon])
        exact hK _ _ rfl hC (Below.refl _ _)
    refine obligs_cons ?_ ?_
    · as_aux_lemma =>
        intro aa ww hC hdep hvar KK hK
        have d63 : aa.tmps.getD 63 undef = .bool true := dep_of hdep 15 63 (by kernel_rfl)
        have d63_ := d63; rw [Array.getD_eq_getD_getElem?] at d63_
        clear hdep hvar
        (unfold opTo; go_simp; try simp only [opUpon])
        exact hK _ _ rfl hC (Below.refl _ _)
    refine obligs_cons ?_ ?_
    · as_aux_lemma =>
        intro aa ww hC hdep hvar KK hK
        have d6 : aa.tmps.getD 6 undef = .int .i64 50 := hvar 6 (slotOk_spec (by kernel_rfl))
        have d6_ := d6; rw [Array.getD_eq_getD_getElem?] at d6_
        clear hdep hvar
        (unfold opTo; go_simp; try simp only [opUpon])
        exact hK _ _ rfl hC (Below.refl _ _)
    refine obligs_cons ?_ ?_
    · as_aux_lemma =>
        intro aa ww hC hdep hvar KK hK
        have d65 : aa.tmps.getD 65 undef = .int .i64 50 := dep_of hdep 17 65 (by kernel_rfl)
        have d65_ := d65; rw [Array.getD_eq_getD_getElem?] at d65_
        clear hdep hvar
        (unfold opTo; go_simp; try simp only [opUpon])
        exact hK _ _ rfl hC (Below.refl _ _)
    refine obligs_cons ?_ ?_
    · as_aux_lemma =>
        intro aa ww hC hdep hvar KK hK
        have d64 : aa.tmps.getD 64 undef = .bool true := dep_of hdep 16 64 (by kernel_rfl)
        have d66 : aa.tmps.getD 66 undef = .bool true := dep_of hdep 18 66 (by kernel_rfl)
        have d64_ := d64; rw [Array.getD_eq_getD_getElem?] at d64_
        have d66_ := d66; rw [Array.getD_eq_getD_getElem?] at d66_
        clear hdep hvar
        (unfold opTo; go_simp; try simp only [opUpon])
        exact hK _ _ rfl hC (Below.refl _ _)
    refine obligs_cons ?_ ?_
    · as_aux_lemma =>
        intro aa ww hC hdep hvar KK hK
        have d67 : aa.tmps.getD 67 undef = .bool true := dep_of hdep 19 67 (by kernel_rfl)
        have d67_ := d67; rw [Array.getD_eq_getD_getElem?] at d67_
        clear hdep hvar
        (unfold opTo; go_simp; try simp only [opUpon])
        exact hK _ _ rfl hC (Below.refl _ _)
    refine obligs_cons ?_ ?_
    · as_aux_lemma =>
        intro aa ww hC hdep hvar KK hK
        have d8 : aa.tmps.getD 8 undef = .int .i64 2 := hvar 8 (slotOk_spec (by kernel_rfl))
        have d8_ := d8; rw [Array.getD_eq_getD_getElem?] at d8_
        clear hdep hvar
        (unfold opTo; go_simp; try simp only [opUpon])
        exact hK _ _ rfl hC (Below.refl _ _)
    refine obligs_cons ?_ ?_
    · as_aux_lemma =>
        intro aa ww hC hdep hvar KK hK
        have d69 : aa.tmps.getD 69 undef = .int .i64 2 := dep_of hdep 21 69 (by kernel_rfl)
        have d69_ := d69; rw [Array.getD_eq_getD_getElem?] at d69_
        clear hdep hvar
        (unfold opTo; go_simp; try simp only [opUpon])
        exact hK _ _ rfl hC (Below.refl _ _)
    refine obligs_cons ?_ ?_
    · as_aux_lemma =>
        intro aa ww hC hdep hvar KK hK
        have d68 : aa.tmps.getD 68 undef = .bool true := dep_of hdep 20 68 (by kernel_rfl)
        have d70 : aa.tmps.getD 70 undef = .bool true := dep_of hdep 22 70 (by kernel_rfl)
        have d68_ := d68; rw [Array.getD_eq_getD_getElem?] at d68_
        have d70_ := d70; rw [Array.getD_eq_getD_getElem?] at d70_
        clear hdep hvar
        (unfold opTo; go_simp; try simp only [opUpon])
        exact hK _ _ rfl hC (Below.refl _ _)
    refine obligs_cons ?_ ?_
    · as_aux_lemma =>
        intro aa ww hC hdep hvar KK hK
        have d71 : aa.tmps.getD 71 undef = .bool true := dep_of hdep 23 71 (by kernel_rfl)
        have d71_ := d71; rw [Array.getD_eq_getD_getElem?] at d71_
        clear hdep hvar
        (unfold opTo; go_simp; try simp only [opUpon])
        exact hK _ _ rfl hC (Below.refl _ _)
    refine obligs_cons ?_ ?_
    · as_aux_lemma =>
        intro aa ww hC hdep hvar KK hK
        have d11 : aa.tmps.getD 11 undef = .int .i64 0 := hvar 11 (slotOk_spec (by kernel_rfl))
        have d11_ := d11; rw [Array.getD_eq_getD_getElem?] at d11_
        clear hdep hvar
        (unfold opTo; go_simp; try simp only [opUpon])
        exact hK _ _ rfl hC (Below.refl _ _)
    refine obligs_cons ?_ ?_
    · as_aux_lemma =>
        intro aa ww hC hdep hvar KK hK
        have d73 : aa.tmps.getD 73 undef = .int .i64 0 := dep_of hdep 25 73 (by kernel_rfl)
        have d73_ := d73; rw [Array.getD_eq_getD_getElem?] at d73_
        clear hdep hvar
        (unfold opTo; go_simp; try simp only [opUpon])
        exact hK _ _ rfl hC (Below.refl _ _)
    refine obligs_cons ?_ ?_
    · as_aux_lemma =>
        intro aa ww hC hdep hvar KK hK
        have d72 : aa.tmps.getD 72 undef = .bool true := dep_of hdep 24 72 (by kernel_rfl)
        have d74 : aa.tmps.getD 74 undef = .bool true := dep_of hdep 26 74 (by kernel_rfl)
        have d72_ := d72; rw [Array.getD_eq_getD_getElem?] at d72_
        have d74_ := d74; rw [Array.getD_eq_getD_getElem?] at d74_
        clear hdep hvar
        (unfold opTo; go_simp; try simp only [opUpon])
        exact hK _ _ rfl hC (Below.refl _ _)
    refine obligs_cons ?_ ?_
    · as_aux_lemma =>
        intro aa ww hC hdep hvar KK hK
        have d75 : aa.tmps.getD 75 undef = .bool true := dep_of hdep 27 75 (by kernel_rfl)
        have d75_ := d75; rw [Array.getD_eq_getD_getElem?] at d75_
        clear hdep hvar
        (unfold opTo; go_simp; try simp only [opUpon])
        exact hK _ _ rfl hC (Below.refl _ _)
    refine obligs_cons ?_ ?_
    · as_aux_lemma =>
        intro aa ww hC hdep hvar KK hK
        have d13 : aa.tmps.getD 13 undef = .int .i64 0 := hvar 13 (slotOk_spec (by kernel_rfl))
        have d13_ := d13; rw [Array.getD_eq_getD_getElem?] at d13_
        clear hdep hvar
        (unfold opTo; go_simp; try simp only [opUpon])
        exact hK _ _ rfl hC (Below.refl _ _)
    refine obligs_cons ?_ ?_
    · as_aux_lemma =>
        intro aa ww hC hdep hvar KK hK
        have d77 : aa.tmps.getD 77 undef = .int .i64 0 := dep_of hdep 29 77 (by kernel_rfl)
        have d77_ := d77; rw [Array.getD_eq_getD_getElem?] at d77_
        clear hdep hvar
        (unfold opTo; go_simp; try simp only [opUpon])
        exact hK _ _ rfl hC (Below.refl _ _)
    refine obligs_cons ?_ ?_
    · as_aux_lemma =>
        intro aa ww hC hdep hvar KK hK
        have d76 : aa.tmps.getD 76 undef = .bool true := dep_of hdep 28 76 (by kernel_rfl)
        have d78 : aa.tmps.getD 78 undef = .bool true := dep_of hdep 30 78 (by kernel_rfl)
        have d76_ := d76; rw [Array.getD_eq_getD_getElem?] at d76_
        have d78_ := d78; rw [Array.getD_eq_getD_getElem?] at d78_
        clear hdep hvar
        (unfold opTo; go_simp; try simp only [opUpon])
        exact hK _ _ rfl hC (Below.refl _ _)
    refine obligs_cons ?_ ?_
    · as_aux_lemma =>
        intro aa ww hC hdep hvar KK hK
        have d79 : aa.tmps.getD 79 undef = .bool true := dep_of hdep 31 79 (by kernel_rfl)
        have d79_ := d79; rw [Array.getD_eq_getD_getElem?] at d79_
        clear hdep hvar
        (unfold opTo; go_simp; try simp only [opUpon])
        exact hK _ _ rfl hC (Below.refl _ _)
    refine obligs_cons ?_ ?_
    · as_aux_lemma =>
        intro aa ww hC hdep hvar KK hK
        have d12 : aa.tmps.getD 12 undef = .pointer (some ⟨b12, 0, none⟩) := hvar 12 (slotOk_spec (by kernel_rfl))
        have d12_ := d12; rw [Array.getD_eq_getD_getElem?] at d12_
        clear hdep hvar
        (unfold opTo; go_simp; try simp only [opUpon])
        exact hK _ _ rfl hC (Below.refl _ _)
    refine obligs_cons ?_ ?_
    · as_aux_lemma =>
        intro aa ww hC hdep hvar KK hK
        have d81 : aa.tmps.getD 81 undef = .pointer (some ⟨b12, 4, none⟩) := dep_of hdep 33 81 (by kernel_rfl)
        have d81_ := d81; rw [Array.getD_eq_getD_getElem?] at d81_
        clear hdep hvar
        have cc := (hU_12.up hC).at 4 rfl
        (unfold opTo; go_simp; try simp only [opUpon])
        exact hK _ _ rfl hC (Below.refl _ _)
    refine obligs_cons ?_ ?_
    · as_aux_lemma =>
        intro aa ww hC hdep hvar KK hK
        have d82 : aa.tmps.getD 82 undef = .int .u32 12 := dep_of hdep 34 82 (by kernel_rfl)
        have d82_ := d82; rw [Array.getD_eq_getD_getElem?] at d82_
        clear hdep hvar
        (unfold opTo; go_simp; try simp only [opUpon])
        exact hK _ _ rfl hC (Below.refl _ _)
    refine obligs_cons ?_ ?_
    · as_aux_lemma =>
        intro aa ww hC hdep hvar KK hK
        have d80 : aa.tmps.getD 80 undef = .bool true := dep_of hdep 32 80 (by kernel_rfl)
        have d83 : aa.tmps.getD 83 undef = .bool true := dep_of hdep 35 83 (by kernel_rfl)
        have d80_ := d80; rw [Array.getD_eq_getD_getElem?] at d80_
        have d83_ := d83; rw [Array.getD_eq_getD_getElem?] at d83_
        clear hdep hvar
        (unfold opTo; go_simp; try simp only [opUpon])
        exact hK _ _ rfl hC (Below.refl _ _)
    refine obligs_cons ?_ ?_
    · as_aux_lemma =>
        intro aa ww hC hdep hvar KK hK
        have d84 : aa.tmps.getD 84 undef = .bool true := dep_of hdep 36 84 (by kernel_rfl)
        have d84_ := d84; rw [Array.getD_eq_getD_getElem?] at d84_
        clear hdep hvar
        (unfold opTo; go_simp; try simp only [opUpon])
        exact hK _ _ rfl hC (Below.refl _ _)
    refine obligs_cons ?_ ?_
    · as_aux_lemma =>
        intro aa ww hC hdep hvar KK hK
        have d12 : aa.tmps.getD 12 undef = .pointer (some ⟨b12, 0, none⟩) := hvar 12 (slotOk_spec (by kernel_rfl))
        have d12_ := d12; rw [Array.getD_eq_getD_getElem?] at d12_
        clear hdep hvar
        (unfold opTo; go_simp; try simp only [opUpon])
        exact hK _ _ rfl hC (Below.refl _ _)
    refine obligs_cons ?_ ?_
    · as_aux_lemma =>
        intro aa ww hC hdep hvar KK hK
        have d86 : aa.tmps.getD 86 undef = .pointer (some ⟨b12, 5, none⟩) := dep_of hdep 38 86 (by kernel_rfl)
        have d86_ := d86; rw [Array.getD_eq_getD_getElem?] at d86_
        clear hdep hvar
        have cc := (hU_12.up hC).at 5 rfl
        (unfold opTo; go_simp; try simp only [opUpon])
        exact hK _ _ rfl hC (Below.refl _ _)
    refine obligs_cons ?_ ?_
    · as_aux_lemma =>
        intro aa ww hC hdep hvar KK hK
        have d87 : aa.tmps.getD 87 undef = .int .u32 0 := dep_of hdep 39 87 (by kernel_rfl)
        have d87_ := d87; rw [Array.getD_eq_getD_getElem?] at d87_
        clear hdep hvar
        (unfold opTo; go_simp; try simp only [opUpon])
        exact hK _ _ rfl hC (Below.refl _ _)
    refine obligs_cons ?_ ?_
    · as_aux_lemma =>
        intro aa ww hC hdep hvar KK hK
        have d85 : aa.tmps.getD 85 undef = .bool true := dep_of hdep 37 85 (by kernel_rfl)
        have d88 : aa.tmps.getD 88 undef = .bool true := dep_of hdep 40 88 (by kernel_rfl)
        have d85_ := d85; rw [Array.getD_eq_getD_getElem?] at d85_
        have d88_ := d88; rw [Array.getD_eq_getD_getElem?] at d88_
        clear hdep hvar
        (unfold opTo; go_simp; try simp only [opUpon])
        exact hK _ _ rfl hC (Below.refl _ _)
    refine obligs_cons ?_ ?_
    · as_aux_lemma =>
        intro aa ww hC hdep hvar KK hK
        have d89 : aa.tmps.getD 89 undef = .bool true := dep_of hdep 41 89 (by kernel_rfl)
        have d89_ := d89; rw [Array.getD_eq_getD_getElem?] at d89_
        clear hdep hvar
        (unfold opTo; go_simp; try simp only [opUpon])
        exact hK _ _ rfl hC (Below.refl _ _)
    refine obligs_cons ?_ ?_
    · as_aux_lemma =>
        intro aa ww hC hdep hvar KK hK
        have d12 : aa.tmps.getD 12 undef = .pointer (some ⟨b12, 0, none⟩) := hvar 12 (slotOk_spec (by kernel_rfl))
        have d12_ := d12; rw [Array.getD_eq_getD_getElem?] at d12_
        clear hdep hvar
        (unfold opTo; go_simp; try simp only [opUpon])
        exact hK _ _ rfl hC (Below.refl _ _)
    refine obligs_cons ?_ ?_
    · as_aux_lemma =>
        intro aa ww hC hdep hvar KK hK
        have d91 : aa.tmps.getD 91 undef = .pointer (some ⟨b12, 7, none⟩) := dep_of hdep 43 91 (by kernel_rfl)
        have d91_ := d91; rw [Array.getD_eq_getD_getElem?] at d91_
        clear hdep hvar
        have cc := (hU_12.up hC).at 7 rfl
        (unfold opTo; go_simp; try simp only [opUpon])
        exact hK _ _ rfl hC (Below.refl _ _)
    refine obligs_cons ?_ ?_
    · as_aux_lemma =>
        intro aa ww hC hdep hvar KK hK
        have d92 : aa.tmps.getD 92 undef = .int .u16 200 := dep_of hdep 44 92 (by kernel_rfl)
        have d92_ := d92; rw [Array.getD_eq_getD_getElem?] at d92_
        clear hdep hvar
        (unfold opTo; go_simp; try simp only [opUpon])
        exact hK _ _ rfl hC (Below.refl _ _)
    refine obligs_cons ?_ ?_
    · as_aux_lemma =>
        intro aa ww hC hdep hvar KK hK
        have d90 : aa.tmps.getD 90 undef = .bool true := dep_of hdep 42 90 (by kernel_rfl)
        have d93 : aa.tmps.getD 93 undef = .bool true := dep_of hdep 45 93 (by kernel_rfl)
        have d90_ := d90; rw [Array.getD_eq_getD_getElem?] at d90_
        have d93_ := d93; rw [Array.getD_eq_getD_getElem?] at d93_
        clear hdep hvar
        (unfold opTo; go_simp; try simp only [opUpon])
        exact hK _ _ rfl hC (Below.refl _ _)
    refine obligs_cons ?_ ?_
    · as_aux_lemma =>
        intro aa ww hC hdep hvar KK hK
        have d94 : aa.tmps.getD 94 undef = .bool true := dep_of hdep 46 94 (by kernel_rfl)
        have d94_ := d94; rw [Array.getD_eq_getD_getElem?] at d94_
        clear hdep hvar
        (unfold opTo; go_simp; try simp only [opUpon])
        exact hK _ _ rfl hC (Below.refl _ _)
    refine obligs_cons ?_ ?_
    · as_aux_lemma =>
        intro aa ww hC hdep hvar KK hK
        have d12 : aa.tmps.getD 12 undef = .pointer (some ⟨b12, 0, none⟩) := hvar 12 (slotOk_spec (by kernel_rfl))
        have d12_ := d12; rw [Array.getD_eq_getD_getElem?] at d12_
        clear hdep hvar
        (unfold opTo; go_simp; try simp only [opUpon])
        exact hK _ _ rfl hC (Below.refl _ _)
    refine obligs_cons ?_ ?_
    · as_aux_lemma =>
        intro aa ww hC hdep hvar KK hK
        have d96 : aa.tmps.getD 96 undef = .pointer (some ⟨b12, 2, none⟩) := dep_of hdep 48 96 (by kernel_rfl)
        have d96_ := d96; rw [Array.getD_eq_getD_getElem?] at d96_
        clear hdep hvar
        (unfold opTo; go_simp; try simp only [opUpon])
        exact hK _ _ rfl hC (Below.refl _ _)
    refine obligs_cons ?_ ?_
    · as_aux_lemma =>
        intro aa ww hC hdep hvar KK hK
        have d97 : aa.tmps.getD 97 undef = .pointer (some ⟨b12, 3, none⟩) := dep_of hdep 49 97 (by kernel_rfl)
        have d97_ := d97; rw [Array.getD_eq_getD_getElem?] at d97_
        clear hdep hvar
        have cc := (hU_12.up hC).at 3 rfl
        (unfold opTo; go_simp; try simp only [opUpon])
        exact hK _ _ rfl hC (Below.refl _ _)
    refine obligs_cons ?_ ?_
    · as_aux_lemma =>
        intro aa ww hC hdep hvar KK hK
        have d98 : aa.tmps.getD 98 undef = .int .u16 4 := dep_of hdep 50 98 (by kernel_rfl)
        have d98_ := d98; rw [Array.getD_eq_getD_getElem?] at d98_
        clear hdep hvar
        (unfold opTo; go_simp; try simp only [opUpon])
        exact hK _ _ rfl hC (Below.refl _ _)
    refine obligs_cons ?_ ?_
    · as_aux_lemma =>
        intro aa ww hC hdep hvar KK hK
        have d95 : aa.tmps.getD 95 undef = .bool true := dep_of hdep 47 95 (by kernel_rfl)
        have d99 : aa.tmps.getD 99 undef = .bool true := dep_of hdep 51 99 (by kernel_rfl)
        have d95_ := d95; rw [Array.getD_eq_getD_getElem?] at d95_
        have d99_ := d99; rw [Array.getD_eq_getD_getElem?] at d99_
        clear hdep hvar
        (unfold opTo; go_simp; try simp only [opUpon])
        exact hK _ _ rfl hC (Below.refl _ _)
    refine obligs_cons ?_ ?_
    · as_aux_lemma =>
        intro aa ww hC hdep hvar KK hK
        have d100 : aa.tmps.getD 100 undef = .bool true := dep_of hdep 52 100 (by kernel_rfl)
        have d100_ := d100; rw [Array.getD_eq_getD_getElem?] at d100_
        clear hdep hvar
        (unfold opTo; go_simp; try simp only [opUpon])
        exact hK _ _ rfl hC (Below.refl _ _)
    refine obligs_cons ?_ ?_
    · as_aux_lemma =>
        intro aa ww hC hdep hvar KK hK
        have d12 : aa.tmps.getD 12 undef = .pointer (some ⟨b12, 0, none⟩) := hvar 12 (slotOk_spec (by kernel_rfl))
        have d12_ := d12; rw [Array.getD_eq_getD_getElem?] at d12_
        clear hdep hvar
        have hb := hU_12.up hC
        have cc0 := hb.at 0 rfl; have cc1 := hb.at 1 rfl; have cc2 := hb.at 2 rfl; have cc3 := hb.at 3 rfl; have cc4 := hb.at 4 rfl; have cc5 := hb.at 5 rfl; have cc6 := hb.at 6 rfl; have cc7 := hb.at 7 rfl; have cc8 := hb.at 8 rfl; have cc9 := hb.at 9 rfl; have cc10 := hb.at 10 rfl; have cc11 := hb.at 11 rfl; have cc12 := hb.at 12 rfl; have cc13 := hb.at 13 rfl; have cc14 := hb.at 14 rfl; have cc15 := hb.at 15 rfl
        (unfold opTo; go_simp; try simp only [opUpon])
        exact hK _ _ rfl hC (Below.refl _ _)
    refine obligs_cons ?_ ?_
    · as_aux_lemma =>
        intro aa ww hC hdep hvar KK hK
        clear hdep hvar
        (unfold opTo; go_simp; try simp only [opUpon])
        exact (segC _).mono fun e w9 h => ⟨_, h.1, hK _ _ rfl (Up.on hC h.2) h.2⟩
    refine obligs_cons ?_ ?_
    · as_aux_lemma =>
        intro aa ww hC hdep hvar KK hK
        have d9 : aa.tmps.getD 9 undef = .pointer (some ⟨b9, 0, none⟩) := hvar 9 (slotOk_spec (by kernel_rfl))
        have d9_ := d9; rw [Array.getD_eq_getD_getElem?] at d9_
        clear hdep hvar
        have hb := hX_12.up hC
        have cc0 := hb.at 0 rfl; have cc1 := hb.at 1 rfl; have cc2 := hb.at 2 rfl; have cc3 := hb.at 3 rfl; have cc4 := hb.at 4 rfl; have cc5 := hb.at 5 rfl; have cc6 := hb.at 6 rfl; have cc7 := hb.at 7 rfl; have cc8 := hb.at 8 rfl; have cc9 := hb.at 9 rfl
        (unfold opTo; go_simp; try simp only [opUpon])
        exact hK _ _ rfl hC (Below.refl _ _)
    refine obligs_cons ?_ ?_
    · as_aux_lemma =>
        intro aa ww hC hdep hvar KK hK
        have d103 : aa.tmps.getD 103 undef = (.agg #[.int .u32 167772161, .int .u16 4000, .int .u32 167772162, .int .u16 80, .int .u32 7, .int .u32 0, .int .u8 2, .int .u16 100, .int .u16 1460, .int .i64 (-1), .bool false, .slice none 0 0, .bool false, .int .u32 0, .int .u32 0, .string { data := #[] }]) := dep_of hdep 55 103 (by kernel_rfl)
        have d104 : aa.tmps.getD 104 undef = (.agg #[.int .u32 1, .int .u16 2, .int .u32 3, .int .u16 4, .int .u32 5, .int .u32 6, .int .u32 0, .int .u32 0, .int .i64 1, .int .i64 0]) := dep_of hdep 56 104 (by kernel_rfl)
        have d103_ := d103; rw [Array.getD_eq_getD_getElem?] at d103_
        have d104_ := d104; rw [Array.getD_eq_getD_getElem?] at d104_
        clear hdep hvar
        (unfold opTo; go_simp; try simp only [opUpon])
        refine (H8.out _).mono ?_; rintro e w9 ⟨A9, c9, rfl, hu9⟩; exact ⟨_, rfl, hK _ _ ⟨A9, c9, rfl⟩ (Up.on hC hu9) hu9⟩
    refine obligs_cons ?_ ?_
    · as_aux_lemma =>
        intro aa ww hC hdep hvar KK hK
        have d102 : aa.tmps.getD 102 undef = (.agg #[.int .u32 1, .int .u16 2, .int .u32 3, .int .u16 4, .int .u32 12, .int .u32 0, .int .u8 2, .int .u16 200, .int .u16 1460, .int .i64 (-1), .bool false, .slice A6 0 c6, .bool false, .int .u32 0, .int .u32 0, .string { data := #[] }]) := dep_of hdep 54 102 (by kernel_rfl)
        obtain ⟨A9, c9, d105⟩ : TkT (aa.tmps.getD 105 undef) ww := dep_of hdep 57 105 (by kernel_rfl)
        have d102_ := d102; rw [Array.getD_eq_getD_getElem?] at d102_
        have d105_ := d105; rw [Array.getD_eq_getD_getElem?] at d105_
        clear hdep hvar
        (unfold opTo; go_simp; try simp only [opUpon])
        exact (H9.out _ _ _ _ _).mono fun e w9 h => ⟨_, h.1, hK _ _ rfl (Up.on hC h.2) h.2⟩
    refine obligs_cons ?_ ?_
    · as_aux_lemma =>
        intro aa ww hC hdep hvar KK hK
        have d101 : aa.tmps.getD 101 undef = .bool true := dep_of hdep 53 101 (by kernel_rfl)
        have d106 : aa.tmps.getD 106 undef = .bool true := dep_of hdep 58 106 (by kernel_rfl)
        have d101_ := d101; rw [Array.getD_eq_getD_getElem?] at d101_
        have d106_ := d106; rw [Array.getD_eq_getD_getElem?] at d106_
        clear hdep hvar
        (unfold opTo; go_simp; try simp only [opUpon])
        exact hK _ _ rfl hC (Below.refl _ _)
    refine obligs_cons ?_ ?_
    · as_aux_lemma =>
        intro aa ww hC hdep hvar KK hK
        have d107 : aa.tmps.getD 107 undef = .bool true := dep_of hdep 59 107 (by kernel_rfl)
        have d107_ := d107; rw [Array.getD_eq_getD_getElem?] at d107_
        clear hdep hvar
        (unfold opTo; go_simp; try simp only [opUpon])
        exact hK _ _ rfl hC (Below.refl _ _)
    refine obligs_cons ?_ ?_
    · as_aux_lemma =>
        intro aa ww hC hdep hvar KK hK
        clear hdep hvar
        (unfold opTo; go_simp; try simp only [opUpon])
        exact (segC _).mono fun e w9 h => ⟨_, h.1, hK _ _ rfl (Up.on hC h.2) h.2⟩
    refine obligs_cons ?_ ?_
    · as_aux_lemma =>
        intro aa ww hC hdep hvar KK hK
        have d109 : aa.tmps.getD 109 undef = (.agg #[.int .u32 167772161, .int .u16 4000, .int .u32 167772162, .int .u16 80, .int .u32 7, .int .u32 0, .int .u8 2, .int .u16 100, .int .u16 1460, .int .i64 (-1), .bool false, .slice none 0 0, .bool false, .int .u32 0, .int .u32 0, .string { data := #[] }]) := dep_of hdep 61 109 (by kernel_rfl)
        have d109_ := d109; rw [Array.getD_eq_getD_getElem?] at d109_
        clear hdep hvar
        (unfold opTo; go_simp; try simp only [opUpon])
        exact (H10.out _).mono fun e w9 h => ⟨_, h.1, hK _ _ rfl (Up.on hC h.2) h.2⟩
    refine obligs_cons ?_ ?_
    · as_aux_lemma =>
        intro aa ww hC hdep hvar KK hK
        have d110 : aa.tmps.getD 110 undef = .int .u32 8 := dep_of hdep 62 110 (by kernel_rfl)
        have d110_ := d110; rw [Array.getD_eq_getD_getElem?] at d110_
        clear hdep hvar
        (unfold opTo; go_simp; try simp only [opUpon])
        exact hK _ _ rfl hC (Below.refl _ _)
    refine obligs_cons ?_ ?_
    · as_aux_lemma =>
        intro aa ww hC hdep hvar KK hK
        have d108 : aa.tmps.getD 108 undef = .bool true := dep_of hdep 60 108 (by kernel_rfl)
        have d111 : aa.tmps.getD 111 undef = .bool true := dep_of hdep 63 111 (by kernel_rfl)
        have d108_ := d108; rw [Array.getD_eq_getD_getElem?] at d108_
        have d111_ := d111; rw [Array.getD_eq_getD_getElem?] at d111_
        clear hdep hvar
        (unfold opTo; go_simp; try simp only [opUpon])
        exact hK _ _ rfl hC (Below.refl _ _)
    refine obligs_cons ?_ ?_
    · as_aux_lemma =>
        intro aa ww hC hdep hvar KK hK
        have d112 : aa.tmps.getD 112 undef = .bool true := dep_of hdep 64 112 (by kernel_rfl)
        have d112_ := d112; rw [Array.getD_eq_getD_getElem?] at d112_
        clear hdep hvar
        (unfold opTo; go_simp; try simp only [opUpon])
        exact hK _ _ rfl hC (Below.refl _ _)
    refine obligs_cons ?_ ?_
    · as_aux_lemma =>
        intro aa ww hC hdep hvar KK hK
        clear hdep hvar
        (unfold opTo; go_simp; try simp only [opUpon])
        exact (segC _).mono fun e w9 h => ⟨_, h.1, hK _ _ rfl (Up.on hC h.2) h.2⟩
    refine obligs_cons ?_ ?_
    · as_aux_lemma =>
        intro aa ww hC hdep hvar KK hK
        have d114 : aa.tmps.getD 114 undef = (.agg #[.int .u32 167772161, .int .u16 4000, .int .u32 167772162, .int .u16 80, .int .u32 7, .int .u32 0, .int .u8 2, .int .u16 100, .int .u16 1460, .int .i64 (-1), .bool false, .slice none 0 0, .bool false, .int .u32 0, .int .u32 0, .string { data := #[] }]) := dep_of hdep 66 114 (by kernel_rfl)
        have d114_ := d114; rw [Array.getD_eq_getD_getElem?] at d114_
        clear hdep hvar
        (unfold opTo; go_simp; try simp only [opUpon])
        exact (H11.out _).mono fun e w9 h => ⟨_, h.1, hK _ _ rfl (Up.on hC h.2) h.2⟩
    refine obligs_cons ?_ ?_
    · as_aux_lemma =>
        intro aa ww hC hdep hvar KK hK
        have d113 : aa.tmps.getD 113 undef = .bool true := dep_of hdep 65 113 (by kernel_rfl)
        have d115 : aa.tmps.getD 115 undef = .bool true := dep_of hdep 67 115 (by kernel_rfl)
        have d113_ := d113; rw [Array.getD_eq_getD_getElem?] at d113_
        have d115_ := d115; rw [Array.getD_eq_getD_getElem?] at d115_
        clear hdep hvar
        (unfold opTo; go_simp; try simp only [opUpon])
        exact hK _ _ rfl hC (Below.refl _ _)
    refine obligs_cons ?_ ?_
    · as_aux_lemma =>
        intro aa ww hC hdep hvar KK hK
        have d116 : aa.tmps.getD 116 undef = .bool true := dep_of hdep 68 116 (by kernel_rfl)
        have d116_ := d116; rw [Array.getD_eq_getD_getElem?] at d116_
        clear hdep hvar
        (unfold opTo; go_simp; try simp only [opUpon])
        exact hK _ _ rfl hC (Below.refl _ _)
    exact obligs_nil
  intro vals ww hC hY
  have e0 : vals 0 = .string S := hY 0 _ _ rfl rfl
  have e1 : vals 1 = .int .i64 44 := hY 1 _ _ rfl rfl
  have e2 : vals 2 = .bool true := hY 2 _ _ rfl rfl
  have e3 : vals 3 = .bool true := hY 3 _ _ rfl rfl
  have e4 : vals 4 = .int .i64 0 := hY 4 _ _ rfl rfl
  have e5 : vals 5 = .bool true := hY 5 _ _ rfl rfl
  have e6 : vals 6 = .bool true := hY 6 _ _ rfl rfl
  have e7 : vals 7 = .bool true := hY 7 _ _ rfl rfl
  have e8 : vals 8 = (.agg #[.int .u32 167772161, .int .u16 4000, .int .u32 167772162, .int .u16 80, .int .u32 7, .int .u32 0, .int .u8 2, .int .u16 100, .int .u16 1460, .int .i64 (-1), .bool false, .slice A 0 c, .bool false, .int .u32 0, .int .u32 0, .string { data := #[] }]) := hY 8 _ _ rfl rfl
  have e9 : vals 9 = (.agg #[.int .u32 167772161, .int .u16 4000, .int .u32 167772162, .int .u16 80, .int .u32 7, .int .u32 0, .int .u8 2, .int .u16 100, .int .u16 1460, .int .i64 (-1), .bool false, .slice none 0 0, .bool false, .int .u32 0, .int .u32 0, .string { data := #[] }]) := hY 9 _ _ rfl rfl
  have e10 : vals 10 = .bool true := hY 10 _ _ rfl rfl
  have e11 : vals 11 = .bool true := hY 11 _ _ rfl rfl
  have e12 : vals 12 = .bool true := hY 12 _ _ rfl rfl
  have e13 : vals 13 = .int .i64 0 := hY 13 _ _ rfl rfl
  have e14 : vals 14 = .bool true := hY 14 _ _ rfl rfl
  have e15 : vals 15 = .bool true := hY 15 _ _ rfl rfl
  have e16 : vals 16 = .bool true := hY 16 _ _ rfl rfl
  have e17 : vals 17 = .int .i64 50 := hY 17 _ _ rfl rfl
  have e18 : vals 18 = .bool true := hY 18 _ _ rfl rfl
  have e19 : vals 19 = .bool true := hY 19 _ _ rfl rfl
  have e20 : vals 20 = .bool true := hY 20 _ _ rfl rfl
  have e21 : vals 21 = .int .i64 2 := hY 21 _ _ rfl rfl
  have e22 : vals 22 = .bool true := hY 22 _ _ rfl rfl
  have e23 : vals 23 = .bool true := hY 23 _ _ rfl rfl
  have e24 : vals 24 = .bool true := hY 24 _ _ rfl rfl
  have e25 : vals 25 = .int .i64 0 := hY 25 _ _ rfl rfl
  have e26 : vals 26 = .bool true := hY 26 _ _ rfl rfl
  have e27 : vals 27 = .bool true := hY 27 _ _ rfl rfl
  have e28 : vals 28 = .bool true := hY 28 _ _ rfl rfl
  have e29 : vals 29 = .int .i64 0 := hY 29 _ _ rfl rfl
  have e30 : vals 30 = .bool true := hY 30 _ _ rfl rfl
  have e31 : vals 31 = .bool true := hY 31 _ _ rfl rfl
  have e32 : vals 32 = .bool true := hY 32 _ _ rfl rfl
  have e33 : vals 33 = .pointer (some ⟨b12, 4, none⟩) := hY 33 _ _ rfl rfl
  have e34 : vals 34 = .int .u32 12 := hY 34 _ _ rfl rfl
  have e35 : vals 35 = .bool true := hY 35 _ _ rfl rfl
  have e36 : vals 36 = .bool true := hY 36 _ _ rfl rfl
  have e37 : vals 37 = .bool true := hY 37 _ _ rfl rfl
  have e38 : vals 38 = .pointer (some ⟨b12, 5, none⟩) := hY 38 _ _ rfl rfl
  have e39 : vals 39 = .int .u32 0 := hY 39 _ _ rfl rfl
  have e40 : vals 40 = .bool true := hY 40 _ _ rfl rfl
  have e41 : vals 41 = .bool true := hY 41 _ _ rfl rfl
  have e42 : vals 42 = .bool true := hY 42 _ _ rfl rfl
  have e43 : vals 43 = .pointer (some ⟨b12, 7, none⟩) := hY 43 _ _ rfl rfl
  have e44 : vals 44 = .int .u16 200 := hY 44 _ _ rfl rfl
  have e45 : vals 45 = .bool true := hY 45 _ _ rfl rfl
  have e46 : vals 46 = .bool true := hY 46 _ _ rfl rfl
  have e47 : vals 47 = .bool true := hY 47 _ _ rfl rfl
  have e48 : vals 48 = .pointer (some ⟨b12, 2, none⟩) := hY 48 _ _ rfl rfl
  have e49 : vals 49 = .pointer (some ⟨b12, 3, none⟩) := hY 49 _ _ rfl rfl
  have e50 : vals 50 = .int .u16 4 := hY 50 _ _ rfl rfl
  have e51 : vals 51 = .bool true := hY 51 _ _ rfl rfl
  have e52 : vals 52 = .bool true := hY 52 _ _ rfl rfl
  have e53 : vals 53 = .bool true := hY 53 _ _ rfl rfl
  have e54 : vals 54 = (.agg #[.int .u32 1, .int .u16 2, .int .u32 3, .int .u16 4, .int .u32 12, .int .u32 0, .int .u8 2, .int .u16 200, .int .u16 1460, .int .i64 (-1), .bool false, .slice A6 0 c6, .bool false, .int .u32 0, .int .u32 0, .string { data := #[] }]) := hY 54 _ _ rfl rfl
  have e55 : vals 55 = (.agg #[.int .u32 167772161, .int .u16 4000, .int .u32 167772162, .int .u16 80, .int .u32 7, .int .u32 0, .int .u8 2, .int .u16 100, .int .u16 1460, .int .i64 (-1), .bool false, .slice none 0 0, .bool false, .int .u32 0, .int .u32 0, .string { data := #[] }]) := hY 55 _ _ rfl rfl
  have e56 : vals 56 = (.agg #[.int .u32 1, .int .u16 2, .int .u32 3, .int .u16 4, .int .u32 5, .int .u32 6, .int .u32 0, .int .u32 0, .int .i64 1, .int .i64 0]) := hY 56 _ _ rfl rfl
  obtain ⟨A9, c9, e57⟩ : TkT (vals 57) ww := hY 57 _ _ rfl rfl
  have e58 : vals 58 = .bool true := hY 58 _ _ rfl rfl
  have e59 : vals 59 = .bool true := hY 59 _ _ rfl rfl
  have e60 : vals 60 = .bool true := hY 60 _ _ rfl rfl
  have e61 : vals 61 = (.agg #[.int .u32 167772161, .int .u16 4000, .int .u32 167772162, .int .u16 80, .int .u32 7, .int .u32 0, .int .u8 2, .int .u16 100, .int .u16 1460, .int .i64 (-1), .bool false, .slice none 0 0, .bool false, .int .u32 0, .int .u32 0, .string { data := #[] }]) := hY 61 _ _ rfl rfl
  have e62 : vals 62 = .int .u32 8 := hY 62 _ _ rfl rfl
  have e63 : vals 63 = .bool true := hY 63 _ _ rfl rfl
  have e64 : vals 64 = .bool true := hY 64 _ _ rfl rfl
  have e65 : vals 65 = .bool true := hY 65 _ _ rfl rfl
  have e66 : vals 66 = (.agg #[.int .u32 167772161, .int .u16 4000, .int .u32 167772162, .int .u16 80, .int .u32 7, .int .u32 0, .int .u8 2, .int .u16 100, .int .u16 1460, .int .i64 (-1), .bool false, .slice none 0 0, .bool false, .int .u32 0, .int .u32 0, .string { data := #[] }]) := hY 66 _ _ rfl rfl
  have e67 : vals 67 = .bool true := hY 67 _ _ rfl rfl
  have e68 : vals 68 = .bool true := hY 68 _ _ rfl rfl
  have e69 : vals 69 = .bool true := hY 69 _ _ rfl rfl
  clear hY
  simp only [List.append_eq, List.cons_append, List.nil_append]
  simp only [putAll, Act.put, List.setIfInBounds_toArray, List.set_cons_zero, List.set_cons_succ, e0, e1, e2, e3, e4, e5, e6, e7, e8, e9, e10, e11, e12, e13, e14, e15, e16, e17, e18, e19, e20, e21, e22, e23, e24, e25, e26, e27, e28, e29, e30, e31, e32, e33, e34, e35, e36, e37, e38, e39, e40, e41, e42, e43, e44, e45, e46, e47, e48, e49, e50, e51, e52, e53, e54, e55, e56, e57, e58, e59, e60, e61, e62, e63, e64, e65, e66, e67, e68, e69]
  clear e0 e1 e2 e3 e4 e5 e6 e7 e8 e9 e10 e11 e12 e13 e14 e15 e16 e17 e18 e19 e20 e21 e22 e23 e24 e25 e26 e27 e28 e29 e30 e31 e32 e33 e34 e35 e36 e37 e38 e39 e40 e41 e42 e43 e44 e45 e46 e47 e48 e49 e50 e51 e52 e53 e54 e55 e56 e57 e58 e59 e60 e61 e62 e63 e64 e65 e66 e67 e68 e69
  have huE := hu12.on hC
  generalize ww = wE at huE ⊢
  go_wp2
  go_ret
  exact ⟨rfl, huE⟩
end Go.Proofs.Ytafckmbgefbonaa.pk
