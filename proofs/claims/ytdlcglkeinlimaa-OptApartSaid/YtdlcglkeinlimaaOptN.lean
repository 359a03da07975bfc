/- A law of opt, walked over the contracts of its functions: unlike options have unlike bytes; unknown ones say nothing. Condition: the contracts; the arguments fit their kinds. -/
import Derived.Test.YtdlcglkeinlimaaOptJ
namespace Go.Proofs.Ytdlcglkeinlimaa.op
open Go.RowKit Go.Shelf Go.Lib Go.Proofs.Ytdlcglkeinlimaa.sm Go.Proofs.Ytdlcglkeinlimaa.nb Go.Proofs.Ytdlcglkeinlimaa.om
set_option linter.unusedVariables false

theorem str_ne {x y : ByteArray} (h : x ≠ y) : (x.toList == y.toList) = false := by
  rw [ByteArray.toList_eq, ByteArray.toList_eq]
  simp only [beq_eq_false_iff_ne]
  exact fun hh => h (ba_eq hh)
set_option maxHeartbeats 8000000 in
set_option maxRecDepth 100000 in
theorem lawApart (hN : NoneC) (hM : MayC) (hS : SameC) (hE : EncC) (hD : DecC) (hT : TurnC) (m : Nat) (s : Int) (k : Bool) (b : List (Nat × Nat)) (t : Bool) (v e : Nat) (A : Option Addr) (n c : Nat) (m' : Nat) (s' : Int) (k' : Bool) (b' : List (Nat × Nat)) (t' : Bool) (v' e' : Nat) (A' : Option Addr) (n' c' : Nat) (K Z : ByteArray) (w : World) (ho : OkA w m s k b t v e A n) (hp : OkA w m' s' k' b' t' v' e' A' n') (hK : K.size ≤ maxLen) (hZ : Z.size ≤ maxLen) :
    Calls Try.prog 6 #[OA m s k A n c t v e, OA m' s' k' A' n' c' t' v' e', .string K, .string Z] w fun e_ w' => e_ = .returned (.bool true) ∧ Up w w' := by
  have HA := Lib.hid (fun w => aliveC hN hM hS hE hD hT w)
  by_cases hl1 : 100 < n
  · have HL1 : Hid (decide (100 < n) = true) := decide_eq_true hl1
    clear hN hM hS hE hD hT
    go_enter Try.func6, Try.ntmps6
    go_upto_region 1 with fail
    have U0 : Up w ((w.alloc (.cells #[.int .u16 (m : Nat), .int .i64 s, .bool k, .slice A n c, .bool t, .int .u32 (v : Nat), .int .u32 (e : Nat)] 26)).alloc (.cells #[.int .u16 (m' : Nat), .int .i64 s', .bool k', .slice A' n' c', .bool t', .int .u32 (v' : Nat), .int .u32 (e' : Nat)] 26)) := up_al _ (up_al _ (Below.refl _ _))
    have A0 := (Box.new w #[.int .u16 (m : Nat), .int .i64 s, .bool k, .slice A n c, .bool t, .int .u32 (v : Nat), .int .u32 (e : Nat)] 26).alloc (.cells #[.int .u16 (m' : Nat), .int .i64 s', .bool k', .slice A' n' c', .bool t', .int .u32 (v' : Nat), .int .u32 (e' : Nat)] 26)
    have B0 := Box.new (w.alloc (.cells #[.int .u16 (m : Nat), .int .i64 s, .bool k, .slice A n c, .bool t, .int .u32 (v : Nat), .int .u32 (e : Nat)] 26)) #[.int .u16 (m' : Nat), .int .i64 s', .bool k', .slice A' n' c', .bool t', .int .u32 (v' : Nat), .int .u32 (e' : Nat)] 26
    rw [show (w.alloc (.cells #[.int .u16 (m : Nat), .int .i64 s, .bool k, .slice A n c, .bool t, .int .u32 (v : Nat), .int .u32 (e : Nat)] 26)).heap.size = w.heap.size + 1 by simp] at B0
    generalize ((w.alloc (.cells #[.int .u16 (m : Nat), .int .i64 s, .bool k, .slice A n c, .bool t, .int .u32 (v : Nat), .int .u32 (e : Nat)] 26)).alloc (.cells #[.int .u16 (m' : Nat), .int .i64 s', .bool k', .slice A' n' c', .bool t', .int .u32 (v' : Nat), .int .u32 (e' : Nat)] 26)) = w0 at U0 A0 B0 ⊢
    generalize w.heap.size = n0 at A0 B0 ⊢
    obtain ⟨k0, k1, k2, k3, k4, k5, k6⟩ := Box.e7 A0
    go_wp2_with fail
    refine (longC _ _ _ _ _ _ _ _ _ w0).mono ?_
    rintro e_ w1 ⟨rfl, hv1⟩
    rw [HL1.out]
    go_wp2_with fail
    refine (HA.out _).mono ?_
    rintro e_ w9 ⟨rfl, hv9⟩
    go_wp2
    go_ret
    exact ⟨rfl, (U0.on hv1).on hv9⟩
  have HL1 : Hid (decide (100 < n) = false) := decide_eq_false hl1
  by_cases hl2 : 100 < n'
  · have HL2 : Hid (decide (100 < n') = true) := decide_eq_true hl2
    clear hN hM hS hE hD hT
    go_enter Try.func6, Try.ntmps6
    go_upto_region 1 with fail
    have U0 : Up w ((w.alloc (.cells #[.int .u16 (m : Nat), .int .i64 s, .bool k, .slice A n c, .bool t, .int .u32 (v : Nat), .int .u32 (e : Nat)] 26)).alloc (.cells #[.int .u16 (m' : Nat), .int .i64 s', .bool k', .slice A' n' c', .bool t', .int .u32 (v' : Nat), .int .u32 (e' : Nat)] 26)) := up_al _ (up_al _ (Below.refl _ _))
    have A0 := (Box.new w #[.int .u16 (m : Nat), .int .i64 s, .bool k, .slice A n c, .bool t, .int .u32 (v : Nat), .int .u32 (e : Nat)] 26).alloc (.cells #[.int .u16 (m' : Nat), .int .i64 s', .bool k', .slice A' n' c', .bool t', .int .u32 (v' : Nat), .int .u32 (e' : Nat)] 26)
    have B0 := Box.new (w.alloc (.cells #[.int .u16 (m : Nat), .int .i64 s, .bool k, .slice A n c, .bool t, .int .u32 (v : Nat), .int .u32 (e : Nat)] 26)) #[.int .u16 (m' : Nat), .int .i64 s', .bool k', .slice A' n' c', .bool t', .int .u32 (v' : Nat), .int .u32 (e' : Nat)] 26
    rw [show (w.alloc (.cells #[.int .u16 (m : Nat), .int .i64 s, .bool k, .slice A n c, .bool t, .int .u32 (v : Nat), .int .u32 (e : Nat)] 26)).heap.size = w.heap.size + 1 by simp] at B0
    generalize ((w.alloc (.cells #[.int .u16 (m : Nat), .int .i64 s, .bool k, .slice A n c, .bool t, .int .u32 (v : Nat), .int .u32 (e : Nat)] 26)).alloc (.cells #[.int .u16 (m' : Nat), .int .i64 s', .bool k', .slice A' n' c', .bool t', .int .u32 (v' : Nat), .int .u32 (e' : Nat)] 26)) = w0 at U0 A0 B0 ⊢
    generalize w.heap.size = n0 at A0 B0 ⊢
    obtain ⟨k0, k1, k2, k3, k4, k5, k6⟩ := Box.e7 A0
    go_wp2_with fail
    refine (longC _ _ _ _ _ _ _ _ _ w0).mono ?_
    rintro e_ w1 ⟨rfl, hv1⟩
    rw [HL1.out]
    have U1 := U0.on hv1
    have A1 := A0.up hv1
    have B1 := B0.up hv1
    clear k0 k1 k2 k3 k4 k5 k6 A0 B0 U0 hv1
    obtain ⟨m0, m1, m2, m3, m4, m5, m6⟩ := Box.e7 B1
    go_wp2_with fail
    refine (longC _ _ _ _ _ _ _ _ _ w1).mono ?_
    rintro e_ w2 ⟨rfl, hv2⟩
    rw [HL2.out]
    go_wp2_with fail
    refine (HA.out _).mono ?_
    rintro e_ w9 ⟨rfl, hv9⟩
    go_wp2
    go_ret
    exact ⟨rfl, (U1.on hv2).on hv9⟩
  have HL2 : Hid (decide (100 < n') = false) := decide_eq_false hl2
  by_cases hl3 : 20 < K.size
  · have i3 : (20 : Int) < (K.size : Int) := by omega
    clear hN hM hS hE hD hT
    go_enter Try.func6, Try.ntmps6
    go_upto_region 1 with fail
    have U0 : Up w ((w.alloc (.cells #[.int .u16 (m : Nat), .int .i64 s, .bool k, .slice A n c, .bool t, .int .u32 (v : Nat), .int .u32 (e : Nat)] 26)).alloc (.cells #[.int .u16 (m' : Nat), .int .i64 s', .bool k', .slice A' n' c', .bool t', .int .u32 (v' : Nat), .int .u32 (e' : Nat)] 26)) := up_al _ (up_al _ (Below.refl _ _))
    have A0 := (Box.new w #[.int .u16 (m : Nat), .int .i64 s, .bool k, .slice A n c, .bool t, .int .u32 (v : Nat), .int .u32 (e : Nat)] 26).alloc (.cells #[.int .u16 (m' : Nat), .int .i64 s', .bool k', .slice A' n' c', .bool t', .int .u32 (v' : Nat), .int .u32 (e' : Nat)] 26)
    have B0 := Box.new (w.alloc (.cells #[.int .u16 (m : Nat), .int .i64 s, .bool k, .slice A n c, .bool t, .int .u32 (v : Nat), .int .u32 (e : Nat)] 26)) #[.int .u16 (m' : Nat), .int .i64 s', .bool k', .slice A' n' c', .bool t', .int .u32 (v' : Nat), .int .u32 (e' : Nat)] 26
    rw [show (w.alloc (.cells #[.int .u16 (m : Nat), .int .i64 s, .bool k, .slice A n c, .bool t, .int .u32 (v : Nat), .int .u32 (e : Nat)] 26)).heap.size = w.heap.size + 1 by simp] at B0
    generalize ((w.alloc (.cells #[.int .u16 (m : Nat), .int .i64 s, .bool k, .slice A n c, .bool t, .int .u32 (v : Nat), .int .u32 (e : Nat)] 26)).alloc (.cells #[.int .u16 (m' : Nat), .int .i64 s', .bool k', .slice A' n' c', .bool t', .int .u32 (v' : Nat), .int .u32 (e' : Nat)] 26)) = w0 at U0 A0 B0 ⊢
    generalize w.heap.size = n0 at A0 B0 ⊢
    obtain ⟨k0, k1, k2, k3, k4, k5, k6⟩ := Box.e7 A0
    go_wp2_with fail
    refine (longC _ _ _ _ _ _ _ _ _ w0).mono ?_
    rintro e_ w1 ⟨rfl, hv1⟩
    rw [HL1.out]
    have U1 := U0.on hv1
    have A1 := A0.up hv1
    have B1 := B0.up hv1
    clear k0 k1 k2 k3 k4 k5 k6 A0 B0 U0 hv1
    obtain ⟨m0, m1, m2, m3, m4, m5, m6⟩ := Box.e7 B1
    go_wp2_with fail
    refine (longC _ _ _ _ _ _ _ _ _ w1).mono ?_
    rintro e_ w2 ⟨rfl, hv2⟩
    rw [HL2.out]
    go_wp2_with fail
    refine (HA.out _).mono ?_
    rintro e_ w9 ⟨rfl, hv9⟩
    go_wp2
    go_ret
    exact ⟨rfl, (U1.on hv2).on hv9⟩
  have i3 : ¬ (20 : Int) < (K.size : Int) := by omega
  by_cases hl4 : 20 < Z.size
  · have i4 : (20 : Int) < (Z.size : Int) := by omega
    clear hN hM hS hE hD hT
    go_enter Try.func6, Try.ntmps6
    go_upto_region 1 with fail
    have U0 : Up w ((w.alloc (.cells #[.int .u16 (m : Nat), .int .i64 s, .bool k, .slice A n c, .bool t, .int .u32 (v : Nat), .int .u32 (e : Nat)] 26)).alloc (.cells #[.int .u16 (m' : Nat), .int .i64 s', .bool k', .slice A' n' c', .bool t', .int .u32 (v' : Nat), .int .u32 (e' : Nat)] 26)) := up_al _ (up_al _ (Below.refl _ _))
    have A0 := (Box.new w #[.int .u16 (m : Nat), .int .i64 s, .bool k, .slice A n c, .bool t, .int .u32 (v : Nat), .int .u32 (e : Nat)] 26).alloc (.cells #[.int .u16 (m' : Nat), .int .i64 s', .bool k', .slice A' n' c', .bool t', .int .u32 (v' : Nat), .int .u32 (e' : Nat)] 26)
    have B0 := Box.new (w.alloc (.cells #[.int .u16 (m : Nat), .int .i64 s, .bool k, .slice A n c, .bool t, .int .u32 (v : Nat), .int .u32 (e : Nat)] 26)) #[.int .u16 (m' : Nat), .int .i64 s', .bool k', .slice A' n' c', .bool t', .int .u32 (v' : Nat), .int .u32 (e' : Nat)] 26
    rw [show (w.alloc (.cells #[.int .u16 (m : Nat), .int .i64 s, .bool k, .slice A n c, .bool t, .int .u32 (v : Nat), .int .u32 (e : Nat)] 26)).heap.size = w.heap.size + 1 by simp] at B0
    generalize ((w.alloc (.cells #[.int .u16 (m : Nat), .int .i64 s, .bool k, .slice A n c, .bool t, .int .u32 (v : Nat), .int .u32 (e : Nat)] 26)).alloc (.cells #[.int .u16 (m' : Nat), .int .i64 s', .bool k', .slice A' n' c', .bool t', .int .u32 (v' : Nat), .int .u32 (e' : Nat)] 26)) = w0 at U0 A0 B0 ⊢
    generalize w.heap.size = n0 at A0 B0 ⊢
    obtain ⟨k0, k1, k2, k3, k4, k5, k6⟩ := Box.e7 A0
    go_wp2_with fail
    refine (longC _ _ _ _ _ _ _ _ _ w0).mono ?_
    rintro e_ w1 ⟨rfl, hv1⟩
    rw [HL1.out]
    have U1 := U0.on hv1
    have A1 := A0.up hv1
    have B1 := B0.up hv1
    clear k0 k1 k2 k3 k4 k5 k6 A0 B0 U0 hv1
    obtain ⟨m0, m1, m2, m3, m4, m5, m6⟩ := Box.e7 B1
    go_wp2_with fail
    refine (longC _ _ _ _ _ _ _ _ _ w1).mono ?_
    rintro e_ w2 ⟨rfl, hv2⟩
    rw [HL2.out]
    go_wp2_with fail
    refine (HA.out _).mono ?_
    rintro e_ w9 ⟨rfl, hv9⟩
    go_wp2
    go_ret
    exact ⟨rfl, (U1.on hv2).on hv9⟩
  have i4 : ¬ (20 : Int) < (Z.size : Int) := by omega
  have HE1c := Lib.hid (fun w' (h : Up w w') => hE m s k b t v e A n c w' (ho.up h))
  have HE2c := Lib.hid (fun w' (h : Up w w') => hE m' s' k' b' t' v' e' A' n' c' w' (hp.up h))
  have HDC := Lib.hid hD
  have hev : ∀ q : Opz, ∃ (T : ByteArray) (z1 : Int), T.size ≤ 40 ∧ EVo q = .tuple #[.string T, .int .i64 z1] ∧ ((z1 = 0 ∧ om.May q ∧ T = tx (raw q)) ∨ z1 = 2) := fun q => by
    by_cases h : om.May q
    · exact ⟨_, 0, by rw [tx_size, raw_len]; exact h.2.2.2.2, EVo_ok h, .inl ⟨rfl, h, rfl⟩⟩
    · exact ⟨ByteArray.empty, 2, Nat.zero_le _, EVo_no h, .inr rfl⟩
  obtain ⟨T1, z1, hT1, hEva, hC1⟩ := hev ⟨m, s, k, b, t, v, e⟩
  obtain ⟨T2, z2, hT2, hEvb, hC2⟩ := hev ⟨m', s', k', b', t', v', e'⟩
  have HEva := Lib.hid hEva; have HEvb := Lib.hid hEvb; have HC1 := Lib.hid hC1; have HC2 := Lib.hid hC2
  clear hEva hEvb hC1 hC2 hev
  obtain ⟨sb, hsb⟩ : ∃ sb, same ⟨m, s, k, b, t, v, e⟩ ⟨m', s', k', b', t', v', e'⟩ = sb := ⟨_, rfl⟩
  have HSB := Lib.hid hsb
  have HSm := Lib.hid (fun w' (h : Up w w') => hsb ▸ hS m s k b t v e A n c m' s' k' b' t' v' e' A' n' c' w' (ho.up h) (hp.up h))
  clear hsb
  go_enter Try.func6, Try.ntmps6
  go_upto_region 1 with fail
  have U0 : Up w ((w.alloc (.cells #[.int .u16 (m : Nat), .int .i64 s, .bool k, .slice A n c, .bool t, .int .u32 (v : Nat), .int .u32 (e : Nat)] 26)).alloc (.cells #[.int .u16 (m' : Nat), .int .i64 s', .bool k', .slice A' n' c', .bool t', .int .u32 (v' : Nat), .int .u32 (e' : Nat)] 26)) := up_al _ (up_al _ (Below.refl _ _))
  have A0 := (Box.new w #[.int .u16 (m : Nat), .int .i64 s, .bool k, .slice A n c, .bool t, .int .u32 (v : Nat), .int .u32 (e : Nat)] 26).alloc (.cells #[.int .u16 (m' : Nat), .int .i64 s', .bool k', .slice A' n' c', .bool t', .int .u32 (v' : Nat), .int .u32 (e' : Nat)] 26)
  have B0 := Box.new (w.alloc (.cells #[.int .u16 (m : Nat), .int .i64 s, .bool k, .slice A n c, .bool t, .int .u32 (v : Nat), .int .u32 (e : Nat)] 26)) #[.int .u16 (m' : Nat), .int .i64 s', .bool k', .slice A' n' c', .bool t', .int .u32 (v' : Nat), .int .u32 (e' : Nat)] 26
  rw [show (w.alloc (.cells #[.int .u16 (m : Nat), .int .i64 s, .bool k, .slice A n c, .bool t, .int .u32 (v : Nat), .int .u32 (e : Nat)] 26)).heap.size = w.heap.size + 1 by simp] at B0
  generalize ((w.alloc (.cells #[.int .u16 (m : Nat), .int .i64 s, .bool k, .slice A n c, .bool t, .int .u32 (v : Nat), .int .u32 (e : Nat)] 26)).alloc (.cells #[.int .u16 (m' : Nat), .int .i64 s', .bool k', .slice A' n' c', .bool t', .int .u32 (v' : Nat), .int .u32 (e' : Nat)] 26)) = w0 at U0 A0 B0 ⊢
  generalize w.heap.size = n0 at A0 B0 ⊢
  obtain ⟨k0, k1, k2, k3, k4, k5, k6⟩ := Box.e7 A0
  go_wp2_with fail
  refine (longC _ _ _ _ _ _ _ _ _ w0).mono ?_
  rintro e_ w1 ⟨rfl, hv1⟩
  rw [HL1.out]
  have U1 := U0.on hv1
  have A1 := A0.up hv1
  have B1 := B0.up hv1
  clear k0 k1 k2 k3 k4 k5 k6 A0 B0 U0 hv1
  obtain ⟨m0, m1, m2, m3, m4, m5, m6⟩ := Box.e7 B1
  go_wp2_with fail
  refine (longC _ _ _ _ _ _ _ _ _ w1).mono ?_
  rintro e_ w2 ⟨rfl, hv2⟩
  rw [HL2.out]
  have U2 := U1.on hv2
  have A2 := A1.up hv2
  have B2 := B1.up hv2
  clear m0 m1 m2 m3 m4 m5 m6 A1 B1 U1 hv2
  obtain ⟨k0, k1, k2, k3, k4, k5, k6⟩ := Box.e7 A2
  go_wp2_with fail
  refine (HE1c.out w2 U2).mono ?_
  rintro e_ w3 ⟨he, hv3⟩
  rw [HEva.out] at he
  subst he
  have U3 := U2.on hv3
  have A3 := A2.up hv3
  have B3 := B2.up hv3
  clear k0 k1 k2 k3 k4 k5 k6 A2 B2 U2 hv3
  obtain ⟨m0, m1, m2, m3, m4, m5, m6⟩ := Box.e7 B3
  go_wp2_with fail
  refine (HE2c.out w3 U3).mono ?_
  rintro e_ w4 ⟨he, hv4⟩
  rw [HEvb.out] at he
  subst he
  have U4 := U3.on hv4
  have A4 := A3.up hv4
  have B4 := B3.up hv4
  clear m0 m1 m2 m3 m4 m5 m6 A3 B3 U3 hv4
  go_upto_region 5 with fail
  go_cut [58] (fun x wc => x = .bool false ∧ Hid (Up w wc ∧ Box wc n0 [.int .u16 (m : Nat), .int .i64 s, .bool k, .slice A n c, .bool t, .int .u32 (v : Nat), .int .u32 (e : Nat)]))
  case first =>
    rcases HC1.out with ⟨hz1, hM1, hr1⟩ | hz1
    case inr =>
      subst hz1
      go_wp2_with fail
      go_meet
      exact ⟨rfl, U4, A4⟩
    rcases HC2.out with ⟨hz2, hM2, hr2⟩ | hz2
    case inr =>
      subst hz1; subst hz2
      clear hM1 hr1
      go_wp2_with fail
      go_meet
      exact ⟨rfl, U4, A4⟩
    subst hz1; subst hz2
    obtain ⟨k0, k1, k2, k3, k4, k5, k6⟩ := Box.e7 A4
    obtain ⟨m0, m1, m2, m3, m4, m5, m6⟩ := Box.e7 B4
    by_cases heq : T1 = T2
    · have hop : (⟨m, s, k, b, t, v, e⟩ : Opz) = ⟨m', s', k', b', t', v', e'⟩ := raw_inj hM1 hM2 ho.1 hp.1 (by rw [← L_tx (raw ⟨m, s, k, b, t, v, e⟩), ← hr1, heq, hr2, L_tx])
      have hst : sb = true := by rw [← HSB.out]; exact (same_iff _ _).2 hop
      subst heq; subst hst
      clear hop hM1 hM2 hr1 hr2
      go_wp2_with fail
      refine (HSm.out w4 U4).mono ?_
      rintro e_ w5 ⟨rfl, hv5⟩
      go_wp2_with fail
      go_meet
      exact ⟨rfl, U4.on hv5, A4.up hv5⟩
    · have hst : sb = false := by
        cases hs : sb with
        | false => rfl
        | true =>
          exfalso
          have hop := (same_iff ⟨m, s, k, b, t, v, e⟩ ⟨m', s', k', b', t', v', e'⟩).1 (by rw [HSB.out, hs])
          rw [← hop] at hr2
          exact heq (hr1.trans hr2.symm)
      have hne := str_ne heq
      subst hst
      clear hM1 hM2 hr1 hr2
      go_wp2_with fail
      refine (HSm.out w4 U4).mono ?_
      rintro e_ w5 ⟨rfl, hv5⟩
      go_wp2_with fail
      go_meet
      exact ⟨rfl, U4.on hv5, A4.up hv5⟩
  case rest =>
  obtain ⟨rfl, hUA⟩ := hcut
  obtain ⟨U5, A5⟩ := hUA.out
  clear hUA A4 B4 U4 HSm HE1c HE2c HEva HEvb HC2
  obtain ⟨q, hq⟩ : ∃ q, q = 2 + K.size := ⟨_, rfl⟩
  have hq22 : q ≤ 22 := by omega
  have hcv := conv_lit (w := wc) [oct q] 1 rfl #[.int .u8 (2 + (K.size : Int))] (by show _ = #[Value.int .u8 ((oct q).toNat : Int)]; rw [oct_nat (by omega), hq]; simp)
  have HQ0 := Lib.hid hq; clear hq
  have hk20 : K.size ≤ 20 := by omega
  obtain ⟨X1, hX1⟩ : ∃ X, X = { data := #[30] } ++ tx [oct q] := ⟨_, rfl⟩
  obtain ⟨X2, hX2⟩ : ∃ X, X = X1 ++ K := ⟨_, rfl⟩
  obtain ⟨X3, hX3⟩ : ∃ X, X = X2 ++ T1 := ⟨_, rfl⟩
  obtain ⟨X4, hX4⟩ : ∃ X, X = X3 ++ X2 := ⟨_, rfl⟩
  obtain ⟨X5, hX5⟩ : ∃ X, X = X4 ++ { data := #[0] } := ⟨_, rfl⟩
  obtain ⟨X6, hX6⟩ : ∃ X, X = X5 ++ Z := ⟨_, rfl⟩
  have zq : (tx [oct q]).size = 1 := by rw [tx_size]; rfl
  have y1 : X1.size = 2 := by rw [hX1, ByteArray.size_append, zq]; rfl
  have y2 : X2.size = 2 + K.size := by rw [hX2, ByteArray.size_append, y1]
  have y3 : X3.size = 2 + K.size + T1.size := by rw [hX3, ByteArray.size_append, y2]
  have y4 : X4.size = 2 + K.size + T1.size + (2 + K.size) := by rw [hX4, ByteArray.size_append, y3, y2]
  have y5 : X5.size = 2 + K.size + T1.size + (2 + K.size) + 1 := by rw [hX5, ByteArray.size_append, y4]; rfl
  have hb1 : ¬ 9223372036854775807 < 2 + K.size := by omega
  have hb2 : ¬ 9223372036854775807 < 2 + K.size + T1.size := by omega
  have hb3 : ¬ 9223372036854775807 < 2 + K.size + T1.size + (2 + K.size) := by omega
  have hb4 : ¬ 9223372036854775807 < 2 + K.size + T1.size + (2 + K.size) + 1 := by omega
  have hb5 : ¬ 9223372036854775807 < 2 + K.size + T1.size + (2 + K.size) + 1 + Z.size := by omega
  have y6 : X6.size = 2 + K.size + T1.size + (2 + K.size) + 1 + Z.size := by rw [hX6, ByteArray.size_append, y5]
  have HL : Hid (L X6 = 30 :: oct q :: (L K ++ (L T1 ++ (30 :: oct q :: (L K ++ (0 :: L Z)))))) := by
    unfold Hid
    rw [hX6, hX5, hX4, hX3, hX2, hX1]
    simp only [L_app, L_tx]
    simp [L]
  have HX1 := Lib.hid hX1; have HX2 := Lib.hid hX2; have HX3 := Lib.hid hX3; have HX4 := Lib.hid hX4; have HX5 := Lib.hid hX5; have HX6 := Lib.hid hX6
  clear hX1 hX2 hX3 hX4 hX5 hX6
  go_upto_region 8 with fail
  rw [← HX1.out, ← HX2.out]
  have U6 : Up w (wc.alloc (.cells #[.int .u8 (2 + (K.size : Int))] 5)) := up_al _ U5
  have A6 := A5.alloc (.cells #[.int .u8 (2 + (K.size : Int))] 5)
  generalize (wc.alloc (.cells #[.int .u8 (2 + (K.size : Int))] 5)) = w6 at U6 A6 ⊢
  clear U5 A5 hcv
  go_upto_region 9 with fail
  rw [← HX3.out, ← HX4.out, ← HX5.out, ← HX6.out]
  rcases HC1.out with ⟨hz1, hM1, hr1⟩ | hz1
  case inr =>
    subst hz1
    go_wp2_with fail
    refine (HA.out _).mono ?_
    rintro e_ w9 ⟨rfl, hv9⟩
    go_wp2
    go_ret
    exact ⟨rfl, U6.on hv9⟩
  by_cases h40 : 40 < X6.size
  · have j40 : (40 : Int) < (X6.size : Int) := by omega
    subst hz1
    clear hr1 hM1 y1 y2 y3 y4 y5 y6 hb1 hb2 hb3 hb4 hb5
    go_wp2_with fail
    refine (HA.out _).mono ?_
    rintro e_ w9 ⟨rfl, hv9⟩
    go_wp2
    go_ret
    exact ⟨rfl, U6.on hv9⟩
  · have j40 : ¬ (40 : Int) < (X6.size : Int) := by omega
    subst hz1
    have hap := apart hM1 ho.1 (oct q) (L K) (L Z) (by rw [oct_nat (by omega), L_len, HQ0.out]; omega)
    have hL1 : L T1 = raw ⟨m, s, k, b, t, v, e⟩ := by rw [hr1, L_tx]
    have hLX := HL.out
    rw [hL1] at hLX
    rw [← hLX] at hap
    obtain ⟨h0, hdO⟩ := err_0 hap (by rw [L_len]; omega)
    have HZ := Lib.hid h0; have HdO := Lib.hid hdO
    have hX6s : X6.size ≤ 1048576 := by omega
    clear hap hL1 hLX h0 hdO hM1 hr1 y1 y2 y3 y4 y5 y6 hb1 hb2 hb3 hb4 hb5 HL HX1 HX2 HX3 HX4 HX5 HX6 HC1
    go_wp2_with fail
    refine (HDC.out X6 w6 hX6s).mono ?_
    rintro e_ w7 hdz
    obtain ⟨Ap, np, cp, rfl, hok3, hv3⟩ := decZ_ok hdz HdO.out (by rw [L_len]; unfold maxLen; omega)
    rw [HZ.out]
    clear hdz
    go_upto_region 12 with fail
    have U7 : Up w (w7.alloc (.cells #[.int .u16 (m : Nat), .int .i64 s, .bool k, .slice Ap np cp, .bool t, .int .u32 (v : Nat), .int .u32 (e : Nat)] 26)) := up_al _ (U6.on hv3)
    have A7 := (A6.up hv3).alloc (.cells #[.int .u16 (m : Nat), .int .i64 s, .bool k, .slice Ap np cp, .bool t, .int .u32 (v : Nat), .int .u32 (e : Nat)] 26)
    have B7 := Box.new w7 #[.int .u16 (m : Nat), .int .i64 s, .bool k, .slice Ap np cp, .bool t, .int .u32 (v : Nat), .int .u32 (e : Nat)] 26
    have hok4 := hok3.up (up_al (.cells #[.int .u16 (m : Nat), .int .i64 s, .bool k, .slice Ap np cp, .bool t, .int .u32 (v : Nat), .int .u32 (e : Nat)] 26) (Below.refl _ _))
    generalize (w7.alloc (.cells #[.int .u16 (m : Nat), .int .i64 s, .bool k, .slice Ap np cp, .bool t, .int .u32 (v : Nat), .int .u32 (e : Nat)] 26)) = w8 at U7 A7 B7 hok4 ⊢
    generalize w7.heap.size = n15 at B7 ⊢
    clear A6 U6 hv3 hok3
    obtain ⟨k0, k1, k2, k3, k4, k5, k6⟩ := Box.e7 A7
    obtain ⟨m0, m1, m2, m3, m4, m5, m6⟩ := Box.e7 B7
    have HS2 : Hid (Calls Try.prog 15 #[OA m s k Ap np cp t v e, OA m s k A n c t v e] w8 fun e_ w' => e_ = .returned (.bool true) ∧ Up w8 w') := by
      unfold Hid
      have h := hS m s k b t v e Ap np cp m s k b t v e A n c w8 hok4 (ho.up U7)
      rw [same_self] at h
      exact h
    go_wp2_with fail
    refine HS2.out.mono ?_
    rintro e_ w9 ⟨rfl, hv9⟩
    have U8 := U7.on hv9
    go_wp2_with fail
    refine (HA.out _).mono ?_
    rintro e_ w10 ⟨rfl, hv10⟩
    go_wp2
    go_ret
    exact ⟨rfl, U8.on hv10⟩
end Go.Proofs.Ytdlcglkeinlimaa.op
