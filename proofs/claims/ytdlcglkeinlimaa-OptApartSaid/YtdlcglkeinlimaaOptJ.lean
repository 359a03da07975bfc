/- Two laws of opt, walked over the contracts of its functions. Condition: the contracts; the arguments fit their kinds. -/
import Derived.Test.YtdlcglkeinlimaaOptG
import Derived.Test.YtdlcglkeinlimaaOptU
namespace Go.Proofs.Ytdlcglkeinlimaa.op
open Go.RowKit Go.Shelf Go.Lib Go.Proofs.Ytdlcglkeinlimaa.sm Go.Proofs.Ytdlcglkeinlimaa.nb Go.Proofs.Ytdlcglkeinlimaa.om
set_option linter.unusedVariables false

theorem longC (m : Nat) (s : Int) (k t : Bool) (v e : Nat) (A : Option Addr) (n c : Nat) (w : World) :
    Calls Try.prog 7 #[OA m s k A n c t v e] w fun e_ w' => e_ = .returned (.bool (decide (100 < n))) ∧ Up w w' := by
  go_enter Try.func7, Try.ntmps7
  go_wp2
  go_ret
  exact ⟨ret_bool (decide_eq_decide.2 (by omega)), up_al _ (Below.refl _ _)⟩
theorem decZ_ok {l : List UInt8} {w : World} {e_ : Ending} {w' : World} (h : DecZ l w e_ w') {m : Nat} {s : Int} {k : Bool} {b : List (Nat × Nat)} {t : Bool} {v e : Nat} (hd : decO l = ⟨m, s, k, b, t, v, e⟩) (hl : l.length ≤ maxLen) :
    ∃ A n c, e_ = .returned (.tuple #[OA m s k A n c t v e, .int .i64 (err l : Nat)]) ∧ OkA w' m s k b t v e A n ∧ Up w w' := by
  obtain ⟨x, h1, ⟨A, n, c, h2, h3, h4⟩, hu⟩ := h
  obtain ⟨⟨hw, h5, h6⟩, hlen⟩ := decO_rdn l
  rw [hd] at h2 h3 h4 hw h5 h6 hlen
  dsimp only at h3 h4 h5 h6 hlen
  exact ⟨A, n, c, by rw [h1, h2], ⟨hw, ⟨by omega, by omega⟩, h4, h3, by omega⟩, hu⟩
theorem EVo_some (o : Opz) : ∃ (S : ByteArray) (n : Int), EVo o = .tuple #[.string S, .int .i64 n] := by
  unfold EVo; split
  · exact ⟨_, _, rfl⟩
  · exact ⟨_, _, rfl⟩
theorem TV_some (l : List UInt8) (b v e : Nat) : ∃ (S : ByteArray) (n : Int), TV l b v e = .tuple #[.string S, .int .i64 n] := by
  unfold TV; split
  · exact ⟨_, _, rfl⟩
  · exact ⟨_, _, rfl⟩
/-- two options are the same, or not, at all worlds above W -/
structure SamK (F : FuncId) (W : World) (x y : Value) (r : Bool) : Prop where
  run : ∀ t : Kin W, Calls Try.prog F #[x, y] t.w fun e_ w' => e_ = .returned (.bool r) ∧ Below t.w.heap.size t.w w'
theorem samK {F : FuncId} {W : World} {x y : Value} {r : Bool} (h : SamK F W x y r) (t : Kin W) : Calls Try.prog F #[x, y] t.w fun e_ w' => e_ = .returned (.bool r) ∧ Below t.w.heap.size t.w w' := h.run t
theorem same_self (o : Opz) : same o o = true := (same_iff o o).2 rfl
set_option maxHeartbeats 4000000 in
set_option maxRecDepth 100000 in
theorem lawTells (hN : NoneC) (hM : MayC) (hS : SameC) (hE : EncC) (hD : DecC) (hT : TurnC) (m : Nat) (s : Int) (k : Bool) (b : List (Nat × Nat)) (t : Bool) (v e : Nat) (A : Option Addr) (n c : Nat) (m' : Nat) (s' : Int) (k' : Bool) (b' : List (Nat × Nat)) (t' : Bool) (v' e' : Nat) (A' : Option Addr) (n' c' : Nat) (S : ByteArray) (w : World) (ho : OkA w m s k b t v e A n) (hp : OkA w m' s' k' b' t' v' e' A' n') (hz : S.size ≤ maxLen) :
    Calls Try.prog 3 #[OA m s k A n c t v e, OA m' s' k' A' n' c' t' v' e', .string S] w fun e_ w' => e_ = .returned (.bool true) ∧ Up w w' := by
  have HA := Lib.hid (fun w => aliveC hN hM hS hE hD hT w)
  by_cases hl1 : 100 < n
  · have HL1 : Hid (decide (100 < n) = true) := decide_eq_true hl1
    clear hN hM hS hE hD hT
    go_enter Try.func3, Try.ntmps3
    go_upto_region 1 with fail
    have U0 : Up w ((w.alloc (.cells #[.int .u16 (m : Nat), .int .i64 s, .bool k, .slice A n c, .bool t, .int .u32 (v : Nat), .int .u32 (e : Nat)] 26)).alloc (.cells #[.int .u16 (m' : Nat), .int .i64 s', .bool k', .slice A' n' c', .bool t', .int .u32 (v' : Nat), .int .u32 (e' : Nat)] 26)) := up_al _ (up_al _ (Below.refl _ _))
    have A0 := (Box.new w #[.int .u16 (m : Nat), .int .i64 s, .bool k, .slice A n c, .bool t, .int .u32 (v : Nat), .int .u32 (e : Nat)] 26).alloc (.cells #[.int .u16 (m' : Nat), .int .i64 s', .bool k', .slice A' n' c', .bool t', .int .u32 (v' : Nat), .int .u32 (e' : Nat)] 26)
    have B0 := Box.new (w.alloc (.cells #[.int .u16 (m : Nat), .int .i64 s, .bool k, .slice A n c, .bool t, .int .u32 (v : Nat), .int .u32 (e : Nat)] 26)) #[.int .u16 (m' : Nat), .int .i64 s', .bool k', .slice A' n' c', .bool t', .int .u32 (v' : Nat), .int .u32 (e' : Nat)] 26
    rw [show (w.alloc (.cells #[.int .u16 (m : Nat), .int .i64 s, .bool k, .slice A n c, .bool t, .int .u32 (v : Nat), .int .u32 (e : Nat)] 26)).heap.size = w.heap.size + 1 by simp] at B0
    generalize ((w.alloc (.cells #[.int .u16 (m : Nat), .int .i64 s, .bool k, .slice A n c, .bool t, .int .u32 (v : Nat), .int .u32 (e : Nat)] 26)).alloc (.cells #[.int .u16 (m' : Nat), .int .i64 s', .bool k', .slice A' n' c', .bool t', .int .u32 (v' : Nat), .int .u32 (e' : Nat)] 26)) = w0 at U0 A0 B0 ⊢
    generalize w.heap.size = n0 at A0 B0 ⊢
    obtain ⟨k0, k1, k2, k3, k4, k5, k6⟩ := Box.e7 A0
    go_wp2_with fail
    refine (longC _ _ _ _ _ _ _ _ _ w0).mono ?_
    rintro e_ w1 ⟨rfl, hv1⟩
    rw [HL1.out]
    go_wp2_with fail
    refine (HA.out _).mono ?_
    rintro e_ w9 ⟨rfl, hv9⟩
    go_wp2
    go_ret
    exact ⟨rfl, (U0.on hv1).on hv9⟩
  have HL1 : Hid (decide (100 < n) = false) := decide_eq_false hl1
  by_cases hl2 : 100 < n'
  · have HL2 : Hid (decide (100 < n') = true) := decide_eq_true hl2
    clear hN hM hS hE hD hT
    go_enter Try.func3, Try.ntmps3
    go_upto_region 1 with fail
    have U0 : Up w ((w.alloc (.cells #[.int .u16 (m : Nat), .int .i64 s, .bool k, .slice A n c, .bool t, .int .u32 (v : Nat), .int .u32 (e : Nat)] 26)).alloc (.cells #[.int .u16 (m' : Nat), .int .i64 s', .bool k', .slice A' n' c', .bool t', .int .u32 (v' : Nat), .int .u32 (e' : Nat)] 26)) := up_al _ (up_al _ (Below.refl _ _))
    have A0 := (Box.new w #[.int .u16 (m : Nat), .int .i64 s, .bool k, .slice A n c, .bool t, .int .u32 (v : Nat), .int .u32 (e : Nat)] 26).alloc (.cells #[.int .u16 (m' : Nat), .int .i64 s', .bool k', .slice A' n' c', .bool t', .int .u32 (v' : Nat), .int .u32 (e' : Nat)] 26)
    have B0 := Box.new (w.alloc (.cells #[.int .u16 (m : Nat), .int .i64 s, .bool k, .slice A n c, .bool t, .int .u32 (v : Nat), .int .u32 (e : Nat)] 26)) #[.int .u16 (m' : Nat), .int .i64 s', .bool k', .slice A' n' c', .bool t', .int .u32 (v' : Nat), .int .u32 (e' : Nat)] 26
    rw [show (w.alloc (.cells #[.int .u16 (m : Nat), .int .i64 s, .bool k, .slice A n c, .bool t, .int .u32 (v : Nat), .int .u32 (e : Nat)] 26)).heap.size = w.heap.size + 1 by simp] at B0
    generalize ((w.alloc (.cells #[.int .u16 (m : Nat), .int .i64 s, .bool k, .slice A n c, .bool t, .int .u32 (v : Nat), .int .u32 (e : Nat)] 26)).alloc (.cells #[.int .u16 (m' : Nat), .int .i64 s', .bool k', .slice A' n' c', .bool t', .int .u32 (v' : Nat), .int .u32 (e' : Nat)] 26)) = w0 at U0 A0 B0 ⊢
    generalize w.heap.size = n0 at A0 B0 ⊢
    obtain ⟨k0, k1, k2, k3, k4, k5, k6⟩ := Box.e7 A0
    go_wp2_with fail
    refine (longC _ _ _ _ _ _ _ _ _ w0).mono ?_
    rintro e_ w1 ⟨rfl, hv1⟩
    rw [HL1.out]
    have U1 := U0.on hv1
    have A1 := A0.up hv1
    have B1 := B0.up hv1
    clear k0 k1 k2 k3 k4 k5 k6 A0 B0 U0 hv1
    obtain ⟨m0, m1, m2, m3, m4, m5, m6⟩ := Box.e7 B1
    go_wp2_with fail
    refine (longC _ _ _ _ _ _ _ _ _ w1).mono ?_
    rintro e_ w2 ⟨rfl, hv2⟩
    rw [HL2.out]
    go_wp2_with fail
    refine (HA.out _).mono ?_
    rintro e_ w9 ⟨rfl, hv9⟩
    go_wp2
    go_ret
    exact ⟨rfl, (U1.on hv2).on hv9⟩
  have HL2 : Hid (decide (100 < n') = false) := decide_eq_false hl2
  by_cases hl3 : 1024 < S.size
  · have i3 : (1024 : Int) < (S.size : Int) := by omega
    clear hN hM hS hE hD hT
    go_enter Try.func3, Try.ntmps3
    go_upto_region 1 with fail
    have U0 : Up w ((w.alloc (.cells #[.int .u16 (m : Nat), .int .i64 s, .bool k, .slice A n c, .bool t, .int .u32 (v : Nat), .int .u32 (e : Nat)] 26)).alloc (.cells #[.int .u16 (m' : Nat), .int .i64 s', .bool k', .slice A' n' c', .bool t', .int .u32 (v' : Nat), .int .u32 (e' : Nat)] 26)) := up_al _ (up_al _ (Below.refl _ _))
    have A0 := (Box.new w #[.int .u16 (m : Nat), .int .i64 s, .bool k, .slice A n c, .bool t, .int .u32 (v : Nat), .int .u32 (e : Nat)] 26).alloc (.cells #[.int .u16 (m' : Nat), .int .i64 s', .bool k', .slice A' n' c', .bool t', .int .u32 (v' : Nat), .int .u32 (e' : Nat)] 26)
    have B0 := Box.new (w.alloc (.cells #[.int .u16 (m : Nat), .int .i64 s, .bool k, .slice A n c, .bool t, .int .u32 (v : Nat), .int .u32 (e : Nat)] 26)) #[.int .u16 (m' : Nat), .int .i64 s', .bool k', .slice A' n' c', .bool t', .int .u32 (v' : Nat), .int .u32 (e' : Nat)] 26
    rw [show (w.alloc (.cells #[.int .u16 (m : Nat), .int .i64 s, .bool k, .slice A n c, .bool t, .int .u32 (v : Nat), .int .u32 (e : Nat)] 26)).heap.size = w.heap.size + 1 by simp] at B0
    generalize ((w.alloc (.cells #[.int .u16 (m : Nat), .int .i64 s, .bool k, .slice A n c, .bool t, .int .u32 (v : Nat), .int .u32 (e : Nat)] 26)).alloc (.cells #[.int .u16 (m' : Nat), .int .i64 s', .bool k', .slice A' n' c', .bool t', .int .u32 (v' : Nat), .int .u32 (e' : Nat)] 26)) = w0 at U0 A0 B0 ⊢
    generalize w.heap.size = n0 at A0 B0 ⊢
    obtain ⟨k0, k1, k2, k3, k4, k5, k6⟩ := Box.e7 A0
    go_wp2_with fail
    refine (longC _ _ _ _ _ _ _ _ _ w0).mono ?_
    rintro e_ w1 ⟨rfl, hv1⟩
    rw [HL1.out]
    have U1 := U0.on hv1
    have A1 := A0.up hv1
    have B1 := B0.up hv1
    clear k0 k1 k2 k3 k4 k5 k6 A0 B0 U0 hv1
    obtain ⟨m0, m1, m2, m3, m4, m5, m6⟩ := Box.e7 B1
    go_wp2_with fail
    refine (longC _ _ _ _ _ _ _ _ _ w1).mono ?_
    rintro e_ w2 ⟨rfl, hv2⟩
    rw [HL2.out]
    go_wp2_with fail
    refine (HA.out _).mono ?_
    rintro e_ w9 ⟨rfl, hv9⟩
    go_wp2
    go_ret
    exact ⟨rfl, (U1.on hv2).on hv9⟩
  have i3 : ¬ (1024 : Int) < (S.size : Int) := by omega
  obtain ⟨E1, z1, hE1⟩ := EVo_some ⟨m, s, k, b, t, v, e⟩
  obtain ⟨dO, hdO⟩ : ∃ d, decO (L S) = d := ⟨_, rfl⟩
  obtain ⟨dm, ds, dk, db, dt, dv, de⟩ := dO
  have HdO := Lib.hid hdO; clear hdO
  obtain ⟨ez, hez⟩ : ∃ ez, err (L S) = ez := ⟨_, rfl⟩
  have HEZ := Lib.hid hez; clear hez
  have HE1 := Lib.hid hE1; clear hE1
  have hlS : (L S).length ≤ maxLen := hz
  have HE := Lib.hid (fun w' (h : Up w w') => hE m s k b t v e A n c w' (ho.up h))
  have HRE := Lib.hid (fun w' (h : Up w w') => refEncode m s k t v e A n c b w' ho.1 ho.2.2.2.1 (ho.2.2.1.up h))
  have HDC := Lib.hid (fun w' => hD S w' (by omega))
  have HRD := Lib.hid (fun w' => refDecode S w' (by omega))
  go_enter Try.func3, Try.ntmps3
  go_upto_region 1 with fail
  have U0 : Up w ((w.alloc (.cells #[.int .u16 (m : Nat), .int .i64 s, .bool k, .slice A n c, .bool t, .int .u32 (v : Nat), .int .u32 (e : Nat)] 26)).alloc (.cells #[.int .u16 (m' : Nat), .int .i64 s', .bool k', .slice A' n' c', .bool t', .int .u32 (v' : Nat), .int .u32 (e' : Nat)] 26)) := up_al _ (up_al _ (Below.refl _ _))
  have A0 := (Box.new w #[.int .u16 (m : Nat), .int .i64 s, .bool k, .slice A n c, .bool t, .int .u32 (v : Nat), .int .u32 (e : Nat)] 26).alloc (.cells #[.int .u16 (m' : Nat), .int .i64 s', .bool k', .slice A' n' c', .bool t', .int .u32 (v' : Nat), .int .u32 (e' : Nat)] 26)
  have B0 := Box.new (w.alloc (.cells #[.int .u16 (m : Nat), .int .i64 s, .bool k, .slice A n c, .bool t, .int .u32 (v : Nat), .int .u32 (e : Nat)] 26)) #[.int .u16 (m' : Nat), .int .i64 s', .bool k', .slice A' n' c', .bool t', .int .u32 (v' : Nat), .int .u32 (e' : Nat)] 26
  rw [show (w.alloc (.cells #[.int .u16 (m : Nat), .int .i64 s, .bool k, .slice A n c, .bool t, .int .u32 (v : Nat), .int .u32 (e : Nat)] 26)).heap.size = w.heap.size + 1 by simp] at B0
  generalize ((w.alloc (.cells #[.int .u16 (m : Nat), .int .i64 s, .bool k, .slice A n c, .bool t, .int .u32 (v : Nat), .int .u32 (e : Nat)] 26)).alloc (.cells #[.int .u16 (m' : Nat), .int .i64 s', .bool k', .slice A' n' c', .bool t', .int .u32 (v' : Nat), .int .u32 (e' : Nat)] 26)) = w0 at U0 A0 B0 ⊢
  generalize w.heap.size = n0 at A0 B0 ⊢
  obtain ⟨k0, k1, k2, k3, k4, k5, k6⟩ := Box.e7 A0
  go_wp2_with fail
  refine (longC _ _ _ _ _ _ _ _ _ w0).mono ?_
  rintro e_ w1 ⟨rfl, hv1⟩
  rw [HL1.out]
  have U1 := U0.on hv1
  have A1 := A0.up hv1
  have B1 := B0.up hv1
  clear k0 k1 k2 k3 k4 k5 k6 A0 B0 U0 hv1
  obtain ⟨m0, m1, m2, m3, m4, m5, m6⟩ := Box.e7 B1
  go_wp2_with fail
  refine (longC _ _ _ _ _ _ _ _ _ w1).mono ?_
  rintro e_ w2 ⟨rfl, hv2⟩
  rw [HL2.out]
  have U2 := U1.on hv2
  have A2 := A1.up hv2
  have B2 := B1.up hv2
  clear m0 m1 m2 m3 m4 m5 m6 A1 B1 U1 hv2
  obtain ⟨k0, k1, k2, k3, k4, k5, k6⟩ := Box.e7 A2
  go_wp2_with fail
  refine (HE.out w2 U2).mono ?_
  rintro e_ w3 ⟨he, hv3⟩
  rw [HE1.out] at he
  subst he
  have U3 := U2.on hv3
  have A3 := A2.up hv3
  have B3 := B2.up hv3
  clear k0 k1 k2 k3 k4 k5 k6 A2 B2 U2 hv3
  obtain ⟨k0, k1, k2, k3, k4, k5, k6⟩ := Box.e7 A3
  go_wp2_with fail
  refine (HRE.out w3 U3).mono ?_
  rintro e_ w4 ⟨he, hv4⟩
  rw [HE1.out] at he
  subst he
  have U4 := U3.on hv4
  have A4 := A3.up hv4
  have B4 := B3.up hv4
  clear k0 k1 k2 k3 k4 k5 k6 A3 B3 U3 hv4
  go_wp2_with fail
  refine (HDC.out w4).mono ?_
  rintro e_ w5 hdz
  obtain ⟨A3, n3, c3, rfl, hok3, hv5⟩ := decZ_ok hdz HdO.out hlS
  rw [HEZ.out]
  clear hdz
  go_upto_region 6 with fail
  have U5 : Up w (w5.alloc (.cells #[.int .u16 (dm : Nat), .int .i64 ds, .bool dk, .slice A3 n3 c3, .bool dt, .int .u32 (dv : Nat), .int .u32 (de : Nat)] 26)) := up_al _ (U4.on hv5)
  have A5 := (A4.up hv5).alloc (.cells #[.int .u16 (dm : Nat), .int .i64 ds, .bool dk, .slice A3 n3 c3, .bool dt, .int .u32 (dv : Nat), .int .u32 (de : Nat)] 26)
  have B5 := (B4.up hv5).alloc (.cells #[.int .u16 (dm : Nat), .int .i64 ds, .bool dk, .slice A3 n3 c3, .bool dt, .int .u32 (dv : Nat), .int .u32 (de : Nat)] 26)
  have C5 := Box.new w5 #[.int .u16 (dm : Nat), .int .i64 ds, .bool dk, .slice A3 n3 c3, .bool dt, .int .u32 (dv : Nat), .int .u32 (de : Nat)] 26
  have hok5 := hok3.up (up_al (.cells #[.int .u16 (dm : Nat), .int .i64 ds, .bool dk, .slice A3 n3 c3, .bool dt, .int .u32 (dv : Nat), .int .u32 (de : Nat)] 26) (Below.refl _ _))
  generalize (w5.alloc (.cells #[.int .u16 (dm : Nat), .int .i64 ds, .bool dk, .slice A3 n3 c3, .bool dt, .int .u32 (dv : Nat), .int .u32 (de : Nat)] 26)) = w6 at U5 A5 B5 C5 hok5 ⊢
  generalize w5.heap.size = n5 at C5 ⊢
  clear A4 B4 U4 hv5 hok3
  go_wp2_with fail
  refine (HRD.out w6).mono ?_
  rintro e_ w7 hdz
  obtain ⟨A4, n4, c4, rfl, hok4, hv7⟩ := decZ_ok hdz HdO.out hlS
  rw [HEZ.out]
  clear hdz
  go_upto_region 7 with fail
  have U7 : Up w (w7.alloc (.cells #[.int .u16 (dm : Nat), .int .i64 ds, .bool dk, .slice A4 n4 c4, .bool dt, .int .u32 (dv : Nat), .int .u32 (de : Nat)] 26)) := up_al _ (U5.on hv7)
  have A7 := (A5.up hv7).alloc (.cells #[.int .u16 (dm : Nat), .int .i64 ds, .bool dk, .slice A4 n4 c4, .bool dt, .int .u32 (dv : Nat), .int .u32 (de : Nat)] 26)
  have B7 := (B5.up hv7).alloc (.cells #[.int .u16 (dm : Nat), .int .i64 ds, .bool dk, .slice A4 n4 c4, .bool dt, .int .u32 (dv : Nat), .int .u32 (de : Nat)] 26)
  have C7 := (C5.up hv7).alloc (.cells #[.int .u16 (dm : Nat), .int .i64 ds, .bool dk, .slice A4 n4 c4, .bool dt, .int .u32 (dv : Nat), .int .u32 (de : Nat)] 26)
  have D7 := Box.new w7 #[.int .u16 (dm : Nat), .int .i64 ds, .bool dk, .slice A4 n4 c4, .bool dt, .int .u32 (dv : Nat), .int .u32 (de : Nat)] 26
  have hok7 := (hok5.up hv7).up (up_al (.cells #[.int .u16 (dm : Nat), .int .i64 ds, .bool dk, .slice A4 n4 c4, .bool dt, .int .u32 (dv : Nat), .int .u32 (de : Nat)] 26) (Below.refl _ _))
  have hok8 := hok4.up (up_al (.cells #[.int .u16 (dm : Nat), .int .i64 ds, .bool dk, .slice A4 n4 c4, .bool dt, .int .u32 (dv : Nat), .int .u32 (de : Nat)] 26) (Below.refl _ _))
  generalize (w7.alloc (.cells #[.int .u16 (dm : Nat), .int .i64 ds, .bool dk, .slice A4 n4 c4, .bool dt, .int .u32 (dv : Nat), .int .u32 (de : Nat)] 26)) = w8 at U7 A7 B7 C7 D7 hok7 hok8 ⊢
  generalize w7.heap.size = n7 at D7 ⊢
  clear A5 B5 C5 U5 hv7 hok4 hok5
  have hoW := ho.up U7
  have hpW := hp.up U7
  obtain ⟨mb, hmb⟩ : ∃ mb, mayb ⟨m, s, k, b, t, v, e⟩ = mb := ⟨_, rfl⟩
  obtain ⟨sb, hsb⟩ : ∃ sb, same ⟨m, s, k, b, t, v, e⟩ ⟨m', s', k', b', t', v', e'⟩ = sb := ⟨_, rfl⟩
  have J1 := Lib.hid (fun r : Kin w8 => hmb ▸ hM m s k b t v e A n c r.w (hoW.up r.below))
  have J2 := Lib.hid (fun r : Kin w8 => hmb ▸ refMay m s k t v e A n c b r.w ho.1 ho.2.2.2.1 (hoW.up r.below).2.2.1)
  have I1 : SamK 15 w8 (OA m s k A n c t v e) (OA m' s' k' A' n' c' t' v' e') sb := ⟨fun r => hsb ▸ hS m s k b t v e A n c m' s' k' b' t' v' e' A' n' c' r.w (hoW.up r.below) (hpW.up r.below)⟩
  have I2 : SamK 16 w8 (OA m s k A n c t v e) (OA m' s' k' A' n' c' t' v' e') sb := ⟨fun r => hsb ▸ refSame m m' s s' k k' t t' v v' e e' A A' n n' c c' b b' r.w (hoW.up r.below).2.2.1 (hpW.up r.below).2.2.1 ho.2.2.2.1 hp.2.2.2.1 ho.2.2.2.2⟩
  have I3 : SamK 15 w8 (OA 0 (-1) false none 0 0 false 0 0) (OA 0 (-1) false none 0 0 false 0 0) true := ⟨fun r => (hS 0 (-1) false [] false 0 0 none 0 0 0 (-1) false [] false 0 0 none 0 0 r.w (okNil _ _ _ _ (by decide) (by decide)) (okNil _ _ _ _ (by decide) (by decide)))⟩
  have I4 : SamK 16 w8 (OA dm ds dk A3 n3 c3 dt dv de) (OA dm ds dk A4 n4 c4 dt dv de) true := ⟨fun r => same_self ⟨dm, ds, dk, db, dt, dv, de⟩ ▸ refSame dm dm ds ds dk dk dt dt dv dv de de A3 A4 n3 n4 c3 c4 db db r.w (hok7.up r.below).2.2.1 (hok8.up r.below).2.2.1 hok7.2.2.2.1 hok8.2.2.2.1 hok7.2.2.2.2⟩
  have J3 := Lib.hid (fun r : Kin w8 => hN r.w)
  have J4 := Lib.hid (fun r : Kin w8 => refNone r.w)
  have J5 := Lib.hid (fun r : Kin w8 => HA.out r.w)
  obtain ⟨k0, k1, k2, k3, k4, k5, k6⟩ := Box.e7 A7
  obtain ⟨m0, m1, m2, m3, m4, m5, m6⟩ := Box.e7 B7
  obtain ⟨p0, p1, p2, p3, p4, p5, p6⟩ := Box.e7 C7
  obtain ⟨q0, q1, q2, q3, q4, q5, q6⟩ := Box.e7 D7
  replace k0 := Kin.cell k0; replace k1 := Kin.cell k1; replace k2 := Kin.cell k2; replace k3 := Kin.cell k3; replace k4 := Kin.cell k4; replace k5 := Kin.cell k5; replace k6 := Kin.cell k6
  replace m0 := Kin.cell m0; replace m1 := Kin.cell m1; replace m2 := Kin.cell m2; replace m3 := Kin.cell m3; replace m4 := Kin.cell m4; replace m5 := Kin.cell m5; replace m6 := Kin.cell m6
  replace p0 := Kin.cell p0; replace p1 := Kin.cell p1; replace p2 := Kin.cell p2; replace p3 := Kin.cell p3; replace p4 := Kin.cell p4; replace p5 := Kin.cell p5; replace p6 := Kin.cell p6
  replace q0 := Kin.cell q0; replace q1 := Kin.cell q1; replace q2 := Kin.cell q2; replace q3 := Kin.cell q3; replace q4 := Kin.cell q4; replace q5 := Kin.cell q5; replace q6 := Kin.cell q6
  clear hN hM hS hE hD hT ho hp hoW hpW hok7 hok8 A7 B7 C7 D7 HE HRE HDC HRD hmb hsb
  refine wp_region_kin (by kernel_rfl) (by kernel_rfl) ?_
  repeat (go_big_quiet_step (first
    | (go_at_call 13; exact Kin.call _ (J1.out _))
    | (go_at_call 14; exact Kin.call _ (J2.out _))
    | (go_at_call 15; exact Kin.call _ (samK (by first | exact I1 | exact I3) _))
    | (go_at_call 16; exact Kin.call _ (samK (by first | exact I2 | exact I4) _))
    | (go_at_call 17; exact Kin.call _ (J3.out _))
    | (go_at_call 18; exact Kin.call _ (J4.out _))
    | (go_at_call 8; exact Kin.call _ (J5.out _))))
  refine wpQuiet_nil ?_
  rintro _ ⟨⟨w9, hb9⟩, rfl⟩
  go_wp2
  go_ret
  exact ⟨rfl, U7.on hb9⟩
set_option maxHeartbeats 4000000 in
set_option maxRecDepth 100000 in
theorem lawTurns (hN : NoneC) (hM : MayC) (hS : SameC) (hE : EncC) (hD : DecC) (hT : TurnC) (S : ByteArray) (b v e : Nat) (w : World) (hb : b < M32) (hv0 : v < M32) (he0 : e < M32) (hz : S.size ≤ maxLen) :
    Calls Try.prog 4 #[.string S, .int .u32 (b : Nat), .int .u32 (v : Nat), .int .u32 (e : Nat)] w fun e_ w' => e_ = .returned (.bool true) ∧ Up w w' := by
  have HA := Lib.hid (fun w => aliveC hN hM hS hE hD hT w)
  by_cases hl : 1024 < S.size
  · have i0 : (1024 : Int) < (S.size : Int) := by omega
    clear hN hM hS hE hD hT
    go_enter Try.func4, Try.ntmps4
    go_wp2_with fail
    refine (HA.out _).mono ?_
    rintro e_ w1 ⟨rfl, hv⟩
    go_wp2
    go_ret
    exact ⟨rfl, hv⟩
  have i0 : ¬ (1024 : Int) < (S.size : Int) := by omega
  obtain ⟨E1, z1, hE1⟩ := TV_some (L S) b v e
  have HE1 := Lib.hid hE1; clear hE1
  have H1 := Lib.hid (fun w' => hT S b v e w' (by omega) hb hv0 he0)
  have H2 := Lib.hid (fun w' => refTurn S b v e w' (by omega) hb hv0 he0)
  clear hN hM hS hE hD hT
  go_enter Try.func4, Try.ntmps4
  go_wp2_with fail
  refine (H1.out w).mono ?_
  rintro e_ w1 ⟨he, hv1⟩
  rw [HE1.out] at he
  subst he
  go_wp2_with fail
  refine (H2.out w1).mono ?_
  rintro e_ w2 ⟨he, hv2⟩
  rw [HE1.out] at he
  subst he
  go_wp2_with fail
  refine (HA.out _).mono ?_
  rintro e_ w3 ⟨rfl, hv3⟩
  go_wp2
  go_ret
  exact ⟨rfl, (hv1.on hv2).on hv3⟩
end Go.Proofs.Ytdlcglkeinlimaa.op
