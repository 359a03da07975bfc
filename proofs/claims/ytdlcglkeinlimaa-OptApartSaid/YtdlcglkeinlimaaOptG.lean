/- Package opt, by the contracts of its functions: what the document fixes is so. Condition: the contracts. -/
import Derived.Test.YtdlcglkeinlimaaOptH
import Derived.Test.YtdlcglkeinlimaaNetKin
namespace Go.Proofs.Ytdlcglkeinlimaa.op
open Go.RowKit Go.Shelf Go.Lib Go.Proofs.Ytdlcglkeinlimaa.sm Go.Proofs.Ytdlcglkeinlimaa.nb Go.Proofs.Ytdlcglkeinlimaa.om
set_option linter.unusedVariables false

/-- options as an argument, in a world -/
def OkA (w : World) (m : Nat) (s : Int) (k : Bool) (b : List (Nat × Nat)) (t : Bool) (v e : Nat) (A : Option Addr) (n : Nat) : Prop :=
  Wf ⟨m, s, k, b, t, v, e⟩ ∧ (-9223372036854775808 ≤ s ∧ s ≤ 9223372036854775807) ∧ RdB w A b ∧ b.length = n ∧ n ≤ maxLen
theorem OkA.up {w w' : World} {m : Nat} {s : Int} {k : Bool} {b : List (Nat × Nat)} {t : Bool} {v e : Nat} {A : Option Addr} {n : Nat} (h : OkA w m s k b t v e A n) (hu : Up w w') : OkA w' m s k b t v e A n :=
  ⟨h.1, h.2.1, h.2.2.1.up hu, h.2.2.2⟩
def NoneC : Prop := ∀ w, Calls Try.prog 17 #[] w fun e_ w' => e_ = .returned (OA 0 (-1) false none 0 0 false 0 0) ∧ Up w w'
def MayC : Prop := ∀ m s k b t v e A n c w, OkA w m s k b t v e A n → Calls Try.prog 13 #[OA m s k A n c t v e] w fun e_ w' => e_ = .returned (.bool (mayb ⟨m, s, k, b, t, v, e⟩)) ∧ Up w w'
def SameC : Prop := ∀ m s k b t v e A n c m' s' k' b' t' v' e' A' n' c' w, OkA w m s k b t v e A n → OkA w m' s' k' b' t' v' e' A' n' →
  Calls Try.prog 15 #[OA m s k A n c t v e, OA m' s' k' A' n' c' t' v' e'] w fun e_ w' => e_ = .returned (.bool (same ⟨m, s, k, b, t, v, e⟩ ⟨m', s', k', b', t', v', e'⟩)) ∧ Up w w'
def EncC : Prop := ∀ m s k b t v e A n c w, OkA w m s k b t v e A n → Calls Try.prog 9 #[OA m s k A n c t v e] w fun e_ w' => e_ = .returned (EVo ⟨m, s, k, b, t, v, e⟩) ∧ Up w w'
def DecC : Prop := ∀ (s : ByteArray) w, s.size ≤ 1048576 → Calls Try.prog 11 #[.string s] w fun e_ w' => DecZ (L s) w e_ w'
def TurnC : Prop := ∀ (s : ByteArray) (b v e : Nat) w, s.size ≤ 1048576 → b < M32 → v < M32 → e < M32 → Calls Try.prog 19 #[.string s, .int .u32 (b : Nat), .int .u32 (v : Nat), .int .u32 (e : Nat)] w fun e_ w' => e_ = .returned (TV (L s) b v e) ∧ Up w w'

theorem okNil (w : World) (m : Nat) (s : Int) (k : Bool) (hm : m ≤ 65535) (hs : -9223372036854775808 ≤ s ∧ s ≤ 9223372036854775807) : OkA w m s k [] false 0 0 none 0 :=
  ⟨⟨hm, (by intro b hb; cases hb), (by show 0 < M32; decide), (by show 0 < M32; decide)⟩, hs, (fun h => absurd rfl h), rfl, Nat.zero_le _⟩
abbrev O1 : Opz := ⟨1460, 7, true, [], false, 0, 0⟩
theorem mayO : om.May O1 := by
  refine ⟨by decide, by decide, by decide, fun _ => ⟨rfl, rfl⟩, by decide⟩
theorem wfO : Wf O1 := ⟨by decide, (by intro b hb; cases hb), by decide, by decide⟩
abbrev S1 : ByteArray := { data := #[2, 4, 5, 180, 1, 3, 3, 7, 1, 1, 4, 2] }
theorem raw1 : tx (raw O1) = S1 := rfl
theorem evo1 : EVo O1 = .tuple #[.string S1, .int .i64 0] := by rw [EVo_ok mayO, raw1]
theorem evo2 : EVo ⟨0, 15, false, [], false, 0, 0⟩ = .tuple #[.string ByteArray.empty, .int .i64 2] := EVo_no (by intro h; have := h.2.1; revert this; decide)
theorem decO1 : dec (raw O1 ++ [30, 3, 120, 0, 2]) = some O1 := by
  have e : parse [30, 3, 120, 0, 2] = some [(30, [120])] := by
    have := parse_item 30 3 [120] [0, 2] (by decide) rfl rfl
    rw [parse_0 0 [2] rfl] at this
    exact this
  have hp := p_raw mayO [30, 3, 120, 0, 2]
  rw [e] at hp
  have hf : Fine (items O1 ++ [(30, [120])]) := by decide
  rw [dec_some hp hf, List.foldl_append, put_items mayO wfO]; rfl
theorem derr1 (l : List UInt8) (h : l = raw O1 ++ [30, 3, 120, 0, 2]) : err l = 0 ∧ decO l = O1 := by
  subst h; exact err_0 decO1 (by decide)
theorem derr2 : err [4, 2, 4, 2] = 70 ∧ decO [4, 2, 4, 2] = zero_ := by
  refine err_70 ?_ (by decide)
  have e : parse [4, 2, 4, 2] = some [(4, []), (4, [])] := by
    have h1 := parse_item 4 2 [] [4, 2] (by decide) rfl rfl
    have h2 := parse_item 4 2 [] [] (by decide) rfl rfl
    rw [parse_nil] at h2
    have h3 : parse [4, 2] = some [(4, [])] := h2
    have h4 : parse [4, 2, 4, 2] = (parse [4, 2]).map fun r => ((4 : UInt8).toNat, []) :: r := h1
    rw [h4, h3]; rfl
  exact dec_bad e (by decide)
theorem tv1 : TV [1, 1, 5, 10, 0, 0, 0, 1, 0, 0, 0, 3] 2 0 0 = .tuple #[.string { data := #[1, 1, 5, 10, 0, 0, 0, 3, 0, 0, 0, 5] }, .int .i64 0] := by
  have e : parse [1, 1, 5, 10, 0, 0, 0, 1, 0, 0, 0, 3] = some [(5, [0, 0, 0, 1, 0, 0, 0, 3])] := by
    rw [parse_1 1 _ rfl, parse_1 1 _ rfl]
    have h := parse_item 5 10 [0, 0, 0, 1, 0, 0, 0, 3] [] (by decide) rfl rfl
    rw [parse_nil] at h
    exact h
  have hd := dec_some e (by decide)
  rw [TV_ok (err_0 hd (by decide)).1]
  rw [turn_1 1 _ rfl, turn_1 1 _ rfl]
  have h := turn_item (b := 2) (v := 0) (e := 0) 5 10 [0, 0, 0, 1, 0, 0, 0, 3] [] (by decide) rfl
  rw [turn_nil] at h
  have h2 : turnL 2 0 0 [5, 10, 0, 0, 0, 1, 0, 0, 0, 3] = [5, 10, 0, 0, 0, 3, 0, 0, 0, 5] := h
  rw [h2]; rfl
theorem fld1 (x : Int) : ∀ W, (Instr.field 26 (OA 0 x false none 0 0 false 0 0) 1).run Try.prog W = .ok (.int .i64 x) W := fun W => by kernel_rfl
set_option maxHeartbeats 4000000 in
set_option maxRecDepth 100000 in
theorem aliveC (hN : NoneC) (hM : MayC) (hS : SameC) (hE : EncC) (hD : DecC) (hT : TurnC) (w : World) : Calls Try.prog 8 #[] w fun e_ w' => e_ = .returned (.bool true) ∧ Up w w' := by
  have HE1 := Lib.hid (fun w (c : Nat) => (hE 1460 7 true [] false 0 0 none 0 c w (okNil w _ _ _ (by decide) (by decide))).mono (fun e_ w' h => (⟨by rw [h.1, evo1], h.2⟩ : e_ = .returned (.tuple #[.string S1, .int .i64 0]) ∧ Up w w')))
  have HE2 := Lib.hid (fun w (c : Nat) => (hE 0 15 false [] false 0 0 none 0 c w (okNil w _ _ _ (by decide) (by decide))).mono (fun e_ w' h => (⟨by rw [h.1, evo2], h.2⟩ : e_ = .returned (.tuple #[.string ByteArray.empty, .int .i64 2]) ∧ Up w w')))
  have HM := Lib.hid (fun w (c : Nat) => (hM 1460 7 true [] false 0 0 none 0 c w (okNil w _ _ _ (by decide) (by decide))).mono (fun e_ w' h => (⟨by rw [h.1, mayb_t mayO], h.2⟩ : e_ = .returned (.bool true) ∧ Up w w')))
  have HT := Lib.hid (fun w => (hT { data := #[1, 1, 5, 10, 0, 0, 0, 1, 0, 0, 0, 3] } 2 0 0 w (by decide) (by decide) (by decide) (by decide)).mono (fun e_ w' h => (⟨by rw [h.1]; exact congrArg Ending.returned tv1, h.2⟩ : e_ = .returned (.tuple #[.string { data := #[1, 1, 5, 10, 0, 0, 0, 3, 0, 0, 0, 5] }, .int .i64 0]) ∧ Up w w')))
  have HD1 := Lib.hid (fun (x : ByteArray) (hx : L x = raw O1 ++ [30, 3, 120, 0, 2]) w => (hD x w (by rw [← L_len, hx]; decide)).mono (fun e_ w' h => (by
    obtain ⟨y, h1, h2, h3⟩ := h
    obtain ⟨g1, g2⟩ := derr1 _ hx
    rw [g1] at h1; rw [g2] at h2
    obtain ⟨A, n, c, h4, h5, h6⟩ := h2
    refine ⟨A, c, ?_, h3⟩
    have hn : n = 0 := h5.symm
    subst hn
    rw [h1, h4]; rfl : ∃ A c, e_ = .returned (.tuple #[OA 1460 7 true A 0 c false 0 0, .int .i64 0]) ∧ Up w w')))
  have HD2 := Lib.hid (fun w => (hD { data := #[4, 2, 4, 2] } w (by decide)).mono (fun e_ w' h => (by
    obtain ⟨y, h1, h2, h3⟩ := h
    obtain ⟨g1, g2⟩ := derr2
    have h1' : e_ = .returned (.tuple #[y, .int .i64 (err [4, 2, 4, 2] : Nat)]) := h1
    have h2' : OptV w' y (decO [4, 2, 4, 2]) := h2
    rw [g1] at h1'; rw [g2] at h2'
    obtain ⟨A, n, c, h4, h5, h6⟩ := h2'
    refine ⟨A, n, c, ?_, h3⟩
    rw [h1', h4]; rfl : ∃ A n c, e_ = .returned (.tuple #[OA 0 0 false A n c false 0 0, .int .i64 70]) ∧ Up w w')))
  have HS := Lib.hid (fun w A (c c' : Nat) => (hS 1460 7 true [] false 0 0 none 0 c 1460 7 true [] false 0 0 A 0 c' w (okNil w _ _ _ (by decide) (by decide)) ⟨wfO, by decide, fun h => absurd rfl h, rfl, Nat.zero_le _⟩).mono (fun e_ w' h => (⟨by rw [h.1]; rfl, h.2⟩ : e_ = .returned (.bool true) ∧ Up w w')))
  have HNo := Lib.hid hN
  clear hN hM hS hE hD hT
  go_enter Try.func8, Try.ntmps8
  go_upto_region 2 with fail
  have U0 : Up w (w.alloc (.cells #[.int .u16 1460, .int .i64 7, .bool true, .slice none 0 0, .bool false, .int .u32 0, .int .u32 0] 26)) := up_al _ (Below.refl _ _)
  have A0 := Box.new w #[.int .u16 1460, .int .i64 7, .bool true, .slice none 0 0, .bool false, .int .u32 0, .int .u32 0] 26
  generalize (w.alloc (.cells #[.int .u16 1460, .int .i64 7, .bool true, .slice none 0 0, .bool false, .int .u32 0, .int .u32 0] 26)) = w0 at U0 A0 ⊢
  generalize w.heap.size = n0 at A0 ⊢
  obtain ⟨k0, k1, k2, k3, k4, k5, k6⟩ := Box.e7 A0
  go_wp2_with fail
  refine (HE1.out w0 0).mono ?_
  rintro e_ w1 ⟨rfl, hv1⟩
  have U1 := U0.on hv1
  have A1 := A0.up hv1
  clear k0 k1 k2 k3 k4 k5 k6 A0 U0 hv1
  obtain ⟨X, hX⟩ : ∃ X, X = S1 ++ { data := #[30, 3, 120, 0, 2] } := ⟨_, rfl⟩
  have hLX : L X = raw O1 ++ [30, 3, 120, 0, 2] := by rw [hX, L_app]; rfl
  have HX := Lib.hid hX; clear hX
  have HDX := Lib.hid (HD1.out X hLX)
  go_wp2_with fail
  rw [← HX.out]
  refine (HDX.out w1).mono ?_
  rintro e_ w2 ⟨A, c, rfl, hv2⟩
  go_upto_region 4 with fail
  have U2 : Up w (w2.alloc (.cells #[.int .u16 1460, .int .i64 7, .bool true, .slice A 0 c, .bool false, .int .u32 0, .int .u32 0] 26)) := up_al _ (U1.on hv2)
  have A2' := (A1.up hv2).alloc (.cells #[.int .u16 1460, .int .i64 7, .bool true, .slice A 0 c, .bool false, .int .u32 0, .int .u32 0] 26)
  have B2 := Box.new w2 #[.int .u16 1460, .int .i64 7, .bool true, .slice A 0 c, .bool false, .int .u32 0, .int .u32 0] 26
  generalize (w2.alloc (.cells #[.int .u16 1460, .int .i64 7, .bool true, .slice A 0 c, .bool false, .int .u32 0, .int .u32 0] 26)) = w3 at U2 A2' B2 ⊢
  generalize w2.heap.size = n1 at B2 ⊢
  clear A1 U1 hv2
  go_wp2_with fail
  refine (HD2.out w3).mono ?_
  rintro e_ w4 ⟨A2, n2, c2, rfl, hv4⟩
  go_upto_region 5 with fail
  have U3 : Up w (w4.alloc (.cells #[.int .u16 0, .int .i64 0, .bool false, .slice A2 n2 c2, .bool false, .int .u32 0, .int .u32 0] 26)) := up_al _ (U2.on hv4)
  have A3 := (A2'.up hv4).alloc (.cells #[.int .u16 0, .int .i64 0, .bool false, .slice A2 n2 c2, .bool false, .int .u32 0, .int .u32 0] 26)
  have B3 := (B2.up hv4).alloc (.cells #[.int .u16 0, .int .i64 0, .bool false, .slice A2 n2 c2, .bool false, .int .u32 0, .int .u32 0] 26)
  generalize (w4.alloc (.cells #[.int .u16 0, .int .i64 0, .bool false, .slice A2 n2 c2, .bool false, .int .u32 0, .int .u32 0] 26)) = w5 at U3 A3 B3 ⊢
  generalize w4.heap.size = n2' at ⊢
  clear A2' B2 U2 hv4
  go_wp2_with fail
  refine (HE2.out w5 0).mono ?_
  rintro e_ w6 ⟨rfl, hv6⟩
  have U4 := U3.on hv6
  have A4 := A3.up hv6
  have B4 := B3.up hv6
  clear A3 B3 U3 hv6
  go_wp2_with fail
  refine (HT.out w6).mono ?_
  rintro e_ w7 ⟨rfl, hv7⟩
  have U5 := U4.on hv7
  have A5 := A4.up hv7
  have B5 := B4.up hv7
  clear A4 B4 U4 hv7
  obtain ⟨k0, k1, k2, k3, k4, k5, k6⟩ := Box.e7 A5
  obtain ⟨m0, m1, m2, m3, m4, m5, m6⟩ := Box.e7 B5
  go_wp2_with fail
  refine (HS.out w7 A 0 c).mono ?_
  rintro e_ w8 ⟨rfl, hv8⟩
  have U6 := U5.on hv8
  have A6 := A5.up hv8
  clear k0 k1 k2 k3 k4 k5 k6 m0 m1 m2 m3 m4 m5 m6 A5 B5 U5 hv8
  go_wp2_with fail
  refine (HNo.out w8).mono ?_
  rintro e_ w9 ⟨rfl, hv9⟩
  have U7 := U6.on hv9
  have A7 := A6.up hv9
  clear A6 U6 hv9
  have hfld := fld1 (-1)
  obtain ⟨k0, k1, k2, k3, k4, k5, k6⟩ := Box.e7 A7
  go_wp2_with fail
  refine (HM.out w9 0).mono ?_
  rintro e_ w10 ⟨rfl, hv10⟩
  go_wp2
  go_ret
  exact ⟨rfl, U7.on hv10⟩
end Go.Proofs.Ytdlcglkeinlimaa.op
