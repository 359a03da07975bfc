/- Package opt: whether options may be; their bytes. Condition: the numbers fit their kinds. -/
import Derived.Test.YtdlcglkeinlimaaOptLH
namespace Go.Proofs.Ytdlcglkeinlimaa.op
open Go.RowKit Go.Shelf Go.Lib Go.Proofs.Ytdlcglkeinlimaa.sm Go.Proofs.Ytdlcglkeinlimaa.nb Go.Proofs.Ytdlcglkeinlimaa.om
set_option linter.unusedVariables false

theorem own_slice {w : World} {B n : Nat} {v : Value} {xs : List UInt8} (h : OwnB w B v xs) (hn : xs.length = n) : ∃ A c, v = .slice A n c := by
  subst hn
  rcases own_form h with ⟨rfl, h0⟩ | ⟨g, cap, rfl, _⟩
  · exact ⟨none, 0, by rw [h0]⟩
  · exact ⟨_, _, rfl⟩
theorem conv_nil (w : World) : (convert 46 9 (.slice none 0 0)).run Try.prog w = .ok (.string (tx [])) w := by kernel_rfl
theorem conv_any {w : World} {B : Nat} {v : Value} {xs : List UInt8} (h : OwnB w B v xs) : (convert 46 9 v).run Try.prog w = .ok (.string (tx xs)) w := by
  rcases own_form h with ⟨rfl, h0⟩ | ⟨g, cap, rfl, _⟩
  · have : xs = [] := List.eq_nil_of_length_eq_zero h0
    subst this
    exact conv_nil w
  · exact conv_at h (fun a => rfl)
set_option maxHeartbeats 4000000 in
set_option maxRecDepth 100000 in
theorem lmay0 (m : Nat) (s : Int) (k t : Bool) (v e : Nat) (A : Option Addr) (n c : Nat) (b : List (Nat × Nat)) (w : World) (hw : Wf ⟨m, s, k, b, t, v, e⟩) (hn : b.length = n) (hr : RdB w A b) (c0 : s < -1) :
    Calls Try.prog 13 #[OA m s k A n c t v e] w fun e_ w' => e_ = .returned (.bool (mayb ⟨m, s, k, b, t, v, e⟩)) ∧ Up w w' := by
  have HE := Lib.hid (mayb_f (o := ⟨m, s, k, b, t, v, e⟩) (by intro h; have := h.1; dsimp only at this; omega))

  go_enter Try.func13, Try.ntmps13
  go_upto_region 1 with fail
  have U0 : Up w (w.alloc (.cells #[.int .u16 (m : Nat), .int .i64 s, .bool k, .slice A n c, .bool t, .int .u32 (v : Nat), .int .u32 (e : Nat)] 26)) := up_al _ (Below.refl _ _)
  have A0 := Box.new w #[.int .u16 (m : Nat), .int .i64 s, .bool k, .slice A n c, .bool t, .int .u32 (v : Nat), .int .u32 (e : Nat)] 26
  generalize (w.alloc (.cells #[.int .u16 (m : Nat), .int .i64 s, .bool k, .slice A n c, .bool t, .int .u32 (v : Nat), .int .u32 (e : Nat)] 26)) = w0 at U0 A0 ⊢
  generalize w.heap.size = n0 at A0 ⊢
  obtain ⟨k0, k1, k2, k3, k4, k5, k6⟩ := Box.e7 A0
  go_wp2_with fail
  go_ret
  exact ⟨ret_bool HE.out.symm, U0⟩
set_option maxHeartbeats 4000000 in
set_option maxRecDepth 100000 in
theorem lmay1 (m : Nat) (s : Int) (k t : Bool) (v e : Nat) (A : Option Addr) (n c : Nat) (b : List (Nat × Nat)) (w : World) (hw : Wf ⟨m, s, k, b, t, v, e⟩) (hn : b.length = n) (hr : RdB w A b) (c0 : ¬ s < -1) (c1 : 14 < s) :
    Calls Try.prog 13 #[OA m s k A n c t v e] w fun e_ w' => e_ = .returned (.bool (mayb ⟨m, s, k, b, t, v, e⟩)) ∧ Up w w' := by
  have HE := Lib.hid (mayb_f (o := ⟨m, s, k, b, t, v, e⟩) (by intro h; have := h.2.1; dsimp only at this; omega))

  go_enter Try.func13, Try.ntmps13
  go_upto_region 1 with fail
  have U0 : Up w (w.alloc (.cells #[.int .u16 (m : Nat), .int .i64 s, .bool k, .slice A n c, .bool t, .int .u32 (v : Nat), .int .u32 (e : Nat)] 26)) := up_al _ (Below.refl _ _)
  have A0 := Box.new w #[.int .u16 (m : Nat), .int .i64 s, .bool k, .slice A n c, .bool t, .int .u32 (v : Nat), .int .u32 (e : Nat)] 26
  generalize (w.alloc (.cells #[.int .u16 (m : Nat), .int .i64 s, .bool k, .slice A n c, .bool t, .int .u32 (v : Nat), .int .u32 (e : Nat)] 26)) = w0 at U0 A0 ⊢
  generalize w.heap.size = n0 at A0 ⊢
  obtain ⟨k0, k1, k2, k3, k4, k5, k6⟩ := Box.e7 A0
  go_wp2_with fail
  go_ret
  exact ⟨ret_bool HE.out.symm, U0⟩
set_option maxHeartbeats 4000000 in
set_option maxRecDepth 100000 in
theorem lmay2 (m : Nat) (s : Int) (k t : Bool) (v e : Nat) (A : Option Addr) (n c : Nat) (b : List (Nat × Nat)) (w : World) (hw : Wf ⟨m, s, k, b, t, v, e⟩) (hn : b.length = n) (hr : RdB w A b) (c0 : ¬ s < -1) (c1 : ¬ 14 < s) (c2 : 4 < n) :
    Calls Try.prog 13 #[OA m s k A n c t v e] w fun e_ w' => e_ = .returned (.bool (mayb ⟨m, s, k, b, t, v, e⟩)) ∧ Up w w' := by
  have HE := Lib.hid (mayb_f (o := ⟨m, s, k, b, t, v, e⟩) (by intro h; have := h.2.2.1; dsimp only at this; omega))

  go_enter Try.func13, Try.ntmps13
  go_upto_region 1 with fail
  have U0 : Up w (w.alloc (.cells #[.int .u16 (m : Nat), .int .i64 s, .bool k, .slice A n c, .bool t, .int .u32 (v : Nat), .int .u32 (e : Nat)] 26)) := up_al _ (Below.refl _ _)
  have A0 := Box.new w #[.int .u16 (m : Nat), .int .i64 s, .bool k, .slice A n c, .bool t, .int .u32 (v : Nat), .int .u32 (e : Nat)] 26
  generalize (w.alloc (.cells #[.int .u16 (m : Nat), .int .i64 s, .bool k, .slice A n c, .bool t, .int .u32 (v : Nat), .int .u32 (e : Nat)] 26)) = w0 at U0 A0 ⊢
  generalize w.heap.size = n0 at A0 ⊢
  obtain ⟨k0, k1, k2, k3, k4, k5, k6⟩ := Box.e7 A0
  go_wp2_with fail
  go_ret
  exact ⟨ret_bool HE.out.symm, U0⟩
set_option maxHeartbeats 4000000 in
set_option maxRecDepth 100000 in
theorem lmay3 (m : Nat) (s : Int) (k t : Bool) (v e : Nat) (A : Option Addr) (n c : Nat) (b : List (Nat × Nat)) (w : World) (hw : Wf ⟨m, s, k, b, t, v, e⟩) (hn : b.length = n) (hr : RdB w A b) (c0 : ¬ s < -1) (c1 : ¬ 14 < s) (c2 : ¬ 4 < n) (c3 : t = false) (c4 : ¬ (v : Int) = 0) :
    Calls Try.prog 13 #[OA m s k A n c t v e] w fun e_ w' => e_ = .returned (.bool (mayb ⟨m, s, k, b, t, v, e⟩)) ∧ Up w w' := by
  have HE := Lib.hid (mayb_f (o := ⟨m, s, k, b, t, v, e⟩) (by intro h; have := (h.2.2.2.1 c3).1; dsimp only at this; omega))
  have i2 : ¬ (4 : Int) < (n : Int) := by omega
  subst c3
  go_enter Try.func13, Try.ntmps13
  go_upto_region 1 with fail
  have U0 : Up w (w.alloc (.cells #[.int .u16 (m : Nat), .int .i64 s, .bool k, .slice A n c, .bool false, .int .u32 (v : Nat), .int .u32 (e : Nat)] 26)) := up_al _ (Below.refl _ _)
  have A0 := Box.new w #[.int .u16 (m : Nat), .int .i64 s, .bool k, .slice A n c, .bool false, .int .u32 (v : Nat), .int .u32 (e : Nat)] 26
  generalize (w.alloc (.cells #[.int .u16 (m : Nat), .int .i64 s, .bool k, .slice A n c, .bool false, .int .u32 (v : Nat), .int .u32 (e : Nat)] 26)) = w0 at U0 A0 ⊢
  generalize w.heap.size = n0 at A0 ⊢
  obtain ⟨k0, k1, k2, k3, k4, k5, k6⟩ := Box.e7 A0
  go_wp2_with fail
  go_ret
  exact ⟨ret_bool HE.out.symm, U0⟩
set_option maxHeartbeats 4000000 in
set_option maxRecDepth 100000 in
theorem lmay4 (m : Nat) (s : Int) (k t : Bool) (v e : Nat) (A : Option Addr) (n c : Nat) (b : List (Nat × Nat)) (w : World) (hw : Wf ⟨m, s, k, b, t, v, e⟩) (hn : b.length = n) (hr : RdB w A b) (c0 : ¬ s < -1) (c1 : ¬ 14 < s) (c2 : ¬ 4 < n) (c3 : t = false) (c4 : v = 0) (c5 : ¬ (e : Int) = 0) :
    Calls Try.prog 13 #[OA m s k A n c t v e] w fun e_ w' => e_ = .returned (.bool (mayb ⟨m, s, k, b, t, v, e⟩)) ∧ Up w w' := by
  have HE := Lib.hid (mayb_f (o := ⟨m, s, k, b, t, v, e⟩) (by intro h; have := (h.2.2.2.1 c3).2; dsimp only at this; omega))
  have i2 : ¬ (4 : Int) < (n : Int) := by omega
  subst c3; subst c4
  go_enter Try.func13, Try.ntmps13
  go_upto_region 1 with fail
  have U0 : Up w (w.alloc (.cells #[.int .u16 (m : Nat), .int .i64 s, .bool k, .slice A n c, .bool false, .int .u32 0, .int .u32 (e : Nat)] 26)) := up_al _ (Below.refl _ _)
  have A0 := Box.new w #[.int .u16 (m : Nat), .int .i64 s, .bool k, .slice A n c, .bool false, .int .u32 0, .int .u32 (e : Nat)] 26
  generalize (w.alloc (.cells #[.int .u16 (m : Nat), .int .i64 s, .bool k, .slice A n c, .bool false, .int .u32 0, .int .u32 (e : Nat)] 26)) = w0 at U0 A0 ⊢
  generalize w.heap.size = n0 at A0 ⊢
  obtain ⟨k0, k1, k2, k3, k4, k5, k6⟩ := Box.e7 A0
  go_wp2_with fail
  go_ret
  exact ⟨ret_bool HE.out.symm, U0⟩
set_option maxHeartbeats 4000000 in
set_option maxRecDepth 100000 in
theorem lmay5 (m : Nat) (s : Int) (k t : Bool) (v e : Nat) (A : Option Addr) (n c : Nat) (b : List (Nat × Nat)) (w : World) (hw : Wf ⟨m, s, k, b, t, v, e⟩) (hn : b.length = n) (hr : RdB w A b) (c0 : ¬ s < -1) (c1 : ¬ 14 < s) (c2 : ¬ 4 < n) (c3 : t = false → v = 0 ∧ e = 0) :
    Calls Try.prog 13 #[OA m s k A n c t v e] w fun e_ w' => e_ = .returned (.bool (mayb ⟨m, s, k, b, t, v, e⟩)) ∧ Up w w' := by
  obtain ⟨q, hq⟩ : ∃ q, (raw ⟨m, s, k, b, t, v, e⟩).length = q := ⟨_, rfl⟩
  have HE : Hid (decide ((q : Int) ≤ 40) = mayb ⟨m, s, k, b, t, v, e⟩) := by
    unfold Hid
    have hz : q = rawLen ⟨m, s, k, b, t, v, e⟩ := by rw [← hq, raw_len]
    refine decide_eq_decide.2 ⟨fun h => ⟨?_, ?_, ?_, c3, ?_⟩, fun h => ?_⟩
    · show -1 ≤ s; omega
    · show s ≤ 14; omega
    · show b.length ≤ 4; omega
    · omega
    · have := h.2.2.2.2; omega
  have HR := Lib.hid (fun w hr => laidC m s k t v e A n c b w hw (by omega) (by omega) hn (by omega) hr)
  have HS := Lib.hid hq; clear hq
  have i2 : ¬ (4 : Int) < (n : Int) := by omega
  have hd3 : t = false → (v : Int) = 0 ∧ (e : Int) = 0 := fun h => ⟨by have := (c3 h).1; omega, by have := (c3 h).2; omega⟩
  cases t
  case false =>
    obtain ⟨rfl, rfl⟩ := c3 rfl
    clear c3 hd3
    go_enter Try.func13, Try.ntmps13
    go_upto_region 1 with fail
    have U0 : Up w (w.alloc (.cells #[.int .u16 (m : Nat), .int .i64 s, .bool k, .slice A n c, .bool false, .int .u32 0, .int .u32 0] 26)) := up_al _ (Below.refl _ _)
    have A0 := Box.new w #[.int .u16 (m : Nat), .int .i64 s, .bool k, .slice A n c, .bool false, .int .u32 0, .int .u32 0] 26
    generalize (w.alloc (.cells #[.int .u16 (m : Nat), .int .i64 s, .bool k, .slice A n c, .bool false, .int .u32 0, .int .u32 0] 26)) = w0 at U0 A0 ⊢
    generalize w.heap.size = n0 at A0 ⊢
    obtain ⟨k0, k1, k2, k3, k4, k5, k6⟩ := Box.e7 A0
    go_wp2_with fail
    refine (HR.out w0 (hr.up U0)).mono ?_
    rintro e_ w1 ⟨⟨v1, rfl, hO1⟩, hv⟩
    obtain ⟨A1, c1, rfl⟩ := own_slice hO1 HS.out
    clear hO1
    go_wp2
    go_ret
    exact ⟨ret_bool HE.out, U0.on hv⟩
  case true =>
    clear c3 hd3
    go_enter Try.func13, Try.ntmps13
    go_upto_region 1 with fail
    have U0 : Up w (w.alloc (.cells #[.int .u16 (m : Nat), .int .i64 s, .bool k, .slice A n c, .bool true, .int .u32 (v : Nat), .int .u32 (e : Nat)] 26)) := up_al _ (Below.refl _ _)
    have A0 := Box.new w #[.int .u16 (m : Nat), .int .i64 s, .bool k, .slice A n c, .bool true, .int .u32 (v : Nat), .int .u32 (e : Nat)] 26
    generalize (w.alloc (.cells #[.int .u16 (m : Nat), .int .i64 s, .bool k, .slice A n c, .bool true, .int .u32 (v : Nat), .int .u32 (e : Nat)] 26)) = w0 at U0 A0 ⊢
    generalize w.heap.size = n0 at A0 ⊢
    obtain ⟨k0, k1, k2, k3, k4, k5, k6⟩ := Box.e7 A0
    go_wp2_with fail
    refine (HR.out w0 (hr.up U0)).mono ?_
    rintro e_ w1 ⟨⟨v1, rfl, hO1⟩, hv⟩
    obtain ⟨A1, c1, rfl⟩ := own_slice hO1 HS.out
    clear hO1
    go_wp2
    go_ret
    exact ⟨ret_bool HE.out, U0.on hv⟩
theorem lMay (m : Nat) (s : Int) (k t : Bool) (v e : Nat) (A : Option Addr) (n c : Nat) (b : List (Nat × Nat)) (w : World) (hw : Wf ⟨m, s, k, b, t, v, e⟩) (hn : b.length = n) (hr : RdB w A b) :
    Calls Try.prog 13 #[OA m s k A n c t v e] w fun e_ w' => e_ = .returned (.bool (mayb ⟨m, s, k, b, t, v, e⟩)) ∧ Up w w' := by
  by_cases c0 : s < -1
  · exact lmay0 m s k t v e A n c b w hw hn hr c0
  by_cases c1 : 14 < s
  · exact lmay1 m s k t v e A n c b w hw hn hr c0 c1
  by_cases c2 : 4 < n
  · exact lmay2 m s k t v e A n c b w hw hn hr c0 c1 c2
  by_cases c3 : t = false
  · by_cases c4 : v = 0
    · by_cases c5 : e = 0
      · exact lmay5 m s k t v e A n c b w hw hn hr c0 c1 c2 (fun _ => ⟨c4, c5⟩)
      · exact lmay4 m s k t v e A n c b w hw hn hr c0 c1 c2 c3 c4 (by omega)
    · exact lmay3 m s k t v e A n c b w hw hn hr c0 c1 c2 c3 (by omega)
  · exact lmay5 m s k t v e A n c b w hw hn hr c0 c1 c2 (fun h => absurd h c3)
set_option maxHeartbeats 4000000 in
set_option maxRecDepth 100000 in
theorem lEncode (m : Nat) (s : Int) (k t : Bool) (v e : Nat) (A : Option Addr) (n c : Nat) (b : List (Nat × Nat)) (w : World) (hw : Wf ⟨m, s, k, b, t, v, e⟩) (hn : b.length = n) (hr : RdB w A b) :
    Calls Try.prog 9 #[OA m s k A n c t v e] w fun e_ w' => e_ = .returned (EVo ⟨m, s, k, b, t, v, e⟩) ∧ Up w w' := by
  have HM := Lib.hid (fun w hr => lMay m s k t v e A n c b w hw hn hr)
  by_cases h : May ⟨m, s, k, b, t, v, e⟩
  · have HE := Lib.hid (EVo_ok h)
    have HD := Lib.hid (mayb_t h)
    have HR := Lib.hid (fun w hr => laidC m s k t v e A n c b w hw h.1 h.2.1 hn (by have := h.2.2.1; dsimp only at this; omega) hr)
    clear h
    go_enter Try.func9, Try.ntmps9
    go_upto_region 1 with fail
    have U0 : Up w (w.alloc (.cells #[.int .u16 (m : Nat), .int .i64 s, .bool k, .slice A n c, .bool t, .int .u32 (v : Nat), .int .u32 (e : Nat)] 26)) := up_al _ (Below.refl _ _)
    have A0 := Box.new w #[.int .u16 (m : Nat), .int .i64 s, .bool k, .slice A n c, .bool t, .int .u32 (v : Nat), .int .u32 (e : Nat)] 26
    generalize (w.alloc (.cells #[.int .u16 (m : Nat), .int .i64 s, .bool k, .slice A n c, .bool t, .int .u32 (v : Nat), .int .u32 (e : Nat)] 26)) = w0 at U0 A0 ⊢
    generalize w.heap.size = n0 at A0 ⊢
    obtain ⟨k0, k1, k2, k3, k4, k5, k6⟩ := Box.e7 A0
    go_wp2_with fail
    refine (HM.out w0 (hr.up U0)).mono ?_
    rintro e_ w1 ⟨rfl, hv⟩
    rw [HD.out]
    have U1 := U0.on hv
    have A1 := A0.up hv
    clear k0 k1 k2 k3 k4 k5 k6
    obtain ⟨k0, k1, k2, k3, k4, k5, k6⟩ := Box.e7 A1
    go_wp2_with fail
    refine (HR.out w1 (hr.up U1)).mono ?_
    rintro e_ w2 ⟨⟨v2, rfl, hO2⟩, hv2⟩
    have hcv := conv_any hO2
    clear hO2
    obtain ⟨X, hX⟩ : ∃ X, tx (raw ⟨m, s, k, b, t, v, e⟩) = X := ⟨_, rfl⟩
    rw [hX] at hcv HE
    clear hX
    go_wp2
    go_ret2
    exact ⟨by rw [HE.out]; rfl, U1.on hv2⟩
  · have HE := Lib.hid (EVo_no h)
    have HD := Lib.hid (mayb_f h)
    clear h
    go_enter Try.func9, Try.ntmps9
    go_upto_region 1 with fail
    have U0 : Up w (w.alloc (.cells #[.int .u16 (m : Nat), .int .i64 s, .bool k, .slice A n c, .bool t, .int .u32 (v : Nat), .int .u32 (e : Nat)] 26)) := up_al _ (Below.refl _ _)
    have A0 := Box.new w #[.int .u16 (m : Nat), .int .i64 s, .bool k, .slice A n c, .bool t, .int .u32 (v : Nat), .int .u32 (e : Nat)] 26
    generalize (w.alloc (.cells #[.int .u16 (m : Nat), .int .i64 s, .bool k, .slice A n c, .bool t, .int .u32 (v : Nat), .int .u32 (e : Nat)] 26)) = w0 at U0 A0 ⊢
    generalize w.heap.size = n0 at A0 ⊢
    obtain ⟨k0, k1, k2, k3, k4, k5, k6⟩ := Box.e7 A0
    go_wp2_with fail
    refine (HM.out w0 (hr.up U0)).mono ?_
    rintro e_ w1 ⟨rfl, hv⟩
    rw [HD.out]
    go_wp2
    go_ret2
    exact ⟨by rw [HE.out]; rfl, U0.on hv⟩
theorem mayC : MayC := fun m s k b t v e A n c w h => lMay m s k t v e A n c b w h.1 h.2.2.2.1 h.2.2.1
theorem encC : EncC := fun m s k b t v e A n c w h => lEncode m s k t v e A n c b w h.1 h.2.2.2.1 h.2.2.1
end Go.Proofs.Ytdlcglkeinlimaa.op
