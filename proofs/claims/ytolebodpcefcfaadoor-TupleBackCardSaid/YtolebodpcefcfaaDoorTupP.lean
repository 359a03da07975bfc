/- Package tuple: what the document fixes is so. Condition: the library's variables lie as laid. -/
import Derived.Test.YtolebodpcefcfaaDoorTupO
import Derived.Test.YtolebodpcefcfaaDoorTupK
namespace Go.Proofs.YtolebodpcefcfaaDoor.tu
open Go.RowKit Go.Shelf Go.Proofs.YtolebodpcefcfaaDoor.tm
set_option linter.unusedVariables false

theorem L_ten : L { data := #[49, 48, 46, 48, 46, 48, 46, 49, 58, 56, 48] } = T 167772161 80 := by rw [T_ten]
theorem pa_ten : pa (L { data := #[49, 48, 46, 48, 46, 48, 46, 49, 58, 56, 48] }) = (167772161, 80, 0) := by rw [L_ten]; exact pa_T (by decide) (by decide)
theorem pa_bad : pa (L { data := #[49, 48, 46, 48, 46, 48, 46, 48, 49, 58, 56, 48] }) = (0, 0, 8) := pa_eq (.inr ⟨rfl, rfl, rfl, fun i p hi hp => no_01 i p hi hp⟩)
theorem rd_six1 : rd (L { data := #[10, 0, 0, 1, 0, 80] }) = (167772161, 80, 0) := by decide
theorem tS_ten : tS 167772161 80 = { data := #[49, 48, 46, 48, 46, 48, 46, 49, 58, 56, 48] } := ba_eq (by rw [L_tS, L_ten])
theorem bs_six : bs 167772161 80 = { data := #[10, 0, 0, 1, 0, 80] } := ba_eq (by rw [L_bs]; decide)
theorem parse1 (W : World) (E : Env W) : Calls Tryd.prog 6 #[.string { data := #[49, 48, 46, 48, 46, 48, 46, 49, 58, 56, 48] }] W fun e w' => e = .returned (.tuple #[.agg #[.int .u32 167772161, .int .u16 80], .int .i64 0]) ∧ Up W w' :=
  (parseC _ W (by decide) E).mono fun e w' ⟨h1, h2⟩ => ⟨by rw [h1, pa_ten]; rfl, h2⟩
theorem parse2 (W : World) (E : Env W) : Calls Tryd.prog 6 #[.string { data := #[49, 48, 46, 48, 46, 48, 46, 48, 49, 58, 56, 48] }] W fun e w' => e = .returned (.tuple #[.agg #[.int .u32 0, .int .u16 0], .int .i64 8]) ∧ Up W w' :=
  (parseC _ W (by decide) E).mono fun e w' ⟨h1, h2⟩ => ⟨by rw [h1, pa_bad]; rfl, h2⟩
theorem read1 (W : World) : Calls Tryd.prog 8 #[.string { data := #[10, 0, 0, 1, 0, 80] }] W fun e w' => e = .returned (.tuple #[.agg #[.int .u32 167772161, .int .u16 80], .int .i64 0]) ∧ Up W w' :=
  (readC _ W (by decide)).mono fun e w' ⟨h1, h2⟩ => ⟨by rw [h1, rd_six1]; rfl, h2⟩
theorem text1 (W : World) (E : Env W) : Calls Tryd.prog 10 #[.agg #[.int .u32 167772161, .int .u16 80]] W fun e w' => e = .returned (.string { data := #[49, 48, 46, 48, 46, 48, 46, 49, 58, 56, 48] }) ∧ Up W w' :=
  (textC 167772161 80 W (by decide) (by decide) E).mono fun e w' ⟨h1, h2⟩ => ⟨by rw [h1, tS_ten], h2⟩
theorem bytes1 (W : World) : Calls Tryd.prog 12 #[.agg #[.int .u32 167772161, .int .u16 80]] W fun e w' => e = .returned (.string { data := #[10, 0, 0, 1, 0, 80] }) ∧ Up W w' :=
  (bytesC 167772161 80 W (by decide) (by decide)).mono fun e w' ⟨h1, h2⟩ => ⟨by rw [h1, bs_six], h2⟩
theorem turned1 (W : World) : Calls Tryd.prog 16 #[.agg #[.int .u32 167772161, .int .u16 80, .int .u32 0, .int .u16 0]] W fun e w' => e = .returned (.agg #[.int .u32 0, .int .u16 0, .int .u32 167772161, .int .u16 80]) ∧ Up W w' := turnedC 167772161 80 0 0 W
theorem compare1 (W : World) : Calls Tryd.prog 14 #[.agg #[.int .u32 167772161, .int .u16 80, .int .u32 0, .int .u16 0], .agg #[.int .u32 0, .int .u16 0, .int .u32 167772161, .int .u16 80]] W fun e w' => e = .returned (.int .i64 1) ∧ Up W w' := compareC 167772161 80 0 0 0 0 167772161 80 W

theorem field1 (W : World) : (Instr.field 27 (.agg #[.int .u32 0, .int .u16 0, .int .u32 167772161, .int .u16 80]) 1).run Tryd.prog W = .ok (.agg #[.int .u32 167772161, .int .u16 80]) W := by kernel_rfl
set_option maxHeartbeats 4000000 in
set_option maxRecDepth 100000 in
theorem aliveC (w : World) (E : Env w) : Calls Tryd.prog 5 #[] w fun e w' => e = .returned (.bool true) ∧ Up w w' := by
  go_enter Tryd.func5, Tryd.ntmps5
  go_upto_region 2 with fail
  have U0 : Up w (w.alloc (.cells #[.int .u32 167772161, .int .u16 80] 25)) := up_al _ (Below.refl _ _)
  have A0 := Box.new w 167772161 80
  generalize (w.alloc (.cells #[.int .u32 167772161, .int .u16 80] 25)) = w0 at U0 A0 ⊢
  generalize w.heap.size = n0 at A0 ⊢
  have E0 := E.up U0
  go_upto_region 3 with (go_at_call 6; refine (parse1 w0 E0).mono ?_; rintro e v1 ⟨rfl, hv1⟩)
  have U1 : Up w (v1.alloc (.cells #[.int .u32 167772161, .int .u16 80] 25)) := up_al _ (U0.on hv1)
  have A1 := (A0.up hv1).alloc (.cells #[.int .u32 167772161, .int .u16 80] 25)
  have B1 := Box.new v1 167772161 80
  generalize (v1.alloc (.cells #[.int .u32 167772161, .int .u16 80] 25)) = w1 at U1 A1 B1 ⊢
  generalize v1.heap.size = n1 at B1 ⊢
  have E1 := E.up U1
  go_upto_region 4 with (go_at_call 6; refine (parse2 w1 E1).mono ?_; rintro e v2 ⟨rfl, hv2⟩)
  have U2 : Up w (v2.alloc (.cells #[.int .u32 0, .int .u16 0] 25)) := up_al _ (U1.on hv2)
  have A2 := (A1.up hv2).alloc (.cells #[.int .u32 0, .int .u16 0] 25)
  have B2 := (B1.up hv2).alloc (.cells #[.int .u32 0, .int .u16 0] 25)
  generalize (v2.alloc (.cells #[.int .u32 0, .int .u16 0] 25)) = w2 at U2 A2 B2 ⊢
  generalize v2.heap.size = n2 at ⊢
  go_upto_region 5 with (go_at_call 8; refine (read1 w2).mono ?_; rintro e v3 ⟨rfl, hv3⟩)
  have U3 : Up w (v3.alloc (.cells #[.int .u32 167772161, .int .u16 80] 25)) := up_al _ (U2.on hv3)
  have A3 := (A2.up hv3).alloc (.cells #[.int .u32 167772161, .int .u16 80] 25)
  have B3 := (B2.up hv3).alloc (.cells #[.int .u32 167772161, .int .u16 80] 25)
  have C3 := Box.new v3 167772161 80
  generalize (v3.alloc (.cells #[.int .u32 167772161, .int .u16 80] 25)) = w3 at U3 A3 B3 C3 ⊢
  generalize v3.heap.size = n3 at C3 ⊢
  have A3' := Lib.hid A3
  obtain ⟨a0, a1, -, -, -⟩ := A3
  go_upto_region 6 with fail
  have U4 : Up w (w3.alloc (.cells #[.int .u32 167772161, .int .u16 80, .int .u32 0, .int .u16 0] 27)) := up_al _ U3
  have A4 : Box (w3.alloc (.cells #[.int .u32 167772161, .int .u16 80, .int .u32 0, .int .u16 0] 27)) n0 167772161 80 := Box.alloc (A3'.out) _
  have B4 := B3.alloc (.cells #[.int .u32 167772161, .int .u16 80, .int .u32 0, .int .u16 0] 27)
  have C4 := C3.alloc (.cells #[.int .u32 167772161, .int .u16 80, .int .u32 0, .int .u16 0] 27)
  have D4 := Box2.new w3 167772161 80 0 0
  generalize (w3.alloc (.cells #[.int .u32 167772161, .int .u16 80, .int .u32 0, .int .u16 0] 27)) = w4 at U4 A4 B4 C4 D4 ⊢
  generalize w3.heap.size = n4 at D4 ⊢
  have E4 := E.up U4
  clear a0 a1 B3 C3 U3 A3'
  obtain ⟨k0, k1, -, -, kz⟩ := A4
  obtain ⟨l0, l1, -, -, lz⟩ := B4
  obtain ⟨m0, m1, -, -, mz⟩ := C4
  obtain ⟨p0, p1, p2, p3, pz⟩ := D4
  have V4 : Up w4 w4 := Below.refl _ _
  have hf := field1
  go_region_held3 (fun w' => w'.cell? ⟨n0, 0, none⟩ = some (.int .u32 167772161) ∧ w'.cell? ⟨n0, 1, none⟩ = some (.int .u16 80) ∧ w'.cell? ⟨n1, 0, none⟩ = some (.int .u32 167772161) ∧ w'.cell? ⟨n1, 1, none⟩ = some (.int .u16 80) ∧ w'.cell? ⟨n3, 0, none⟩ = some (.int .u32 167772161) ∧ w'.cell? ⟨n3, 1, none⟩ = some (.int .u16 80) ∧ w'.cell? ⟨n4, 0, none⟩ = some (.int .u32 167772161) ∧ w'.cell? ⟨n4, 1, none⟩ = some (.int .u16 80) ∧ w'.cell? ⟨n4, 2, none⟩ = some (.int .u32 0) ∧ w'.cell? ⟨n4, 3, none⟩ = some (.int .u16 0)) (first | exact ⟨k0, k1, l0, l1, m0, m1, p0, p1, p2, p3⟩ | exact ⟨(Below.cell (B := w4.heap.size) (w := w4) (p := ⟨n0, 0, none⟩) (by repeat (first | assumption | apply up_al | apply up_dr | apply up_drN)) kz).trans k0, (Below.cell (B := w4.heap.size) (w := w4) (p := ⟨n0, 1, none⟩) (by repeat (first | assumption | apply up_al | apply up_dr | apply up_drN)) kz).trans k1, (Below.cell (B := w4.heap.size) (w := w4) (p := ⟨n1, 0, none⟩) (by repeat (first | assumption | apply up_al | apply up_dr | apply up_drN)) lz).trans l0, (Below.cell (B := w4.heap.size) (w := w4) (p := ⟨n1, 1, none⟩) (by repeat (first | assumption | apply up_al | apply up_dr | apply up_drN)) lz).trans l1, (Below.cell (B := w4.heap.size) (w := w4) (p := ⟨n3, 0, none⟩) (by repeat (first | assumption | apply up_al | apply up_dr | apply up_drN)) mz).trans m0, (Below.cell (B := w4.heap.size) (w := w4) (p := ⟨n3, 1, none⟩) (by repeat (first | assumption | apply up_al | apply up_dr | apply up_drN)) mz).trans m1, (Below.cell (B := w4.heap.size) (w := w4) (p := ⟨n4, 0, none⟩) (by repeat (first | assumption | apply up_al | apply up_dr | apply up_drN)) pz).trans p0, (Below.cell (B := w4.heap.size) (w := w4) (p := ⟨n4, 1, none⟩) (by repeat (first | assumption | apply up_al | apply up_dr | apply up_drN)) pz).trans p1, (Below.cell (B := w4.heap.size) (w := w4) (p := ⟨n4, 2, none⟩) (by repeat (first | assumption | apply up_al | apply up_dr | apply up_drN)) pz).trans p2, (Below.cell (B := w4.heap.size) (w := w4) (p := ⟨n4, 3, none⟩) (by repeat (first | assumption | apply up_al | apply up_dr | apply up_drN)) pz).trans p3⟩) (first
    | (go_at_call 10; refine (text1 _ (E4.up (by repeat (first | assumption | apply up_al | apply up_dr | apply up_drN)))).mono ?_; rintro e w5 ⟨rfl, h5⟩; have g5 : Up w4 w5 := Up.on (by repeat (first | assumption | apply up_al | apply up_dr | apply up_drN)) h5)
    | (go_at_call 12; refine (bytes1 _).mono ?_; rintro e w5 ⟨rfl, h5⟩; have g5 : Up w4 w5 := Up.on (by repeat (first | assumption | apply up_al | apply up_dr | apply up_drN)) h5)
    | (go_at_call 16; refine (turned1 _).mono ?_; rintro e w5 ⟨rfl, h5⟩; have g5 : Up w4 w5 := Up.on (by repeat (first | assumption | apply up_al | apply up_dr | apply up_drN)) h5)
    | (go_at_call 14; refine (compare1 _).mono ?_; rintro e w5 ⟨rfl, h5⟩; have g5 : Up w4 w5 := Up.on (by repeat (first | assumption | apply up_al | apply up_dr | apply up_drN)) h5))
  all_goals go_wp2
  all_goals go_ret
  all_goals exact ⟨rfl, U4.on (by repeat (first | assumption | apply up_al | apply up_dr | apply up_drN))⟩
end Go.Proofs.YtolebodpcefcfaaDoor.tu
