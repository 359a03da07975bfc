/- slices.SortFunc at spans, by where they begin. Condition: the arguments fit their kinds; a list of less than a million spans. -/
import Derived.Test.YtejknbpadlidaaaSpanJ
namespace Go.Proofs.Ytejknbpadlidaaa.sp
open Go.RowKit Go.Shelf Go.Lib Go.Sort Go.Proofs.Ytejknbpadlidaaa.spm
set_option linter.unusedVariables false

def GrowOf (W w' : World) : Prop := ∃ q os, w' = grow (W.drewN q) os
theorem GrowOf.refl_ (W : World) : GrowOf W W := ⟨0, #[], by rw [grow_empty]; rfl⟩
theorem GrowOf.drew1 (W : World) : GrowOf W W.drew := ⟨1, #[], by rw [grow_empty]; rfl⟩
theorem GrowOf.trans_ {a b c : World} (h : GrowOf a b) (k : GrowOf b c) : GrowOf a c := by
  obtain ⟨q, os, rfl⟩ := h
  obtain ⟨q', os', rfl⟩ := k
  exact ⟨q + q', os ++ os', by show grow (grow ((a.drewN q).drewN q') os) os' = _; rw [grow_grow, World.drewN_drewN]⟩
theorem GrowOf.alloc_ {a b : World} (h : GrowOf a b) (o : Obj) : GrowOf a (b.alloc o) := h.trans_ ⟨0, #[o], by rw [alloc_eq_grow]; rfl⟩
theorem GrowOf.below {a b : World} (h : GrowOf a b) : RowKit.Below a.heap.size a b := by obtain ⟨q, os, rfl⟩ := h; exact grow_below a q os

/-- a world that has drawn, and grown, from W -/
structure Kig (W : World) where
  w : World
  grown : GrowOf W w
instance (W : World) : Nonempty (Kig W) := ⟨⟨W, GrowOf.refl_ W⟩⟩
theorem wp_region_kig {P : Program} {id : Nat} {Q : Exit → Act → World → Prop} {a : Act} {w : World} {l : List Oper} (hm : P.follows .mixedOrders = true) (hB : Region.lexB .any l.toArray = true)
    (h : wpQuiet P l.toArray (fun w' => ∃ t : Kig w, w' = t.w) (fun a' => ∀ w', (∃ t : Kig w, w' = t.w) → Q .normal a' w') l a) : (Code.region id l.toArray true).wp P Q a w :=
  wp_region_quiet (C := fun w' => ∃ t : Kig w, w' = t.w) hm hB ⟨⟨_, GrowOf.drew1 w⟩, rfl⟩ (by simpa using h)
theorem Kig.cell {W : World} {a : Addr} {v : Value} (h : W.cell? a = some v) (t : Kig W) : t.w.cell? a = some v := cell_up t.grown.below h
theorem Kig.call {P : Program} {f : FuncId} {args : Array Value} {W : World} {v : Value} (t : Kig W) (h : Calls P f args t.w fun e w' => e = .returned v ∧ GrowOf t.w w') :
    Calls P f args t.w fun e w'' => e = .returned v ∧ ∃ t' : Kig W, w'' = t'.w :=
  h.mono fun _ _ ⟨he, hb⟩ => ⟨he, ⟨_, t.grown.trans_ hb⟩, rfl⟩

theorem startG (a b : Int) (w : World) :
    Calls Try.prog 47 #[.agg #[.int .u64 a, .int .u64 b]] w fun e w' => e = .returned (.int .u64 a) ∧ GrowOf w w' := by
  go_enter Try.func47, Try.ntmps47
  go_wp2
  go_ret
  exact ⟨rfl, (GrowOf.refl_ _).alloc_ _⟩
theorem nanC (a : Int) (w : World) : Calls Try.prog 60 #[.int .u64 a] w fun e w' => e = .returned (.bool false) ∧ w = w' := by
  go_enter Try.func60, Try.ntmps60
  go_wp2
  go_ret
  exact ⟨rfl, rfl⟩
theorem compareC (a b : Int) (w : World) : Calls Try.prog 55 #[.int .u64 a, .int .u64 b] w fun e w' => e = .returned (.int .i64 (Lib.compareInt a b)) ∧ w = w' := by
  by_cases h1 : a < b
  · have HC := Lib.hid (show Lib.compareInt a b = -1 by simp [Lib.compareInt, h1])
    go_enter Try.func55, Try.ntmps55
    go_wp2_with (go_at_call 60; refine (nanC _ _).mono ?_; rintro e w' ⟨rfl, rfl⟩)
    go_ret
    exact ⟨ret_int HC.out.symm, rfl⟩
  · by_cases h2 : b < a
    · have HC := Lib.hid (show Lib.compareInt a b = 1 by simp [Lib.compareInt, h1, h2])
      go_enter Try.func55, Try.ntmps55
      go_wp2_with (go_at_call 60; refine (nanC _ _).mono ?_; rintro e w' ⟨rfl, rfl⟩)
      go_ret
      exact ⟨ret_int HC.out.symm, rfl⟩
    · have HC := Lib.hid (show Lib.compareInt a b = 0 by simp [Lib.compareInt, h1, h2])
      have h1' : b ≤ a := by omega
      have h2' : a ≤ b := by omega
      go_enter Try.func55, Try.ntmps55
      go_wp2_with (go_at_call 60; refine (nanC _ _).mono ?_; rintro e w' ⟨rfl, rfl⟩)
      go_ret
      exact ⟨ret_int HC.out.symm, rfl⟩

def cfS (x y : Sp) : Int := Lib.compareInt x.1 y.1
theorem ltS (x y : Sp) : ltOf cfS x y = decide (x.1 < y.1) := by
  unfold ltOf cfS Lib.compareInt
  by_cases h1 : x.1 < y.1
  · simp [h1]
  · by_cases h2 : y.1 < x.1 <;> simp [h1, h2]
theorem swoS : SWO (ltOf cfS) where
  irrefl x := by rw [ltS]; simp
  trans x y z h1 h2 := by rw [ltS] at *; simp at *; omega
  ntrans x y z h1 h2 := by rw [ltS] at *; simp at *; omega
def encS (x : Sp) : List Value := [.int .u64 x.1, .int .u64 x.2]

set_option maxHeartbeats 1000000 in
theorem closureC (x1 x2 y1 y2 : Int) (p : Addr) (W : World) (hp : W.cell? p = some (.func (.func 47) #[] #[])) :
    Calls Try.prog 54 #[.agg #[.int .u64 x1, .int .u64 x2], .agg #[.int .u64 y1, .int .u64 y2], .pointer (some p)] W fun e w' => e = .returned (.int .i64 (Lib.compareInt x1 y1)) ∧ GrowOf W w' := by
  obtain ⟨V, hV⟩ : ∃ V, Hid (V = (W.alloc (.cells #[.int .u64 x1, .int .u64 x2] 31)).alloc (.cells #[.int .u64 y1, .int .u64 y2] 31)) := ⟨_, rfl⟩
  have hG : GrowOf W V := by rw [hV.out]; exact ((GrowOf.refl_ _).alloc_ _).alloc_ _
  have g1 : V.cell? ⟨W.heap.size, 0, none⟩ = some (.int .u64 x1) := by rw [hV.out]; go_simp
  have g2 : V.cell? ⟨W.heap.size, 1, none⟩ = some (.int .u64 x2) := by rw [hV.out]; go_simp
  have g3 : V.cell? ⟨W.heap.size + 1, 0, none⟩ = some (.int .u64 y1) := by rw [hV.out]; go_simp
  have g4 : V.cell? ⟨W.heap.size + 1, 1, none⟩ = some (.int .u64 y2) := by rw [hV.out]; go_simp
  have g5 := cell_up hG.below hp
  replace g1 := Kig.cell g1; replace g2 := Kig.cell g2; replace g3 := Kig.cell g3; replace g4 := Kig.cell g4; replace g5 := Kig.cell g5
  generalize hr : Lib.compareInt x1 y1 = r
  have hcmp := fun W' => compareC x1 y1 W'
  rw [hr] at hcmp
  have HC := Lib.hid hcmp; clear hr hcmp
  clear hp
  go_enter Try.func54, Try.ntmps54
  go_wp2_with fail
  rw [← hV.out]
  refine wp_region_kig (by kernel_rfl) (by kernel_rfl) ?_
  repeat (go_big_quiet_step ((first | (go_at_call 55; exact Kig.call _ ((HC.out _).mono fun _ _ ⟨he, hw⟩ => ⟨he, hw ▸ GrowOf.refl_ _⟩)) | (go_at_call 47; exact Kig.call _ (startG _ _ _)))))
  refine wpQuiet_nil ?_
  rintro _ ⟨⟨w1, hb1⟩, rfl⟩
  go_wp2
  go_ret
  exact ⟨rfl, hG.trans_ hb1⟩
end Go.Proofs.Ytejknbpadlidaaa.sp
