/- B H A: contracts, part 24. Condition: as each says. -/
import Derived.Test.YtafckmbgefbonaaKBHA23
import Derived.StillTailTactics
set_option linter.unusedVariables false
set_option linter.unusedSimpArgs false
namespace Go.Proofs.Ytafckmbgefbonaa.ip
open Go.RowKit Go.Shelf Go.Proofs.Ytafckmbgefbonaa.sm Go.Proofs.Ytafckmbgefbonaa.nb Go.Proofs.Ytafckmbgefbonaa.im
set_option linter.unusedVariables false

theorem results_cell1 {fn : Func} {p : Tmp} {ty : TypeId} (h : fn.results = #[.cell p ty]) (tmps : Array Value) (P : Program) (w : World) :
    (results fn tmps).run P w = ((asAddr (tmps.getD p undef)).run P w).andThen fun a w₁ => ((loadVar ty a).run P w₁).andThen fun v w₂ => .ok v w₂ := by
  simp only [results, h]
  simp [Sem.run_bind, Result.andThen]
  cases (Sem.run P (asAddr (tmps[p]?.getD undef)) w) with
  | ok a w1 => cases h2 : (Sem.run P (loadVar ty a) w1) <;> simp [h2]
  | halt h w1 => rfl
theorem fin7 {P : Program} {f : Func} {φ : Ending → World → Prop} {e : Exit} {a : Act} {w W : World} {b : Nat} {x0 x1 x2 x3 x4 x5 x6 y0 y1 y2 y3 y4 y5 y6 : Value} (hB : Box W b [x0, x1, x2, x3, x4, x5, x6]) (hu : Up w W) (hb : w.heap.size ≤ b)
    (h : ∀ W', Box W' b [y0, y1, y2, y3, y4, y5, y6] → Up w W' → bodyPost P f φ e a W') : bodyPost P f φ e a (((((((W.setCell ⟨b, 0, none⟩ y0).setCell ⟨b, 1, none⟩ y1).setCell ⟨b, 2, none⟩ y2).setCell ⟨b, 3, none⟩ y3).setCell ⟨b, 4, none⟩ y4).setCell ⟨b, 5, none⟩ y5).setCell ⟨b, 6, none⟩ y6) :=
  h _ (((((((hB.set 0 y0).set 1 y1).set 2 y2).set 3 y3).set 4 y4).set 5 y5).set 6 y6) (up_set (up_set (up_set (up_set (up_set (up_set (up_set hu hb) hb) hb) hb) hb) hb) hb)
theorem and_df (x : Int) (h : x = 0 ∨ x = 16384) : bits .and .u16 x 16384 = x := by rcases h with rfl | rfl <;> decide
abbrev RV (l : List UInt8) : Value := HV (qd l 12) (qd l 16) (bt l 9) (bt l 8) (bt l 1) (wd l 4) (decide (wd l 6 ≠ 0))

set_option maxHeartbeats 4000000 in
set_option maxRecDepth 100000 in
theorem readC (s : ByteArray) (w : World) (hs : s.size ≤ 1099511627776) (h20 : 20 ≤ s.size) (hx : wd (L s) 6 = 0 ∨ wd (L s) 6 = 16384) :
    Calls Try.prog 40 #[.string s] w fun e w' => e = .returned (RV (L s)) ∧ Up w w' := by
  have q := and_df _ hx
  have l1 : 1 < s.size := by omega
  have l8 : 8 < s.size := by omega
  have l9 : 9 < s.size := by omega
  have e1 := Lib.hid (bt_at s 1 l1); have e8 := Lib.hid (bt_at s 8 l8); have e9 := Lib.hid (bt_at s 9 l9)
  have i1 : (1 : Int) < (s.size : Int) := by omega
  have i8 : (8 : Int) < (s.size : Int) := by omega
  have i9 : (9 : Int) < (s.size : Int) := by omega
  have HX := Lib.hid hx; clear hx
  have HT := Lib.hid h20; clear h20
  have HS := Lib.hid hs; clear hs
  go_enter Try.func40, Try.ntmps40
  go_upto_region 1 with fail
  have hB := Box.new w #[.int .u32 0, .int .u32 0, .int .u8 0, .int .u8 0, .int .u8 0, .int .u16 0, .bool false] 57
  have hu : Up w (w.alloc (.cells #[.int .u32 0, .int .u32 0, .int .u8 0, .int .u8 0, .int .u8 0, .int .u16 0, .bool false] 57)) := up_al _ (Below.refl _ _)
  generalize (w.alloc (.cells #[.int .u32 0, .int .u32 0, .int .u8 0, .int .u8 0, .int .u8 0, .int .u16 0, .bool false] 57)) = w0 at hB hu ⊢
  have k0 := hB.at 0 rfl; have k1 := hB.at 1 rfl; have k2 := hB.at 2 rfl; have k3 := hB.at 3 rfl; have k4 := hB.at 4 rfl; have k5 := hB.at 5 rfl; have k6 := hB.at 6 rfl
  have f0 := hB.fr 0 rfl; have f1 := hB.fr 1 rfl; have f2 := hB.fr 2 rfl; have f3 := hB.fr 3 rfl; have f4 := hB.fr 4 rfl; have f5 := hB.fr 5 rfl; have f6 := hB.fr 6 rfl
  refine wp_region_still_tail 17 (by kernel_rfl) (by kernel_rfl) ?_
  simp only [List.take_succ_cons, List.take_zero, List.drop_succ_cons, List.drop_zero]
  repeat (first
    | still_step
    | still_call ((at32i s _ _ HS.out (by have := HT.out; omega)).mono fun _ _ h => ⟨h.1, h.2.symm⟩)
    | still_call ((at16i s _ _ HS.out (by have := HT.out; omega)).mono fun _ _ h => ⟨h.1, h.2.symm⟩))
  refine wpStill_nil ?_
  change wpList _ _ _ _ _ w0.drew
  have hB2 := hB.drew
  have hu2 : Up w w0.drew := up_dr hu
  clear k0 k1 k2 k3 k4 k5 k6 f0 f1 f2 f3 f4 f5 f6 hB hu q
  generalize w0.drew = w2 at hB2 hu2 ⊢
  have k0 := hB2.at 0 rfl; have k1 := hB2.at 1 rfl; have k2 := hB2.at 2 rfl; have k3 := hB2.at 3 rfl; have k4 := hB2.at 4 rfl; have k5 := hB2.at 5 rfl; have k6 := hB2.at 6 rfl
  have f0 := hB2.fr 0 rfl; have f1 := hB2.fr 1 rfl; have f2 := hB2.fr 2 rfl; have f3 := hB2.fr 3 rfl; have f4 := hB2.fr 4 rfl; have f5 := hB2.fr 5 rfl; have f6 := hB2.fr 6 rfl
  go_wp2
  refine fin7 hB2 hu2 (Nat.le_refl _) ?_
  clear k0 k1 k2 k3 k4 k5 k6 f0 f1 f2 f3 f4 f5 f6 hB2 hu2
  intro W3 hB3 hu3
  have k0 := hB3.at 0 rfl; have k1 := hB3.at 1 rfl; have k2 := hB3.at 2 rfl; have k3 := hB3.at 3 rfl; have k4 := hB3.at 4 rfl; have k5 := hB3.at 5 rfl; have k6 := hB3.at 6 rfl
  refine bodyPost_ret (v := HV (qd (L s) 12) (qd (L s) 16) (s[9].toNat : Int) (s[8].toNat : Int) (s[1].toNat : Int) (wd (L s) 4) (wd (L s) 6 != 0)) ?_ rfl ⟨?_, hu3⟩
  · rw [results_cell1 rfl]; go_simp
  · rw [e1.out, e8.out, e9.out, bne_dec]
end Go.Proofs.Ytafckmbgefbonaa.ip
