/- B H A: contracts, part 26. Condition: as each says. -/
import Derived.Test.YtafckmbgefbonaaKBHA5
import Derived.Test.YtafckmbgefbonaaKBHA18
set_option linter.unusedVariables false
set_option linter.unusedSimpArgs false
namespace Go.Proofs.Ytafckmbgefbonaa.nb
open Go.RowKit Go.Shelf Go.Proofs.Ytafckmbgefbonaa.sm
set_option linter.unusedVariables false

theorem of_one (b : Nat) (l : List UInt8) (w : World) (h : w.cell? ⟨b, 0, none⟩ = some (.string (tx l))) (hs : l.length ≤ 1099511627776) :
    Calls Try.prog 37 #[.slice (some ⟨b, 0, none⟩) 1 1] w fun e w' => e = .returned (.int .u16 (ck (wsum l))) ∧ Up w w' := by
  have hc := su.ofC (some ⟨b, 0, none⟩) 1 1 [tx l] rfl (by simp) (by show (L (tx l) ++ []).length ≤ _; rw [L_tx, List.append_nil]; exact hs) w
    (fun _ => ⟨b, 0, rfl, World.block_lt_of_cell? w _ h, fun j hj => by match j, hj with | 0, _ => exact h⟩)
  have e : su.cat [tx l] = l := by show L (tx l) ++ [] = l; rw [L_tx, List.append_nil]
  rw [e] at hc
  exact hc

end Go.Proofs.Ytafckmbgefbonaa.nb

namespace Go.Proofs.Ytafckmbgefbonaa.tc
open Go.RowKit Go.Shelf Go.Proofs.Ytafckmbgefbonaa.sm Go.Proofs.Ytafckmbgefbonaa.nb Go.Proofs.Ytafckmbgefbonaa.cm
set_option linter.unusedVariables false

abbrev HV (p q sq ak fl wi ur : Int) (o : ByteArray) : Value := .agg #[.int .u16 p, .int .u16 q, .int .u32 sq, .int .u32 ak, .int .u8 fl, .int .u16 wi, .int .u16 ur, .string o]
end Go.Proofs.Ytafckmbgefbonaa.tc

namespace Go.Proofs.Ytafckmbgefbonaa.tc
open Go.RowKit Go.Shelf Go.Proofs.Ytafckmbgefbonaa.sm Go.Proofs.Ytafckmbgefbonaa.nb Go.Proofs.Ytafckmbgefbonaa.cm
set_option linter.unusedVariables false

theorem Box.e8 {W : World} {b : Nat} {x0 x1 x2 x3 x4 x5 x6 x7 : Value} (h : Box W b [x0, x1, x2, x3, x4, x5, x6, x7]) : W.cell? ⟨b, 0, none⟩ = some x0 ∧ W.cell? ⟨b, 1, none⟩ = some x1 ∧ W.cell? ⟨b, 2, none⟩ = some x2 ∧ W.cell? ⟨b, 3, none⟩ = some x3 ∧ W.cell? ⟨b, 4, none⟩ = some x4 ∧ W.cell? ⟨b, 5, none⟩ = some x5 ∧ W.cell? ⟨b, 6, none⟩ = some x6 ∧ W.cell? ⟨b, 7, none⟩ = some x7 :=
  ⟨h.at 0 rfl, h.at 1 rfl, h.at 2 rfl, h.at 3 rfl, h.at 4 rfl, h.at 5 rfl, h.at 6 rfl, h.at 7 rfl⟩
def EV (x y p q sq ak fl wi ur : Nat) (o d : ByteArray) : Value :=
  if o.size % 4 ≠ 0 ∨ 40 < o.size ∨ 64 ≤ fl then .tuple #[.string ByteArray.empty, .int .i64 2]
  else if 65515 < 20 + o.size + d.size then .tuple #[.string ByteArray.empty, .int .i64 4]
  else .tuple #[.string (tx (en x y p q sq ak fl wi ur (L o) (L d))), .int .i64 0]
section
variable {x y p q sq ak fl wi ur : Nat} {o d : ByteArray}
theorem EV_arg (h : o.size % 4 ≠ 0 ∨ 40 < o.size ∨ 64 ≤ fl) : EV x y p q sq ak fl wi ur o d = .tuple #[.string ByteArray.empty, .int .i64 2] := if_pos h
theorem EV_long (h : ¬ (o.size % 4 ≠ 0 ∨ 40 < o.size ∨ 64 ≤ fl)) (h1 : 65515 < 20 + o.size + d.size) : EV x y p q sq ak fl wi ur o d = .tuple #[.string ByteArray.empty, .int .i64 4] := by
  unfold EV; rw [if_neg h, if_pos h1]
theorem EV_ok (h : ¬ (o.size % 4 ≠ 0 ∨ 40 < o.size ∨ 64 ≤ fl)) (h1 : ¬ 65515 < 20 + o.size + d.size) : EV x y p q sq ak fl wi ur o d = .tuple #[.string (tx (en x y p q sq ak fl wi ur (L o) (L d))), .int .i64 0] := by
  unfold EV; rw [if_neg h, if_neg h1]
end
end Go.Proofs.Ytafckmbgefbonaa.tc

namespace Go.Proofs.Ytafckmbgefbonaa.tc
open Go.RowKit Go.Shelf Go.Proofs.Ytafckmbgefbonaa.sm Go.Proofs.Ytafckmbgefbonaa.nb Go.Proofs.Ytafckmbgefbonaa.cm
set_option linter.unusedVariables false

theorem Box.c8 {W : World} {b : Nat} {x0 x1 x2 x3 x4 x5 x6 x7 : Value} (h : Box W b [x0, x1, x2, x3, x4, x5, x6, x7]) : W.cell? ⟨b, 0, none⟩ = some x0 ∧ W.cell? ⟨b, 1, none⟩ = some x1 ∧ W.cell? ⟨b, 2, none⟩ = some x2 ∧ W.cell? ⟨b, 3, none⟩ = some x3 ∧ W.cell? ⟨b, 4, none⟩ = some x4 ∧ W.cell? ⟨b, 5, none⟩ = some x5 ∧ W.cell? ⟨b, 6, none⟩ = some x6 ∧ W.cell? ⟨b, 7, none⟩ = some x7 ∧ W.frozen? ⟨b, 0, none⟩ = false ∧ W.frozen? ⟨b, 1, none⟩ = false ∧ W.frozen? ⟨b, 2, none⟩ = false ∧ W.frozen? ⟨b, 3, none⟩ = false ∧ W.frozen? ⟨b, 4, none⟩ = false ∧ W.frozen? ⟨b, 5, none⟩ = false ∧ W.frozen? ⟨b, 6, none⟩ = false ∧ W.frozen? ⟨b, 7, none⟩ = false :=
  ⟨h.at 0 rfl, h.at 1 rfl, h.at 2 rfl, h.at 3 rfl, h.at 4 rfl, h.at 5 rfl, h.at 6 rfl, h.at 7 rfl, h.fr 0 rfl, h.fr 1 rfl, h.fr 2 rfl, h.fr 3 rfl, h.fr 4 rfl, h.fr 5 rfl, h.fr 6 rfl, h.fr 7 rfl⟩
theorem put8 {W : World} {b : Nat} {x0 x1 x2 x3 x4 x5 x6 x7 : Value} (hB : Box W b [x0, x1, x2, x3, x4, x5, x6, x7]) (y0 y1 y2 y3 y4 y5 y6 y7 : Value) : Box ((((((((W.setCell ⟨b, 0, none⟩ y0).setCell ⟨b, 1, none⟩ y1).setCell ⟨b, 2, none⟩ y2).setCell ⟨b, 3, none⟩ y3).setCell ⟨b, 4, none⟩ y4).setCell ⟨b, 5, none⟩ y5).setCell ⟨b, 6, none⟩ y6).setCell ⟨b, 7, none⟩ y7) b [y0, y1, y2, y3, y4, y5, y6, y7] := (Box.set (Box.set (Box.set (Box.set (Box.set (Box.set (Box.set (Box.set hB 0 y0) 1 y1) 2 y2) 3 y3) 4 y4) 5 y5) 6 y6) 7 y7)
theorem ups8 {w W : World} {b : Nat} (hu : Up w W) (hb : w.heap.size ≤ b) (y0 y1 y2 y3 y4 y5 y6 y7 : Value) : Up w ((((((((W.setCell ⟨b, 0, none⟩ y0).setCell ⟨b, 1, none⟩ y1).setCell ⟨b, 2, none⟩ y2).setCell ⟨b, 3, none⟩ y3).setCell ⟨b, 4, none⟩ y4).setCell ⟨b, 5, none⟩ y5).setCell ⟨b, 6, none⟩ y6).setCell ⟨b, 7, none⟩ y7) := (up_set (up_set (up_set (up_set (up_set (up_set (up_set (up_set hu hb) hb) hb) hb) hb) hb) hb) hb)
def TV (l : List UInt8) : Value := HV (wd l 0) (wd l 2) (qd l 4) (qd l 8) (bt l 13) (wd l 14) (wd l 18) (tx ((l.drop 20).take ((hl l).toNat - 20)))
def DV (x y : Nat) (l : List UInt8) : Value :=
  if dec x y l = 0 then .tuple #[TV l, .string (tx (l.drop (hl l).toNat)), .int .i64 0] else .tuple #[HV 0 0 0 0 0 0 0 { data := #[] }, .string { data := #[] }, .int .i64 (dec x y l : Nat)]
theorem DV_err {x y : Nat} {l : List UInt8} {n : Nat} (h : dec x y l = n) (hn : n ≠ 0) : DV x y l = .tuple #[HV 0 0 0 0 0 0 0 { data := #[] }, .string { data := #[] }, .int .i64 n] := by
  unfold DV; rw [h, if_neg hn]
theorem DV_ok {x y : Nat} {l : List UInt8} (h : dec x y l = 0) : DV x y l = .tuple #[TV l, .string (tx (l.drop (hl l).toNat)), .int .i64 0] := by unfold DV; rw [if_pos h]
end Go.Proofs.Ytafckmbgefbonaa.tc

namespace Go.Proofs.Ytafckmbgefbonaa.tc
open Go.RowKit Go.Shelf Go.Proofs.Ytafckmbgefbonaa.sm Go.Proofs.Ytafckmbgefbonaa.nb Go.Proofs.Ytafckmbgefbonaa.cm
set_option linter.unusedVariables false

def DecC : Prop := ∀ (x y : Nat) (s : ByteArray) (w : World), x ≤ 4294967295 → y ≤ 4294967295 → s.size ≤ 1099511627776 →
    Calls Try.prog 21 #[.int .u32 x, .int .u32 y, .string s] w fun e w' => e = .returned (DV x y (L s)) ∧ Up w w'

end Go.Proofs.Ytafckmbgefbonaa.tc
