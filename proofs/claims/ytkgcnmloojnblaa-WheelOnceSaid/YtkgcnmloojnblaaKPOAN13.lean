/- P O A N: contracts, part 13. Condition: as each says. -/
import Derived.Test.YtkgcnmloojnblaaKPOAN1
set_option linter.unusedVariables false
set_option linter.unusedSimpArgs false
namespace Go.Proofs.Ytkgcnmloojnblaa.nb
open Go.RowKit
set_option linter.unusedVariables false

/-! ### A region that draws its order, whose calls make memory of their own: one walk, in the order of the text (the library's 'wp_region_quiet', at the class of worlds that lie above W) -/
structure Kin (W : World) where
  w : World
  below : Below W.heap.size W w
instance (W : World) : Nonempty (Kin W) := ⟨⟨W, Below.refl _ _⟩⟩
theorem wp_region_kin {P : Program} {id : Nat} {Q : Exit → Act → World → Prop} {a : Act} {w : World} {l : List Oper} (hm : P.follows .mixedOrders = true) (hB : Region.lexB .any l.toArray = true)
    (h : wpQuiet P l.toArray (fun w' => ∃ t : Kin w, w' = t.w) (fun a' => ∀ w', (∃ t : Kin w, w' = t.w) → Q .normal a' w') l a) : (Code.region id l.toArray true).wp P Q a w :=
  wp_region_quiet (C := fun w' => ∃ t : Kin w, w' = t.w) hm hB ⟨⟨_, (Below.refl _ w).drew⟩, rfl⟩ (by simpa using h)
theorem Kin.cell {W : World} {a : Addr} {v : Value} (h : W.cell? a = some v) (t : Kin W) : t.w.cell? a = some v := (t.below.cell (World.block_lt_of_cell? W a h)).trans h
theorem Kin.call {P : Program} {f : FuncId} {args : Array Value} {W : World} {v : Value} (t : Kin W) (h : Calls P f args t.w fun e w' => e = .returned v ∧ Below t.w.heap.size t.w w') :
    Calls P f args t.w fun e w'' => e = .returned v ∧ ∃ t' : Kin W, w'' = t'.w :=
  h.mono fun _ _ ⟨he, hb⟩ => ⟨he, ⟨_, t.below.trans (hb.mono t.below.size)⟩, rfl⟩
theorem Kin.up {W : World} (t : Kin W) : Up W t.w := t.below
end Go.Proofs.Ytkgcnmloojnblaa.nb
