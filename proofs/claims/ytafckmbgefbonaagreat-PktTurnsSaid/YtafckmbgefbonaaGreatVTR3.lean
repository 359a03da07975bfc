/- T R: contracts, part 3. Condition: as each says. -/
import Derived.Test.YtafckmbgefbonaaGreatVTRW24
set_option linter.unusedVariables false
set_option linter.unusedSimpArgs false
set_option maxRecDepth 100000
set_option maxHeartbeats 8000000
namespace Go.Proofs.YtafckmbgefbonaaGreat.ip
open RowKit Shelf sm nb im

def nm (l : List UInt8) : Nat → Int
 | 0 => 0
 | k + 1 => 256 * nm l k + bt l k
theorem nm_bd (l : List UInt8) : 0 ≤ nm l 0 ∧ nm l 0 ≤ 0 ∧ 0 ≤ nm l 1 ∧ nm l 1 ≤ 255 ∧ 0 ≤ nm l 2 ∧ nm l 2 ≤ 65535 ∧ 0 ≤ nm l 3 ∧ nm l 3 ≤ 16777215 ∧ 0 ≤ nm l 4 ∧ nm l 4 ≤ 4294967295 := by
 have b0 := bt_bd l 0; have b1 := bt_bd l 1; have b2 := bt_bd l 2; have b3 := bt_bd l 3
 have e0 : nm l 0 = 0 := rfl
 have e1 : nm l 1 = 256 * nm l 0 + bt l 0 := rfl
 have e2 : nm l 2 = 256 * nm l 1 + bt l 1 := rfl
 have e3 : nm l 3 = 256 * nm l 2 + bt l 2 := rfl
 have e4 : nm l 4 = 256 * nm l 3 + bt l 3 := rfl
 omega
theorem nm_le (l : List UInt8) (k : Nat) (hk : k ≤ 4) : 0 ≤ nm l k ∧ nm l k ≤ 4294967295 := by
 have := nm_bd l
 rcases (by omega : k = 0 ∨ k = 1 ∨ k = 2 ∨ k = 3 ∨ k = 4) with rfl | rfl | rfl | rfl | rfl <;> omega
theorem nm_lt (l : List UInt8) (k : Nat) (hk : k < 4) : 0 ≤ nm l k ∧ 256 * nm l k + 255 ≤ 4294967295 := by
 have := nm_bd l
 rcases (by omega : k = 0 ∨ k = 1 ∨ k = 2 ∨ k = 3) with rfl | rfl | rfl | rfl <;> omega
theorem refNum (s : ByteArray) (w : World) (hs : s.size ≤ 4) :
  Calls Tryz.prog 49 #[.string s] w fun e w' => e = .returned (.int .u32 (nm (L s) s.size)) ∧ w = w' := by
 go_enter Tryz.func49, Tryz.ntmps49
 go_wp2
 go_loop [3, 4] (fun x i => ∃ k : Nat, k ≤ s.size ∧ i = .int .i64 (k : Nat) ∧ x = .int .u32 (nm (L s) k)) (fun _ i => s.size - (intOf i).toNat)
 case atStart => exact ⟨0, by omega, rfl, rfl⟩
 case round =>
  obtain ⟨k, hk, rfl, rfl⟩ := hrel
  have b := nm_le (L s) k (by omega)
  by_cases h : k < s.size
  ·have b2 := nm_lt (L s) k (by omega)
   have bb := bt_bd (L s) k
   have hn := Lib.hid (show nm (L s) (k + 1) = 256 * nm (L s) k + bt (L s) k from rfl)
   have e := bt_at s k h
   rw [← e] at bb
   have HE : Hid ((s[k].toNat : Int) = bt (L s) k) := e
   clear e
   generalize nm (L s) k = x at b b2 hn ⊢
   go_wp2
   go_round
   case rel => exact ⟨k + 1, by omega, by go_num, by rw [hn.out, ← HE.out]⟩
   case measure => simp [intOf]; omega
  ·obtain rfl : k = s.size := by omega
   go_wp2
   go_ret
   exact ⟨rfl, rfl⟩
theorem nm2 (l : List UInt8) (k : Nat) : nm ((l.drop k).take 2) 2 = wd l k := by
 have e : ∀ j, j < 2 → bt ((l.drop k).take 2) j = bt l (k + j) := fun j hj => by
  rw [← bt_drop]; unfold bt; simp [List.getD, List.getElem?_take, hj]
 show 256 * (256 * 0 + bt _ 0) + bt _ 1 = bt l k * 256 + bt l (k + 1)
 rw [e 0 (by omega), e 1 (by omega), Nat.add_zero]; omega
theorem nm4 (l : List UInt8) (k : Nat) : nm ((l.drop k).take 4) 4 = qd l k := by
 have e : ∀ j, j < 4 → bt ((l.drop k).take 4) j = bt l (k + j) := fun j hj => by
  rw [← bt_drop]; unfold bt; simp [List.getD, List.getElem?_take, hj]
 show 256 * (256 * (256 * (256 * 0 + bt _ 0) + bt _ 1) + bt _ 2) + bt _ 3 = (bt l k * 256 + bt l (k + 1)) * 65536 + (bt l (k + 2) * 256 + bt l (k + 3))
 rw [e 0 (by omega), e 1 (by omega), e 2 (by omega), e 3 (by omega), Nat.add_zero]; omega
end Go.Proofs.YtafckmbgefbonaaGreat.ip
