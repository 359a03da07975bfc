/- T: contracts, part 4. Condition: as each says. -/
import Derived.Test.YtafckmbgefbonaaGreatVTRW17
set_option linter.unusedVariables false
set_option linter.unusedSimpArgs false
set_option maxRecDepth 100000
set_option maxHeartbeats 8000000
namespace Go.Proofs.YtafckmbgefbonaaGreat.su
open RowKit Shelf sm nb

theorem refTurn (a b c : Int) (w : World) (ha : 0 ≤ a ∧ a ≤ 65535) (hb : 0 ≤ b ∧ b ≤ 65535) (hc : 0 ≤ c ∧ c ≤ 65535) :
  Calls Tryz.prog 90 #[.int .u16 a, .int .u16 b, .int .u16 c] w fun e w' => e = .returned (.int .u16 (turn a b c)) ∧ w = w' := by
 have bo := ones_bd (131070 - a - b + c) (by omega)
 have HE := Lib.hid (show turn a b c = 65535 - ones (131070 - a - b + c) from rfl)
 go_enter Tryz.func90, Tryz.ntmps90
 go_wp2_with (go_at_call 99; refine (refOnes _ _ (by omega)).mono ?_; rintro e w' ⟨rfl, rfl⟩)
 go_ret
 exact ⟨ret_int HE.out.symm, rfl⟩
theorem turns_next (c : Int) (X Y : List UInt8) (j : Nat) (h : j % 2 = 0) : turns c X Y ((j + 2) / 2) = turn (turns c X Y (j / 2)) (wd X j) (wd Y j) := by
 rw [show (j + 2) / 2 = j / 2 + 1 by omega]
 show turn _ (wd X (2 * (j / 2))) (wd Y (2 * (j / 2))) = _
 rw [show 2 * (j / 2) = j by omega]
theorem refWordQ (s : ByteArray) (k : Nat) (w : World) (h : s.size ≤ 1099511627776 ∧ k < s.size) :
  Calls Tryz.prog 91 #[.string s, .int .i64 k] w fun e w' => e = .returned (.int .u64 (wd (L s) k)) ∧ w' = w :=
 (refWord s k w h.1 h.2).mono fun _ _ ⟨h1, h2⟩ => ⟨h1, h2.symm⟩
theorem refTurns_n (c : Int) (x y : ByteArray) (n : Nat) (w : World) (hc : 0 ≤ c ∧ c ≤ 65535) (hn : n = min x.size y.size) (hnn : n ≤ 1099511627776) :
  Calls Tryz.prog 48 #[.int .u16 c, .string x, .string y] w (Quiet (.int .u16 (turns c (L (x.extract 0 n)) (L (y.extract 0 n)) ((n + 1) / 2))) w) := by
 have hnx : n ≤ x.size := by omega
 have hny : n ≤ y.size := by omega
 have hsx := size_take x n hnx
 have hsy := size_take y n hny
 obtain ⟨X, hX⟩ : ∃ X, X = x.extract 0 n := ⟨_, rfl⟩
 obtain ⟨Y, hY⟩ : ∃ Y, Y = y.extract 0 n := ⟨_, rfl⟩
 rw [← hX] at hsx
 rw [← hY] at hsy
 rw [← hX, ← hY]
 have hx' : X.size ≤ 1099511627776 := by omega
 have hy' : Y.size ≤ 1099511627776 := by omega
 have HX := Lib.hid hsx
 have HY := Lib.hid hsy
 clear hsx hsy
 have hcase : (y.size < x.size ∧ n = y.size) ∨ (¬ y.size < x.size ∧ n = x.size) := by omega
 clear hn
 rcases hcase with ⟨h1, hne⟩ | ⟨h1, hne⟩
 all_goals
  have HN := Lib.hid hne; clear hne
  have HX2 := Lib.hid hX; clear hX
  have HY2 := Lib.hid hY; clear hY
  go_enter Tryz.func48, Tryz.ntmps48
  go_wp2
  rw [← HN.out]
  go_loopw [0, 8] (fun v i wr => ∃ (j : Nat), j ≤ n + 1 ∧ Hid (j % 2 = 0) ∧ i = .int .i64 j ∧ v = .int .u16 (turns c (L X) (L Y) (j / 2)) ∧ Hid (∃ q, wr = w.drewN q)) (fun _ i _ => n + 1 - (intOf i).toNat)
  case atStart => exact ⟨0, by omega, rfl, rfl, rfl, ⟨0, rfl⟩⟩
  case round =>
   obtain ⟨j, hj, hm, rfl, rfl, hq⟩ := hrel
   have ht := turns_bd c (L X) (L Y) hc (j / 2)
   by_cases hlt : j < n
   ·have hw1 := wd_bd (L X) j
    have hw2 := wd_bd (L Y) j
    have hnx' := Lib.hid (turns_next c (L X) (L Y) j hm.out)
    have f1 : X.size ≤ 1099511627776 ∧ j < X.size := ⟨hx', by have := HX.out; omega⟩
    have f2 : Y.size ≤ 1099511627776 ∧ j < Y.size := ⟨hy', by have := HY.out; omega⟩
    have e1 : x.extract 0 n = X := HX2.out.symm
    have e2 : y.extract 0 n = Y := HY2.out.symm
    have q1 : IntKind.u16.wrap (wd (L X) j) = wd (L X) j := by rw [IntKind.wrap_u16]; omega
    have q2 : IntKind.u16.wrap (wd (L Y) j) = wd (L Y) j := by rw [IntKind.wrap_u16]; omega
    go_wp2
    go_quiet ((first
     | (go_at_call 91; exact Calls.quiet_of_same (refWordQ _ _ _ (by first | exact f1 | exact f2)))
     | (go_at_call 90; exact Calls.quiet_of_same ((refTurn _ _ _ _ ht hw1 hw2).mono fun _ _ ⟨h1, h2⟩ => ⟨h1, h2.symm⟩))))
    clear q1 q2
    go_wp2
    go_roundw
    case rel => exact ⟨j + 2, by omega, by show _ = _; have := hm.out; omega, by go_num, by rw [hnx'.out], by obtain ⟨q, e⟩ := hq.out; exact ⟨q + nq, by rw [e, World.drewN_drewN]⟩⟩
    case measure => simp [intOf]; omega
   ·have hend : Hid (turns c (L X) (L Y) (j / 2) = turns c (L X) (L Y) ((n + 1) / 2)) := by show _ = _; have := hm.out; rw [show j / 2 = (n + 1) / 2 by omega]
    go_wp2
    go_ret
    exact ⟨ret_int hend.out, hq.out⟩
end Go.Proofs.YtafckmbgefbonaaGreat.su
