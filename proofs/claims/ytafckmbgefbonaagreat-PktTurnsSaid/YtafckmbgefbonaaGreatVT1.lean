/- T: contracts, part 1. Condition: as each says. -/
import Derived.Test.YtafckmbgefbonaaGreatVTR1
set_option linter.unusedVariables false
set_option linter.unusedSimpArgs false
set_option maxRecDepth 100000
set_option maxHeartbeats 8000000
namespace Go.Proofs.YtafckmbgefbonaaGreat.pk
open RowKit Shelf Lib sm nb pm

theorem shl_in (v k : Nat) (hv : v ≤ 65535) (hk : k ≤ 14) : IntKind.u64.wrap ((v : Int) * 2 ^ k) = ((v * 2 ^ k : Nat) : Int) := by
 have hz : v * 2 ^ k ≤ 1073741824 := Nat.le_trans (Nat.mul_le_mul hv (Nat.pow_le_pow_right (by decide) hk)) (by decide)
 have e : ((v * 2 ^ k : Nat) : Int) = (v : Int) * 2 ^ k := by simp
 rw [← e]
 exact IntWalk.u64_in _ (by omega)
theorem ret_u16 {a b : Int} (h : a = b) : Ending.returned (.int .u16 a) = .returned (.int .u16 b) := by rw [h]
theorem refWindow (v : Nat) (up dn : Int) (w : World) (hv : v ≤ 65535) (hu : -9223372036854775808 ≤ up ∧ up ≤ 9223372036854775807) (hd : -9223372036854775808 ≤ dn ∧ dn ≤ 9223372036854775807) (x : Sh) (hx : x.up = up) (hx' : x.dn = dn) :
  Calls Tryz.prog 54 #[.int .u16 v, .int .i64 up, .int .i64 dn] w fun e w' => e = .returned (.int .u16 (winT x v : Nat)) ∧ w = w' := by
 have hcu := clamp_le up
 have hcd := clamp_le dn
 have HW := Lib.hid (show winT x v = min 65535 (v * 2 ^ clamp up / 2 ^ clamp dn) by unfold winT; rw [hx, hx'])
 clear hx hx'
 go_enter Tryz.func54, Tryz.ntmps54
 go_upto_region 1 with fail
 go_cut [7] (fun z wc => z = .int .u64 ((v * 2 ^ clamp up : Nat) : Int) ∧ wc = w)
 case first =>
  by_cases c0 : up < 0
  ·have e := Lib.hid (show clamp up = 0 by unfold clamp; rw [if_pos c0])
   go_wp2
   go_meet
   exact ⟨congrArg (Value.int .u64) (by rw [e.out, Nat.pow_zero, Nat.mul_one]), by first | rfl | trivial⟩
  ·by_cases c1 : 14 < up
   ·have e := Lib.hid (show clamp up = 14 by unfold clamp; rw [if_neg c0, if_pos c1])
    go_wp2
    go_meet
    exact ⟨congrArg (Value.int .u64) (by rw [e.out]; show _ = ((v * 16384 : Nat) : Int); omega), by first | rfl | trivial⟩
   ·have e := Lib.hid (show clamp up = up.toNat by unfold clamp; rw [if_neg c0, if_neg c1])
    have c2 : up ≤ 14 := by omega
    go_wp2
    go_meet
    exact ⟨congrArg (Value.int .u64) (by rw [e.out]; exact shl_in v up.toNat hv (by omega)), by first | rfl | trivial⟩
 case rest =>
 obtain ⟨rfl, rfl⟩ := hcut
 have hz : v * 2 ^ clamp up ≤ 1073741824 := Nat.le_trans (Nat.mul_le_mul hv (Nat.pow_le_pow_right (by decide) hcu)) (by decide)
 generalize v * 2 ^ clamp up = z at HW hz ⊢
 go_upto_region 2 with fail
 go_cut [7] (fun y wx => y = .int .u64 ((z / 2 ^ clamp dn : Nat) : Int) ∧ wx = wc)
 case first =>
  by_cases c0 : dn < 0
  ·have e := Lib.hid (show clamp dn = 0 by unfold clamp; rw [if_pos c0])
   go_wp2
   go_meet
   exact ⟨congrArg (Value.int .u64) (by rw [e.out, Nat.pow_zero, Nat.div_one]), by first | rfl | trivial⟩
  ·by_cases c1 : 14 < dn
   ·have e := Lib.hid (show clamp dn = 14 by unfold clamp; rw [if_neg c0, if_pos c1])
    go_wp2
    go_meet
    exact ⟨congrArg (Value.int .u64) (by rw [e.out]; show _ = ((z / 16384 : Nat) : Int); omega), by first | rfl | trivial⟩
   ·have e := Lib.hid (show clamp dn = dn.toNat by unfold clamp; rw [if_neg c0, if_neg c1])
    have c2 : dn ≤ 14 := by omega
    go_wp2
    go_meet
    exact ⟨congrArg (Value.int .u64) (by rw [e.out]; exact shr_in z dn.toNat), by first | rfl | trivial⟩
 case rest =>
 obtain ⟨rfl, rfl⟩ := hcut
 have hy : z / 2 ^ clamp dn ≤ 1073741824 := Nat.le_trans (Nat.div_le_self _ _) hz
 generalize z / 2 ^ clamp dn = y at HW hy ⊢
 have HW' := Lib.hid (show ((winT x v : Nat) : Int) = min 65535 (y : Int) by rw [HW.out]; omega)
 by_cases c : 65535 < y
 ·have c1 : (65535 : Int) < (y : Int) := by omega
  go_wp2
  go_ret
  exact ⟨ret_u16 (by rw [HW'.out]; omega), by first | rfl | trivial⟩
 ·have c1 : ¬ (65535 : Int) < (y : Int) := by omega
  have q : IntKind.u16.wrap (y : Int) = (y : Int) := by rw [IntKind.wrap_u16]; omega
  go_wp2
  go_ret
  exact ⟨ret_u16 (by rw [HW'.out]; omega), by first | rfl | trivial⟩
end Go.Proofs.YtafckmbgefbonaaGreat.pk
