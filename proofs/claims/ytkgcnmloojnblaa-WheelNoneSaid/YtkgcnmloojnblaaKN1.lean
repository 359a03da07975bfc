/- N: contracts, part 1. Condition: as each says. -/
import Derived.Test.YtkgcnmloojnblaaKPOAN2
set_option linter.unusedVariables false
set_option linter.unusedSimpArgs false
namespace Go.Proofs.Ytkgcnmloojnblaa.wh
open Go.RowKit Go.Shelf Go.Lib Go.Proofs.Ytkgcnmloojnblaa.nb Go.Proofs.Ytkgcnmloojnblaa.ck
set_option linter.unusedVariables false

set_option maxHeartbeats 8000000 in
set_option maxRecDepth 100000 in
theorem lawNone {LW : WP} (W : WhS LW) (key : ByteArray) (t : Int) (w : World) (hs : key.size ≤ maxLen) : Calls Try.prog 6 #[.string key, .int .i64 t] w fun e w' => e = .returned (.bool true) ∧ Up w w' := by
  have WW := Lib.hid W
  clear W
  have hs2 : key.size ≤ 9223372036854775807 := by unfold maxLen at hs; omega
  by_cases c0 : key.size ≤ 4096
  case neg =>
    go_enter Try.func6, Try.ntmps6
    go_wp2_with (go_at_call 8; refine (worksC WW.out _).mono ?_; rintro e w1 ⟨rfl, u1⟩)
    go_ret
    exact ⟨rfl, u1⟩
  go_enter Try.func6, Try.ntmps6
  go_wp2_with fail
  refine (WW.out.nilGo _ t).mono ?_
  rintro e w1 ⟨A, c, rfl, u1⟩
  have U1 := Lib.hid u1
  clear u1
  go_wp2_with fail
  refine (WW.out.nilAt _ key).mono ?_
  rintro e w2 ⟨rfl, u2⟩
  have U2 := Lib.hid (U1.out.on u2)
  clear u2
  go_wp2_with fail
  refine (WW.out.nilNext _).mono ?_
  rintro e w3 ⟨rfl, u3⟩
  have U3 := Lib.hid (U2.out.on u3)
  clear u3
  go_wp2_with fail
  refine (WW.out.nilSet _ key t).mono ?_
  rintro e w4 ⟨rfl, u4⟩
  have U4 := Lib.hid (U3.out.on u4)
  clear u4
  go_wp2_with fail
  refine (WW.out.nilStop _ _ _ _).mono ?_
  rintro e w5 ⟨rfl, u5⟩
  have U5 := Lib.hid ((up_al _ U4.out).on u5)
  clear u5
  go_wp2_with fail
  refine (WW.out.nilLen _).mono ?_
  rintro e w6 ⟨rfl, u6⟩
  have U6 := Lib.hid (U5.out.on u6)
  clear u6
  go_wp2_with fail
  refine (WW.out.nilNow _).mono ?_
  rintro e w7 ⟨rfl, u7⟩
  have U7 := Lib.hid (U6.out.on u7)
  clear u7
  go_wp2_with fail
  refine (worksC WW.out _).mono ?_
  rintro e w8 ⟨rfl, u8⟩
  have U8 := Lib.hid (U7.out.on u8)
  clear u8
  go_wp2
  go_ret
  exact ⟨rfl, U8.out⟩
end Go.Proofs.Ytkgcnmloojnblaa.wh
