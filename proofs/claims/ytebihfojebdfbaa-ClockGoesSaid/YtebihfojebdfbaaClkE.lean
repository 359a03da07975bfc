/- The laws of clocks that go: at once or in parts; by whatever. Condition: the numbers fit. -/
import Derived.Test.YtebihfojebdfbaaClkD
namespace Go.Proofs.Ytebihfojebdfbaa.ck
open Go.RowKit Go.Shelf Go.Lib Go.Proofs.Ytebihfojebdfbaa.nb
set_option linter.unusedVariables false

theorem addV_ok {t b : Int} (h : mayB t = true) (hb : 0 ≤ b) (h2 : b ≤ 17592186044416 - t) : addV t b = (t + b, 0) := by unfold addV; rw [if_pos ⟨h, hb⟩, if_pos h2]
theorem addV_over {t b : Int} (h : mayB t = true) (hb : 0 ≤ b) (h2 : ¬ b ≤ 17592186044416 - t) : addV t b = (0, 9) := by unfold addV; rw [if_pos ⟨h, hb⟩, if_neg h2]
theorem goV_ok {t b : Int} (h : mayB t = true) (hb : 0 ≤ b) (h2 : b ≤ 17592186044416 - t) : goV t b = t + b := by unfold goV; rw [addV_ok h hb h2]; rfl
theorem goV_over {t b : Int} (h : mayB t = true) (hb : 0 ≤ b) (h2 : ¬ b ≤ 17592186044416 - t) : goV t b = t := by unfold goV; rw [addV_over h hb h2]; rfl
set_option maxHeartbeats 4000000 in
set_option maxRecDepth 100000 in
theorem lawParts (t a b : Int) (w : World) (ht : I64 t) (ha : 0 ≤ a ∧ a ≤ 4294967295) (hb : 0 ≤ b ∧ b ≤ 4294967295) :
    Calls Try.prog 5 #[.int .i64 t, .int .u32 a, .int .u32 b] w fun e w' => e = .returned (.bool true) ∧ Up w w' := by
  cases c0 : mayB t
  · have HN := Lib.hid (fun w => goNew_f t w c0)
    clear c0
    go_enter Try.func5, Try.ntmps5
    go_wp2_with fail
    refine (HN.out _).mono ?_
    rintro e w1 ⟨rfl, u1⟩
    go_wp2_with fail
    refine (HN.out _).mono ?_
    rintro e w2 ⟨rfl, u2⟩
    have hu := u1.on u2
    go_wp2_with fail
    refine (works _).mono ?_
    rintro e w3 ⟨rfl, u3⟩
    have hu3 := hu.on u3
    go_wp2
    go_ret
    exact ⟨rfl, hu3⟩
  · have HN := Lib.hid (fun w => goNew_t t w c0)
    obtain ⟨t1, t2⟩ := mayB_iff.1 c0
    -- what going at once comes to, and in parts
    have h1 : I64 (a + b) := ⟨by omega, by omega⟩
    have h2 : I64 a := ⟨by omega, by omega⟩
    have h3 : I64 b := ⟨by omega, by omega⟩
    go_enter Try.func5, Try.ntmps5
    go_wp2_with fail
    refine (HN.out _).mono ?_
    rintro e w1 ⟨x, rfl, hx, kx, u1⟩
    go_wp2_with fail
    refine (HN.out _).mono ?_
    rintro e w2 ⟨y, rfl, hy, ky, u2⟩
    have kx2 := kx.up u2
    have hxy : x ≠ y := by have := kx.1; omega
    have hy' : w.heap.size ≤ y := Nat.le_trans u1.size hy
    have hu := u1.on u2
    clear kx u1 u2
    go_wp2_with fail
    by_cases c1 : a ≤ 17592186044416 - t
    · have m2 : mayB (t + a) = true := mayB_t ⟨by omega, by omega⟩
      have G2 := Lib.hid (show (addV t a).2 = 0 by rw [addV_ok c0 ha.1 c1])
      have X2 := Lib.hid (goV_ok c0 ha.1 c1)
      by_cases c2 : a + b ≤ 17592186044416 - t
      · have G1 := Lib.hid (show (addV t (a + b)).2 = 0 by rw [addV_ok c0 (by omega) c2])
        have X1 := Lib.hid (goV_ok c0 (show 0 ≤ a + b by omega) c2)
        have G3 := Lib.hid (show (addV (t + a) b).2 = 0 by rw [addV_ok m2 hb.1 (by omega)])
        have X3 := Lib.hid (goV_ok m2 hb.1 (show b ≤ 17592186044416 - (t + a) by omega))
        have e3 : t + a + b = t + (a + b) := by omega
        rw [e3] at X3
        clear c0 m2 e3 HN
        refine (goGo x t (a + b) _ kx2 ⟨t1, t2⟩ h1).mono ?_
        rintro e w3 ⟨rfl, kx3, K3⟩
        rw [G1.out] at *
        rw [X1.out] at kx3
        have ky3 := K3.1 y _ (fun h => hxy h.symm) ky
        have hu3 := K3.2 _ hu hx
        clear kx2 ky K3 hu
        go_wp2_with fail
        refine (goGo y t a _ ky3 ⟨t1, t2⟩ h2).mono ?_
        rintro e w4 ⟨rfl, ky4, K4⟩
        rw [G2.out] at *
        rw [X2.out] at ky4
        have kx4 := K4.1 x _ hxy kx3
        have hu4 := K4.2 _ hu3 hy'
        clear kx3 ky3 K4 hu3
        go_wp2_with fail
        refine (goGo y (t + a) b _ ky4 ⟨by omega, by omega⟩ h3).mono ?_
        rintro e w5 ⟨rfl, ky5, K5⟩
        rw [G3.out] at *
        rw [X3.out] at ky5
        have kx5 := K5.1 x _ hxy kx4
        have hu5 := K5.2 _ hu4 hy'
        clear kx4 ky4 K5 hu4
        go_wp2_with fail
        refine (nilNow _).mono ?_
        rintro e w6 ⟨rfl, v6⟩
        have kx6 := kx5.up v6; have ky6 := ky5.up v6; have hu6 := hu5.on v6
        clear kx5 ky5 hu5 v6
        go_wp2_with fail
        refine (nilGo 1 _).mono ?_
        rintro e w7 ⟨rfl, v7⟩
        have kx7 := kx6.up v7; have ky7 := ky6.up v7; have hu7 := hu6.on v7
        clear kx6 ky6 hu6 v7
        go_wp2_with fail
        refine (nilLeft 5 _).mono ?_
        rintro e w8 ⟨rfl, v8⟩
        have kx8 := kx7.up v8; have ky8 := ky7.up v8; have hu8 := hu7.on v8
        clear kx7 ky7 hu7 v8
        go_wp2_with fail
        refine (goNow x _ _ kx8).mono ?_
        rintro e w8a ⟨rfl, v8⟩
        have ky8a := ky8.up v8; have hu8a := hu8.on v8
        clear kx8 ky8 hu8 v8
        go_wp2_with fail
        refine (goNow y _ _ ky8a).mono ?_
        rintro e w8b ⟨rfl, v8⟩
        have hu8 := hu8a.on v8
        clear ky8a hu8a v8
        go_wp2_with fail
        refine (works _).mono ?_
        rintro e w9 ⟨rfl, v9⟩
        have hu9 := hu8.on v9
        go_wp2
        go_ret
        exact ⟨rfl, hu9⟩
      · have G1 := Lib.hid (show (addV t (a + b)).2 = 9 by rw [addV_over c0 (by omega) c2])
        have X1 := Lib.hid (goV_over c0 (show 0 ≤ a + b by omega) c2)
        have G3 := Lib.hid (show (addV (t + a) b).2 = 9 by rw [addV_over m2 hb.1 (by omega)])
        have X3 := Lib.hid (goV_over m2 hb.1 (show ¬ b ≤ 17592186044416 - (t + a) by omega))
        clear c0 m2 HN
        refine (goGo x t (a + b) _ kx2 ⟨t1, t2⟩ h1).mono ?_
        rintro e w3 ⟨rfl, kx3, K3⟩
        rw [G1.out] at *
        rw [X1.out] at kx3
        have ky3 := K3.1 y _ (fun h => hxy h.symm) ky
        have hu3 := K3.2 _ hu hx
        clear kx2 ky K3 hu
        go_wp2_with fail
        refine (goGo y t a _ ky3 ⟨t1, t2⟩ h2).mono ?_
        rintro e w4 ⟨rfl, ky4, K4⟩
        rw [G2.out] at *
        rw [X2.out] at ky4
        have kx4 := K4.1 x _ hxy kx3
        have hu4 := K4.2 _ hu3 hy'
        clear kx3 ky3 K4 hu3
        go_wp2_with fail
        refine (goGo y (t + a) b _ ky4 ⟨by omega, by omega⟩ h3).mono ?_
        rintro e w5 ⟨rfl, ky5, K5⟩
        rw [G3.out] at *
        rw [X3.out] at ky5
        have kx5 := K5.1 x _ hxy kx4
        have hu5 := K5.2 _ hu4 hy'
        clear kx4 ky4 K5 hu4
        go_wp2_with fail
        refine (nilNow _).mono ?_
        rintro e w6 ⟨rfl, v6⟩
        have kx6 := kx5.up v6; have ky6 := ky5.up v6; have hu6 := hu5.on v6
        clear kx5 ky5 hu5 v6
        go_wp2_with fail
        refine (nilGo 1 _).mono ?_
        rintro e w7 ⟨rfl, v7⟩
        have kx7 := kx6.up v7; have ky7 := ky6.up v7; have hu7 := hu6.on v7
        clear kx6 ky6 hu6 v7
        go_wp2_with fail
        refine (nilLeft 5 _).mono ?_
        rintro e w8 ⟨rfl, v8⟩
        have kx8 := kx7.up v8; have ky8 := ky7.up v8; have hu8 := hu7.on v8
        clear kx7 ky7 hu7 v8
        go_wp2_with fail
        refine (works _).mono ?_
        rintro e w9 ⟨rfl, v9⟩
        have hu9 := hu8.on v9
        go_wp2
        go_ret
        exact ⟨rfl, hu9⟩
    · have G1 := Lib.hid (show (addV t (a + b)).2 = 9 by rw [addV_over c0 (by omega) (by omega)])
      have X1 := Lib.hid (goV_over c0 (show 0 ≤ a + b by omega) (by omega))
      have G2 := Lib.hid (show (addV t a).2 = 9 by rw [addV_over c0 ha.1 c1])
      have X2 := Lib.hid (goV_over c0 ha.1 c1)
      clear c0 HN
      refine (goGo x t (a + b) _ kx2 ⟨t1, t2⟩ h1).mono ?_
      rintro e w3 ⟨rfl, kx3, K3⟩
      rw [G1.out] at *
      rw [X1.out] at kx3
      have ky3 := K3.1 y _ (fun h => hxy h.symm) ky
      have hu3 := K3.2 _ hu hx
      clear kx2 ky K3 hu
      go_wp2_with fail
      refine (goGo y t a _ ky3 ⟨t1, t2⟩ h2).mono ?_
      rintro e w4 ⟨rfl, ky4, K4⟩
      rw [G2.out] at *
      rw [X2.out] at ky4
      have kx4 := K4.1 x _ hxy kx3
      have hu4 := K4.2 _ hu3 hy'
      clear kx3 ky3 K4 hu3
      have kx5 := kx4; have ky5 := ky4; have hu5 := hu4
      clear kx4 ky4 hu4
      go_wp2_with fail
      refine (nilNow _).mono ?_
      rintro e w6 ⟨rfl, v6⟩
      have kx6 := kx5.up v6; have ky6 := ky5.up v6; have hu6 := hu5.on v6
      clear kx5 ky5 hu5 v6
      go_wp2_with fail
      refine (nilGo 1 _).mono ?_
      rintro e w7 ⟨rfl, v7⟩
      have kx7 := kx6.up v7; have ky7 := ky6.up v7; have hu7 := hu6.on v7
      clear kx6 ky6 hu6 v7
      go_wp2_with fail
      refine (nilLeft 5 _).mono ?_
      rintro e w8 ⟨rfl, v8⟩
      have kx8 := kx7.up v8; have ky8 := ky7.up v8; have hu8 := hu7.on v8
      clear kx7 ky7 hu7 v8
      go_wp2_with fail
      refine (works _).mono ?_
      rintro e w9 ⟨rfl, v9⟩
      have hu9 := hu8.on v9
      go_wp2
      go_ret
      exact ⟨rfl, hu9⟩
end Go.Proofs.Ytebihfojebdfbaa.ck
