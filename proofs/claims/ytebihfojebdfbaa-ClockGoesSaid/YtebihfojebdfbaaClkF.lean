/- The law of a clock that goes on by whatever. Condition: the numbers fit. -/
import Derived.Test.YtebihfojebdfbaaClkE
namespace Go.Proofs.Ytebihfojebdfbaa.ck
open Go.RowKit Go.Shelf Go.Lib Go.Proofs.Ytebihfojebdfbaa.nb
set_option linter.unusedVariables false

theorem leftV_t {a b : Int} (h : a < b) : leftV a b = b - a := by unfold leftV; rw [if_pos h]
theorem leftV_f {a b : Int} (h : ¬ a < b) : leftV a b = 0 := by unfold leftV; rw [if_neg h]
theorem goV_t {t b : Int} (h : (addV t b).2 = 0) : goV t b = (addV t b).1 := by unfold goV; rw [if_pos h]
theorem goV_f {t b : Int} (h : (addV t b).2 ≠ 0) : goV t b = t := by unfold goV; rw [if_neg h]
set_option maxHeartbeats 8000000 in
set_option maxRecDepth 100000 in
theorem lawGoes (t : Int) (A : Option Addr) (n c : Nat) (xs : List Int) (ask : Int) (w : World) (ht : I64 t) (hr : RdI w A xs) (hn : xs.length = n) (hm : n ≤ maxLen) (hx : ∀ x ∈ xs, I64 x) (ha : I64 ask) :
    Calls Try.prog 4 #[.int .i64 t, .slice A n c, .int .i64 ask] w fun e w' => e = .returned (.bool true) ∧ Up w w' := by
  have hn2 : n ≤ 9223372036854775807 := by unfold maxLen at hm; omega
  have HR := Lib.hid hr; have HN := Lib.hid hn; have HX := Lib.hid hx
  clear hr hn hm hx
  obtain ⟨ha1, ha2⟩ := id ha
  by_cases cn : n ≤ 500
  case neg =>
    go_enter Try.func4, Try.ntmps4
    go_wp2_with fail
    refine (works _).mono ?_
    rintro e w1 ⟨rfl, u1⟩
    go_wp2
    go_ret
    exact ⟨rfl, u1⟩
  cases c0 : mayB t
  · have HW := Lib.hid (fun w => goNew_f t w c0)
    have HM := Lib.hid (show ∀ w, Calls Try.prog 10 #[.int .i64 t] w fun e w' => e = .returned (.bool false) ∧ w = w' from fun w => by have := refMay t w; rwa [c0] at this)
    clear c0
    go_enter Try.func4, Try.ntmps4
    go_wp2_with fail
    refine (HW.out _).mono ?_
    rintro e w1 ⟨rfl, u1⟩
    go_wp2_with fail
    refine (HM.out _).mono ?_
    rintro e w' ⟨rfl, rfl⟩
    go_wp2_with fail
    refine (works _).mono ?_
    rintro e w3 ⟨rfl, u3⟩
    have hu3 := u1.on u3
    go_wp2
    go_ret
    exact ⟨rfl, hu3⟩
  · have HW := Lib.hid (fun w => goNew_t t w c0)
    have HM := Lib.hid (show ∀ w, Calls Try.prog 10 #[.int .i64 t] w fun e w' => e = .returned (.bool true) ∧ w = w' from fun w => by have := refMay t w; rwa [c0] at this)
    obtain ⟨t1, t2⟩ := mayB_iff.1 c0
    clear c0
    go_enter Try.func4, Try.ntmps4
    go_wp2_with fail
    refine (HW.out _).mono ?_
    rintro e w1 ⟨b, rfl, hb, kb, u1⟩
    go_wp2_with fail
    refine (HM.out _).mono ?_
    rintro e w' ⟨rfl, rfl⟩
    go_wp2_with fail
    go_loopw [9, 10] (fun nv iv wr => ∃ (j : Nat) (now : Int), j ≤ n ∧ iv = .int .i64 j ∧ nv = .int .i64 now ∧ 0 ≤ now ∧ now ≤ 17592186044416 ∧ Clk wr b now ∧ Up w wr) (fun _ i _ => n - (intOf i).toNat)
    case atStart => exact ⟨0, t, Nat.zero_le _, rfl, rfl, t1, t2, kb, u1⟩
    case round =>
      obtain ⟨j, now, hj, rfl, rfl, n1, n2, kn, hu⟩ := hrel
      clear kb u1
      by_cases hlt : j < n
      · obtain ⟨g, off, x, hA, d1, hx⟩ := (HR.out.up hu).at_ (k := j) (by rw [HN.out]; exact hlt)
        subst hA
        have hI : I64 x := HX.out x (List.mem_of_getElem? hx)
        have hIn : I64 now := ⟨by omega, by omega⟩
        clear hx
        have HA := Lib.hid (fun w => refAdd now x w hIn hI)
        have HG := Lib.hid (fun w h => goGo b now x w h ⟨n1, n2⟩ hI)
        have hbd := addV_bd (t := now) (b := x) ⟨n1, n2⟩
        have hV0 := goV_t (t := now) (b := x)
        have hV1 := goV_f (t := now) (b := x)
        have hcd := addV_code now x
        generalize (addV now x).2 = k at *
        generalize (addV now x).1 = s at *
        generalize goV now x = v at *
        rcases hcd with rfl | rfl | rfl
        · have hv : v = s := hV0 rfl
          subst hv
          clear hV0 hV1 n1 n2
          obtain ⟨n1, n2⟩ := hbd
          have HL := Lib.hid (fun w h => goLeft b v ask w h ⟨n1, n2⟩ ha)
          have HT := Lib.hid (fun w h => goNow b v w h)
          by_cases ca : v < ask
          · have hl := leftV_t ca
            rw [hl] at HL
            clear hl
            go_wp2_with fail
            refine (HA.out _).mono ?_
            rintro e w' ⟨rfl, rfl⟩
            go_wp2_with fail
            refine (HG.out _ kn).mono ?_
            rintro e w2 ⟨rfl, kn2, K2⟩
            have hu2 := K2.2 _ hu hb
            clear kn hu K2
            go_wp2_with fail
            refine (HT.out _ kn2).mono ?_
            rintro e w3 ⟨rfl, v3⟩
            have kn3 := kn2.up v3; have hu3 := hu2.on v3
            clear kn2 hu2 v3
            go_wp2_with fail
            refine (HL.out _ kn3).mono ?_
            rintro e w4 ⟨rfl, v4⟩
            have kn4 := kn3.up v4; have hu4 := hu3.on v4
            clear kn3 hu3 v4
            go_wp2
            go_roundw
            case rel => exact ⟨j + 1, v, by omega, by go_num, rfl, n1, n2, kn4, hu4⟩
            case measure => simp [RowKit.intOf]; omega
          · have hl := leftV_f ca
            rw [hl] at HL
            clear hl
            go_wp2_with fail
            refine (HA.out _).mono ?_
            rintro e w' ⟨rfl, rfl⟩
            go_wp2_with fail
            refine (HG.out _ kn).mono ?_
            rintro e w2 ⟨rfl, kn2, K2⟩
            have hu2 := K2.2 _ hu hb
            clear kn hu K2
            go_wp2_with fail
            refine (HT.out _ kn2).mono ?_
            rintro e w3 ⟨rfl, v3⟩
            have kn3 := kn2.up v3; have hu3 := hu2.on v3
            clear kn2 hu2 v3
            go_wp2_with fail
            refine (HL.out _ kn3).mono ?_
            rintro e w4 ⟨rfl, v4⟩
            have kn4 := kn3.up v4; have hu4 := hu3.on v4
            clear kn3 hu3 v4
            go_wp2
            go_roundw
            case rel => exact ⟨j + 1, v, by omega, by go_num, rfl, n1, n2, kn4, hu4⟩
            case measure => simp [RowKit.intOf]; omega
        · have hv : v = now := hV1 (by omega)
          subst hv
          clear hV0 hV1
          clear hbd
          have HL := Lib.hid (fun w h => goLeft b v ask w h ⟨n1, n2⟩ ha)
          have HT := Lib.hid (fun w h => goNow b v w h)
          by_cases ca : v < ask
          · have hl := leftV_t ca
            rw [hl] at HL
            clear hl
            go_wp2_with fail
            refine (HA.out _).mono ?_
            rintro e w' ⟨rfl, rfl⟩
            go_wp2_with fail
            refine (HG.out _ kn).mono ?_
            rintro e w2 ⟨rfl, kn2, K2⟩
            have hu2 := K2.2 _ hu hb
            clear kn hu K2
            go_wp2_with fail
            refine (HT.out _ kn2).mono ?_
            rintro e w3 ⟨rfl, v3⟩
            have kn3 := kn2.up v3; have hu3 := hu2.on v3
            clear kn2 hu2 v3
            go_wp2_with fail
            refine (HL.out _ kn3).mono ?_
            rintro e w4 ⟨rfl, v4⟩
            have kn4 := kn3.up v4; have hu4 := hu3.on v4
            clear kn3 hu3 v4
            go_wp2
            go_roundw
            case rel => exact ⟨j + 1, v, by omega, by go_num, rfl, n1, n2, kn4, hu4⟩
            case measure => simp [RowKit.intOf]; omega
          · have hl := leftV_f ca
            rw [hl] at HL
            clear hl
            go_wp2_with fail
            refine (HA.out _).mono ?_
            rintro e w' ⟨rfl, rfl⟩
            go_wp2_with fail
            refine (HG.out _ kn).mono ?_
            rintro e w2 ⟨rfl, kn2, K2⟩
            have hu2 := K2.2 _ hu hb
            clear kn hu K2
            go_wp2_with fail
            refine (HT.out _ kn2).mono ?_
            rintro e w3 ⟨rfl, v3⟩
            have kn3 := kn2.up v3; have hu3 := hu2.on v3
            clear kn2 hu2 v3
            go_wp2_with fail
            refine (HL.out _ kn3).mono ?_
            rintro e w4 ⟨rfl, v4⟩
            have kn4 := kn3.up v4; have hu4 := hu3.on v4
            clear kn3 hu3 v4
            go_wp2
            go_roundw
            case rel => exact ⟨j + 1, v, by omega, by go_num, rfl, n1, n2, kn4, hu4⟩
            case measure => simp [RowKit.intOf]; omega
        · have hv : v = now := hV1 (by omega)
          subst hv
          clear hV0 hV1
          clear hbd
          have HL := Lib.hid (fun w h => goLeft b v ask w h ⟨n1, n2⟩ ha)
          have HT := Lib.hid (fun w h => goNow b v w h)
          by_cases ca : v < ask
          · have hl := leftV_t ca
            rw [hl] at HL
            clear hl
            go_wp2_with fail
            refine (HA.out _).mono ?_
            rintro e w' ⟨rfl, rfl⟩
            go_wp2_with fail
            refine (HG.out _ kn).mono ?_
            rintro e w2 ⟨rfl, kn2, K2⟩
            have hu2 := K2.2 _ hu hb
            clear kn hu K2
            go_wp2_with fail
            refine (HT.out _ kn2).mono ?_
            rintro e w3 ⟨rfl, v3⟩
            have kn3 := kn2.up v3; have hu3 := hu2.on v3
            clear kn2 hu2 v3
            go_wp2_with fail
            refine (HL.out _ kn3).mono ?_
            rintro e w4 ⟨rfl, v4⟩
            have kn4 := kn3.up v4; have hu4 := hu3.on v4
            clear kn3 hu3 v4
            go_wp2
            go_roundw
            case rel => exact ⟨j + 1, v, by omega, by go_num, rfl, n1, n2, kn4, hu4⟩
            case measure => simp [RowKit.intOf]; omega
          · have hl := leftV_f ca
            rw [hl] at HL
            clear hl
            go_wp2_with fail
            refine (HA.out _).mono ?_
            rintro e w' ⟨rfl, rfl⟩
            go_wp2_with fail
            refine (HG.out _ kn).mono ?_
            rintro e w2 ⟨rfl, kn2, K2⟩
            have hu2 := K2.2 _ hu hb
            clear kn hu K2
            go_wp2_with fail
            refine (HT.out _ kn2).mono ?_
            rintro e w3 ⟨rfl, v3⟩
            have kn3 := kn2.up v3; have hu3 := hu2.on v3
            clear kn2 hu2 v3
            go_wp2_with fail
            refine (HL.out _ kn3).mono ?_
            rintro e w4 ⟨rfl, v4⟩
            have kn4 := kn3.up v4; have hu4 := hu3.on v4
            clear kn3 hu3 v4
            go_wp2
            go_roundw
            case rel => exact ⟨j + 1, v, by omega, by go_num, rfl, n1, n2, kn4, hu4⟩
            case measure => simp [RowKit.intOf]; omega
      · obtain rfl : j = n := by omega
        go_wp2_with fail
        refine (works _).mono ?_
        rintro e w3 ⟨rfl, u3⟩
        have hu3 := hu.on u3
        go_wp2
        go_ret
        exact ⟨rfl, hu3⟩
end Go.Proofs.Ytebihfojebdfbaa.ck
