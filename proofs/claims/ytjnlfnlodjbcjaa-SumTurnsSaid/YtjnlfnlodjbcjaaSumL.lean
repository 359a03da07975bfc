/- The law of a checksum that is turned along, walked: it returns true, for every input. Condition: none. -/
import Derived.Test.YtjnlfnlodjbcjaaSumK
import Derived.Test.YtjnlfnlodjbcjaaSumO
namespace Go.Proofs.Ytjnlfnlodjbcjaa.su
open Go.RowKit Go.Shelf Go.Proofs.Ytjnlfnlodjbcjaa.sm
set_option linter.unusedVariables false

theorem L_mid (x : ByteArray) (k n : Nat) (h : k + n ≤ x.size) : L (x.extract k (k + n)) = ((L x).drop k).take n := by
  have e : L (x.extract k (k + n)) = List.take (k + n - k) (List.drop k (L x)) := by simp [L]
  rw [e]; congr 1; omega
theorem size_mid (x : ByteArray) (k n : Nat) (h : k + n ≤ x.size) : (x.extract k (k + n)).size = n := by simp; omega
theorem whole_take (y : ByteArray) (n : Nat) (h : y.size = n) : y.extract 0 n = y := by rw [← h]; exact whole y
/-- the text x with y's first n bytes at k -/
def spl (x y : ByteArray) (k n : Nat) : ByteArray := x.extract 0 k ++ y.extract 0 n ++ x.extract (k + n) x.size
theorem L_spl (x y : ByteArray) (k n : Nat) : L (spl x y k n) = splice (L x) (L y) k n := by
  unfold spl splice
  rw [L_append, L_append, L_take, L_take, L_extract]
theorem size_spl (x y : ByteArray) (k n : Nat) (h : k + n ≤ x.size) (h' : n ≤ y.size) : (spl x y k n).size = x.size := by
  have e := congrArg List.length (L_spl x y k n)
  unfold splice at e
  rw [L_len, List.length_append, List.length_append, List.length_take, List.length_take, List.length_drop, L_len, L_len] at e
  omega
theorem turns_law (x y : ByteArray) (k n : Nat) (w0 w : World) (hk : k % 2 = 0) (hn : n % 2 = 0) (hx : k + n ≤ x.size) (hy : n ≤ y.size) (hx20 : x.size ≤ 2048) (hy20 : y.size ≤ 2048) (hp : 0 < wsum (L x) ∧ 0 < wsum (L (spl x y k n))) (hu : Up w0 w) :
    Calls Try.prog 15 #[.int .u16 (ck (wsum (L x))), .string (x.extract k (k + n)), .string (y.extract 0 n)] w (Says w0 w (.int .u16 (ck (wsum (L (spl x y k n)))))) := by
  have s1 := size_mid x k n hx
  have s2 := size_take y n hy
  have := turns2 (ck (wsum (L x))) (x.extract k (k + n)) (y.extract 0 n) n w0 w (ck_bd _ (wsum_bd _).1) (by omega) (by omega) (by omega) hu
  rw [whole_take _ n s1, whole_take _ n s2, L_mid x k n hx, L_take, show (n + 1) / 2 = n / 2 by omega] at this
  rw [L_spl] at hp ⊢
  rw [turns_splice (L x) (L y) k n hk hn hx hy hp.1 hp.2] at this
  exact this
set_option maxRecDepth 100000 in
set_option maxHeartbeats 4000000 in
theorem lawTurns (s y : ByteArray) (at_ : Nat) (w : World) (hs : s.size ≤ maxLen) (hys : y.size ≤ maxLen) (ha : at_ ≤ 65535) :
    Calls Try.prog 5 #[.string s, .int .u16 at_, .string y] w fun e w' => e = .returned (.bool true) ∧ Below w.heap.size w w' := by
  have u0 : Up w w := Below.refl _ _
  unfold maxLen at hs hys
  by_cases hlong : s.size ≤ 2048
  · by_cases hlong2 : y.size ≤ 2048
    · have hs' := Lib.hid hs; clear hs
      have hys' := Lib.hid hys; clear hys
      obtain ⟨m, hm⟩ : ∃ m, m = s.size / 2 * 2 := ⟨_, rfl⟩
      have hml : m ≤ s.size := by omega
      have hme : m % 2 = 0 := by omega
      have hxs := size_take s m hml
      obtain ⟨x, hx⟩ : ∃ x, x = s.extract 0 m := ⟨_, rfl⟩
      rw [← hx] at hxs
      have hm' := Lib.hid hm; clear hm
      have Hx := Lib.hid hx; clear hx
      have hx20 : x.size ≤ 2048 := by omega
      have hxe : x.size % 2 = 0 := by omega
      clear hxs hml hme
      have g1 : (0 : Int) ≤ (s.size : Int) / 2 * 2 := by omega
      have g2 : (s.size : Int) / 2 * 2 ≤ (s.size : Int) := by omega
      go_enter Try.func5, Try.ntmps5
      go_upto_region 3 with fail
      go_cut [0] (fun v wc => v = .string x ∧ w = wc)
      case first =>
        go_wp2_with fail
        go_meet
        exact ⟨by rw [Hx.out, hm'.out], rfl⟩
      case rest =>
      clear g1 g2
      obtain ⟨rfl, rfl⟩ := hcut
      obtain ⟨k, hk⟩ : ∃ k, k = at_ % (x.size / 2 + 1) * 2 := ⟨_, rfl⟩
      have hkI : (at_ : Int) % ((x.size : Int) / 2 + 1) * 2 = (k : Int) := by rw [hk]; simp
      have hkl : k ≤ x.size := by have := Nat.mod_lt at_ (show 0 < x.size / 2 + 1 by omega); omega
      have hke : k % 2 = 0 := by omega
      have HkW := Lib.hid (show wrap64 ((at_ : Int) % ((x.size : Int) / 2 + 1) * 2) = (k : Int) by rw [hkI]; exact IntWalk.wrap64_in _ (by omega)); clear hkI
      have hk' := Lib.hid hk; clear hk
      obtain ⟨n, hn⟩ : ∃ n, n = min (x.size - k) y.size / 2 * 2 := ⟨_, rfl⟩
      have hne : n % 2 = 0 := by omega
      have hnx : k + n ≤ x.size := by omega
      have hny : n ≤ y.size := by omega
      have hn' := Lib.hid hn; clear hn
      go_upto_region 5 with fail
      rw [HkW.out]
      go_cut [8] (fun v wc => v = .int .i64 n ∧ w = wc)
      case first =>
        by_cases hc : x.size - k ≤ y.size
        · have hn2 := Lib.hid (show n = (x.size - k) / 2 * 2 by rw [hn'.out]; omega)
          go_wp2_with fail
          all_goals
            go_meet
            exact ⟨by rw [hn2.out]; first | done | (congr 1; done) | (congr 1; omega), rfl⟩
        · have hn2 := Lib.hid (show n = y.size / 2 * 2 by rw [hn'.out]; omega)
          go_wp2_with fail
          all_goals
            go_meet
            exact ⟨by rw [hn2.out]; first | done | (congr 1; done) | (congr 1; omega), rfl⟩
      case rest =>
      obtain ⟨rfl, rfl⟩ := hcut
      obtain ⟨T, hT⟩ : ∃ T, Hid (spl x y k n = T) := ⟨_, rfl⟩
      have k1 : (k : Int) ≤ (x.size : Int) := by omega
      have k2 : (n : Int) ≤ (y.size : Int) := by omega
      have k3 : (k : Int) + (n : Int) ≤ (x.size : Int) := by omega
      have k4 : (0 : Int) ≤ (k : Int) + (n : Int) := by omega
      go_upto_region 6 with fail
      go_cut [9] (fun v wc => v = .string T ∧ Up w wc)
      case first =>
        have q1 : IntKind.i64.wrap ((k : Int) + (n : Int)) = (k : Int) + (n : Int) := IntWalk.i64_in _ (by omega)
        have q2 : ((k : Int) + (n : Int)).toNat = k + n := by omega
        go_quiet (fail)
        clear q1
        go_wp2_with fail
        go_meet
        exact ⟨by rw [← hT.out]; rfl, up_drN _ u0⟩
      case rest =>
      obtain ⟨rfl, hu6⟩ := hcut
      clear k3 k4
      have HxS := Lib.hid hxe
      go_wp2_with fail
      go_loopw [10, 11] (fun v i wr => ∃ (c : Bool) (j : Nat), v = .bool c ∧ i = .int .i64 j ∧ j ≤ x.size ∧ j % 2 = 0 ∧ Up w wr ∧ Hid (c = true → Sure (L x) k n)) (fun _ i _ => x.size - (intOf i).toNat)
      case atStart => exact ⟨false, 0, rfl, rfl, by omega, by omega, hu6, Lib.hid (fun h => by cases h)⟩
      case round =>
        obtain ⟨c, j, rfl, rfl, hj, hje, huj, hsure⟩ := hrel
        by_cases hlt : j < x.size
        · have b0 := bt_bd (L x) j
          have b1 := bt_bd (L x) (j + 1)
          have hkl1 : j + 1 < x.size := by have := HxS.out; omega
          have e0 := bt_at x j (by omega)
          have e1 := bt_at x (j + 1) hkl1
          obtain ⟨p, hp⟩ : ∃ p : Int, p = bt (L x) j * 256 + bt (L x) (j + 1) := ⟨_, rfl⟩
          have hpS := Lib.hid (fun (h : p ≠ 0) (h' : j < k ∨ k + n ≤ j) => (⟨j, hje, hlt, h', by rw [hp] at h; exact h⟩ : Sure (L x) k n))
          rw [← e0, ← e1] at hp
          rw [← e0] at b0
          rw [← e1] at b1
          clear e0 e1
          have hk2 : (j : Int) + 1 < (x.size : Int) := by omega
          have q : (0 : Int) ≤ (j : Int) + 1 := by omega
          have q1 : IntKind.i64.wrap ((j : Int) + 1) = (j : Int) + 1 := IntWalk.i64_in _ (by omega)
          have q2 : ((j : Int) + 1).toNat = j + 1 := by omega
          have q3 : IntKind.i64.wrap ((x[j].toNat : Int) * 256) = (x[j].toNat : Int) * 256 := IntWalk.i64_in _ (by omega)
          have q4 : IntKind.i64.wrap ((x[j].toNat : Int) * 256 + (x[j + 1].toNat : Int)) = p := by rw [hp]; exact IntWalk.i64_in _ (by omega)
          have hp' := Lib.hid hp; clear hp
          go_wp2_with fail
          go_quiet (fail)
          clear q1 q3 q4
          have huq : Up w (wr.drewN nq) := up_drN nq huj
          generalize wr.drewN nq = W7 at *
          clear huj
          cases c
          · by_cases h1 : j < k
            · have h1I : (j : Int) < (k : Int) := by omega
              by_cases hp0 : p = 0
              · have n1 : (p != 0) = false := by simp [hp0]
                have n1' : (p == 0) = true := by simp [hp0]
                have hp0' := Lib.hid hp0; clear hp0
                go_wp2_with fail
                go_roundw
                case rel => exact ⟨false, j + 2, rfl, by go_num, by omega, by omega, huq, Lib.hid (fun h => by cases h)⟩
                case measure => simp [intOf]; omega
              · have n1 : (p != 0) = true := by simp [hp0]
                have n1' : (p == 0) = false := by simp [hp0]
                have hS := Lib.hid (fun (_ : true = true) => hpS.out hp0 (.inl h1))
                by_cases hp6 : p = 65535
                · have n2 : (p != 65535) = false := by simp [hp6]
                  have n2' : (p == 65535) = true := by simp [hp6]
                  clear hp6 hp0
                  go_wp2_with fail
                  go_roundw
                  case rel => exact ⟨false, j + 2, rfl, by go_num, by omega, by omega, huq, Lib.hid (fun h => by cases h)⟩
                  case measure => simp [intOf]; omega
                · have n2 : (p != 65535) = true := by simp [hp6]
                  have n2' : (p == 65535) = false := by simp [hp6]
                  clear hp6 hp0
                  go_wp2_with fail
                  go_roundw
                  case rel => exact ⟨true, j + 2, rfl, by go_num, by omega, by omega, huq, hS⟩
                  case measure => simp [intOf]; omega
            · have h1I : ¬ (j : Int) < (k : Int) := by omega
              by_cases h2 : k + n ≤ j
              · have h2I : (k : Int) + (n : Int) ≤ (j : Int) := by omega
                by_cases hp0 : p = 0
                · have n1 : (p != 0) = false := by simp [hp0]
                  have n1' : (p == 0) = true := by simp [hp0]
                  have hp0' := Lib.hid hp0; clear hp0
                  go_wp2_with fail
                  go_roundw
                  case rel => exact ⟨false, j + 2, rfl, by go_num, by omega, by omega, huq, Lib.hid (fun h => by cases h)⟩
                  case measure => simp [intOf]; omega
                · have n1 : (p != 0) = true := by simp [hp0]
                  have n1' : (p == 0) = false := by simp [hp0]
                  have hS := Lib.hid (fun (_ : true = true) => hpS.out hp0 (.inr h2))
                  by_cases hp6 : p = 65535
                  · have n2 : (p != 65535) = false := by simp [hp6]
                    have n2' : (p == 65535) = true := by simp [hp6]
                    clear hp6 hp0
                    go_wp2_with fail
                    go_roundw
                    case rel => exact ⟨false, j + 2, rfl, by go_num, by omega, by omega, huq, Lib.hid (fun h => by cases h)⟩
                    case measure => simp [intOf]; omega
                  · have n2 : (p != 65535) = true := by simp [hp6]
                    have n2' : (p == 65535) = false := by simp [hp6]
                    clear hp6 hp0
                    go_wp2_with fail
                    go_roundw
                    case rel => exact ⟨true, j + 2, rfl, by go_num, by omega, by omega, huq, hS⟩
                    case measure => simp [intOf]; omega
              · have h2I : ¬ (k : Int) + (n : Int) ≤ (j : Int) := by omega
                go_wp2_with fail
                go_roundw
                case rel => exact ⟨false, j + 2, rfl, by go_num, by omega, by omega, huq, Lib.hid (fun h => by cases h)⟩
                case measure => simp [intOf]; omega
          · have hS := Lib.hid hsure.out
            go_wp2_with fail
            go_roundw
            case rel => exact ⟨true, j + 2, rfl, by go_num, by omega, by omega, huq, hS⟩
            case measure => simp [intOf]; omega
        · cases c
          · go_wp2_with (go_at_call 7; refine (aliveS w _ (by (repeat (first | assumption | apply up_al | apply up_dr | apply up_drN)))).mono ?_; rintro e w1 ⟨rfl, hu1, hc1, hz1⟩)
            go_ret
            exact ⟨rfl, hu1⟩
          · have hSure := hsure.out rfl
            clear hsure
            have hyl : ¬ (L y).length < n := by rw [L_len]; omega
            have hpos := Lib.hid ((hSure.pos (L y) (by rw [L_len]; exact HxS.out) hke hne (Nat.le_refl _) (by rw [L_len]; exact hnx)).resolve_right hyl)
            obtain ⟨S, hS⟩ : ∃ S, Hid (ck (wsum (L x)) = S) := ⟨_, rfl⟩
            have hSb : 0 ≤ S ∧ S ≤ 65535 := by rw [← hS.out]; exact ck_bd _ (wsum_bd _).1
            obtain ⟨R, hR⟩ : ∃ R, Hid (ck (wsum (L T)) = R) := ⟨_, rfl⟩
            have CX := Lib.hid (fun b w0 w h hu => hS.out ▸ of1 x b w0 w h (by omega) hu)
            have CT := Lib.hid (fun b w0 w h hu => hR.out ▸ of1 T b w0 w h (by rw [← hT.out, size_spl x y k n hnx hny]; omega) hu)
            have CS0 := fun w0 w hu => turns_law x y k n w0 w hke hne hnx hny hx20 hlong2 (by rw [L_spl]; exact hpos.out) hu
            rw [hS.out, hT.out, hR.out] at CS0
            have CS := Lib.hid CS0; clear CS0
            have HSure := Lib.hid hSure; clear hSure
            have k3 : (k : Int) + (n : Int) ≤ (x.size : Int) := by omega
            have k4 : (0 : Int) ≤ (k : Int) + (n : Int) := by omega
            have k5 : (k : Int) ≤ (k : Int) + (n : Int) := by omega
            go_upto_region 15 with fail
            have q1 : IntKind.i64.wrap ((k : Int) + (n : Int)) = (k : Int) + (n : Int) := IntWalk.i64_in _ (by omega)
            have q2 : ((k : Int) + (n : Int)).toNat = k + n := by omega
            go_cut [118] (fun v wc => v = .bool false ∧ Up w wc)
            case first =>
              go_region_held3 (fun _ => True) (trivial) (first
                | (go_at_call 8; (with_reducible refine (CX.out _ w _ ?_ ?_).mono ?_); (· first | (simp [*]; done) | (simp [*]; rfl) | (rw [hc1 _ _ (by first | (simp; done) | (simp; omega) | (simp at hz1 ⊢; omega) | (simp at hz1 hzA ⊢; omega))]; first | (simp [*]; done) | (simp [*]; rfl) | (rw [hcA _ _ (by first | (simp; done) | (simp; omega) | (simp at hz1 ⊢; omega) | (simp at hz1 hzA ⊢; omega))]; first | (simp [*]; done) | (simp [*]; rfl) | (rw [hcB _ _ (by first | (simp; done) | (simp; omega) | (simp at hz1 ⊢; omega) | (simp at hz1 hzA ⊢; omega))]; first | (simp [*]; done) | (simp [*]; rfl))))); (· (repeat (first | assumption | apply up_al | apply up_dr | apply up_drN))); (try have hcB := hcA); (try have hzB := hzA); (try have hcA := hc1); (try have hzA := hz1); rintro e w1 ⟨rfl, hu1, hc1, hz1⟩)
                | (go_at_call 8; (with_reducible refine (CT.out _ w _ ?_ ?_).mono ?_); (· first | (simp [*]; done) | (simp [*]; rfl) | (rw [hc1 _ _ (by first | (simp; done) | (simp; omega) | (simp at hz1 ⊢; omega) | (simp at hz1 hzA ⊢; omega))]; first | (simp [*]; done) | (simp [*]; rfl) | (rw [hcA _ _ (by first | (simp; done) | (simp; omega) | (simp at hz1 ⊢; omega) | (simp at hz1 hzA ⊢; omega))]; first | (simp [*]; done) | (simp [*]; rfl) | (rw [hcB _ _ (by first | (simp; done) | (simp; omega) | (simp at hz1 ⊢; omega) | (simp at hz1 hzA ⊢; omega))]; first | (simp [*]; done) | (simp [*]; rfl))))); (· (repeat (first | assumption | apply up_al | apply up_dr | apply up_drN))); (try have hcB := hcA); (try have hzB := hzA); (try have hcA := hc1); (try have hzA := hz1); rintro e w1 ⟨rfl, hu1, hc1, hz1⟩)
                | (go_at_call 15; (with_reducible refine (CS.out w _ ?_).mono ?_); (· (repeat (first | assumption | apply up_al | apply up_dr | apply up_drN))); (try have hcB := hcA); (try have hzB := hzA); (try have hcA := hc1); (try have hzA := hz1); rintro e w1 ⟨rfl, hu1, hc1, hz1⟩))
              all_goals
                go_wp2_with fail
                go_meet
                exact ⟨rfl, by (repeat (first | assumption | apply up_al | apply up_dr | apply up_drN))⟩
            case rest =>
            obtain ⟨rfl, hu15⟩ := hcut
            clear q1 q2 k3 k4 k5 huj CS CT
            by_cases hn2 : 2 ≤ n
            · have hn2I : (2 : Int) ≤ (n : Int) := by omega
              go_upto_region 18 with fail
              go_cut [13] (fun v wc => v = .int .u16 (wd (L x) k) ∧ Up w wc)
              case first =>
                have b0 := bt_bd (L x) (k)
                have b1 := bt_bd (L x) (k + 1)
                have e0 := bt_at x (k) (by omega)
                have e1 := bt_at x (k + 1) (by omega)
                have E := Lib.hid (show wd (L x) (k) = bt (L x) (k) * 256 + bt (L x) (k + 1) from rfl)
                rw [← e0] at b0
                rw [← e1] at b1
                have q3 : IntKind.u16.wrap (x[k].toNat : Int) = (x[k].toNat : Int) := by rw [IntKind.wrap_u16]; omega
                have q4 : IntKind.u16.wrap (x[k + 1].toNat : Int) = (x[k + 1].toNat : Int) := by rw [IntKind.wrap_u16]; omega
                have q5 : IntKind.u16.wrap ((x[k].toNat : Int) * 256) = (x[k].toNat : Int) * 256 := by rw [IntKind.wrap_u16]; omega
                have q6 : bits .or .u16 ((x[k].toNat : Int) * 256) (x[k + 1].toNat : Int) = (x[k].toNat : Int) * 256 + (x[k + 1].toNat : Int) := bits_or_u16 _ _ (by omega) (by omega)
                have HE0 := Lib.hid e0
                have HE1 := Lib.hid e1
                clear e0 e1
                have hk1 : k < x.size := by omega
                have hk2 : (k : Int) + 1 < (x.size : Int) := by omega
                have q : (0 : Int) ≤ (k : Int) + 1 := by omega
                have q1 : IntKind.i64.wrap ((k : Int) + 1) = (k : Int) + 1 := IntWalk.i64_in _ (by omega)
                have q2 : ((k : Int) + 1).toNat = k + 1 := by omega
                go_quiet (fail)
                clear q1 q3 q4 q5 q6
                go_wp2_with fail
                go_meet
                exact ⟨by rw [E.out, ← HE0.out, ← HE1.out], up_drN _ hu15⟩
              case rest =>
              obtain ⟨rfl, hu18⟩ := hcut
              go_upto_region 19 with fail
              go_cut [14] (fun v wc => v = .int .u16 (wd (L y) 0) ∧ Up w wc)
              case first =>
                have b0 := bt_bd (L y) (0)
                have b1 := bt_bd (L y) (1)
                have e0 := bt_at y (0) (by omega)
                have e1 := bt_at y (1) (by omega)
                have E := Lib.hid (show wd (L y) (0) = bt (L y) (0) * 256 + bt (L y) (1) from rfl)
                rw [← e0] at b0
                rw [← e1] at b1
                have q3 : IntKind.u16.wrap (y[0].toNat : Int) = (y[0].toNat : Int) := by rw [IntKind.wrap_u16]; omega
                have q4 : IntKind.u16.wrap (y[1].toNat : Int) = (y[1].toNat : Int) := by rw [IntKind.wrap_u16]; omega
                have q5 : IntKind.u16.wrap ((y[0].toNat : Int) * 256) = (y[0].toNat : Int) * 256 := by rw [IntKind.wrap_u16]; omega
                have q6 : bits .or .u16 ((y[0].toNat : Int) * 256) (y[1].toNat : Int) = (y[0].toNat : Int) * 256 + (y[1].toNat : Int) := bits_or_u16 _ _ (by omega) (by omega)
                have HE0 := Lib.hid e0
                have HE1 := Lib.hid e1
                clear e0 e1
                have hk1 : 0 < y.size := by omega
                have hk2 : 1 < y.size := by omega
                have hk3 : (1 : Int) < (y.size : Int) := by omega
                have hk4 : (0 : Int) < (y.size : Int) := by omega
                go_quiet (fail)
                clear q3 q4 q5 q6
                go_wp2_with fail
                go_meet
                exact ⟨by rw [E.out, ← HE0.out, ← HE1.out], up_drN _ hu18⟩
              case rest =>
              obtain ⟨rfl, hu19⟩ := hcut
              obtain ⟨O, hO⟩ : ∃ O, Hid (spl x y k 2 = O) := ⟨_, rfl⟩
              have hyl2 : ¬ (L y).length < 2 := by rw [L_len]; omega
              have hpos2 := Lib.hid ((HSure.out.pos (L y) (by rw [L_len]; exact HxS.out) hke (by omega) hn2 (by rw [L_len]; omega)).resolve_right hyl2)
              have hO1 : Hid (turn S (wd (L x) k) (wd (L y) 0) = ck (wsum (L O))) := by
                show _ = _
                rw [← hS.out, ← hO.out, L_spl]
                exact turn_splice (L x) (L y) k hke (by rw [L_len]; omega) (by rw [L_len]; omega) hpos2.out.1 hpos2.out.2
              have hOz : O.size ≤ 4098 := by rw [← hO.out, size_spl x y k 2 (by omega) (by omega)]; omega
              have wx := wd_bd (L x) k
              have wy := wd_bd (L y) 0
              obtain ⟨R2, hR2⟩ : ∃ R2, Hid (ck (wsum (L O)) = R2) := ⟨_, rfl⟩
              have CT := Lib.hid (fun b w0 w h hu => hR2.out ▸ of1 O b w0 w h hOz hu)
              have CS0 := fun w0 w hu => turn3 S (wd (L x) k) (wd (L y) 0) w0 w hSb wx wy hu
              rw [hO1.out, hR2.out] at CS0
              have CS := Lib.hid CS0; clear CS0
              generalize wd (L x) k = wa at *
              generalize wd (L y) 0 = wb at *
              have hk3 : (k : Int) + 2 ≤ (x.size : Int) := by omega
              have hk4 : (2 : Int) ≤ (y.size : Int) := by omega
              have hk5 : 2 ≤ y.size := by omega
              have hk6 : (0 : Int) ≤ (k : Int) + 2 := by omega
              go_upto_region 20 with fail
              go_cut [15] (fun v wc => v = .string O ∧ Up w wc)
              case first =>
                have q1 : IntKind.i64.wrap ((k : Int) + 2) = (k : Int) + 2 := IntWalk.i64_in _ (by omega)
                have q2 : ((k : Int) + 2).toNat = k + 2 := by omega
                go_quiet (fail)
                clear q1
                go_wp2_with fail
                go_meet
                exact ⟨by rw [← hO.out]; rfl, up_drN _ hu19⟩
              case rest =>
              obtain ⟨rfl, hu20⟩ := hcut
              go_wp2_with (first
                | (go_at_call 8; (with_reducible refine (CT.out _ w _ ?_ ?_).mono ?_); (· first | (simp [*]; done) | (simp [*]; rfl) | (rw [hc1 _ _ (by first | (simp; done) | (simp; omega) | (simp at hz1 ⊢; omega) | (simp at hz1 hzA ⊢; omega))]; first | (simp [*]; done) | (simp [*]; rfl) | (rw [hcA _ _ (by first | (simp; done) | (simp; omega) | (simp at hz1 ⊢; omega) | (simp at hz1 hzA ⊢; omega))]; first | (simp [*]; done) | (simp [*]; rfl) | (rw [hcB _ _ (by first | (simp; done) | (simp; omega) | (simp at hz1 ⊢; omega) | (simp at hz1 hzA ⊢; omega))]; first | (simp [*]; done) | (simp [*]; rfl))))); (· (repeat (first | assumption | apply up_al | apply up_dr | apply up_drN))); (try have hcB := hcA); (try have hzB := hzA); (try have hcA := hc1); (try have hzA := hz1); rintro e w1 ⟨rfl, hu1, hc1, hz1⟩)
                | (go_at_call 8; (with_reducible refine (CX.out _ w _ ?_ ?_).mono ?_); (· first | (simp [*]; done) | (simp [*]; rfl) | (rw [hc1 _ _ (by first | (simp; done) | (simp; omega) | (simp at hz1 ⊢; omega) | (simp at hz1 hzA ⊢; omega))]; first | (simp [*]; done) | (simp [*]; rfl) | (rw [hcA _ _ (by first | (simp; done) | (simp; omega) | (simp at hz1 ⊢; omega) | (simp at hz1 hzA ⊢; omega))]; first | (simp [*]; done) | (simp [*]; rfl) | (rw [hcB _ _ (by first | (simp; done) | (simp; omega) | (simp at hz1 ⊢; omega) | (simp at hz1 hzA ⊢; omega))]; first | (simp [*]; done) | (simp [*]; rfl))))); (· (repeat (first | assumption | apply up_al | apply up_dr | apply up_drN))); (try have hcB := hcA); (try have hzB := hzA); (try have hcA := hc1); (try have hzA := hz1); rintro e w1 ⟨rfl, hu1, hc1, hz1⟩)
                | (go_at_call 13; (with_reducible refine (CS.out w _ ?_).mono ?_); (· (repeat (first | assumption | apply up_al | apply up_dr | apply up_drN))); (try have hcB := hcA); (try have hzB := hzA); (try have hcA := hc1); (try have hzA := hz1); rintro e w1 ⟨rfl, hu1, hc1, hz1⟩)
                | (go_at_call 7; refine (aliveS w _ (by (repeat (first | assumption | apply up_al | apply up_dr | apply up_drN)))).mono ?_; rintro e w1 ⟨rfl, hu1, hc1, hz1⟩))
              go_ret
              exact ⟨rfl, hu1⟩
            · have hn2I : ¬ (2 : Int) ≤ (n : Int) := by omega
              go_wp2_with (go_at_call 7; refine (aliveS w _ (by (repeat (first | assumption | apply up_al | apply up_dr | apply up_drN)))).mono ?_; rintro e w1 ⟨rfl, hu1, hc1, hz1⟩)
              go_ret
              exact ⟨rfl, hu1⟩
    · go_enter Try.func5, Try.ntmps5
      go_wp2_with (go_at_call 7; refine (aliveS w _ (by (repeat (first | assumption | apply up_al | apply up_dr | apply up_drN)))).mono ?_; rintro e w1 ⟨rfl, hu1, hc1, hz1⟩)
      go_ret
      exact ⟨rfl, hu1⟩
  · go_enter Try.func5, Try.ntmps5
    go_wp2_with (go_at_call 7; refine (aliveS w _ (by (repeat (first | assumption | apply up_al | apply up_dr | apply up_drN)))).mono ?_; rintro e w1 ⟨rfl, hu1, hc1, hz1⟩)
    go_ret
    exact ⟨rfl, hu1⟩
end Go.Proofs.Ytjnlfnlodjbcjaa.su
