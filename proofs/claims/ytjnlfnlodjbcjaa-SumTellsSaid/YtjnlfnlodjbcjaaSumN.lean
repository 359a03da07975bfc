/- The law of what checksums are, walked: it returns true, for every input. Condition: none. -/
import Derived.Test.YtjnlfnlodjbcjaaSumI
namespace Go.Proofs.Ytjnlfnlodjbcjaa.su
open Go.RowKit Go.Shelf Go.Proofs.Ytjnlfnlodjbcjaa.sm
set_option linter.unusedVariables false

theorem Txt.up {w w' : World} {A : Option Addr} {ps : List ByteArray} (h : Txt w A ps) (hu : Up w w') : Txt w' A ps := fun hn => by
  obtain ⟨b, off, e, hb, hc⟩ := h hn
  exact ⟨b, off, e, Nat.lt_of_lt_of_le hb hu.size, fun j hj => (hu.cell (p := ⟨b, off + j, none⟩) hb).trans (hc j hj)⟩
theorem quietSays {w0 w : World} {v : Value} {f : FuncId} {args : Array Value} (h : Calls Try.prog f args w (Quiet v w)) (hu : Up w0 w) : Calls Try.prog f args w (Says w0 w v) :=
  h.mono fun _ w' ⟨h1, n, h2⟩ => by subst h2; exact ⟨h1, up_drN n hu, fun b o _ => rfl, Nat.le_refl _⟩
theorem cat_append : ∀ (ps qs : List ByteArray), cat (ps ++ qs) = cat ps ++ cat qs
  | [], qs => rfl
  | p :: t, qs => by simp only [List.cons_append, cat, cat_append t qs, List.append_assoc]
theorem cat_take (ps : List ByteArray) (k : Nat) (h : k < ps.length) : cat (ps.take (k + 1)) = cat (ps.take k) ++ L (ps[k]) := by
  rw [List.take_succ_eq_append_getElem h, cat_append]
  simp [cat]
set_option maxRecDepth 100000 in
set_option maxHeartbeats 4000000 in
theorem lawTells (A : Option Addr) (n c : Nat) (ps : List ByteArray) (a was now : Int) (x y : ByteArray) (w : World) (ht : Txt w A ps) (hlen : ps.length = n) (hm : n ≤ maxLen) (hpsz : ∀ p ∈ ps, p.size ≤ maxLen)
    (ha : 0 ≤ a ∧ a ≤ 65535) (hb : 0 ≤ was ∧ was ≤ 65535) (hc : 0 ≤ now ∧ now ≤ 65535) (hx : x.size ≤ maxLen) (hy : y.size ≤ maxLen) :
    Calls Try.prog 3 #[.slice A n c, .int .u16 a, .int .u16 was, .int .u16 now, .string x, .string y] w fun e w' => e = .returned (.bool true) ∧ Below w.heap.size w w' := by
  have u0 : Up w w := Below.refl _ _
  unfold maxLen at hm hx hy
  have Hpsz := Lib.hid hpsz; clear hpsz
  by_cases h1 : n ≤ 60
  · by_cases h2 : x.size ≤ 2048
    · by_cases h3 : y.size ≤ 2048
      · have Hlen := Lib.hid hlen; clear hlen
        go_enter Try.func3, Try.ntmps3
        go_wp2
        go_loop [13, 14] (fun v i => ∃ (j : Nat) (acc : ByteArray), v = .string acc ∧ i = .int .i64 j ∧ j ≤ n ∧ acc.size ≤ 512 * j ∧ Hid (L acc = cat (ps.take j))) (fun _ i => n - (intOf i).toNat)
        case atStart => exact ⟨0, ByteArray.empty, rfl, rfl, by omega, by simp, Lib.hid (by simp [L, cat])⟩
        case round =>
          obtain ⟨j, acc, rfl, rfl, hj, hacc, hL⟩ := hrel
          by_cases hlt : j < n
          · have hlt' : j < ps.length := by have := Hlen.out; omega
            obtain ⟨b, off, hA, hbl, hcell⟩ := ht (by intro h; rw [h] at hlt'; simp at hlt')
            have hcx := hcell j hlt'
            have hnext := cat_take ps j hlt'
            have hpz := Hpsz.out ps[j] (List.getElem_mem hlt')
            unfold maxLen at hpz
            subst hA
            obtain ⟨p, hp⟩ : ∃ p, p = ps[j] := ⟨_, rfl⟩
            rw [← hp] at hcx hnext hpz
            have hL2 := Lib.hid (show L (acc ++ p) = cat (ps.take (j + 1)) by rw [hnext, ← hL.out, L_append])
            clear hp hnext hcell
            by_cases hp5 : p.size ≤ 512
            · have hsz : (acc ++ p).size ≤ 512 * (j + 1) := by rw [ByteArray.size_append]; omega
              go_wp2_with fail
              go_round
              case rel => exact ⟨j + 1, acc ++ p, rfl, by go_num, by omega, hsz, hL2⟩
              case measure => simp [intOf]; omega
            · go_wp2_with (go_at_call 7; refine (aliveS w _ (by (repeat (first | assumption | apply up_al | apply up_dr | apply up_drN)))).mono ?_; rintro e w1 ⟨rfl, hu1, hc1, hz1⟩)
              go_ret
              exact ⟨rfl, hu1⟩
          · have hjn : j = n := by omega
            have haccL : L acc = cat ps := by rw [hL.out, hjn, ← Hlen.out, List.take_length]
            have hcatz : (cat ps).length ≤ 1099511627776 := by rw [← haccL, L_len]; omega
            have hlen2 := Hlen.out
            obtain ⟨S, hS⟩ : ∃ S, Hid (ck (wsum (cat ps)) = S) := ⟨_, rfl⟩
            have hSb : 0 ≤ S ∧ S ≤ 65535 := by rw [← hS.out]; exact ck_bd _ (wsum_bd _).1
            have CO := Lib.hid (fun w' (hu : Up w w') => hS.out ▸ says (ofC A n c ps hlen2 (by omega) hcatz w' (ht.up hu)) hu)
            have CR := Lib.hid (fun w' (hu : Up w w') => hS.out ▸ says (rightC A n c ps hlen2 (by omega) hcatz w' (ht.up hu)) hu)
            have CF0 := fun w' => refOf acc w' (by omega)
            rw [haccL, hS.out] at CF0
            have CF := Lib.hid CF0; clear CF0
            have CJ := Lib.hid (fun w' (hu : Up w w') => join2 a was w w' ha hb hu)
            have CU := Lib.hid (fun w' (hu : Up w w') => turn3 a was now w w' ha hb hc hu)
            obtain ⟨m, hmn⟩ : ∃ m, m = min x.size y.size := ⟨_, rfl⟩
            have CV := Lib.hid (fun w' (hu : Up w w') => turns2 a x y m w w' ha hmn (by omega) (by omega) hu)
            have CW := Lib.hid (fun w' (hu : Up w w') => quietSays (refTurns_n a x y m w' ha hmn (by omega)) hu)
            have HM := Lib.hid hmn; clear hmn haccL hcatz hlen2
            go_wp2_with (first
              | (go_at_call 8; (with_reducible refine (CO.out _ ?_).mono ?_); (· (repeat (first | assumption | apply up_al | apply up_dr | apply up_drN))); (try have hcB := hcA); (try have hzB := hzA); (try have hcA := hc1); (try have hzA := hz1); rintro e w1 ⟨rfl, hu1, hc1, hz1⟩)
              | (go_at_call 10; (with_reducible refine (CR.out _ ?_).mono ?_); (· (repeat (first | assumption | apply up_al | apply up_dr | apply up_drN))); (try have hcB := hcA); (try have hzB := hzA); (try have hcA := hc1); (try have hzA := hz1); rintro e w1 ⟨rfl, hu1, hc1, hz1⟩)
              | (go_at_call 9; (with_reducible refine (CF.out _).mono ?_); rintro e w' ⟨rfl, rfl⟩)
              | (go_at_call 11; (with_reducible refine (CJ.out _ ?_).mono ?_); (· (repeat (first | assumption | apply up_al | apply up_dr | apply up_drN))); (try have hcB := hcA); (try have hzB := hzA); (try have hcA := hc1); (try have hzA := hz1); rintro e w1 ⟨rfl, hu1, hc1, hz1⟩)
              | (go_at_call 12; (with_reducible refine (refJoin _ _ _ ha hb).mono ?_); rintro e w' ⟨rfl, rfl⟩)
              | (go_at_call 13; (with_reducible refine (CU.out _ ?_).mono ?_); (· (repeat (first | assumption | apply up_al | apply up_dr | apply up_drN))); (try have hcB := hcA); (try have hzB := hzA); (try have hcA := hc1); (try have hzA := hz1); rintro e w1 ⟨rfl, hu1, hc1, hz1⟩)
              | (go_at_call 14; (with_reducible refine (refTurn _ _ _ _ ha hb hc).mono ?_); rintro e w' ⟨rfl, rfl⟩)
              | (go_at_call 15; (with_reducible refine (CV.out _ ?_).mono ?_); (· (repeat (first | assumption | apply up_al | apply up_dr | apply up_drN))); (try have hcB := hcA); (try have hzB := hzA); (try have hcA := hc1); (try have hzA := hz1); rintro e w1 ⟨rfl, hu1, hc1, hz1⟩)
              | (go_at_call 16; (with_reducible refine (CW.out _ ?_).mono ?_); (· (repeat (first | assumption | apply up_al | apply up_dr | apply up_drN))); (try have hcB := hcA); (try have hzB := hzA); (try have hcA := hc1); (try have hzA := hz1); rintro e w1 ⟨rfl, hu1, hc1, hz1⟩)
              | (go_at_call 7; refine (aliveS w _ (by (repeat (first | assumption | apply up_al | apply up_dr | apply up_drN)))).mono ?_; rintro e w1 ⟨rfl, hu1, hc1, hz1⟩))
            go_ret
            exact ⟨rfl, hu1⟩
      · go_enter Try.func3, Try.ntmps3
        go_wp2_with (go_at_call 7; refine (aliveS w _ (by (repeat (first | assumption | apply up_al | apply up_dr | apply up_drN)))).mono ?_; rintro e w1 ⟨rfl, hu1, hc1, hz1⟩)
        go_ret
        exact ⟨rfl, hu1⟩
    · go_enter Try.func3, Try.ntmps3
      go_wp2_with (go_at_call 7; refine (aliveS w _ (by (repeat (first | assumption | apply up_al | apply up_dr | apply up_drN)))).mono ?_; rintro e w1 ⟨rfl, hu1, hc1, hz1⟩)
      go_ret
      exact ⟨rfl, hu1⟩
  · go_enter Try.func3, Try.ntmps3
    go_wp2_with (go_at_call 7; refine (aliveS w _ (by (repeat (first | assumption | apply up_al | apply up_dr | apply up_drN)))).mono ?_; rintro e w1 ⟨rfl, hu1, hc1, hz1⟩)
    go_ret
    exact ⟨rfl, hu1⟩
end Go.Proofs.Ytjnlfnlodjbcjaa.su
