/- B H A: contracts, part 21. Condition: as each says. -/
import Derived.Test.YtafckmbgefbonaaKBHA20
import Derived.Lib.BufferWrite
set_option linter.unusedVariables false
set_option linter.unusedSimpArgs false
namespace Go.Proofs.Ytafckmbgefbonaa.pk
open Go.RowKit Go.Shelf Go.Lib Go.Proofs.Ytafckmbgefbonaa.sm Go.Proofs.Ytafckmbgefbonaa.nb Go.Proofs.Ytafckmbgefbonaa.pm
set_option linter.unusedVariables false

set_option maxHeartbeats 2000000 in
set_option maxRecDepth 100000 in
theorem layE (ks : List Bool) {w0 : World} {B n cap ch sh ph cg sg pg b6 : Nat} {vs : List Value} {t : St} {W : World} (k : Nat) (N : ByteArray) (q : Nat)
    (hf : RF w0 B n cap ch sh ph cg sg pg b6) (hs : RS w0 B n cap ch sh ph cg sg pg b6 vs t W) (hq : Box W q (ks.map (clo ch sh ph cg sg pg))) (q1 : q ≠ ch) (q2 : q ≠ cg) (q3 : q ≠ B)
    (m : Nat) (hm : N.size = m) (hk : k + m ≤ n) (hkc : k = cap) (z : Nat) (hz : ks.length = z) (hz2 : z ≤ 1024) :
    Calls Try.prog 28 #[.slice (some ⟨B, 0, none⟩) n cap, .int .i64 k, .string N, .slice (some ⟨q, 0, none⟩) z z] W fun e W' => (∃ r, e = .returned r) ∧ RS w0 B n cap ch sh ph cg sg pg b6 vs (layS ks k (L N) t) W' := by
  have nm := hf.nm; have nc := hf.nc; have hlen := hs.len
  have m0 : m = 0 := by omega
  subst m0
  have e1 : n = k := by omega
  subst e1
  have e2 : n = cap := by omega
  subst e2
  have e3 : N = ByteArray.empty := ba_eq (by have h0 : L N = [] := List.eq_nil_of_length_eq_zero hm; rw [h0]; rfl)
  subst e3
  obtain ⟨A, hA⟩ : ∃ A, A = tx [] := ⟨_, rfl⟩
  have hAz : A.size = 0 := by rw [hA]; rfl
  have hEz : ByteArray.empty.size = 0 := rfl
  have qc : (convert 44 9 (.slice (some ⟨B, 0, none⟩) 0 0)).run Try.prog W = .ok (.string A) W := by rw [hA]; exact conv_part (l := t.l) (cap := 0) (k := 0) (m := 0) hs.x (Nat.zero_le _)
  have HA : Hid (L A = (t.l.drop n).take (L ByteArray.empty).length) := by rw [hA, L_tx]; exact Lib.hid rfl
  clear hA
  have hcp : (Builtin.copy_ #[44, 9] 3 #[.slice (some ⟨B, 0, none⟩) 0 0, .string ByteArray.empty]).run Try.prog W = .ok (goInt 0) W :=
    run_copy_empty_string W 44 9 3 5 (some ⟨B, 0, none⟩) 0 0 ByteArray.empty Try.underlying44 (by kernel_rfl) rfl
  have hl : spl t.l n (L ByteArray.empty) = t.l := spl_nil _ _
  have hs1 : RS w0 B n n ch sh ph cg sg pg b6 vs ⟨t.vh, t.vg, spl t.l n (L ByteArray.empty)⟩ W := by rw [hl]; exact hs
  have hq1 := hq
  generalize hNN : ByteArray.empty = N at *
  go_enter Try.func28, Try.ntmps28
  go_upto_region 1 with fail
  go_wp2_with (at_builtin; refine Lib.wpList_copy_run W rfl (.tmp 21) (.tmp 22) 44 9 rfl _ _ rfl rfl hcp ?_)
  clear hcp hq qc
  generalize W = W1 at hs1 hq1 ⊢
  obtain ⟨S0, hS0⟩ : ∃ S0 : Nat → St, S0 = fun j => (ks.take j).foldl (fun u κ => tur (L A) (L N) κ u) ⟨t.vh, t.vg, spl t.l n (L N)⟩ := ⟨_, rfl⟩
  have e0 : S0 0 = ⟨t.vh, t.vg, spl t.l n (L N)⟩ := by rw [hS0]; rfl
  have eN : S0 z = layS ks n (L N) t := by rw [hS0]; dsimp only; rw [List.take_of_length_le (by omega), HA.out]; rfl
  have eS : ∀ j (h : j < z) κ, ks[j]? = some κ → S0 (j + 1) = tur (L A) (L N) κ (S0 j) := fun j h κ hκ => by
    rw [hS0]; dsimp only
    obtain ⟨h1, h2⟩ := List.getElem?_eq_some_iff.1 hκ
    rw [List.take_succ_eq_append_getElem h1, List.foldl_append, h2]; rfl
  rw [← e0] at hs1
  have HEN := Lib.hid eN
  have ES := Lib.hid eS
  have HKS : Hid (∀ j, j < z → ∃ κ, ks[j]? = some κ) := fun j h => ⟨_, List.getElem?_eq_getElem (by omega)⟩
  clear eS e0 eN hS0 HA
  go_upto_region 3 with fail
  go_loopw [10, 26] (fun v10 iv wr => ∃ j : Nat, j ≤ z ∧ iv = .int .i64 j ∧ RS w0 B n n ch sh ph cg sg pg b6 vs (S0 j) wr ∧ Box wr q (ks.map (clo ch sh ph cg sg pg))) (fun _ iv _ => z - (RowKit.intOf iv).toNat)
  case atStart => exact ⟨0, Nat.zero_le _, rfl, hs1, hq1⟩
  case round =>
    obtain ⟨j, hj, rfl, hs2, hq2⟩ := hrel
    by_cases hlt : j < z
    · obtain ⟨κ, hκ⟩ := HKS.out j hlt
      have HE := Lib.hid (ES.out j hlt κ hκ)
      have hj0 := hq2.at j (v := clo ch sh ph cg sg pg κ) (by rw [List.getElem?_map, hκ]; rfl)
      have hT := turC hf hs2 A N (by omega) (by omega) q _ hq2 q1 q2 q3
      have i1 : (j : Int) < (z : Int) := by omega
      clear hκ
      cases κ with
      | true =>
        have HT := Lib.hid hT.1
        have hj1 : wr.cell? ⟨q, j, none⟩ = some (.func (.func 51) #[] #[.pointer (some ⟨ch, 0, none⟩), .pointer (some ⟨sh, 0, none⟩), .pointer (some ⟨ph, 0, none⟩)]) := hj0
        clear hT hj0
        go_wp2_with fail
        refine HT.out.mono ?_
        rintro e w5 ⟨⟨r, rfl⟩, hs3, hq3⟩
        rw [← HE.out] at hs3
        clear HE HT
        go_wp2
        go_roundw
        case rel => exact ⟨j + 1, by omega, by go_num, hs3, hq3⟩
        case measure => simp [RowKit.intOf]; omega
      | false =>
        have HT := Lib.hid hT.2
        have hj1 : wr.cell? ⟨q, j, none⟩ = some (.func (.func 51) #[] #[.pointer (some ⟨cg, 0, none⟩), .pointer (some ⟨sg, 0, none⟩), .pointer (some ⟨pg, 0, none⟩)]) := hj0
        clear hT hj0
        go_wp2_with fail
        refine HT.out.mono ?_
        rintro e w5 ⟨⟨r, rfl⟩, hs3, hq3⟩
        rw [← HE.out] at hs3
        clear HE HT
        go_wp2
        go_roundw
        case rel => exact ⟨j + 1, by omega, by go_num, hs3, hq3⟩
        case measure => simp [RowKit.intOf]; omega
    · obtain rfl : j = z := by omega
      go_wp2
      go_end0
      rw [HEN.out] at hs2
      exact ⟨⟨_, rfl⟩, hs2⟩
theorem layA (ks : List Bool) {w0 : World} {B n cap ch sh ph cg sg pg b6 : Nat} {vs : List Value} {t : St} {W : World} (k : Nat) (N : ByteArray) (q : Nat)
    (hf : RF w0 B n cap ch sh ph cg sg pg b6) (hs : RS w0 B n cap ch sh ph cg sg pg b6 vs t W) (hq : Box W q (ks.map (clo ch sh ph cg sg pg))) (q1 : q ≠ ch) (q2 : q ≠ cg) (q3 : q ≠ B)
    (m : Nat) (hm : N.size = m) (hk : k + m ≤ n) (z : Nat) (hz : ks.length = z) (hz2 : z ≤ 1024) :
    Calls Try.prog 28 #[.slice (some ⟨B, 0, none⟩) n cap, .int .i64 k, .string N, .slice (some ⟨q, 0, none⟩) z z] W fun e W' => (∃ r, e = .returned r) ∧ RS w0 B n cap ch sh ph cg sg pg b6 vs (layS ks k (L N) t) W' := by
  by_cases h : k = cap
  · exact layE ks k N q hf hs hq q1 q2 q3 m hm hk h z hz hz2
  · exact layC ks k N q hf hs hq q1 q2 q3 m hm hk h z hz hz2
set_option maxHeartbeats 1000000 in
set_option maxRecDepth 100000 in
theorem put4C (ks : List Bool) {w0 : World} {B n cap ch sh ph cg sg pg b6 : Nat} {vs : List Value} {t : St} {W : World} (k v : Nat) (q : Nat)
    (hf : RF w0 B n cap ch sh ph cg sg pg b6) (hs : RS w0 B n cap ch sh ph cg sg pg b6 vs t W) (hq : Box W q (ks.map (clo ch sh ph cg sg pg))) (q1 : q ≠ ch) (q2 : q ≠ cg) (q3 : q ≠ B)
    (hv : v ≤ 4294967295) (hk : k + 4 ≤ n) (z : Nat) (hz : ks.length = z) (hz2 : z ≤ 1024) :
    Calls Try.prog 26 #[.slice (some ⟨B, 0, none⟩) n cap, .int .i64 k, .int .u32 v, .slice (some ⟨q, 0, none⟩) z z] W fun e W' => (∃ r, e = .returned r) ∧ RS w0 B n cap ch sh ph cg sg pg b6 vs (layS ks k (B32 v) t) W' := by
  have nc := hf.nc
  have HL := Lib.hid (fun w => lay32 w.heap.size (.slice none 0 0) [] v w hv (OwnB.nil_ _ _) (by simp) (Nat.le_refl _))
  have HY := Lib.hid (fun W' (u : Up W W') => layC ks (W := W') k (tx (B32 v)) q hf (hs.on u) (hq.up u) q1 q2 q3 4 (by rw [tx_size]; rfl) hk (by omega) z hz hz2)
  rw [L_tx] at HY
  clear hs hq
  go_enter Try.func26, Try.ntmps26
  go_wp2_with fail
  refine (HL.out _).mono ?_
  rintro e w2 ⟨⟨v2, rfl, hO2⟩, hb2⟩
  rw [List.nil_append] at hO2
  obtain ⟨g2, cap2, rfl, _, q, _⟩ := conv_own hO2 4 rfl (by decide)
  clear HL hO2
  go_wp2_with fail
  refine (HY.out w2 hb2).mono ?_
  rintro e w3 ⟨⟨r, rfl⟩, h3⟩
  go_wp2
  go_end0
  exact ⟨⟨_, rfl⟩, h3⟩
set_option maxHeartbeats 1000000 in
set_option maxRecDepth 100000 in
theorem put2C (ks : List Bool) {w0 : World} {B n cap ch sh ph cg sg pg b6 : Nat} {vs : List Value} {t : St} {W : World} (k v : Nat) (q : Nat)
    (hf : RF w0 B n cap ch sh ph cg sg pg b6) (hs : RS w0 B n cap ch sh ph cg sg pg b6 vs t W) (hq : Box W q (ks.map (clo ch sh ph cg sg pg))) (q1 : q ≠ ch) (q2 : q ≠ cg) (q3 : q ≠ B)
    (hv : v ≤ 65535) (hk : k + 2 ≤ n) (z : Nat) (hz : ks.length = z) (hz2 : z ≤ 1024) :
    Calls Try.prog 27 #[.slice (some ⟨B, 0, none⟩) n cap, .int .i64 k, .int .u16 v, .slice (some ⟨q, 0, none⟩) z z] W fun e W' => (∃ r, e = .returned r) ∧ RS w0 B n cap ch sh ph cg sg pg b6 vs (layS ks k (B16 v) t) W' := by
  have nc := hf.nc
  have HL := Lib.hid (fun w => lay16 w.heap.size (.slice none 0 0) [] v w hv (OwnB.nil_ _ _) (by simp) (Nat.le_refl _))
  have HY := Lib.hid (fun W' (u : Up W W') => layC ks (W := W') k (tx (B16 v)) q hf (hs.on u) (hq.up u) q1 q2 q3 2 (by rw [tx_size]; rfl) hk (by omega) z hz hz2)
  rw [L_tx] at HY
  clear hs hq
  go_enter Try.func27, Try.ntmps27
  go_wp2_with fail
  refine (HL.out _).mono ?_
  rintro e w2 ⟨⟨v2, rfl, hO2⟩, hb2⟩
  rw [List.nil_append] at hO2
  obtain ⟨g2, cap2, rfl, _, q, _⟩ := conv_own hO2 2 rfl (by decide)
  clear HL hO2
  go_wp2_with fail
  refine (HY.out w2 hb2).mono ?_
  rintro e w3 ⟨⟨r, rfl⟩, h3⟩
  go_wp2
  go_end0
  exact ⟨⟨_, rfl⟩, h3⟩
end Go.Proofs.Ytafckmbgefbonaa.pk
