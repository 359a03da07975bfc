/- The document's ends, made, Set. Condition: the arguments fit their kinds; a list of less than a million spans. -/
import Derived.Test.YtejknbpadlidaaaSpanE
namespace Go.Proofs.Ytejknbpadlidaaa.sp
open Go.RowKit Go.Shelf Go.Lib Go.Sort Go.Proofs.Ytejknbpadlidaaa.spm
set_option linter.unusedVariables false

theorem putC' (A : Option Addr) (n c : Nat) (ps : List Int) (v : Int) (w : World) (hr : RdU w A ps) (hn : ps.length = n) (hm : n < 549755813888) :
    Calls Try.prog 57 #[.slice A n c, .int .u64 v] w fun e w' => ∃ A' n' c', e = .returned (.slice A' n' c') ∧ Hid ((putL ps v).length = n') ∧ RdU w' A' (putL ps v) ∧ Below w.heap.size w w' :=
  (putC A n c ps v w hr hn hm).mono fun e w' ⟨⟨A', c', he, hrd⟩, hb⟩ => ⟨A', _, c', he, rfl, hrd, hb⟩

theorem endsTo_len (xs : List Sp) (k : Nat) : (endsTo (xs.take k)).length ≤ 2 * k := by
  have := (foldl_ends (xs.take k) [] (by simp)).2.1
  simp only [List.length_nil, Nat.zero_add, List.length_take] at this
  unfold endsTo
  omega

set_option maxHeartbeats 1000000 in
theorem endsC (A : Option Addr) (n c : Nat) (xs : List (Int × Int)) (a b : Int) (w : World) (hr : Rd w A xs) (hn : xs.length = n) (hm : n < 1000000) :
    Calls Try.prog 49 #[.slice A n c, .agg #[.int .u64 a, .int .u64 b]] w fun e w' => ∃ A' n' c', e = .returned (.slice A' n' c') ∧ Hid ((endsL xs (a, b)).length = n') ∧ RdU w' A' (endsL xs (a, b)) ∧ Below w.heap.size w w' := by
  obtain ⟨W, hW⟩ : ∃ W, Hid (W = w.alloc (.cells #[.int .u64 a, .int .u64 b] 31)) := ⟨_, rfl⟩
  have hB : Below w.heap.size w W := by rw [hW.out]; exact (Below.refl _ _).alloc (Nat.le_refl _) _
  have g1 : W.cell? ⟨w.heap.size, 0, none⟩ = some (.int .u64 a) := by rw [hW.out]; go_simp
  have g2 : W.cell? ⟨w.heap.size, 1, none⟩ = some (.int .u64 b) := by rw [hW.out]; go_simp
  have HN := Lib.hid hn; clear hn
  go_enter Try.func49, Try.ntmps49
  go_wp2
  rw [← hW.out]
  go_loopw [5, 6] (fun o i wr => ∃ (k m c1 : Nat) (A1 : Option Addr), k ≤ n ∧ i = .int .i64 k ∧ o = .slice A1 m c1 ∧ Hid ((endsTo (xs.take k)).length = m) ∧ RdU wr A1 (endsTo (xs.take k)) ∧ Below W.heap.size W wr) (fun _ i _ => n - (intOf i).toNat)
  case atStart => exact ⟨0, 0, 0, none, Nat.zero_le _, rfl, rfl, rfl, fun h => absurd rfl h, Below.refl _ _⟩
  case round =>
    obtain ⟨k, m, c1, A1, hk, rfl, rfl, hm1, hrd, hb⟩ := hrel
    have hml : m ≤ 2 * k := by rw [← hm1.out]; exact endsTo_len xs k
    have hbw : Below w.heap.size w wr := hB.trans (hb.mono hB.size)
    by_cases hlt : k < n
    · obtain ⟨bb, off, rfl, hbl, x1, x2, c1', c2', hx⟩ := (hr.below hbw (Nat.le_refl _)).at_ (k := k) (by rw [HN.out]; exact hlt)
      have e2 := Lib.hid (show endsTo (xs.take (k + 1)) = putL (putL (endsTo (xs.take k)) x1) x2 by rw [take_snoc' hx.out, endsTo_snoc])
      generalize endsTo (xs.take k) = es at *
      have hlen1 := putL_len es x1
      go_wp2_with fail
      refine (putC' A1 m c1 es x1 _ hrd hm1.out (by omega)).mono ?_
      rintro e w1 ⟨A2, m2, c2, rfl, hm2, hrd2, hb1⟩
      have c3 := cell_up hb1 c1'
      have c4 := cell_up hb1 c2'
      go_wp2_with fail
      refine (putC' A2 m2 c2 _ x2 _ hrd2 hm2.out (by rw [← hm2.out]; have := hm1.out; omega)).mono ?_
      rintro e w2 ⟨A3, m3, c3', rfl, hm3, hrd3, hb2⟩
      go_wp2
      go_roundw
      case rel => exact ⟨k + 1, m3, c3', A3, by omega, by go_num, rfl, by rw [e2.out]; exact hm3, by rw [e2.out]; exact hrd3, (hb.trans (hb1.mono hb.size)).trans (hb2.mono (Nat.le_trans hb.size hb1.size))⟩
      case measure => simp [intOf]; omega
    · obtain rfl : k = n := by omega
      have HT := Lib.hid (show xs.take k = xs by rw [← HN.out]; exact List.take_length)
      rw [HT.out] at hm1 hrd
      replace g1 := cell_up hb g1; replace g2 := cell_up hb g2
      have hlen1 := putL_len (endsTo xs) a
      go_wp2_with fail
      refine (putC' A1 m c1 _ a _ hrd hm1.out (by omega)).mono ?_
      rintro e w1 ⟨A2, m2, c2, rfl, hm2, hrd2, hb1⟩
      replace g2 := cell_up hb1 g2
      go_wp2_with fail
      refine (putC' A2 m2 c2 _ b _ hrd2 hm2.out (by rw [← hm2.out]; have := hm1.out; omega)).mono ?_
      rintro e w2 ⟨A3, m3, c3', rfl, hm3, hrd3, hb2⟩
      go_wp2
      go_ret
      exact ⟨A3, m3, c3', rfl, hm3, hrd3, (hbw.trans (hb1.mono hbw.size)).trans (hb2.mono (Nat.le_trans hbw.size hb1.size))⟩
end Go.Proofs.Ytejknbpadlidaaa.sp
