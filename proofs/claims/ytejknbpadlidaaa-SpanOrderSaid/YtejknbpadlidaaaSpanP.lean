/- Cut: what it returns. Condition: the arguments fit their kinds; a list of less than a million spans. -/
import Derived.Test.YtejknbpadlidaaaSpanO
namespace Go.Proofs.Ytejknbpadlidaaa.sp
open Go.RowKit Go.Shelf Go.Lib Go.Sort Go.Proofs.Ytejknbpadlidaaa.spm
set_option linter.unusedVariables false

theorem Own2.inR {w : World} {B : Nat} {v : Value} {ps : List Sp} (h : Own2 w B v ps) : ∃ A n c, v = .slice A n c ∧ ps.length = n ∧ n ≤ c ∧ InR B w A ps := by
  rcases own_form h with ⟨rfl, h0⟩ | ⟨g, cap, rfl, f1, f2, f3, f4⟩
  · exact ⟨none, 0, 0, rfl, h0, Nat.le_refl _, fun hn => absurd (List.eq_nil_of_length_eq_zero h0) hn⟩
  · exact ⟨_, _, cap, rfl, rfl, f3, fun _ => ⟨g, rfl, f1, f2, h.row⟩⟩
/-- what a span leaves below a, and from b on -/
def cutP (a b : Int) (xs : List Sp) : List Sp := xs.flatMap fun s => [(s.1, min s.2 a), (max s.1 b, s.2)]
theorem cutP_snoc (a b : Int) (xs : List Sp) (s : Sp) : cutP a b (xs ++ [s]) = cutP a b xs ++ [(s.1, min s.2 a), (max s.1 b, s.2)] := by simp [cutP]
theorem cutP_len (a b : Int) : ∀ (xs : List Sp), (cutP a b xs).length = 2 * xs.length
  | [] => rfl
  | x :: r => by
    have := cutP_len a b r
    unfold cutP at this ⊢
    rw [List.flatMap_cons, List.length_append, this]
    simp only [List.length_cons, List.length_nil]
    omega
theorem cutP_mem (a b : Int) (hab : a ≤ b) (xs : List Sp) (n : Int) : mem (cutP a b xs) n ↔ mem xs n ∧ ¬ (a ≤ n ∧ n < b) := by
  constructor
  · rintro ⟨t, ht, h1, h2⟩
    obtain ⟨s, hs, hts⟩ := List.mem_flatMap.1 ht
    simp at hts
    rcases hts with rfl | rfl
    · simp only at h1 h2; exact ⟨⟨s, hs, h1, by omega⟩, by omega⟩
    · simp only at h1 h2; exact ⟨⟨s, hs, by omega, h2⟩, by omega⟩
  · rintro ⟨⟨s, hs, h1, h2⟩, h3⟩
    by_cases h : n < a
    · exact ⟨(s.1, min s.2 a), List.mem_flatMap.2 ⟨s, hs, by simp⟩, h1, by show n < min s.2 a; omega⟩
    · exact ⟨(max s.1 b, s.2), List.mem_flatMap.2 ⟨s, hs, by simp⟩, by show max s.1 b ≤ n; omega, h2⟩
theorem cutP_lo (a b : Int) (hb : 0 ≤ b) (xs : List Sp) (h0 : ∀ s, s ∈ xs → 0 ≤ s.1) : ∀ s, s ∈ cutP a b xs → 0 ≤ s.1 := by
  intro t ht
  obtain ⟨s, hs, hts⟩ := List.mem_flatMap.1 ht
  have := h0 s hs
  simp at hts
  rcases hts with rfl | rfl
  · exact this
  · show 0 ≤ max s.1 b; omega
theorem cells_new2 {w : World} {g : Nat} {x y z t : Int} (h1 : w.cell? ⟨g, 0, none⟩ = some (.int .u64 x)) (h2 : w.cell? ⟨g, 1, none⟩ = some (.int .u64 y)) (h3 : w.cell? ⟨g, 2, none⟩ = some (.int .u64 z)) (h4 : w.cell? ⟨g, 3, none⟩ = some (.int .u64 t)) : ∀ j u, (cells [(x, y), (z, t)])[j]? = some u → w.cell? ⟨g, j, none⟩ = some u := by
  intro j u hj
  match j, hj with
  | 0, hj => simp [cells] at hj; subst hj; exact h1
  | 1, hj => simp [cells] at hj; subst hj; exact h2
  | 2, hj => simp [cells] at hj; subst hj; exact h3
  | 3, hj => simp [cells] at hj; subst hj; exact h4

set_option maxHeartbeats 2000000 in
theorem cutC (A : Option Addr) (n c : Nat) (xs : List (Int × Int)) (a b : Int) (w : World) (hr : Rd w A xs) (hn : xs.length = n) (hm : n < 1000000) (hU : U xs) (ha : 0 ≤ a) (hb0 : 0 ≤ b) :
    Calls Try.prog 22 #[.slice A n c, .agg #[.int .u64 a, .int .u64 b]] w (SetPost w xs (a, b) false) := by
  obtain ⟨W, hW⟩ : ∃ W, Hid (W = w.alloc (.cells #[.int .u64 a, .int .u64 b] 31)) := ⟨_, rfl⟩
  have hB : RowKit.Below w.heap.size w W := by rw [hW.out]; exact (RowKit.Below.refl _ _).alloc (Nat.le_refl _) _
  have g1 : W.cell? ⟨w.heap.size, 0, none⟩ = some (.int .u64 a) := by rw [hW.out]; go_simp
  have g2 : W.cell? ⟨w.heap.size, 1, none⟩ = some (.int .u64 b) := by rw [hW.out]; go_simp
  have hM := wrongC A n c xs a b W (hr.below hB (Nat.le_refl _)) hn (by unfold maxLen; omega)
  by_cases hok : mayB xs = true ∧ a ≤ b
  · rw [hok.1, if_pos rfl, if_neg (by omega)] at hM
    obtain ⟨hcan, hmem⟩ := madeL_spec xs (a, b) false (fun s hs => ⟨(hU s hs).1, (hU s hs).2.2.1⟩) ⟨ha, hb0⟩
    have HC := Lib.hid hM; clear hM
    have HZ := Lib.hid (fun (B' : Nat) (A' : Option Addr) (n' c' : Nat) (w1 : World) (hin : InR B' w1 A' (cutP a b xs)) (hn' : (cutP a b xs).length = n') (hc : n' ≤ c') (hB' : B' ≤ w1.heap.size) =>
      setC B' A' n' c' (cutP a b xs) (madeL xs (a, b) false) w1 hin hn' hc (by rw [cutP_len] at hn'; omega) hB' (cutP_lo a b hb0 xs hU.lo) hcan (fun v => by rw [hmem, keepB_cut, cutP_mem a b hok.2]))
    have HOk := Lib.hid hok
    have HN := Lib.hid hn
    have HT := Lib.hid (show xs.take n = xs by rw [← HN.out]; exact List.take_length)
    clear hn hU hcan hmem hok
    go_enter Try.func22, Try.ntmps22
    go_wp2_with fail
    rw [← hW.out]
    refine HC.out.mono ?_
    rintro e w1 ⟨rfl, hb1⟩
    replace g1 := cell_up hb1 g1; replace g2 := cell_up hb1 g2
    have hB1 := hB.trans (hb1.mono hB.size)
    have hz1 := hB1.size
    have hw1s : w.heap.size < w1.heap.size := World.block_lt_of_cell? _ _ g1
    clear hb1 hB hW HC
    go_wp2
    go_loopw [7, 18] (fun o i wr => ∃ k : Nat, k ≤ n ∧ i = .int .i64 k ∧ Own2 wr w1.heap.size o (cutP a b (xs.take k)) ∧ RowKit.Below w1.heap.size w1 wr) (fun _ i _ => n - (intOf i).toNat)
    case atStart => exact ⟨0, Nat.zero_le _, rfl, Own2.nil_ _ _, RowKit.Below.refl _ _⟩
    case round =>
      obtain ⟨k, hk, rfl, hown, hb⟩ := hrel
      have hsz := hb.size
      by_cases hlt : k < n
      · obtain ⟨bb, off, rfl, hbl, x1, x2, c1, c2, hx⟩ := (hr.below (hB1.trans (hb.mono hz1)) (Nat.le_refl _)).at_ (k := k) (by rw [HN.out]; exact hlt)
        have e1 := cell_up hb g1
        have e2 := cell_up hb g2
        have hJ := Lib.hid (show cutP a b (xs.take (k + 1)) = cutP a b (xs.take k) ++ [(x1, min x2 a), (max x1 b, x2)] by rw [take_snoc' hx.out, cutP_snoc])
        have hcl : (cutP a b (xs.take k)).length ≤ 2 * k := by rw [cutP_len, List.length_take]; omega
        generalize cutP a b (xs.take k) = os at hown hJ hcl
        have hws : w.heap.size < wr.heap.size := World.block_lt_of_cell? _ _ e1
        clear g1 g2
        go_wp2_with (first
          | (at_builtin; refine app2 (.tmp 22) (.tmp 39) _ [(x1, min x2 a), (max x1 b, x2)] (hown.up (((RowKit.Below.refl _ _).alloc (Nat.le_refl _) _).alloc (by simp) _)) rfl rfl rfl rfl (cells_new2 (by go_simp) (by go_simp) (by go_simp) (by go_simp)) (by omega) (by simp) (by simp; omega) ?_; intro v2 w2 hown2 hb2; have hB2 := ((hb.alloc hsz _).alloc (by simp; omega) _).trans hb2))
        all_goals
          go_roundw
          case rel => exact ⟨k + 1, by omega, by go_num, by rw [hJ.out]; exact hown2, hB2⟩
          case measure => simp [intOf]; omega
      · obtain rfl : k = n := by omega
        rw [HT.out] at hown
        obtain ⟨A4, n4, c4, rfl, hl4, hc4, hin4⟩ := hown.inR
        have HL4 := Lib.hid hl4; clear hl4 hown
        go_wp2_with fail
        refine (HZ.out w1.heap.size A4 n4 c4 wr hin4 HL4.out hc4 hsz).mono ?_
        rintro e w4 ⟨A5, n5, c5, er, rfl, her, hz4⟩
        have HZ4 := Lib.hid hz4; clear hz4
        go_wp2
        go_ret2
        exact SetZ.post ⟨A5, n5, c5, er, rfl, her, HZ4.out⟩ HOk.out.1 HOk.out.2 (hB1.trans (hb.mono hz1)) hz1
  · have hz : (mayB xs = false ∧ setL xs (a, b) false = ([], 8)) ∨ (mayB xs = true ∧ b < a ∧ setL xs (a, b) false = ([], 2)) := by
      cases hm1 : mayB xs
      · exact .inl ⟨rfl, by unfold setL; simp [hm1]⟩
      · right
        have hba : b < a := by rw [hm1] at hok; simp at hok; omega
        exact ⟨rfl, hba, by unfold setL; simp [hm1, hba]⟩
    clear hok hr hn hU
    rcases hz with ⟨hz1, hz⟩ | ⟨hz1, hz2, hz⟩
    · rw [hz1] at hM
      have HC := Lib.hid hM; have HZ := Lib.hid hz; clear hM hz hz1
      go_enter Try.func22, Try.ntmps22
      go_wp2_with fail
      rw [← hW.out]
      refine HC.out.mono ?_
      rintro e w1 ⟨rfl, hb1⟩
      go_wp2
      go_ret2
      exact SetPost.nil_ HZ.out (hB.trans (hb1.mono hB.size))
    · rw [hz1, if_pos rfl, if_pos hz2] at hM
      have HC := Lib.hid hM; have HZ := Lib.hid hz; clear hM hz hz1 hz2
      go_enter Try.func22, Try.ntmps22
      go_wp2_with fail
      rw [← hW.out]
      refine HC.out.mono ?_
      rintro e w1 ⟨rfl, hb1⟩
      go_wp2
      go_ret2
      exact SetPost.nil_ HZ.out (hB.trans (hb1.mono hB.size))
end Go.Proofs.Ytejknbpadlidaaa.sp
