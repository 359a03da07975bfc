/- What adding and cutting does to lists that may be: plain mathematics. -/
import Derived.Test.YtejknbpadlidaaaSpanT
import Derived.Deep.Grids
namespace Go.Proofs.Ytejknbpadlidaaa.sp
open Go.ChangeShapes Go.WideShapes Go.Deep Go.Joins Go.RowKit Go.Proofs.Ytejknbpadlidaaa.spm
set_option linter.unusedVariables false

theorem nodup_len : ∀ (l m : List Int), l.Nodup → (∀ a, a ∈ l → a ∈ m) → l.length ≤ m.length
  | [], _, _, _ => Nat.zero_le _
  | a :: r, m, h, hs => by
    have hr := List.nodup_cons.1 h
    have ha := hs a List.mem_cons_self
    have ih := nodup_len r (m.erase a) hr.2 (fun b hb => (List.mem_erase_of_ne (fun e => hr.1 (by rw [← e]; exact hb))).2 (hs b (List.mem_cons_of_mem _ hb)))
    rw [List.length_erase_of_mem ha] at ih
    have := List.length_pos_of_mem ha
    simp only [List.length_cons]
    omega
theorem can_rise {p : Int} : ∀ {xs : List Sp}, Canon p xs → (xs.map (·.1)).Nodup
  | [], _ => by simp
  | x :: r, ⟨a, b, c⟩ => by
    rw [List.map_cons, List.nodup_cons]
    refine ⟨fun h => ?_, can_rise c⟩
    obtain ⟨s, hs, e⟩ := List.mem_map.1 h
    have := c.lo hs
    omega
theorem mem_of {xs : List Sp} {s : Sp} {n : Int} (h : s ∈ xs) (h1 : s.1 ≤ n) (h2 : n < s.2) : mem xs n := ⟨s, h, h1, h2⟩
/-- one step: a span is added to a list that may be, or cut out of it -/
theorem stepL (xs : List Sp) (a b : Int) (add : Bool) (hc : Canon (-1) xs) (hU : U xs) (hl : xs.length < 256) (ha : 0 ≤ a) (hb : b ≤ 18446744073709551615) (hab : a ≤ b) :
    ∃ ys, setL xs (a, b) add = (ys, 0) ∧ Canon (-1) ys ∧ U ys ∧ ys.length ≤ xs.length + 1 ∧ mayB ys = true ∧ ∀ n, mem ys n ↔ keepB xs (a, b) add n = true := by
  obtain ⟨hcan, hmem⟩ := madeL_spec xs (a, b) add (fun s hs => ⟨(hU s hs).1, (hU s hs).2.2.1⟩) ⟨ha, by show (0 : Int) ≤ b; omega⟩
  have hmay := (mayB_can xs hU.lo).2 ⟨by omega, hc⟩
  have hmade : ∃ ys, ys = madeL xs (a, b) add := ⟨_, rfl⟩
  obtain ⟨ys, hys⟩ := hmade
  rw [← hys] at hcan hmem
  have hmem' : ∀ n, mem ys n → mem xs n ∨ (a ≤ n ∧ n < b) := fun n h => by
    cases add
    · exact .inl ((keepB_cut xs (a, b) n).1 ((hmem n).1 h)).1
    · exact (keepB_add xs (a, b) n).1 ((hmem n).1 h)
  have hUy : U ys := fun s hs => by
    have h0 := hcan.lo hs
    have hb' : s.2 ≤ 18446744073709551615 := by
      rcases hmem' (s.2 - 1) (mem_of hs (by omega) (by omega)) with ⟨t, ht, h1, h2⟩ | h
      · have := hU t ht; omega
      · omega
    omega
  have hlen : ys.length ≤ xs.length + 1 := by
    have := nodup_len (ys.map (·.1)) (xs.map (·.1) ++ [if add then a else b]) (can_rise hcan) (fun e he => by
      obtain ⟨s, hs, rfl⟩ := List.mem_map.1 he
      have h0 := hcan.lo hs
      have hin := (hmem s.1).1 (mem_of hs (by omega) (by omega))
      have hout := fun h => (hcan.end_ hs).2 ((hmem (s.1 - 1)).2 h)
      rw [List.mem_append, List.mem_map, List.mem_singleton]
      cases add
      · rw [keepB_cut] at hin
        rw [keepB_cut] at hout
        obtain ⟨⟨t, ht, h1, h2⟩, h3⟩ := hin
        by_cases e1 : t.1 = s.1
        · exact .inl ⟨t, ht, e1⟩
        · refine .inr ?_
          have : (a, b).1 ≤ s.1 - 1 ∧ s.1 - 1 < (a, b).2 := Classical.byContradiction fun hn => hout ⟨mem_of ht (by omega) (by omega), hn⟩
          simp only at this h3
          show s.1 = b
          omega
      · rw [keepB_add] at hin
        rw [keepB_add] at hout
        rcases hin with ⟨t, ht, h1, h2⟩ | h3
        · by_cases e1 : t.1 = s.1
          · exact .inl ⟨t, ht, e1⟩
          · exact absurd (.inl (mem_of ht (by omega) (by omega))) hout
        · refine .inr ?_
          have : ¬ ((a, b).1 ≤ s.1 - 1 ∧ s.1 - 1 < (a, b).2) := fun h => hout (.inr h)
          simp only at this h3
          show s.1 = a
          omega)
    simpa using this
  refine ⟨ys, ?_, hcan, hUy, hlen, (mayB_can ys hUy.lo).2 ⟨by omega, hcan⟩, hmem⟩
  unfold setL
  rw [← hys, if_pos hmay, if_neg (by show ¬ b < a; omega), if_neg (by omega)]
theorem stepN (xs : List Sp) (a b : Int) (add : Bool) (hc : Canon (-1) xs) (hU : U xs) (hl : xs.length < 256) (hab : b < a) : setL xs (a, b) add = ([], 2) := by
  have hmay := (mayB_can xs hU.lo).2 ⟨by omega, hc⟩
  unfold setL
  rw [if_pos hmay, if_pos (by exact hab)]
theorem keep_in (xs : List Sp) (a b n : Int) (add : Bool) (h : a ≤ n ∧ n < b) : keepB xs (a, b) add n = add := by
  have : inB (a, b) n = true := (inB_iff _ _).2 h
  unfold keepB; rw [this]; cases add <;> cases hasB xs n <;> rfl
theorem keep_out (xs : List Sp) (a b n : Int) (add : Bool) (h : ¬ (a ≤ n ∧ n < b)) : keepB xs (a, b) add n = hasB xs n := by
  have : inB (a, b) n = false := by rw [Bool.eq_false_iff]; exact fun h1 => h ((inB_iff _ _).1 h1)
  unfold keepB; rw [this]; cases add <;> cases hasB xs n <;> rfl
theorem has_of {ys : List Sp} {n : Int} {b : Bool} (h : mem ys n ↔ b = true) : hasB ys n = b := by
  rw [Bool.eq_iff_iff, hasB_iff]; exact h
theorem gap_in {xs : List Sp} {n : Int} (h : hasB xs n = true) : n < gapL xs n := by
  unfold gapL atL
  cases hf : xs.find? (inB · n) with
  | none => exact absurd ((hasB_iff _ _).1 h) (find_none hf)
  | some s => exact (find_some hf).2.2
theorem gap_out {xs : List Sp} {n : Int} (h : hasB xs n = false) : gapL xs n = n := by
  unfold gapL atL
  cases hf : xs.find? (inB · n) with
  | none => rfl
  | some s => rw [hasB_find, hf] at h; cases h
end Go.Proofs.Ytejknbpadlidaaa.sp
