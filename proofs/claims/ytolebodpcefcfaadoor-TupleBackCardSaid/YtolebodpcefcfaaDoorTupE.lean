/- The document's answer for tuple: a number ahead of a text, an address's text. Condition: the arguments fit their kinds. -/
import Derived.Test.YtolebodpcefcfaaDoorTupD
import Derived.Deep.QuietTactic
import Derived.Deep.DeepCutAuto
namespace Go.Proofs.YtolebodpcefcfaaDoor.tu
open Go.RowKit Go.Shelf Go.Proofs.YtolebodpcefcfaaDoor.tm
set_option linter.unusedVariables false

def val (l : List UInt8) : Nat := l.foldl (fun n c => 10 * n + (c.toNat - 48)) 0
theorem val_snoc (l : List UInt8) (c : UInt8) : val (l ++ [c]) = 10 * val l + (c.toNat - 48) := by simp [val]
theorem val_D (n : Nat) : val (D n) = n := by
  induction n using Nat.strongRecOn with
  | _ n ih =>
    by_cases h : n < 10
    · rw [D_small h]; show 10 * 0 + ((UInt8.ofNat (48 + n)).toNat - 48) = n; rw [dg_nat h]; omega
    · rw [D_big h, val_snoc, ih (n / 10) (by omega), dg_nat (by omega)]; omega
abbrev Dig (c : UInt8) : Prop := 48 ≤ c.toNat ∧ c.toNat ≤ 57
/-- i bytes of l are digits -/
def Digs (l : List UInt8) (i n : Nat) : Prop := i ≤ l.length ∧ (∀ k c, k < i → l[k]? = some c → Dig c) ∧ n = val (l.take i) ∧ n < 10 ^ i
/-- and no more are, or they are six -/
def DigsEnd (l : List UInt8) (i n : Nat) : Prop := Digs l i n ∧ i ≤ 6 ∧ (i < 6 → ∀ c, l[i]? = some c → ¬ Dig c)
theorem Digs.next {l : List UInt8} {i n : Nat} {c : UInt8} (h : Digs l i n) (hc : l[i]? = some c) (hd : Dig c) : Digs l (i + 1) (10 * n + (c.toNat - 48)) := by
  obtain ⟨h1, h2, h3, h4⟩ := h
  have hl := (List.getElem?_eq_some_iff.1 hc).1
  refine ⟨by omega, fun k d hk hd' => ?_, ?_, ?_⟩
  · by_cases e : k = i
    · subst e; rw [hc] at hd'; cases hd'; exact hd
    · exact h2 k d (by omega) hd'
  · rw [List.take_add_one, hc]
    show _ = val (l.take i ++ [c])
    rw [val_snoc, ← h3]
  · rw [Nat.pow_succ]; have := hd.2; omega
/-- the answer of number -/
def NumAns (l : List UInt8) (most n : Nat) (r : List UInt8) (b : Bool) : Prop :=
  (b = true → n ≤ most) ∧ ∀ x r', x ≤ 65535 → (∀ c, r'.head? = some c → ¬ Dig c) → l = D x ++ r' → n = x ∧ r = r' ∧ b = decide (x ≤ most)
theorem NumAns.of {l : List UInt8} {i n most : Nat} (h : DigsEnd l i n) : NumAns l most n (l.drop i) (decide (0 < i) && decide (n ≤ most)) := by
  obtain ⟨⟨h1, h2, h3, h4⟩, h6, h7⟩ := h
  refine ⟨fun hb => by simp at hb; exact hb.2, fun x r' hx hr hl => ?_⟩
  have hL := D_len (n := x) (by omega)
  have hP := D_pos x
  have hi : i = (D x).length := by
    rcases Nat.lt_trichotomy i (D x).length with hlt | he | hgt
    · have hc : l[i]? = some (D x)[i] := by rw [hl, List.getElem?_append_left hlt, List.getElem?_eq_getElem hlt]
      exact absurd (D_dig x _ (List.getElem_mem hlt)) (h7 (by omega) _ hc)
    · exact he
    · exfalso
      have hlen : (D x).length < l.length := by omega
      obtain ⟨c, hc⟩ : ∃ c, l[(D x).length]? = some c := ⟨_, List.getElem?_eq_getElem hlen⟩
      have hd := h2 _ c hgt hc
      rw [hl, List.getElem?_append_right (Nat.le_refl _), Nat.sub_self] at hc
      exact hr c (by rw [List.head?_eq_getElem?]; exact hc) hd
  have ht : l.take i = D x := by rw [hi, hl, List.take_left']; rfl
  have hn : n = x := by rw [h3, ht, val_D]
  refine ⟨hn, by rw [hi, hl, List.drop_left']; rfl, ?_⟩
  rw [hn, show decide (0 < i) = true from decide_eq_true (by omega), Bool.true_and]
theorem L_at (s : ByteArray) (k : Nat) (hk : k < s.size) : (L s)[k]? = some s[k] := by
  show s.data.toList[k]? = _
  rw [List.getElem?_eq_getElem (by rw [Array.length_toList]; exact hk)]
  rfl
theorem L_ext (s : ByteArray) (k : Nat) : L (s.extract k s.size) = (L s).drop k := by
  show (s.extract k s.size).data.toList = _
  rw [ByteArray.data_extract, Array.toList_extract]
  simp only [List.extract_eq_take_drop]
  exact List.take_of_length_le (by rw [List.length_drop, Array.length_toList]; exact Nat.le_refl _)

/-- what number leaves -/
def NumOut (s : ByteArray) (most : Nat) (w : World) (e : Ending) (w' : World) : Prop :=
  (∃ (n : Nat) (t : ByteArray) (b : Bool), e = .returned (.tuple #[.int .u64 n, .string t, .bool b]) ∧ n ≤ 999999 ∧ NumAns (L s) most n (L t) b ∧ t.size ≤ s.size) ∧ Up w w'
set_option maxHeartbeats 1000000 in
set_option maxRecDepth 100000 in
theorem number (s : ByteArray) (most : Nat) (w : World) (hs : s.size ≤ 1099511627776) (hm : most ≤ 65535) :
    Calls Tryd.prog 23 #[.string s, .int .u64 most] w (NumOut s most w) := by
  go_enter Tryd.func23, Tryd.ntmps23
  go_wp2
  go_loop [7, 8] (fun x y => ∃ (i n : Nat), i ≤ 6 ∧ i ≤ s.size ∧ n ≤ 999999 ∧ x = .int .u64 (n : Nat) ∧ y = .int .i64 (i : Nat) ∧ Hid (Digs (L s) i n)) (fun _ y => 6 - (intOf y).toNat)
  case atStart => exact ⟨0, 0, by omega, by omega, by omega, rfl, rfl, ⟨by omega, fun k c hk => absurd hk (by omega), rfl, by omega⟩⟩
  case round =>
    obtain ⟨i, n, hi, his, hn, rfl, rfl, hd⟩ := hrel
    have q0 : (0 : Int) ≤ (i : Int) := by omega
    by_cases hgo : i < s.size ∧ i < 6 ∧ Dig (s[i]!)
    · obtain ⟨h1, h2, h3⟩ := hgo
      rw [getElem!_pos s i h1] at h3
      have hI : (i : Int) < (s.size : Int) := by omega
      have d0 : decide ((i : Int) < (s.size : Int)) = true := decide_eq_true hI
      have d1 : decide ((48 : Int) ≤ (s[i].toNat : Int)) = true := decide_eq_true (by omega)
      have d2 : decide ((s[i].toNat : Int) ≤ 57) = true := decide_eq_true (by omega)
      have d3 : decide ((i : Int) < 6) = true := decide_eq_true (by omega)
      have hnx := hd.out.next (L_at s i h1) h3
      have hn' : 10 * n + (s[i].toNat - 48) ≤ 999999 := by
        have := hnx.2.2.2
        have : (10 : Nat) ^ (i + 1) ≤ 10 ^ 6 := Nat.pow_le_pow_right (by omega) (by omega)
        omega
      have HX := Lib.hid hnx; clear hnx
      have h31 := h3.1; have h32 := h3.2
      clear h3
      go_wp2
      go_round
      case rel => exact ⟨i + 1, 10 * n + (s[i].toNat - 48), by omega, by omega, hn', by first | go_num | (congr 1; omega), by go_num, HX.out⟩
      case measure => simp [intOf]; omega
    · have hend : Hid (DigsEnd (L s) i n) := ⟨hd.out, hi, fun h6 c hc hdg => hgo ⟨by have := (List.getElem?_eq_some_iff.1 hc).1; rw [L_len] at this; exact this, h6, by
        have hlt : i < s.size := by have := (List.getElem?_eq_some_iff.1 hc).1; rw [L_len] at this; exact this
        rw [getElem!_pos s i hlt]
        rw [L_at s i hlt] at hc
        cases hc
        exact hdg⟩⟩
      by_cases h1 : i < s.size
      · have hI : (i : Int) < (s.size : Int) := by omega
        have d0 : decide ((i : Int) < (s.size : Int)) = true := decide_eq_true hI
        rw [getElem!_pos s i h1] at hgo
        by_cases h2 : 48 ≤ s[i].toNat
        · have d1 : decide ((48 : Int) ≤ (s[i].toNat : Int)) = true := decide_eq_true (by omega)
          by_cases h3 : s[i].toNat ≤ 57
          · have d2 : decide ((s[i].toNat : Int) ≤ 57) = true := decide_eq_true (by omega)
            have h6 : i = 6 := by
              rcases Nat.lt_or_ge i 6 with h | h
              · exact absurd ⟨h1, h, h2, h3⟩ hgo
              · omega
            have d3 : decide ((i : Int) < 6) = false := decide_eq_false (by omega)
            clear hgo h6
            have hsl : (i : Int) ≤ (s.size : Int) := by omega
            by_cases hi0 : 0 < i
            · have d5 : decide ((0 : Int) < (i : Int)) = true := decide_eq_true (by omega)
              have HA := Lib.hid (NumAns.of (most := most) hend.out)
              rw [show decide (0 < i) = true from decide_eq_true hi0, Bool.true_and] at HA
              go_upto_region 6 with fail
              go_quiet (fail)
              go_wp2
              go_ret3
              exact ⟨⟨n, s.extract i s.size, decide (n ≤ most), by first | rfl | (congr 1; simp; done), hn, by rw [L_ext]; exact HA.out, by rw [ByteArray.size_extract]; omega⟩, up_drN _ (Below.refl _ _)⟩
            · have d5 : decide ((0 : Int) < (i : Int)) = false := decide_eq_false (by omega)
              have HA := Lib.hid (NumAns.of (most := most) hend.out)
              rw [show decide (0 < i) = false from decide_eq_false hi0, Bool.false_and] at HA
              go_upto_region 6 with fail
              go_quiet (fail)
              go_wp2
              go_ret3
              exact ⟨⟨n, s.extract i s.size, false, by first | rfl | (congr 1; simp; done), hn, by rw [L_ext]; exact HA.out, by rw [ByteArray.size_extract]; omega⟩, up_drN _ (Below.refl _ _)⟩
          · have d2 : decide ((s[i].toNat : Int) ≤ 57) = false := decide_eq_false (by omega)
            clear hgo
            have hsl : (i : Int) ≤ (s.size : Int) := by omega
            by_cases hi0 : 0 < i
            · have d5 : decide ((0 : Int) < (i : Int)) = true := decide_eq_true (by omega)
              have HA := Lib.hid (NumAns.of (most := most) hend.out)
              rw [show decide (0 < i) = true from decide_eq_true hi0, Bool.true_and] at HA
              go_upto_region 6 with fail
              go_quiet (fail)
              go_wp2
              go_ret3
              exact ⟨⟨n, s.extract i s.size, decide (n ≤ most), by first | rfl | (congr 1; simp; done), hn, by rw [L_ext]; exact HA.out, by rw [ByteArray.size_extract]; omega⟩, up_drN _ (Below.refl _ _)⟩
            · have d5 : decide ((0 : Int) < (i : Int)) = false := decide_eq_false (by omega)
              have HA := Lib.hid (NumAns.of (most := most) hend.out)
              rw [show decide (0 < i) = false from decide_eq_false hi0, Bool.false_and] at HA
              go_upto_region 6 with fail
              go_quiet (fail)
              go_wp2
              go_ret3
              exact ⟨⟨n, s.extract i s.size, false, by first | rfl | (congr 1; simp; done), hn, by rw [L_ext]; exact HA.out, by rw [ByteArray.size_extract]; omega⟩, up_drN _ (Below.refl _ _)⟩
        · have d1 : decide ((48 : Int) ≤ (s[i].toNat : Int)) = false := decide_eq_false (by omega)
          clear hgo
          have hsl : (i : Int) ≤ (s.size : Int) := by omega
          by_cases hi0 : 0 < i
          · have d5 : decide ((0 : Int) < (i : Int)) = true := decide_eq_true (by omega)
            have HA := Lib.hid (NumAns.of (most := most) hend.out)
            rw [show decide (0 < i) = true from decide_eq_true hi0, Bool.true_and] at HA
            go_upto_region 6 with fail
            go_quiet (fail)
            go_wp2
            go_ret3
            exact ⟨⟨n, s.extract i s.size, decide (n ≤ most), by first | rfl | (congr 1; simp; done), hn, by rw [L_ext]; exact HA.out, by rw [ByteArray.size_extract]; omega⟩, up_drN _ (Below.refl _ _)⟩
          · have d5 : decide ((0 : Int) < (i : Int)) = false := decide_eq_false (by omega)
            have HA := Lib.hid (NumAns.of (most := most) hend.out)
            rw [show decide (0 < i) = false from decide_eq_false hi0, Bool.false_and] at HA
            go_upto_region 6 with fail
            go_quiet (fail)
            go_wp2
            go_ret3
            exact ⟨⟨n, s.extract i s.size, false, by first | rfl | (congr 1; simp; done), hn, by rw [L_ext]; exact HA.out, by rw [ByteArray.size_extract]; omega⟩, up_drN _ (Below.refl _ _)⟩
      · have d0 : decide ((i : Int) < (s.size : Int)) = false := decide_eq_false (by omega)
        clear hgo
        have hsl : (i : Int) ≤ (s.size : Int) := by omega
        by_cases hi0 : 0 < i
        · have d5 : decide ((0 : Int) < (i : Int)) = true := decide_eq_true (by omega)
          have HA := Lib.hid (NumAns.of (most := most) hend.out)
          rw [show decide (0 < i) = true from decide_eq_true hi0, Bool.true_and] at HA
          go_upto_region 6 with fail
          go_quiet (fail)
          go_wp2
          go_ret3
          exact ⟨⟨n, s.extract i s.size, decide (n ≤ most), by first | rfl | (congr 1; simp; done), hn, by rw [L_ext]; exact HA.out, by rw [ByteArray.size_extract]; omega⟩, up_drN _ (Below.refl _ _)⟩
        · have d5 : decide ((0 : Int) < (i : Int)) = false := decide_eq_false (by omega)
          have HA := Lib.hid (NumAns.of (most := most) hend.out)
          rw [show decide (0 < i) = false from decide_eq_false hi0, Bool.false_and] at HA
          go_upto_region 6 with fail
          go_quiet (fail)
          go_wp2
          go_ret3
          exact ⟨⟨n, s.extract i s.size, false, by first | rfl | (congr 1; simp; done), hn, by rw [L_ext]; exact HA.out, by rw [ByteArray.size_extract]; omega⟩, up_drN _ (Below.refl _ _)⟩
end Go.Proofs.YtolebodpcefcfaaDoor.tu
