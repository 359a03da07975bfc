/- A segment that is read, written again: plain mathematics. Condition: none. -/
import Derived.Test.YtecogakledajkaaTcpM
namespace Go.Proofs.Ytecogakledajkaa.cm
open Go.Proofs.Ytecogakledajkaa.sm Go.Proofs.Ytecogakledajkaa.nb
set_option linter.unusedVariables false

theorem hi_of (a b : UInt8) : oct ((a.toNat * 256 + b.toNat) / 256) = a := by
  have := UInt8.toNat_lt b
  rw [show (a.toNat * 256 + b.toNat) / 256 = a.toNat by omega, oct_of]
theorem lo_of (a b : UInt8) : oct ((a.toNat * 256 + b.toNat) % 256) = b := by
  have := UInt8.toNat_lt b
  rw [show (a.toNat * 256 + b.toNat) % 256 = b.toNat by omega, oct_of]
theorem four_of (a b c d : UInt8) (n : Nat) (hn : n = (a.toNat * 256 + b.toNat) * 65536 + (c.toNat * 256 + d.toNat)) : [oct (q3 n), oct (q2 n), oct (q1 n), oct (q0 n)] = [a, b, c, d] := by
  have h1 := UInt8.toNat_lt a; have h2 := UInt8.toNat_lt b; have h3 := UInt8.toNat_lt c; have h4 := UInt8.toNat_lt d
  have e3 : q3 n = a.toNat := by unfold q3; omega
  have e2 : q2 n = b.toNat := by unfold q2; omega
  have e1 : q1 n = c.toNat := by unfold q1; omega
  have e0 : q0 n = d.toNat := by unfold q0; omega
  rw [e3, e2, e1, e0, oct_of, oct_of, oct_of, oct_of]
theorem cons_of {l : List UInt8} {n : Nat} (h : n + 1 ≤ l.length) : ∃ a t, l = a :: t ∧ n ≤ t.length := by
  cases l with
  | nil => simp at h
  | cons a t => exact ⟨a, t, rfl, by simpa using h⟩
theorem twenty {l : List UInt8} (h : 20 ≤ l.length) : ∃ b0 b1 b2 b3 b4 b5 b6 b7 b8 b9 b10 b11 b12 b13 b14 b15 b16 b17 b18 b19 r, l = b0 :: b1 :: b2 :: b3 :: b4 :: b5 :: b6 :: b7 :: b8 :: b9 :: b10 :: b11 :: b12 :: b13 :: b14 :: b15 :: b16 :: b17 :: b18 :: b19 :: r := by
  obtain ⟨b0, l0, rfl, g0⟩ := cons_of (n := 19) h
  obtain ⟨b1, l1, rfl, g1⟩ := cons_of (n := 18) g0
  obtain ⟨b2, l2, rfl, g2⟩ := cons_of (n := 17) g1
  obtain ⟨b3, l3, rfl, g3⟩ := cons_of (n := 16) g2
  obtain ⟨b4, l4, rfl, g4⟩ := cons_of (n := 15) g3
  obtain ⟨b5, l5, rfl, g5⟩ := cons_of (n := 14) g4
  obtain ⟨b6, l6, rfl, g6⟩ := cons_of (n := 13) g5
  obtain ⟨b7, l7, rfl, g7⟩ := cons_of (n := 12) g6
  obtain ⟨b8, l8, rfl, g8⟩ := cons_of (n := 11) g7
  obtain ⟨b9, l9, rfl, g9⟩ := cons_of (n := 10) g8
  obtain ⟨b10, l10, rfl, g10⟩ := cons_of (n := 9) g9
  obtain ⟨b11, l11, rfl, g11⟩ := cons_of (n := 8) g10
  obtain ⟨b12, l12, rfl, g12⟩ := cons_of (n := 7) g11
  obtain ⟨b13, l13, rfl, g13⟩ := cons_of (n := 6) g12
  obtain ⟨b14, l14, rfl, g14⟩ := cons_of (n := 5) g13
  obtain ⟨b15, l15, rfl, g15⟩ := cons_of (n := 4) g14
  obtain ⟨b16, l16, rfl, g16⟩ := cons_of (n := 3) g15
  obtain ⟨b17, l17, rfl, g17⟩ := cons_of (n := 2) g16
  obtain ⟨b18, l18, rfl, g18⟩ := cons_of (n := 1) g17
  obtain ⟨b19, l19, rfl, g19⟩ := cons_of (n := 0) g18
  exact ⟨b0, b1, b2, b3, b4, b5, b6, b7, b8, b9, b10, b11, b12, b13, b14, b15, b16, b17, b18, b19, l19, rfl⟩

/-- what was read, with a checksum, is what was there but for the checksum -/
theorem rw_read (x y : Nat) (l : List UInt8) (h : dec x y l = 0) (c : Nat) :
    rw_ (wd l 0).toNat (wd l 2).toNat (qd l 4).toNat (qd l 8).toNat (bt l 13).toNat (wd l 14).toNat (wd l 18).toNat ((l.drop 20).take ((hl l).toNat - 20)) (l.drop (hl l).toNat) c
      = l.take 16 ++ (B16 c ++ l.drop 18) := by
  obtain ⟨h1, h2, h3, h4, h5⟩ := dec_is0 h
  obtain ⟨b0, b1, b2, b3, b4, b5, b6, b7, b8, b9, b10, b11, b12, b13, b14, b15, b16, b17, b18, b19, r, hl0⟩ := twenty (by omega : 20 ≤ l.length)
  have w0 : (wd l 0).toNat = b0.toNat * 256 + b1.toNat := by rw [hl0]; show ((b0.toNat : Int) * 256 + (b1.toNat : Int)).toNat = _; omega
  have w2 : (wd l 2).toNat = b2.toNat * 256 + b3.toNat := by rw [hl0]; show ((b2.toNat : Int) * 256 + (b3.toNat : Int)).toNat = _; omega
  have w14 : (wd l 14).toNat = b14.toNat * 256 + b15.toNat := by rw [hl0]; show ((b14.toNat : Int) * 256 + (b15.toNat : Int)).toNat = _; omega
  have w18 : (wd l 18).toNat = b18.toNat * 256 + b19.toNat := by rw [hl0]; show ((b18.toNat : Int) * 256 + (b19.toNat : Int)).toNat = _; omega
  have d4 : (qd l 4).toNat = (b4.toNat * 256 + b5.toNat) * 65536 + (b6.toNat * 256 + b7.toNat) := by rw [hl0]; show (((b4.toNat : Int) * 256 + (b5.toNat : Int)) * 65536 + ((b6.toNat : Int) * 256 + (b7.toNat : Int))).toNat = _; omega
  have d8 : (qd l 8).toNat = (b8.toNat * 256 + b9.toNat) * 65536 + (b10.toNat * 256 + b11.toNat) := by rw [hl0]; show (((b8.toNat : Int) * 256 + (b9.toNat : Int)) * 65536 + ((b10.toNat : Int) * 256 + (b11.toNat : Int))).toNat = _; omega
  have e13 : (bt l 13).toNat = b13.toNat := by rw [hl0]; show ((b13.toNat : Int)).toNat = _; omega
  have e12 : bt l 12 = (b12.toNat : Int) := by rw [hl0]; rfl
  have hN : hl l = (b12.toNat : Int) / 16 * 4 := by unfold hl; rw [e12]
  rw [hN] at h4
  rw [e12] at h5
  obtain ⟨N, hNN⟩ : ∃ N : Nat, N = b12.toNat / 16 * 4 := ⟨_, rfl⟩
  have hN2 : (hl l).toNat = N := by rw [hN]; omega
  have hN20 : 20 ≤ N ∧ N ≤ l.length := by omega
  have hoff : (20 + (N - 20)) / 4 * 16 = b12.toNat := by omega
  have hol : ((l.drop 20).take (N - 20)).length = N - 20 := by rw [List.length_take, List.length_drop]; omega
  have hod : (l.drop 20).take (N - 20) ++ l.drop N = l.drop 20 := by
    have : l.drop N = (l.drop 20).drop (N - 20) := by rw [List.drop_drop]; congr 1; omega
    rw [this, List.take_append_drop]
  rw [hN2]
  unfold rw_
  rw [hod, hol]
  unfold pre
  rw [hoff, w0, w2, d4, d8, e13, w14, w18, hi_of, lo_of, hi_of, lo_of, hi_of, lo_of, oct_of, oct_of]
  have f4 := four_of b4 b5 b6 b7 _ rfl
  have f8 := four_of b8 b9 b10 b11 _ rfl
  simp only [List.cons.injEq, and_true] at f4 f8
  rw [f4.1, f4.2.1, f4.2.2.1, f4.2.2.2, f8.1, f8.2.1, f8.2.2.1, f8.2.2.2]
  have f18 : B16 (b18.toNat * 256 + b19.toNat) = [b18, b19] := by unfold B16; rw [hi_of, lo_of]
  rw [f18, hl0]
  rfl
/-- .. and the checksum is what it was, or it was 65,535 -/
theorem moves (x y : Nat) (l : List UInt8) (hx : x ≤ 4294967295) (hy : y ≤ 4294967295) (h : dec x y l = 0) (e : List UInt8)
    (he : e = en x y (wd l 0).toNat (wd l 2).toNat (qd l 4).toNat (qd l 8).toNat (bt l 13).toNat (wd l 14).toNat (wd l 18).toNat ((l.drop 20).take ((hl l).toNat - 20)) (l.drop (hl l).toNat)) :
    e.length = l.length ∧ e.take 16 = l.take 16 ∧ e.drop 18 = l.drop 18 ∧ (e = l ∨ (l.drop 16).take 2 = [255, 255]) := by
  obtain ⟨h1, h2, h3, h4, h5⟩ := dec_is0 h
  have hc := rw_read x y l h
  unfold en at he
  rw [hc] at he
  have hT : ((l.take 16)).length = 16 := by rw [List.length_take]; omega
  have hsplit : l = l.take 16 ++ (B16 (wd l 16).toNat ++ l.drop 18) := by
    obtain ⟨b0, b1, b2, b3, b4, b5, b6, b7, b8, b9, b10, b11, b12, b13, b14, b15, b16, b17, b18, b19, r, hl0⟩ := twenty (by omega : 20 ≤ l.length)
    have w16 : (wd l 16).toNat = b16.toNat * 256 + b17.toNat := by rw [hl0]; show ((b16.toNat : Int) * 256 + (b17.toNat : Int)).toNat = _; omega
    have f16 : B16 (b16.toNat * 256 + b17.toNat) = [b16, b17] := by unfold B16; rw [hi_of, lo_of]
    rw [w16, f16, hl0]; rfl
  refine ⟨?_, ?_, ?_, ?_⟩
  · rw [he, List.length_append, List.length_append, hT, List.length_drop]; show 16 + (2 + _) = _; omega
  · rw [he, List.take_append_of_le_length (by omega), List.take_of_length_le (by omega)]
  · rw [he, ← List.append_assoc, List.drop_append_of_le_length (by rw [List.length_append, hT]; exact Nat.le_refl 18), List.drop_of_length_le (by rw [List.length_append, hT]; exact Nat.le_refl 18), List.nil_append]
  · have hw := wd_bd l 16
    generalize hcc : cs x y (wd l 0).toNat (wd l 2).toNat (qd l 4).toNat (qd l 8).toNat (bt l 13).toNat (wd l 14).toNat (wd l 18).toNat ((l.drop 20).take ((hl l).toNat - 20)) (l.drop (hl l).toNat) = c at he
    have hci := cs_int x y (wd l 0).toNat (wd l 2).toNat (qd l 4).toNat (qd l 8).toNat (bt l 13).toNat (wd l 14).toNat (wd l 18).toNat ((l.drop 20).take ((hl l).toNat - 20)) (l.drop (hl l).toNat)
    rw [hcc, hc 0] at hci
    have hs : ∀ k, k ≤ 65535 → ts x y (l.take 16 ++ (B16 k ++ l.drop 18)) = ts x y (l.take 16 ++ (B16 0 ++ l.drop 18)) + (k : Int) := fun k hk => by
      have hlen : ∀ k, (l.take 16 ++ (B16 k ++ l.drop 18)).length = l.length := fun k => by rw [List.length_append, List.length_append, hT, List.length_drop]; show 16 + (2 + _) = _; omega
      have ew : ∀ k, k ≤ 65535 → wsum (l.take 16 ++ (B16 k ++ l.drop 18)) = wsum (l.take 16) + ((k : Int) + wsum (l.drop 18)) := fun k hk => by
        rw [wsum_append _ _ (by rw [hT]), wsum_B16 k hk]
      rw [ts_eq x y _ hx hy (by rw [hlen]; omega), ts_eq x y _ hx hy (by rw [hlen]; omega), hlen, hlen, ew k hk, ew 0 (by omega)]
      omega
    have hpos : 6 ≤ ts x y (l.take 16 ++ (B16 0 ++ l.drop 18)) := by
      rw [ts_eq x y _ hx hy (by rw [List.length_append, List.length_append, hT, List.length_drop]; show 16 + (2 + _) ≤ _; omega)]
      have := (wsum_bd (l.take 16 ++ (B16 0 ++ l.drop 18))).1
      omega
    have hl3 := h3
    rw [hsplit, hs _ (by omega)] at hl3
    generalize ts x y (l.take 16 ++ (B16 0 ++ l.drop 18)) = T at hci hl3 hpos
    have hcw : c = (wd l 16).toNat ∨ (wd l 16).toNat = 65535 := by
      unfold ck ones at hci hl3
      (repeat' split at hci) <;> (repeat' split at hl3) <;> omega
    rcases hcw with hcw | hcw
    · left; rw [he, hcw]; exact hsplit.symm
    · right
      rw [hcw] at hsplit
      rw [hsplit, List.drop_append_of_le_length (by omega), List.drop_of_length_le (by omega), List.nil_append]
      rfl
end Go.Proofs.Ytecogakledajkaa.cm
