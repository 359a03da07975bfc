/- Package tuple: numbers out of bytes, bytes of an address; the document's answer. Condition: the arguments fit their kinds. -/
import Derived.Test.YtkolcdecniedaaaDoorTupA
import Derived.Laws.ResultCell
import Derived.Laws.IdiomStrings
import Derived.Laws.BytesArg
namespace Go.Proofs.YtkolcdecniedaaaDoor.tu
open Go.RowKit Go.Shelf Go.Proofs.YtkolcdecniedaaaDoor.tm
set_option linter.unusedVariables false

theorem or32 (x y : Nat) (hx : x < 4294967296) (hy : y < 4294967296) : bits .or .u32 (x : Int) (y : Int) = ((x ||| y : Nat) : Int) := by
  have h1 : (BitVec.ofInt 32 (x : Int)).toNat = x := by rw [BitVec.ofInt_natCast, BitVec.toNat_ofNat]; exact Nat.mod_eq_of_lt (by omega)
  have h2 : (BitVec.ofInt 32 (y : Int)).toNat = y := by rw [BitVec.ofInt_natCast, BitVec.toNat_ofNat]; exact Nat.mod_eq_of_lt (by omega)
  have h3 : x ||| y < 4294967296 := Nat.or_lt_two_pow (n := 32) (by omega) (by omega)
  show IntKind.u32.wrap ((BitVec.ofInt 32 (x : Int) ||| BitVec.ofInt 32 (y : Int)).toNat : Int) = _
  rw [BitVec.toNat_or, h1, h2, IntKind.wrap_u32]
  omega
theorem or16 (x y : Nat) (hx : x < 65536) (hy : y < 65536) : bits .or .u16 (x : Int) (y : Int) = ((x ||| y : Nat) : Int) := by
  have h1 : (BitVec.ofInt 16 (x : Int)).toNat = x := by rw [BitVec.ofInt_natCast, BitVec.toNat_ofNat]; exact Nat.mod_eq_of_lt (by omega)
  have h2 : (BitVec.ofInt 16 (y : Int)).toNat = y := by rw [BitVec.ofInt_natCast, BitVec.toNat_ofNat]; exact Nat.mod_eq_of_lt (by omega)
  have h3 : x ||| y < 65536 := Nat.or_lt_two_pow (n := 16) (by omega) (by omega)
  show IntKind.u16.wrap ((BitVec.ofInt 16 (x : Int) ||| BitVec.ofInt 16 (y : Int)).toNat : Int) = _
  rw [BitVec.toNat_or, h1, h2, IntKind.wrap_u16]
  omega
theorem or_add (a i y : Nat) (h : y < 2 ^ i) : a * 2 ^ i ||| y = a * 2 ^ i + y := by
  have := Nat.shiftLeft_add_eq_or_of_lt h a
  rw [Nat.shiftLeft_eq] at this
  exact this.symm
theorem c_lt (c : UInt8) : c.toNat ≤ 255 := by have := UInt8.toNat_lt c; omega
/-- a text's first byte and the others -/
theorem split1 {t : ByteArray} {c : UInt8} {r : List UInt8} (h : L t = c :: r) : ∃ h0 : 0 < t.size, t[0] = c ∧ L (t.extract 1 t.size) = r := by
  have hl : (L t).length = r.length + 1 := by rw [h]; rfl
  have h0 : 0 < t.size := by rw [L_len] at hl; omega
  refine ⟨h0, ?_, ?_⟩
  · have e : (L t)[0]? = some c := by rw [h]; rfl
    have e2 : (L t)[0]? = some t[0] := by
      show t.data.toList[0]? = _
      rw [List.getElem?_eq_getElem (by rw [Array.length_toList]; exact h0)]
      rfl
    rw [e2] at e
    exact Option.some.inj e
  · have e : L (t.extract 1 t.size) = (L t).drop 1 := by
      show (t.extract 1 t.size).data.toList = _
      rw [ByteArray.data_extract, Array.toList_extract]
      simp only [List.extract_eq_take_drop]
      exact List.take_of_length_le (by rw [List.length_drop, Array.length_toList]; exact Nat.le_refl _)
    rw [e, h]; rfl

/-- a number's rounds -/
def P32 (c0 c1 c2 c3 : UInt8) : Nat → Nat
  | 0 => 0
  | 1 => c0.toNat * 16777216
  | 2 => c0.toNat * 16777216 + c1.toNat * 65536
  | 3 => c0.toNat * 16777216 + c1.toNat * 65536 + c2.toNat * 256
  | _ => c0.toNat * 16777216 + c1.toNat * 65536 + c2.toNat * 256 + c3.toNat

set_option maxHeartbeats 1000000 in
set_option maxRecDepth 100000 in
theorem take32 (s : ByteArray) (c0 c1 c2 c3 : UInt8) (r : List UInt8) (w : World) (hs : L s = c0 :: c1 :: c2 :: c3 :: r) :
    Calls Tryd.prog 24 #[.string s] w fun e w' => (∃ t, e = .returned (.tuple #[.int .u32 (ip4 c0.toNat c1.toNat c2.toNat c3.toNat : Nat), .string t]) ∧ L t = r) ∧ w = w' := by
  have b0 := c_lt c0; have b1 := c_lt c1; have b2 := c_lt c2; have b3 := c_lt c3
  have e0 := Lib.hid (show bits .or .u32 0 ((c0.toNat : Int) * 16777216) = ((P32 c0 c1 c2 c3 1 : Nat) : Int) by
    have := or32 0 (c0.toNat * 16777216) (by omega) (by omega)
    rw [Nat.zero_or] at this
    simpa [P32] using this)
  have e1 := Lib.hid (show bits .or .u32 (P32 c0 c1 c2 c3 1 : Nat) ((c1.toNat : Int) * 65536) = ((P32 c0 c1 c2 c3 2 : Nat) : Int) by
    have := or32 (c0.toNat * 16777216) (c1.toNat * 65536) (by omega) (by omega)
    rw [or_add c0.toNat 24 _ (by omega)] at this
    simpa [P32] using this)
  have e2 := Lib.hid (show bits .or .u32 (P32 c0 c1 c2 c3 2 : Nat) ((c2.toNat : Int) * 256) = ((P32 c0 c1 c2 c3 3 : Nat) : Int) by
    have := or32 (c0.toNat * 16777216 + c1.toNat * 65536) (c2.toNat * 256) (by omega) (by omega)
    rw [show c0.toNat * 16777216 + c1.toNat * 65536 = (c0.toNat * 256 + c1.toNat) * 2 ^ 16 by omega, or_add _ 16 _ (by omega)] at this
    rw [show (P32 c0 c1 c2 c3 2) = (c0.toNat * 256 + c1.toNat) * 2 ^ 16 by simp [P32]; omega, show P32 c0 c1 c2 c3 3 = (c0.toNat * 256 + c1.toNat) * 2 ^ 16 + c2.toNat * 256 by simp [P32]; omega]
    simpa using this)
  have e3 := Lib.hid (show bits .or .u32 (P32 c0 c1 c2 c3 3 : Nat) (c3.toNat : Int) = ((P32 c0 c1 c2 c3 4 : Nat) : Int) by
    have := or32 (c0.toNat * 16777216 + c1.toNat * 65536 + c2.toNat * 256) c3.toNat (by omega) (by omega)
    rw [show c0.toNat * 16777216 + c1.toNat * 65536 + c2.toNat * 256 = ((c0.toNat * 256 + c1.toNat) * 256 + c2.toNat) * 2 ^ 8 by omega, or_add _ 8 _ (by omega)] at this
    rw [show (P32 c0 c1 c2 c3 3) = ((c0.toNat * 256 + c1.toNat) * 256 + c2.toNat) * 2 ^ 8 by simp [P32]; omega, show P32 c0 c1 c2 c3 4 = ((c0.toNat * 256 + c1.toNat) * 256 + c2.toNat) * 2 ^ 8 + c3.toNat by simp [P32]; omega]
    exact this)
  have eN : ip4 c0.toNat c1.toNat c2.toNat c3.toNat = P32 c0 c1 c2 c3 4 := by simp [P32, ip4]; omega
  rw [eN]; clear eN
  have HS := Lib.hid hs; clear hs
  generalize hP : P32 c0 c1 c2 c3 = P at e0 e1 e2 e3 ⊢
  have hP0 : P 0 = 0 := by rw [← hP]; rfl
  clear hP
  go_enter Tryd.func24, Tryd.ntmps24
  go_wp2_with (go_at_call 38; refine (width32 w).mono ?_; rintro e w' ⟨rfl, rfl⟩)
  go_loop [0, 4, 5] (fun s n l => ∃ (k : Nat) (t : ByteArray), k ≤ 4 ∧ l = .int .i64 (24 - 8 * (k : Int)) ∧ s = .string t ∧ n = .int .u32 (P k : Nat) ∧ Hid (L t = (c0 :: c1 :: c2 :: c3 :: r).drop k)) (fun _ _ l => ((intOf l) + 8).toNat)
  case atStart => exact ⟨0, s, by omega, rfl, rfl, by rw [hP0]; rfl, HS.out⟩
  case round =>
    obtain ⟨k, t, hk, rfl, rfl, rfl, ht⟩ := hrel
    rcases (by omega : k = 0 ∨ k = 1 ∨ k = 2 ∨ k = 3 ∨ k = 4) with rfl | rfl | rfl | rfl | rfl
    · obtain ⟨h0, hc, hr⟩ := split1 (c := c0) (r := c1 :: c2 :: c3 :: r) ht.out
      have HR := Lib.hid hr
      have HC := Lib.hid hc
      clear hr hc
      rw [hP0]
      go_wp2
      go_round
      case rel => exact ⟨1, _, by omega, by go_num, rfl, by rw [HC.out]; rw [← e0.out]; congr 1; congr 1; omega, HR.out⟩
      case measure => simp [intOf]
    · obtain ⟨h0, hc, hr⟩ := split1 (c := c1) (r := c2 :: c3 :: r) ht.out
      have HR := Lib.hid hr
      have HC := Lib.hid hc
      clear hr hc
      go_wp2
      go_round
      case rel => exact ⟨2, _, by omega, by go_num, rfl, by rw [HC.out]; rw [← e1.out]; congr 1; congr 1; omega, HR.out⟩
      case measure => simp [intOf]
    · obtain ⟨h0, hc, hr⟩ := split1 (c := c2) (r := c3 :: r) ht.out
      have HR := Lib.hid hr
      have HC := Lib.hid hc
      clear hr hc
      go_wp2
      go_round
      case rel => exact ⟨3, _, by omega, by go_num, rfl, by rw [HC.out]; rw [← e2.out]; congr 1; congr 1; omega, HR.out⟩
      case measure => simp [intOf]
    · obtain ⟨h0, hc, hr⟩ := split1 (c := c3) (r := r) ht.out
      have HR := Lib.hid hr
      have HC := Lib.hid hc
      clear hr hc
      go_wp2
      go_round
      case rel => exact ⟨4, _, by omega, by go_num, rfl, by rw [HC.out]; rw [← e3.out]; congr 1; congr 1; omega, HR.out⟩
      case measure => simp [intOf]
    · go_wp2
      go_ret2
      exact ⟨⟨t, rfl, ht.out⟩, rfl⟩

set_option maxHeartbeats 1000000 in
set_option maxRecDepth 100000 in
theorem take16 (s : ByteArray) (c0 c1 : UInt8) (r : List UInt8) (w : World) (hs : L s = c0 :: c1 :: r) :
    Calls Tryd.prog 25 #[.string s] w fun e w' => (∃ t, e = .returned (.tuple #[.int .u16 (c0.toNat * 256 + c1.toNat : Nat), .string t]) ∧ L t = r) ∧ w = w' := by
  have b0 := c_lt c0; have b1 := c_lt c1
  have e0 := Lib.hid (show bits .or .u16 0 ((c0.toNat : Int) * 256) = ((c0.toNat * 256 : Nat) : Int) by
    have := or16 0 (c0.toNat * 256) (by omega) (by omega)
    rw [Nat.zero_or] at this
    simpa using this)
  have e1 := Lib.hid (show bits .or .u16 (c0.toNat * 256 : Nat) (c1.toNat : Int) = ((c0.toNat * 256 + c1.toNat : Nat) : Int) by
    have := or16 (c0.toNat * 256) c1.toNat (by omega) (by omega)
    rw [or_add _ 8 _ (by omega)] at this
    exact this)
  have HS := Lib.hid hs; clear hs
  generalize hp1 : c0.toNat * 256 = p1 at e0 e1 ⊢
  generalize hp2 : p1 + c1.toNat = p2 at e1 ⊢
  have H1 := Lib.hid hp1; have H2 := Lib.hid hp2
  clear hp1 hp2
  go_enter Tryd.func25, Tryd.ntmps25
  go_wp2_with (go_at_call 34; refine (width16 w).mono ?_; rintro e w' ⟨rfl, rfl⟩)
  go_loop [0, 4, 5] (fun s n l => ∃ (k : Nat) (t : ByteArray) (P : Nat), k ≤ 2 ∧ l = .int .i64 (8 - 8 * (k : Int)) ∧ s = .string t ∧ n = .int .u16 (P : Nat) ∧ Hid (P = if k = 0 then 0 else if k = 1 then p1 else p2) ∧ Hid (L t = (c0 :: c1 :: r).drop k)) (fun _ _ l => ((intOf l) + 8).toNat)
  case atStart => exact ⟨0, s, 0, by omega, rfl, rfl, rfl, rfl, HS.out⟩
  case round =>
    obtain ⟨k, t, P, hk, rfl, rfl, rfl, hP, ht⟩ := hrel
    rcases (by omega : k = 0 ∨ k = 1 ∨ k = 2) with rfl | rfl | rfl
    · obtain ⟨h0, hc, hr⟩ := split1 (c := c0) (r := c1 :: r) ht.out
      have HR := Lib.hid hr
      have HC := Lib.hid hc
      clear hr hc
      obtain rfl : P = 0 := hP.out
      go_wp2
      go_round
      case rel => exact ⟨1, _, p1, by omega, by go_num, rfl, by rw [HC.out]; rw [← e0.out]; congr 1; congr 1; rw [IntKind.wrap_u16, IntKind.wrap_u16]; omega, rfl, HR.out⟩
      case measure => simp [intOf]
    · obtain ⟨h0, hc, hr⟩ := split1 (c := c1) (r := r) ht.out
      have HR := Lib.hid hr
      have HC := Lib.hid hc
      clear hr hc
      obtain rfl : P = p1 := hP.out
      go_wp2
      go_round
      case rel => exact ⟨2, _, p2, by omega, by go_num, rfl, by rw [HC.out]; rw [← e1.out]; congr 1; congr 1; rw [IntKind.wrap_u16, IntKind.wrap_u16]; omega, rfl, HR.out⟩
      case measure => simp [intOf]
    · obtain rfl : P = p2 := hP.out
      go_wp2
      go_ret2
      exact ⟨⟨t, rfl, ht.out⟩, rfl⟩

/-- the answer of Read -/
def rd (l : List UInt8) : Nat × Nat × Nat :=
  match l with
  | [a, b, c, d, e, f] => (ip4 a.toNat b.toNat c.toNat d.toNat, e.toNat * 256 + f.toNat, 0)
  | _ => (0, 0, 8)
theorem rd_six (a b c d e f : UInt8) : rd [a, b, c, d, e, f] = (ip4 a.toNat b.toNat c.toNat d.toNat, e.toNat * 256 + f.toNat, 0) := rfl
theorem rd_not {l : List UInt8} (h : l.length ≠ 6) : rd l = (0, 0, 8) := by
  unfold rd
  split
  · simp at h
  · rfl
theorem six {l : List UInt8} (h : l.length = 6) : ∃ a b c d e f, l = [a, b, c, d, e, f] := by
  match l, h with
  | [a, b, c, d, e, f], _ => exact ⟨a, b, c, d, e, f, rfl⟩
/-- an address and an error's number -/
abbrev AE (x : Nat × Nat × Nat) : Value := .tuple #[.agg #[.int .u32 (x.1 : Nat), .int .u16 (x.2.1 : Nat)], .int .i64 (x.2.2 : Nat)]
set_option maxHeartbeats 1000000 in
set_option maxRecDepth 100000 in
theorem readC (s : ByteArray) (w : World) (hs : s.size ≤ 1099511627776) :
    Calls Tryd.prog 8 #[.string s] w fun e w' => e = .returned (AE (rd (L s))) ∧ Up w w' := by
  by_cases h : s.size = 6
  · obtain ⟨a, b, c, d, e, f, hl⟩ := six (l := L s) h
    rw [hl, rd_six]
    go_enter Tryd.func8, Tryd.ntmps8
    go_wp2_with (go_at_call 24; refine (take32 s a b c d [e, f] _ hl).mono ?_; rintro e' w' ⟨⟨t, rfl, ht⟩, rfl⟩; refine Hid.out ?_)
    refine Lib.hid ?_
    go_wp2_with (go_at_call 25; refine (take16 t e f [] _ ht).mono ?_; rintro e' w' ⟨⟨t', rfl, ht'⟩, rfl⟩)
    (try simp only [Exit.inBlock, Exit.then])
    refine bodyPost_ret (v := AE (ip4 a.toNat b.toNat c.toNat d.toNat, e.toNat * 256 + f.toNat, 0)) ?_ rfl ⟨rfl, ?_⟩
    · rw [results_cell_tmp rfl]; go_simp
    · exact up_al _ (Below.refl _ _)
  · rw [rd_not (by rw [L_len]; exact h)]
    go_enter Tryd.func8, Tryd.ntmps8
    go_wp2
    (try simp only [Exit.inBlock, Exit.then])
    refine bodyPost_ret (v := AE (0, 0, 8)) ?_ rfl ⟨rfl, ?_⟩
    · rw [results_cell_tmp rfl]; go_simp
    · exact up_al _ (Below.refl _ _)
end Go.Proofs.YtkolcdecniedaaaDoor.tu
