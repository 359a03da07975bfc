/- Package tuple: numbers out of bytes, bytes of an address; the document's answer. Condition: the arguments fit their kinds. -/
import Derived.Test.YtolebodpcefcfaaDoorTupA
import Derived.Test.YtolebodpcefcfaaDoorNetSumM
import Derived.Laws.ResultCell
import Derived.Laws.IdiomStrings
import Derived.Laws.BytesArg
namespace Go.Proofs.YtolebodpcefcfaaDoor.tu
open Go.RowKit Go.Shelf Go.Proofs.YtolebodpcefcfaaDoor.tm Go.Proofs.YtolebodpcefcfaaDoor.sm
set_option linter.unusedVariables false

theorem or32 (x y : Nat) (hx : x < 4294967296) (hy : y < 4294967296) : bits .or .u32 (x : Int) (y : Int) = ((x ||| y : Nat) : Int) := by
  have h1 : (BitVec.ofInt 32 (x : Int)).toNat = x := by rw [BitVec.ofInt_natCast, BitVec.toNat_ofNat]; exact Nat.mod_eq_of_lt (by omega)
  have h2 : (BitVec.ofInt 32 (y : Int)).toNat = y := by rw [BitVec.ofInt_natCast, BitVec.toNat_ofNat]; exact Nat.mod_eq_of_lt (by omega)
  have h3 : x ||| y < 4294967296 := Nat.or_lt_two_pow (n := 32) (by omega) (by omega)
  show IntKind.u32.wrap ((BitVec.ofInt 32 (x : Int) ||| BitVec.ofInt 32 (y : Int)).toNat : Int) = _
  rw [BitVec.toNat_or, h1, h2, IntKind.wrap_u32]
  omega
theorem or16 (x y : Nat) (hx : x < 65536) (hy : y < 65536) : bits .or .u16 (x : Int) (y : Int) = ((x ||| y : Nat) : Int) := by
  have h1 : (BitVec.ofInt 16 (x : Int)).toNat = x := by rw [BitVec.ofInt_natCast, BitVec.toNat_ofNat]; exact Nat.mod_eq_of_lt (by omega)
  have h2 : (BitVec.ofInt 16 (y : Int)).toNat = y := by rw [BitVec.ofInt_natCast, BitVec.toNat_ofNat]; exact Nat.mod_eq_of_lt (by omega)
  have h3 : x ||| y < 65536 := Nat.or_lt_two_pow (n := 16) (by omega) (by omega)
  show IntKind.u16.wrap ((BitVec.ofInt 16 (x : Int) ||| BitVec.ofInt 16 (y : Int)).toNat : Int) = _
  rw [BitVec.toNat_or, h1, h2, IntKind.wrap_u16]
  omega
theorem or_add (a i y : Nat) (h : y < 2 ^ i) : a * 2 ^ i ||| y = a * 2 ^ i + y := by
  have := Nat.shiftLeft_add_eq_or_of_lt h a
  rw [Nat.shiftLeft_eq] at this
  exact this.symm
theorem c_lt (c : UInt8) : c.toNat ≤ 255 := by have := UInt8.toNat_lt c; omega
theorem bt_at (s : ByteArray) (k : Nat) (h : k < s.size) : ((s[k]).toNat : Int) = bt (L s) k := by rw [bt_get _ _ h]; rfl
/-- the number of four bytes -/
def qd (l : List UInt8) (k : Nat) : Int := wd l k * 65536 + wd l (k + 2)
/-- a number's rounds -/
def R32 (a b c d : Int) : Nat → Int
  | 0 => 0
  | 1 => a * 16777216
  | 2 => a * 16777216 + b * 65536
  | 3 => a * 16777216 + b * 65536 + c * 256
  | _ => a * 16777216 + b * 65536 + c * 256 + d
theorem or32i (x y : Int) (i a : Nat) (hx : x = a * 2 ^ i) (h0 : 0 ≤ x) (hy : 0 ≤ y ∧ y < 2 ^ i) (h : x + y < 4294967296) : bits .or .u32 x y = x + y := by
  obtain ⟨n, rfl⟩ := Int.eq_ofNat_of_zero_le h0
  obtain ⟨m, rfl⟩ := Int.eq_ofNat_of_zero_le hy.1
  have e : n = a * 2 ^ i := by exact_mod_cast hx
  rw [or32 n m (by omega) (by omega), e, or_add a i m (by exact_mod_cast hy.2)]
  simp
theorem or16i (x y : Int) (i a : Nat) (hx : x = a * 2 ^ i) (h0 : 0 ≤ x) (hy : 0 ≤ y ∧ y < 2 ^ i) (h : x + y < 65536) : bits .or .u16 x y = x + y := by
  obtain ⟨n, rfl⟩ := Int.eq_ofNat_of_zero_le h0
  obtain ⟨m, rfl⟩ := Int.eq_ofNat_of_zero_le hy.1
  have e : n = a * 2 ^ i := by exact_mod_cast hx
  rw [or16 n m (by omega) (by omega), e, or_add a i m (by exact_mod_cast hy.2)]
  simp

set_option maxHeartbeats 1000000 in
set_option maxRecDepth 100000 in
theorem at16 (s : ByteArray) (p : Nat) (w : World) (hs : s.size ≤ 1099511627776) (hp : p + 2 ≤ s.size) :
    Calls Tryd.prog 25 #[.string s, .int .i64 p] w fun e w' => e = .returned (.int .u16 (wd (L s) p)) ∧ w = w' := by
  have b0 := bt_bd (L s) p; have b1 := bt_bd (L s) (p + 1)
  have e0 := bt_at s p (by omega); have e1 := bt_at s (p + 1) (by omega)
  have o0 := Lib.hid (or16i 0 (bt (L s) p * 256) 16 0 (by omega) (by omega) (by omega) (by omega))
  have o1 := Lib.hid (or16i (bt (L s) p * 256) (bt (L s) (p + 1)) 8 (bt (L s) p).toNat (by omega) (by omega) (by omega) (by omega))
  have E : wd (L s) p = bt (L s) p * 256 + bt (L s) (p + 1) := rfl
  rw [← e0, ← e1] at E o1
  rw [← e0] at o0
  have HE := Lib.hid E; clear E
  rw [← e0] at b0; rw [← e1] at b1
  clear e0 e1
  go_enter Tryd.func25, Tryd.ntmps25
  go_wp2_with (go_at_call 34; refine (size16 w).mono ?_; rintro e w' ⟨rfl, rfl⟩)
  go_loop [6, 20] (fun n i => ∃ (k : Nat), k ≤ 2 ∧ i = .int .i64 (k : Nat) ∧ Hid (n = .int .u16 (if k = 0 then 0 else if k = 1 then (s[p].toNat : Int) * 256 else (s[p].toNat : Int) * 256 + (s[p + 1].toNat : Int)))) (fun _ i => 2 - (intOf i).toNat)
  case atStart => exact ⟨0, by omega, rfl, rfl⟩
  case round =>
    obtain ⟨k, hk, rfl, hn⟩ := hrel
    rcases (by omega : k = 0 ∨ k = 1 ∨ k = 2) with rfl | rfl | rfl
    · obtain rfl := hn.out
      have oo := o0.out
      rw [Int.zero_add] at oo
      go_wp2
      go_round
      case rel => exact ⟨1, by omega, by go_num, by unfold Hid; simp [oo]⟩
      case measure => simp [intOf]
    · obtain rfl := hn.out
      go_wp2
      go_round
      case rel => exact ⟨2, by omega, by go_num, by unfold Hid; simp [o1.out]⟩
      case measure => simp [intOf]
    · obtain rfl := hn.out
      go_wp2
      go_ret
      exact ⟨ret_int HE.out.symm, rfl⟩

set_option maxHeartbeats 1000000 in
set_option maxRecDepth 100000 in
theorem at32 (s : ByteArray) (p : Nat) (w : World) (hs : s.size ≤ 1099511627776) (hp : p + 4 ≤ s.size) :
    Calls Tryd.prog 24 #[.string s, .int .i64 p] w fun e w' => e = .returned (.int .u32 (qd (L s) p)) ∧ w = w' := by
  have b0 := bt_bd (L s) p; have b1 := bt_bd (L s) (p + 1); have b2 := bt_bd (L s) (p + 2); have b3 := bt_bd (L s) (p + 3)
  have e0 := bt_at s p (by omega); have e1 := bt_at s (p + 1) (by omega); have e2 := bt_at s (p + 2) (by omega); have e3 := bt_at s (p + 3) (by omega)
  have E : qd (L s) p = R32 (bt (L s) p) (bt (L s) (p + 1)) (bt (L s) (p + 2)) (bt (L s) (p + 3)) 4 := by
    show (bt (L s) p * 256 + bt (L s) (p + 1)) * 65536 + (bt (L s) (p + 2) * 256 + bt (L s) (p + 3)) = bt (L s) p * 16777216 + bt (L s) (p + 1) * 65536 + bt (L s) (p + 2) * 256 + bt (L s) (p + 3)
    omega
  have o0 := or32i 0 (bt (L s) p * 16777216) 32 0 (by omega) (by omega) (by omega) (by omega)
  have o1 := or32i (bt (L s) p * 16777216) (bt (L s) (p + 1) * 65536) 24 (bt (L s) p).toNat (by omega) (by omega) (by omega) (by omega)
  have o2 := or32i (bt (L s) p * 16777216 + bt (L s) (p + 1) * 65536) (bt (L s) (p + 2) * 256) 16 (bt (L s) p * 256 + bt (L s) (p + 1)).toNat (by omega) (by omega) (by omega) (by omega)
  have o3 := or32i (bt (L s) p * 16777216 + bt (L s) (p + 1) * 65536 + bt (L s) (p + 2) * 256) (bt (L s) (p + 3)) 8 (bt (L s) p * 65536 + bt (L s) (p + 1) * 256 + bt (L s) (p + 2)).toNat (by omega) (by omega) (by omega) (by omega)
  rw [← e0, ← e1, ← e2, ← e3] at E o3
  rw [← e0] at o0
  rw [← e0, ← e1] at o1
  rw [← e0, ← e1, ← e2] at o2
  rw [← e0] at b0; rw [← e1] at b1; rw [← e2] at b2; rw [← e3] at b3
  clear e0 e1 e2 e3
  obtain ⟨R, r0, r1, r2, r3, r4, rE⟩ : ∃ R : Nat → Int, R 0 = 0 ∧ Hid (bits .or .u32 (R 0) ((s[p].toNat : Int) * 16777216) = R 1) ∧ Hid (bits .or .u32 (R 1) ((s[p + 1].toNat : Int) * 65536) = R 2) ∧ Hid (bits .or .u32 (R 2) ((s[p + 2].toNat : Int) * 256) = R 3)
      ∧ Hid (bits .or .u32 (R 3) (s[p + 3].toNat : Int) = R 4) ∧ Hid (qd (L s) p = R 4) := by
    refine ⟨R32 (s[p].toNat : Int) (s[p + 1].toNat : Int) (s[p + 2].toNat : Int) (s[p + 3].toNat : Int), rfl, ?_, ?_, ?_, ?_, E⟩
    · exact o0.trans (Int.zero_add _)
    · exact o1
    · exact o2
    · exact o3
  clear o0 o1 o2 o3 E
  have R0 := Lib.hid r0; clear r0
  go_enter Tryd.func24, Tryd.ntmps24
  go_wp2_with (go_at_call 38; refine (size32 w).mono ?_; rintro e w' ⟨rfl, rfl⟩)
  go_loop [6, 20] (fun n i => ∃ (k : Nat), k ≤ 4 ∧ i = .int .i64 (k : Nat) ∧ n = .int .u32 (R k)) (fun _ i => 4 - (intOf i).toNat)
  case atStart => exact ⟨0, by omega, rfl, by rw [R0.out]⟩
  case round =>
    obtain ⟨k, hk, rfl, rfl⟩ := hrel
    rcases (by omega : k = 0 ∨ k = 1 ∨ k = 2 ∨ k = 3 ∨ k = 4) with rfl | rfl | rfl | rfl | rfl
    · go_wp2
      go_round
      case rel => exact ⟨1, by omega, by go_num, by rw [← r1.out]⟩
      case measure => simp [intOf]
    · go_wp2
      go_round
      case rel => exact ⟨2, by omega, by go_num, by rw [← r2.out]⟩
      case measure => simp [intOf]
    · go_wp2
      go_round
      case rel => exact ⟨3, by omega, by go_num, by rw [← r3.out]⟩
      case measure => simp [intOf]
    · go_wp2
      go_round
      case rel => exact ⟨4, by omega, by go_num, by rw [← r4.out]⟩
      case measure => simp [intOf]
    · go_wp2
      go_ret
      exact ⟨ret_int rE.out.symm, rfl⟩

theorem six_at32 (s : ByteArray) (a b c d e f : UInt8) (w : World) (hl : L s = [a, b, c, d, e, f]) :
    Calls Tryd.prog 24 #[.string s, .int .i64 0] w fun e' w' => e' = .returned (.int .u32 (ip4 a.toNat b.toNat c.toNat d.toNat : Nat)) ∧ w = w' := by
  have hz : s.size = 6 := by rw [← L_len, hl]; rfl
  have h := at32 s 0 w (by omega) (by omega)
  have e1 : qd (L s) 0 = (ip4 a.toNat b.toNat c.toNat d.toNat : Nat) := by
    rw [hl]
    show ((a.toNat : Int) * 256 + (b.toNat : Int)) * 65536 + ((c.toNat : Int) * 256 + (d.toNat : Int)) = _
    unfold ip4; omega
  rw [e1] at h
  exact h
theorem six_at16 (s : ByteArray) (a b c d e f : UInt8) (w : World) (hl : L s = [a, b, c, d, e, f]) :
    Calls Tryd.prog 25 #[.string s, .int .i64 4] w fun e' w' => e' = .returned (.int .u16 (e.toNat * 256 + f.toNat : Nat)) ∧ w = w' := by
  have hz : s.size = 6 := by rw [← L_len, hl]; rfl
  have h := at16 s 4 w (by omega) (by omega)
  have e1 : wd (L s) 4 = (e.toNat * 256 + f.toNat : Nat) := by
    rw [hl]
    show ((e.toNat : Int) * 256 + (f.toNat : Int)) = _
    omega
  rw [e1] at h
  exact h

/-- the answer of Read -/
def rd (l : List UInt8) : Nat × Nat × Nat :=
  match l with
  | [a, b, c, d, e, f] => (ip4 a.toNat b.toNat c.toNat d.toNat, e.toNat * 256 + f.toNat, 0)
  | _ => (0, 0, 8)
theorem rd_six (a b c d e f : UInt8) : rd [a, b, c, d, e, f] = (ip4 a.toNat b.toNat c.toNat d.toNat, e.toNat * 256 + f.toNat, 0) := rfl
theorem rd_not {l : List UInt8} (h : l.length ≠ 6) : rd l = (0, 0, 8) := by
  unfold rd
  split
  · simp at h
  · rfl
theorem six {l : List UInt8} (h : l.length = 6) : ∃ a b c d e f, l = [a, b, c, d, e, f] := by
  match l, h with
  | [a, b, c, d, e, f], _ => exact ⟨a, b, c, d, e, f, rfl⟩
/-- an address and an error's number -/
abbrev AE (x : Nat × Nat × Nat) : Value := .tuple #[.agg #[.int .u32 (x.1 : Nat), .int .u16 (x.2.1 : Nat)], .int .i64 (x.2.2 : Nat)]
set_option maxHeartbeats 1000000 in
set_option maxRecDepth 100000 in
theorem readC (s : ByteArray) (w : World) (hs : s.size ≤ 1099511627776) :
    Calls Tryd.prog 8 #[.string s] w fun e w' => e = .returned (AE (rd (L s))) ∧ Up w w' := by
  by_cases h : s.size = 6
  · obtain ⟨a, b, c, d, e, f, hl⟩ := six (l := L s) h
    rw [hl, rd_six]
    go_enter Tryd.func8, Tryd.ntmps8
    go_wp2_with (first
      | (go_at_call 24; refine (six_at32 s a b c d e f _ hl).mono ?_; rintro e' w' ⟨rfl, rfl⟩)
      | (go_at_call 25; refine (six_at16 s a b c d e f _ hl).mono ?_; rintro e' w' ⟨rfl, rfl⟩))
    (try simp only [Exit.inBlock, Exit.then])
    refine bodyPost_ret (v := AE (ip4 a.toNat b.toNat c.toNat d.toNat, e.toNat * 256 + f.toNat, 0)) ?_ rfl ⟨rfl, ?_⟩
    · rw [results_cell_tmp rfl]; go_simp
    · exact up_al _ (Below.refl _ _)
  · rw [rd_not (by rw [L_len]; exact h)]
    go_enter Tryd.func8, Tryd.ntmps8
    go_wp2
    (try simp only [Exit.inBlock, Exit.then])
    refine bodyPost_ret (v := AE (0, 0, 8)) ?_ rfl ⟨rfl, ?_⟩
    · rw [results_cell_tmp rfl]; go_simp
    · exact up_al _ (Below.refl _ _)
end Go.Proofs.YtolebodpcefcfaaDoor.tu
