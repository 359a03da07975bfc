/- P O A N: contracts, part 6. Condition: as each says. -/
import Derived.Test.YtkgcnmloojnblaaKPOAN2
import Derived.Test.YtkgcnmloojnblaaKPOAN5
import Derived.Shelf.Strconv.Itoa0
set_option linter.unusedVariables false
set_option linter.unusedSimpArgs false
namespace Go.Proofs.Ytkgcnmloojnblaa.wf
open Go.RowKit Go.Shelf Go.Lib Go.Proofs.Ytkgcnmloojnblaa.nb
set_option linter.unusedVariables false

theorem bitLen_log {x : Nat} (h0 : x ≠ 0) (h : x < 2 ^ 64) : Lib.bitLen x = Nat.log2 x + 1 := by
  rw [Lib.bitLen_shift (Nat.log2 x) x (Nat.log2_self_le h0) h]
  have h1 : x / 2 ^ Nat.log2 x = 1 := by
    have a := Nat.log2_self_le h0
    have b : x < 2 ^ (Nat.log2 x + 1) := Nat.lt_log2_self
    rw [Nat.pow_succ] at b
    have p : 0 < 2 ^ Nat.log2 x := Nat.pow_pos (by decide)
    have c := Nat.div_pos a p
    have d : x / 2 ^ Nat.log2 x < 2 := Nat.div_lt_of_lt_mul b
    omega
  rw [h1]; rfl
theorem xor_i64 (x y : Nat) (hx : x < 2 ^ 62) (hy : y < 2 ^ 62) : bits .xor .i64 (x : Int) (y : Int) = ((x ^^^ y : Nat) : Int) := by
  have h1 : (BitVec.ofInt 64 (x : Int)).toNat = x := by rw [BitVec.ofInt_natCast, BitVec.toNat_ofNat]; exact Nat.mod_eq_of_lt (by omega)
  have h2 : (BitVec.ofInt 64 (y : Int)).toNat = y := by rw [BitVec.ofInt_natCast, BitVec.toNat_ofNat]; exact Nat.mod_eq_of_lt (by omega)
  have h3 : x ^^^ y < 2 ^ 62 := Nat.xor_lt_two_pow hx hy
  show IntKind.i64.wrap ((BitVec.ofInt 64 (x : Int) ^^^ BitVec.ofInt 64 (y : Int)).toNat : Int) = _
  rw [BitVec.toNat_xor, h1, h2, IntKind.wrap_i64]
  omega
theorem or_u64 (x y : Nat) (hx : x < 2 ^ 64) (hy : y < 2 ^ 64) : bits .or .u64 (x : Int) (y : Int) = ((x ||| y : Nat) : Int) := by
  have h1 : (BitVec.ofInt 64 (x : Int)).toNat = x := by rw [BitVec.ofInt_natCast, BitVec.toNat_ofNat]; exact Nat.mod_eq_of_lt (by omega)
  have h2 : (BitVec.ofInt 64 (y : Int)).toNat = y := by rw [BitVec.ofInt_natCast, BitVec.toNat_ofNat]; exact Nat.mod_eq_of_lt (by omega)
  have h3 : x ||| y < 2 ^ 64 := Nat.or_lt_two_pow hx hy
  show IntKind.u64.wrap ((BitVec.ofInt 64 (x : Int) ||| BitVec.ofInt 64 (y : Int)).toNat : Int) = _
  rw [BitVec.toNat_or, h1, h2, IntKind.wrap_u64]
  omega
set_option maxHeartbeats 4000000 in
theorem spotC (u t : Nat) (hu : u ≤ 17592186044416) (ht : t ≤ 17592186044416) (w : World) : Calls Try.prog 54 #[.int .i64 u, .int .i64 t] w fun e w' => e = .returned (.tuple #[.int .i64 (level u t), .int .i64 ((t / 32 ^ level u t % 32 : Nat) : Int)]) ∧ Up w w' := by
  have hx : (u ^^^ t) < 2 ^ 62 := Nat.xor_lt_two_pow (by omega) (by omega)
  obtain ⟨y, hy⟩ : ∃ y, y = (u ^^^ t) ||| 1 := ⟨_, rfl⟩
  have hy1 : y < 2 ^ 63 := by rw [hy]; exact Nat.or_lt_two_pow (by omega) (by omega)
  have hy0 : y ≠ 0 := by rw [hy]; have := Nat.right_le_or (n := u ^^^ t) (m := 1); omega
  have E1 : bits BinOp.or IntKind.u64 (IntKind.u64.wrap (bits BinOp.xor IntKind.i64 ↑u ↑t)) 1 = (y : Int) := by
    rw [xor_i64 u t (by omega) (by omega), IntKind.wrap_u64]
    rw [show ((u ^^^ t : Nat) : Int) % 18446744073709551616 = ((u ^^^ t : Nat) : Int) by omega]
    rw [hy]
    exact or_u64 _ 1 (by omega) (by omega)
  obtain ⟨k, hk⟩ : ∃ k, k = Nat.log2 y := ⟨_, rfl⟩
  have hk63 : k < 63 := by
    have := Nat.log2_self_le hy0
    rw [← hk] at this
    exact (Nat.pow_lt_pow_iff_right (by decide)).1 (Nat.lt_of_le_of_lt this hy1)
  have hlv : level u t = k / 5 := by unfold level; rw [← hy, ← hk]
  have hk8 : k / 5 ≤ 8 := by rw [← hlv]; exact level_bound hu ht
  have C1 := Lib.hid (show Calls Try.prog 60 #[.int .u64 (y : Int)] w fun e w' => e = .returned (.int .i64 ((k + 1 : Nat) : Int)) ∧ w' = w by
    have := Any.bits_Len64 Try.lLen64 (y : Int) w (by omega) (by omega)
    rw [Int.toNat_natCast, bitLen_log hy0 (by omega), ← hk] at this
    exact this)
  obtain ⟨l, hl⟩ : ∃ l, l = k + 1 := ⟨_, rfl⟩
  rw [hlv]
  obtain ⟨v, hv⟩ : ∃ v, v = k / 5 := ⟨_, rfl⟩
  rw [← hl] at C1
  rw [← hv]
  have W1 : IntKind.i64.wrap ((l : Int) - 1) = (k : Int) := by rw [IntKind.wrap_i64]; omega
  have HV := Lib.hid (show (k : Int) / 5 = (v : Int) by omega)
  have HV8 : v ≤ 8 := by omega
  have HV5 := Lib.hid hv
  clear hy hy1 hy0 hlv hk8 hl hx hk hv
  go_enter Try.func54, Try.ntmps54
  go_wp2_with fail
  refine C1.out.mono ?_
  rintro e w' ⟨rfl, rfl⟩
  go_upto_region 2 with fail
  rw [HV.out]
  obtain ⟨v5, hv5⟩ : ∃ v5, v5 = v * 5 := ⟨_, rfl⟩
  have W2 : IntKind.i64.wrap ((v : Int) * 5) = (v5 : Int) := by rw [IntKind.wrap_i64]; omega
  have h40 : v5 ≤ 40 := by omega
  have E5 := Lib.hid (show ((t : Int) / 2 ^ v5).tmod 32 = ((t / 32 ^ v % 32 : Nat) : Int) by
    rw [p32, Nat.mul_comm 5 v, ← hv5]
    have e : ((t : Int) / 2 ^ v5) = ((t / 2 ^ v5 : Nat) : Int) := by rw [Int.natCast_ediv, Int.natCast_pow]; rfl
    rw [e, Int.tmod_eq_emod_of_nonneg (Int.natCast_nonneg _)]
    generalize t / 2 ^ v5 = m
    omega)
  clear hv5 HV8
  go_quiet (fail)
  go_wp2
  go_ret2
  exact ⟨by rw [E5.out]; rfl, up_drN _ (Below.refl _ _)⟩
end Go.Proofs.Ytkgcnmloojnblaa.wf
