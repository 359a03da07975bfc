/- Package sum and the document's answer: small functions, what each returns for every input. Condition: the arguments fit their kinds. -/
import Derived.Test.YtecogakledajkaaNetBase
namespace Go.Proofs.Ytecogakledajkaa.su
open Go.RowKit Go.Proofs.Ytecogakledajkaa.sm Go.Proofs.Ytecogakledajkaa.nb
set_option linter.unusedVariables false

theorem nat_or8 (a b : Nat) (hb : b < 256) : a * 256 ||| b = a * 256 + b := by
  have := Nat.shiftLeft_add_eq_or_of_lt (i := 8) hb a
  rw [Nat.shiftLeft_eq] at this
  exact this.symm
theorem bits_or_u16 (a b : Nat) (ha : a ≤ 255) (hb : b ≤ 255) : bits .or .u16 ((a : Int) * 256) b = (a : Int) * 256 + b := by
  have h1 : (BitVec.ofInt 16 ((a * 256 : Nat) : Int)).toNat = a * 256 := by
    rw [BitVec.ofInt_natCast, BitVec.toNat_ofNat]; exact Nat.mod_eq_of_lt (by omega)
  have h2 : (BitVec.ofInt 16 (b : Int)).toNat = b := by
    rw [BitVec.ofInt_natCast, BitVec.toNat_ofNat]; exact Nat.mod_eq_of_lt (by omega)
  show IntKind.u16.wrap ((BitVec.ofInt 16 ((a : Int) * 256) ||| BitVec.ofInt 16 (b : Int)).toNat : Int) = _
  rw [show (a : Int) * 256 = ((a * 256 : Nat) : Int) by simp, BitVec.toNat_or, h1, h2, nat_or8 a b (by omega), IntKind.wrap_u16]
  omega

theorem word8 (a b : Int) (w : World) (ha : 0 ≤ a ∧ a ≤ 255) (hb : 0 ≤ b ∧ b ≤ 255) :
    Calls Try.prog 43 #[.int .u8 a, .int .u8 b] w fun e w' => e = .returned (.int .u16 (a * 256 + b)) ∧ w = w' := by
  obtain ⟨n, rfl⟩ := Int.eq_ofNat_of_zero_le ha.1
  obtain ⟨m, rfl⟩ := Int.eq_ofNat_of_zero_le hb.1
  have H := Lib.hid (bits_or_u16 n m (by omega) (by omega))
  go_enter Try.func43, Try.ntmps43
  go_wp2
  go_ret
  exact ⟨ret_int H.out, rfl⟩

/-- it answers v; order was drawn, nothing else is other -/
def Quiet (v : Value) (w : World) (e : Ending) (w' : World) : Prop := e = .returned v ∧ ∃ n, w' = w.drewN n
theorem wordAt_in (s : ByteArray) (k : Nat) (w : World) (hs : s.size ≤ 1099511627776) (hk : k < s.size) :
    Calls Try.prog 44 #[.string s, .int .i64 k] w (Quiet (.int .u16 (wd (L s) k)) w) := by
  have b0 := bt_bd (L s) k
  have b1 := bt_bd (L s) (k + 1)
  have e0 := bt_at s k hk
  have E : wd (L s) k = bt (L s) k * 256 + bt (L s) (k + 1) := rfl
  by_cases h : k + 1 < s.size
  · have e1 := bt_at s (k + 1) h
    rw [← e0, ← e1] at E
    rw [← e0] at b0
    rw [← e1] at b1
    have HE := Lib.hid E; clear E e0 e1
    have q : (0 : Int) ≤ (k : Int) + 1 := by omega
    have q1 : IntKind.i64.wrap ((k : Int) + 1) = (k : Int) + 1 := IntWalk.i64_in _ (by omega)
    have q2 : ((k : Int) + 1).toNat = k + 1 := by omega
    go_enter Try.func44, Try.ntmps44
    go_wp2
    go_quiet ((go_at_call 43; exact Calls.quiet_of_same ((word8 _ _ _ b0 b1).mono fun _ _ ⟨h1, h2⟩ => ⟨h1, h2.symm⟩)))
    clear q1
    go_wp2
    go_ret
    exact ⟨ret_int HE.out.symm, _, rfl⟩
  · rw [bt_of_ge (L s) (k + 1) (by rw [L_len]; omega), ← e0] at E
    rw [← e0] at b0
    have HE := Lib.hid E; clear E e0
    go_enter Try.func44, Try.ntmps44
    have b00 : (0 : Int) ≤ 0 ∧ (0 : Int) ≤ 255 := ⟨by decide, by decide⟩
    go_wp2_with (go_at_call 43; refine (word8 _ _ _ b0 b00).mono ?_; rintro e w' ⟨rfl, rfl⟩)
    go_ret
    exact ⟨ret_int (by rw [HE.out, Int.add_zero]), 0, rfl⟩

theorem refWord (s : ByteArray) (k : Nat) (w : World) (hs : s.size ≤ 1099511627776) (hk : k < s.size) :
    Calls Try.prog 38 #[.string s, .int .i64 k] w fun e w' => e = .returned (.int .u64 (wd (L s) k)) ∧ w = w' := by
  have b0 := bt_bd (L s) k
  have b1 := bt_bd (L s) (k + 1)
  have e0 := bt_at s k hk
  have E : wd (L s) k = bt (L s) k * 256 + bt (L s) (k + 1) := rfl
  by_cases h : k + 1 < s.size
  · have e1 := bt_at s (k + 1) h
    rw [← e0, ← e1] at E
    rw [← e0] at b0
    rw [← e1] at b1
    have HE := Lib.hid E; clear E e0 e1
    go_enter Try.func38, Try.ntmps38
    go_wp2
    go_ret
    exact ⟨ret_int HE.out.symm, rfl⟩
  · rw [bt_of_ge (L s) (k + 1) (by rw [L_len]; omega), ← e0] at E
    rw [← e0] at b0
    have HE := Lib.hid E; clear E e0
    go_enter Try.func38, Try.ntmps38
    go_wp2
    go_ret
    exact ⟨ret_int (by rw [HE.out]; omega), rfl⟩

theorem refOnes (x : Int) (w : World) (hx : 0 ≤ x ∧ x ≤ 18446744073709551615) :
    Calls Try.prog 39 #[.int .u64 x] w fun e w' => e = .returned (.int .u64 (ones x)) ∧ w = w' := by
  go_enter Try.func39, Try.ntmps39
  go_wp2
  go_loop [0] (fun v => ∃ y : Int, 0 ≤ y ∧ y ≤ 18446744073709551615 ∧ Hid (ones y = ones x) ∧ v = .int .u64 y) (fun v => (intOf v).toNat)
  case atStart => exact ⟨x, hx.1, hx.2, rfl, rfl⟩
  case round =>
    obtain ⟨y, hy0, hy1, hy, rfl⟩ := hrel
    by_cases h : 65535 < y
    · have h1 := ones_less y h
      go_wp2
      go_round
      case rel => exact ⟨_, h1.2, by omega, (ones_step y h).trans hy.out, rfl⟩
      case measure => simp [intOf]; omega
    · go_wp2
      go_ret
      exact ⟨ret_int (by rw [← hy.out, ones_small y hy0 (by omega)]), rfl⟩

theorem refOf (s : ByteArray) (w : World) (hs : s.size ≤ 1099511627776) :
    Calls Try.prog 28 #[.string s] w fun e w' => e = .returned (.int .u16 (ck (wsum (L s)))) ∧ w = w' := by
  have bw := wsum_bd (L s)
  have bl : ((L s).length : Int) ≤ 1099511627776 := by rw [L_len]; omega
  have bc := ck_bd (wsum (L s)) bw.1
  have bo := ones_bd (wsum (L s)) bw.1
  have E : ck (wsum (L s)) = 65535 - ones (wsum (L s)) := rfl
  have HE := Lib.hid E; clear E
  go_enter Try.func28, Try.ntmps28
  go_wp2
  go_loop [3, 4] (fun x i => ∃ (k : Nat) (y : Int), k ≤ s.size + 1 ∧ i = .int .i64 k ∧ x = .int .u64 y ∧ 0 ≤ y ∧ Hid (y + wsum ((L s).drop k) = wsum (L s))) (fun _ i => s.size + 1 - (intOf i).toNat)
  case atStart => exact ⟨0, 0, by omega, rfl, rfl, by omega, Lib.hid (by simp)⟩
  case round =>
    obtain ⟨k, y, hk, rfl, rfl, hy, hh⟩ := hrel
    have bd := wsum_bd ((L s).drop k)
    have hyW : y ≤ wsum (L s) := by have := hh.out; omega
    by_cases hlt : k < s.size
    · have bw' := wd_bd (L s) k
      have hd := wsum_drop (L s) k hlt
      have bd2 := wsum_bd ((L s).drop (k + 2))
      have hh2 := hh.out
      have hyw : y + wd (L s) k ≤ wsum (L s) := by omega
      have hn : Hid (y + wd (L s) k + wsum ((L s).drop (k + 2)) = wsum (L s)) := by show _ = _; omega
      clear hd hh2
      go_wp2_with (go_at_call 38; refine (refWord _ _ _ hs hlt).mono ?_; rintro e w' ⟨rfl, rfl⟩)
      go_round
      case rel => exact ⟨k + 2, _, by omega, by go_num, rfl, by omega, hn⟩
      case measure => simp [intOf]; omega
    · have he := wsum_end (L s) k (by rw [L_len]; omega)
      have hh2 := hh.out
      have hyE : y = wsum (L s) := by omega
      clear hh2 he hh bd
      subst hyE
      go_wp2_with (go_at_call 39; refine (refOnes _ _ (by omega)).mono ?_; rintro e w' ⟨rfl, rfl⟩)
      go_ret
      exact ⟨ret_int HE.out.symm, rfl⟩

end Go.Proofs.Ytecogakledajkaa.su
