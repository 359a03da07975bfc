/- Package tcp: what is wrong with a segment's bytes; the head that they begin with. Condition: the bytes are at most 2^40. -/
import Derived.Test.YtecogakledajkaaTcpE
namespace Go.Proofs.Ytecogakledajkaa.tc
open Go.RowKit Go.Shelf Go.Proofs.Ytecogakledajkaa.sm Go.Proofs.Ytecogakledajkaa.nb Go.Proofs.Ytecogakledajkaa.cm
set_option linter.unusedVariables false

theorem u8_and192 (x : Nat) (h : x ≤ 255) : bits .and .u8 (x : Int) 192 = ((x / 64 * 64 : Nat) : Int) := by
  have h1 : (BitVec.ofInt 8 (x : Int)).toNat = x := by rw [BitVec.ofInt_natCast, BitVec.toNat_ofNat]; exact Nat.mod_eq_of_lt (by omega)
  have h2 : (BitVec.ofInt 8 (192 : Int)).toNat = 192 := by decide
  show IntKind.u8.wrap ((BitVec.ofInt 8 (x : Int) &&& BitVec.ofInt 8 (192 : Int)).toNat : Int) = _
  have h3 : ∀ z : Nat, z < 256 → z &&& 192 = z / 64 * 64 := by decide +kernel
  rw [BitVec.toNat_and, h1, h2, h3 x (by omega), IntKind.wrap_u8]
  omega
theorem sum_one (x y b : Nat) (s : ByteArray) (w : World) (hx : x ≤ 4294967295) (hy : y ≤ 4294967295) (hz : s.size ≤ 65535) (h : w.cell? ⟨b, 0, none⟩ = some (.string s)) :
    Calls Try.prog 12 #[.int .u32 x, .int .u32 y, .slice (some ⟨b, 0, none⟩) 1 1] w fun e w' => e = .returned (.int .u16 (ck (ts x y (L s)))) ∧ Up w w' := by
  have e : su.cat [s] = L s := by show L s ++ [] = L s; rw [List.append_nil]
  have hc := checksumC x y b 1 1 [s] rfl (by decide) (by rw [e]; exact hz) w hx hy (World.block_lt_of_cell? w _ h) (fun j hj => by match j, hj with | 0, _ => exact h)
  rw [e] at hc
  exact hc
set_option maxHeartbeats 4000000 in
set_option maxRecDepth 100000 in
theorem fault0 (x y : Nat) (s : ByteArray) (w : World) (hx : x ≤ 4294967295) (hy : y ≤ 4294967295) (hs : s.size ≤ 1099511627776) (c0 : (L s).length < 20) :
    Calls Try.prog 16 #[.int .u32 x, .int .u32 y, .string s] w fun e w' => e = .returned (.int .i64 (dec x y (L s) : Nat)) ∧ Up w w' := by
  have HD := Lib.hid (dec_50 (x := x) (y := y) c0)
  have i1 : (s.size : Int) < 20 := by rw [L_len] at c0; omega
  clear c0
  go_enter Try.func16, Try.ntmps16
  go_wp2
  go_ret
  exact ⟨ret_int (by rw [HD.out]; rfl), Below.refl _ _⟩
set_option maxHeartbeats 4000000 in
set_option maxRecDepth 100000 in
theorem fault1 (x y : Nat) (s : ByteArray) (w : World) (hx : x ≤ 4294967295) (hy : y ≤ 4294967295) (hs : s.size ≤ 1099511627776) (c0 : ¬ ((L s).length < 20)) (c1 : 65515 < (L s).length) :
    Calls Try.prog 16 #[.int .u32 x, .int .u32 y, .string s] w fun e w' => e = .returned (.int .i64 (dec x y (L s) : Nat)) ∧ Up w w' := by
  have HD := Lib.hid (dec_4 (x := x) (y := y) c0 c1)
  have i1 : ¬ (s.size : Int) < 20 := by rw [L_len] at c0; omega
  have i2 : (65515 : Int) < (s.size : Int) := by rw [L_len] at c1; omega
  clear c0 c1
  go_enter Try.func16, Try.ntmps16
  go_wp2
  go_ret
  exact ⟨ret_int (by rw [HD.out]; rfl), Below.refl _ _⟩
set_option maxHeartbeats 4000000 in
set_option maxRecDepth 100000 in
theorem fault2 (x y : Nat) (s : ByteArray) (w : World) (hx : x ≤ 4294967295) (hy : y ≤ 4294967295) (hs : s.size ≤ 1099511627776) (c0 : ¬ ((L s).length < 20)) (c1 : ¬ (65515 < (L s).length)) (c2 : ck (ts x y (L s)) ≠ 0) :
    Calls Try.prog 16 #[.int .u32 x, .int .u32 y, .string s] w fun e w' => e = .returned (.int .i64 (dec x y (L s) : Nat)) ∧ Up w w' := by
  have HD := Lib.hid (dec_55 c0 c1 c2)
  have h20 : 20 ≤ s.size := by rw [L_len] at c0; omega
  have hmx : s.size ≤ 65515 := by rw [L_len] at c1; omega
  have i1 : ¬ (s.size : Int) < 20 := by omega
  have i2 : ¬ (65515 : Int) < (s.size : Int) := by omega
  clear c0 c1
  obtain ⟨C, hC⟩ : ∃ C, C = ck (ts x y (L s)) := ⟨_, rfl⟩
  rw [← hC] at c2
  have HC := Lib.hid hC; clear hC
  go_enter Try.func16, Try.ntmps16
  go_wp2_with fail
  refine (sum_one x y _ s _ hx hy (by omega) (World.cell?_alloc_new _ _ _ _)).mono ?_
  rintro e w1 ⟨rfl, hv⟩
  rw [← HC.out]
  have hu : Up w w1 := (up_al _ (Below.refl _ _)).on hv
  clear hv
  go_wp2
  go_ret
  exact ⟨ret_int (by rw [HD.out]; rfl), hu⟩
set_option maxHeartbeats 4000000 in
set_option maxRecDepth 100000 in
theorem fault3a (x y : Nat) (s : ByteArray) (w : World) (hx : x ≤ 4294967295) (hy : y ≤ 4294967295) (hs : s.size ≤ 1099511627776) (c0 : ¬ ((L s).length < 20)) (c1 : ¬ (65515 < (L s).length)) (c2 : ¬ (ck (ts x y (L s)) ≠ 0)) (c3 : hl (L s) < 20) :
    Calls Try.prog 16 #[.int .u32 x, .int .u32 y, .string s] w fun e w' => e = .returned (.int .i64 (dec x y (L s) : Nat)) ∧ Up w w' := by
  have HD := Lib.hid (dec_60 c0 c1 c2 (.inl c3))
  have h20 : 20 ≤ s.size := by rw [L_len] at c0; omega
  have hmx : s.size ≤ 65515 := by rw [L_len] at c1; omega
  have i1 : ¬ (s.size : Int) < 20 := by omega
  have i2 : ¬ (65515 : Int) < (s.size : Int) := by omega
  clear c0 c1
  have c2 := Decidable.not_not.1 c2
  obtain ⟨C, hC⟩ : ∃ C, C = ck (ts x y (L s)) := ⟨_, rfl⟩
  rw [← hC] at c2
  have HC := Lib.hid hC; clear hC
  obtain ⟨N, hN⟩ : ∃ N, N = hl (L s) := ⟨_, rfl⟩
  rw [← hN] at c3
  have HN := Lib.hid hN; clear hN
  have HT := Lib.hid h20
  have HS := Lib.hid hs; clear hs
  go_enter Try.func16, Try.ntmps16
  go_wp2_with fail
  refine (sum_one x y _ s _ hx hy (by omega) (World.cell?_alloc_new _ _ _ _)).mono ?_
  rintro e w1 ⟨rfl, hv⟩
  rw [← HC.out]
  have hu : Up w w1 := (up_al _ (Below.refl _ _)).on hv
  clear hv
  go_wp2_with fail
  refine (start_at s _ HS.out (by have := HT.out; omega)).mono ?_
  rintro e w2 ⟨rfl, rfl⟩
  rw [← HN.out]
  go_wp2
  go_ret
  exact ⟨ret_int (by rw [HD.out]; rfl), hu⟩
set_option maxHeartbeats 4000000 in
set_option maxRecDepth 100000 in
theorem fault3b (x y : Nat) (s : ByteArray) (w : World) (hx : x ≤ 4294967295) (hy : y ≤ 4294967295) (hs : s.size ≤ 1099511627776) (c0 : ¬ ((L s).length < 20)) (c1 : ¬ (65515 < (L s).length)) (c2 : ¬ (ck (ts x y (L s)) ≠ 0)) (c3 : ¬ hl (L s) < 20) (c4 : ((L s).length : Int) < hl (L s)) :
    Calls Try.prog 16 #[.int .u32 x, .int .u32 y, .string s] w fun e w' => e = .returned (.int .i64 (dec x y (L s) : Nat)) ∧ Up w w' := by
  have HD := Lib.hid (dec_60 c0 c1 c2 (.inr c4))
  have h20 : 20 ≤ s.size := by rw [L_len] at c0; omega
  have hmx : s.size ≤ 65515 := by rw [L_len] at c1; omega
  have i1 : ¬ (s.size : Int) < 20 := by omega
  have i2 : ¬ (65515 : Int) < (s.size : Int) := by omega
  clear c0 c1
  have c2 := Decidable.not_not.1 c2
  obtain ⟨C, hC⟩ : ∃ C, C = ck (ts x y (L s)) := ⟨_, rfl⟩
  rw [← hC] at c2
  have HC := Lib.hid hC; clear hC
  obtain ⟨N, hN⟩ : ∃ N, N = hl (L s) := ⟨_, rfl⟩
  rw [← hN] at c3 c4
  rw [L_len] at c4
  have HN := Lib.hid hN; clear hN
  have HT := Lib.hid h20
  have HS := Lib.hid hs; clear hs
  go_enter Try.func16, Try.ntmps16
  go_wp2_with fail
  refine (sum_one x y _ s _ hx hy (by omega) (World.cell?_alloc_new _ _ _ _)).mono ?_
  rintro e w1 ⟨rfl, hv⟩
  rw [← HC.out]
  have hu : Up w w1 := (up_al _ (Below.refl _ _)).on hv
  clear hv
  go_wp2_with fail
  refine (start_at s _ HS.out (by have := HT.out; omega)).mono ?_
  rintro e w2 ⟨rfl, rfl⟩
  rw [← HN.out]
  go_wp2_with fail
  refine (start_at s _ HS.out (by have := HT.out; omega)).mono ?_
  rintro e w2 ⟨rfl, rfl⟩
  rw [← HN.out]
  go_wp2
  go_ret
  exact ⟨ret_int (by rw [HD.out]; rfl), hu⟩
set_option maxHeartbeats 4000000 in
set_option maxRecDepth 100000 in
theorem fault4a (x y : Nat) (s : ByteArray) (w : World) (hx : x ≤ 4294967295) (hy : y ≤ 4294967295) (hs : s.size ≤ 1099511627776) (c0 : ¬ ((L s).length < 20)) (c1 : ¬ (65515 < (L s).length)) (c2 : ¬ (ck (ts x y (L s)) ≠ 0)) (c3 : ¬ (hl (L s) < 20 ∨ ((L s).length : Int) < hl (L s))) (c4 : ¬ bt (L s) 12 % 16 = 0) :
    Calls Try.prog 16 #[.int .u32 x, .int .u32 y, .string s] w fun e w' => e = .returned (.int .i64 (dec x y (L s) : Nat)) ∧ Up w w' := by
  have HD := Lib.hid (dec_61 c0 c1 c2 c3 (.inl c4))
  have h20 : 20 ≤ s.size := by rw [L_len] at c0; omega
  have hmx : s.size ≤ 65515 := by rw [L_len] at c1; omega
  have i1 : ¬ (s.size : Int) < 20 := by omega
  have i2 : ¬ (65515 : Int) < (s.size : Int) := by omega
  clear c0 c1
  have c2 := Decidable.not_not.1 c2
  obtain ⟨C, hC⟩ : ∃ C, C = ck (ts x y (L s)) := ⟨_, rfl⟩
  rw [← hC] at c2
  have HC := Lib.hid hC; clear hC
  obtain ⟨N, hN⟩ : ∃ N, N = hl (L s) := ⟨_, rfl⟩
  rw [← hN] at c3
  rw [L_len] at c3
  have i3 : ¬ N < 20 := by omega
  have i4 : ¬ (s.size : Int) < N := by omega
  clear c3
  have l12 : 12 < s.size := by omega
  have l13 : 13 < s.size := by omega
  have j12 : (12 : Int) < (s.size : Int) := by omega
  have j13 : (13 : Int) < (s.size : Int) := by omega
  have e12 := bt_at s 12 l12
  have e13 := bt_at s 13 l13
  have b12 := c_lt (s[12]'l12)
  have b13 := c_lt (s[13]'l13)
  have a12 := nb.u8_and15 (s[12]'l12).toNat b12
  have a13 := u8_and192 (s[13]'l13).toNat b13
  rw [← e12] at c4
  have d12 : ¬ ((((s[12]'l12).toNat % 16 : Nat) : Int) = 0) := by omega
  clear e12 e13
  have HN := Lib.hid hN; clear hN
  have HT := Lib.hid h20
  have HS := Lib.hid hs; clear hs
  go_enter Try.func16, Try.ntmps16
  go_wp2_with fail
  refine (sum_one x y _ s _ hx hy (by omega) (World.cell?_alloc_new _ _ _ _)).mono ?_
  rintro e w1 ⟨rfl, hv⟩
  rw [← HC.out]
  have hu : Up w w1 := (up_al _ (Below.refl _ _)).on hv
  clear hv
  go_wp2_with fail
  refine (start_at s _ HS.out (by have := HT.out; omega)).mono ?_
  rintro e w2 ⟨rfl, rfl⟩
  rw [← HN.out]
  go_wp2_with fail
  refine (start_at s _ HS.out (by have := HT.out; omega)).mono ?_
  rintro e w2 ⟨rfl, rfl⟩
  rw [← HN.out]
  go_wp2
  go_ret
  exact ⟨ret_int (by rw [HD.out]; rfl), hu⟩
set_option maxHeartbeats 4000000 in
set_option maxRecDepth 100000 in
theorem fault4b (x y : Nat) (s : ByteArray) (w : World) (hx : x ≤ 4294967295) (hy : y ≤ 4294967295) (hs : s.size ≤ 1099511627776) (c0 : ¬ ((L s).length < 20)) (c1 : ¬ (65515 < (L s).length)) (c2 : ¬ (ck (ts x y (L s)) ≠ 0)) (c3 : ¬ (hl (L s) < 20 ∨ ((L s).length : Int) < hl (L s))) (c4 : bt (L s) 12 % 16 = 0) (c5 : 64 ≤ bt (L s) 13) :
    Calls Try.prog 16 #[.int .u32 x, .int .u32 y, .string s] w fun e w' => e = .returned (.int .i64 (dec x y (L s) : Nat)) ∧ Up w w' := by
  have HD := Lib.hid (dec_61 c0 c1 c2 c3 (.inr c5))
  have h20 : 20 ≤ s.size := by rw [L_len] at c0; omega
  have hmx : s.size ≤ 65515 := by rw [L_len] at c1; omega
  have i1 : ¬ (s.size : Int) < 20 := by omega
  have i2 : ¬ (65515 : Int) < (s.size : Int) := by omega
  clear c0 c1
  have c2 := Decidable.not_not.1 c2
  obtain ⟨C, hC⟩ : ∃ C, C = ck (ts x y (L s)) := ⟨_, rfl⟩
  rw [← hC] at c2
  have HC := Lib.hid hC; clear hC
  obtain ⟨N, hN⟩ : ∃ N, N = hl (L s) := ⟨_, rfl⟩
  rw [← hN] at c3
  rw [L_len] at c3
  have i3 : ¬ N < 20 := by omega
  have i4 : ¬ (s.size : Int) < N := by omega
  clear c3
  have l12 : 12 < s.size := by omega
  have l13 : 13 < s.size := by omega
  have j12 : (12 : Int) < (s.size : Int) := by omega
  have j13 : (13 : Int) < (s.size : Int) := by omega
  have e12 := bt_at s 12 l12
  have e13 := bt_at s 13 l13
  have b12 := c_lt (s[12]'l12)
  have b13 := c_lt (s[13]'l13)
  have a12 := nb.u8_and15 (s[12]'l12).toNat b12
  have a13 := u8_and192 (s[13]'l13).toNat b13
  rw [← e12] at c4
  rw [← e13] at c5
  have d12 : (((s[12]'l12).toNat % 16 : Nat) : Int) = 0 := by omega
  have d13 : ¬ ((((s[13]'l13).toNat / 64 * 64 : Nat) : Int) = 0) := by omega
  clear e12 e13
  have HN := Lib.hid hN; clear hN
  have HT := Lib.hid h20
  have HS := Lib.hid hs; clear hs
  go_enter Try.func16, Try.ntmps16
  go_wp2_with fail
  refine (sum_one x y _ s _ hx hy (by omega) (World.cell?_alloc_new _ _ _ _)).mono ?_
  rintro e w1 ⟨rfl, hv⟩
  rw [← HC.out]
  have hu : Up w w1 := (up_al _ (Below.refl _ _)).on hv
  clear hv
  go_wp2_with fail
  refine (start_at s _ HS.out (by have := HT.out; omega)).mono ?_
  rintro e w2 ⟨rfl, rfl⟩
  rw [← HN.out]
  go_wp2_with fail
  refine (start_at s _ HS.out (by have := HT.out; omega)).mono ?_
  rintro e w2 ⟨rfl, rfl⟩
  rw [← HN.out]
  go_wp2
  go_ret
  exact ⟨ret_int (by rw [HD.out]; rfl), hu⟩
set_option maxHeartbeats 4000000 in
set_option maxRecDepth 100000 in
theorem fault5 (x y : Nat) (s : ByteArray) (w : World) (hx : x ≤ 4294967295) (hy : y ≤ 4294967295) (hs : s.size ≤ 1099511627776) (c0 : ¬ ((L s).length < 20)) (c1 : ¬ (65515 < (L s).length)) (c2 : ¬ (ck (ts x y (L s)) ≠ 0)) (c3 : ¬ (hl (L s) < 20 ∨ ((L s).length : Int) < hl (L s))) (c4 : ¬ (bt (L s) 12 % 16 ≠ 0 ∨ 64 ≤ bt (L s) 13)) :
    Calls Try.prog 16 #[.int .u32 x, .int .u32 y, .string s] w fun e w' => e = .returned (.int .i64 (dec x y (L s) : Nat)) ∧ Up w w' := by
  have HD := Lib.hid (dec_0 c0 c1 c2 c3 c4)
  have h20 : 20 ≤ s.size := by rw [L_len] at c0; omega
  have hmx : s.size ≤ 65515 := by rw [L_len] at c1; omega
  have i1 : ¬ (s.size : Int) < 20 := by omega
  have i2 : ¬ (65515 : Int) < (s.size : Int) := by omega
  clear c0 c1
  have c2 := Decidable.not_not.1 c2
  obtain ⟨C, hC⟩ : ∃ C, C = ck (ts x y (L s)) := ⟨_, rfl⟩
  rw [← hC] at c2
  have HC := Lib.hid hC; clear hC
  obtain ⟨N, hN⟩ : ∃ N, N = hl (L s) := ⟨_, rfl⟩
  rw [← hN] at c3
  rw [L_len] at c3
  have i3 : ¬ N < 20 := by omega
  have i4 : ¬ (s.size : Int) < N := by omega
  clear c3
  have l12 : 12 < s.size := by omega
  have l13 : 13 < s.size := by omega
  have j12 : (12 : Int) < (s.size : Int) := by omega
  have j13 : (13 : Int) < (s.size : Int) := by omega
  have e12 := bt_at s 12 l12
  have e13 := bt_at s 13 l13
  have b12 := c_lt (s[12]'l12)
  have b13 := c_lt (s[13]'l13)
  have a12 := nb.u8_and15 (s[12]'l12).toNat b12
  have a13 := u8_and192 (s[13]'l13).toNat b13
  rw [← e12, ← e13] at c4
  have d12 : (((s[12]'l12).toNat % 16 : Nat) : Int) = 0 := by omega
  have d13 : (((s[13]'l13).toNat / 64 * 64 : Nat) : Int) = 0 := by omega
  clear e12 e13
  have HN := Lib.hid hN; clear hN
  have HT := Lib.hid h20
  have HS := Lib.hid hs; clear hs
  go_enter Try.func16, Try.ntmps16
  go_wp2_with fail
  refine (sum_one x y _ s _ hx hy (by omega) (World.cell?_alloc_new _ _ _ _)).mono ?_
  rintro e w1 ⟨rfl, hv⟩
  rw [← HC.out]
  have hu : Up w w1 := (up_al _ (Below.refl _ _)).on hv
  clear hv
  go_wp2_with fail
  refine (start_at s _ HS.out (by have := HT.out; omega)).mono ?_
  rintro e w2 ⟨rfl, rfl⟩
  rw [← HN.out]
  go_wp2_with fail
  refine (start_at s _ HS.out (by have := HT.out; omega)).mono ?_
  rintro e w2 ⟨rfl, rfl⟩
  rw [← HN.out]
  go_wp2
  go_ret
  exact ⟨ret_int (by rw [HD.out]; rfl), hu⟩
theorem faultC (x y : Nat) (s : ByteArray) (w : World) (hx : x ≤ 4294967295) (hy : y ≤ 4294967295) (hs : s.size ≤ 1099511627776) :
    Calls Try.prog 16 #[.int .u32 x, .int .u32 y, .string s] w fun e w' => e = .returned (.int .i64 (dec x y (L s) : Nat)) ∧ Up w w' := by
  by_cases c0 : (L s).length < 20
  · exact fault0 x y s w hx hy hs c0
  by_cases c1 : 65515 < (L s).length
  · exact fault1 x y s w hx hy hs c0 c1
  by_cases c2 : ck (ts x y (L s)) ≠ 0
  · exact fault2 x y s w hx hy hs c0 c1 c2
  by_cases c3 : hl (L s) < 20 ∨ ((L s).length : Int) < hl (L s)
  · by_cases c : hl (L s) < 20
    · exact fault3a x y s w hx hy hs c0 c1 c2 c
    · exact fault3b x y s w hx hy hs c0 c1 c2 c (by omega)
  by_cases c4 : bt (L s) 12 % 16 ≠ 0 ∨ 64 ≤ bt (L s) 13
  · by_cases c : bt (L s) 12 % 16 = 0
    · exact fault4b x y s w hx hy hs c0 c1 c2 c3 c (by omega)
    · exact fault4a x y s w hx hy hs c0 c1 c2 c3 c
  exact fault5 x y s w hx hy hs c0 c1 c2 c3 c4
end Go.Proofs.Ytecogakledajkaa.tc
