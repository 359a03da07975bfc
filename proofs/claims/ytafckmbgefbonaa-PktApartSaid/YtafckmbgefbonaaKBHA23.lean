/- B H A: contracts, part 23. Condition: as each says. -/
import Derived.Test.YtafckmbgefbonaaKBHA22
import Derived.Shelf.Strconv.Clone
set_option linter.unusedVariables false
set_option linter.unusedSimpArgs false
namespace Go.Proofs.Ytafckmbgefbonaa.ip
open Go.RowKit Go.Shelf Go.Proofs.Ytafckmbgefbonaa.sm Go.Proofs.Ytafckmbgefbonaa.nb Go.Proofs.Ytafckmbgefbonaa.im
set_option linter.unusedVariables false

theorem results_cell_tmp2 {fn : Func} {p u v : Tmp} {ty : TypeId} (h : fn.results = #[.cell p ty, .tmp u, .tmp v]) (tmps : Array Value) (P : Program) (w : World) :
    (results fn tmps).run P w =
      ((asAddr (tmps.getD p undef)).run P w).andThen fun a w₁ => ((loadVar ty a).run P w₁).andThen fun x w₂ => .ok (.tuple #[x, tmps.getD u undef, tmps.getD v undef]) w₂ := by
  simp only [results, h]
  simp [Sem.run_bind, Result.andThen]

theorem beq_dec (x y : Int) : (x == y) = decide (x = y) := by rw [Bool.eq_iff_iff]; simp
theorem bne_dec (x y : Int) : (x != y) = decide (x ≠ y) := by rw [Bool.eq_iff_iff]; simp
theorem no_df (x : Nat) (h : x < 65536) : x &&& 49151 = 0 ↔ x = 0 ∨ x = 16384 := by
  constructor
  · intro h0
    have hb : ∀ i, i ≠ 14 → x.testBit i = false := by
      intro i hi
      by_cases h16 : i < 16
      · have e : (x &&& 49151).testBit i = false := by rw [h0]; simp
        rw [Nat.testBit_and, (by decide : ∀ i, i < 16 → i ≠ 14 → Nat.testBit 49151 i = true) i h16 hi, Bool.and_true] at e
        exact e
      · exact Nat.testBit_lt_two_pow (Nat.lt_of_lt_of_le h (Nat.pow_le_pow_right (n := 2) (i := 16) (j := i) (by decide) (by omega)))
    by_cases hb14 : x.testBit 14 = true
    · right
      apply Nat.eq_of_testBit_eq
      intro i
      rw [show (16384 : Nat) = 2 ^ 14 by decide, Nat.testBit_two_pow]
      by_cases hi : i = 14
      · subst hi; simpa using hb14
      · rw [hb i hi]; simp [Ne.symm hi]
    · left
      apply Nat.eq_of_testBit_eq
      intro i
      by_cases hi : i = 14
      · subst hi; simpa using hb14
      · rw [hb i hi]; simp
  · rintro (rfl | rfl) <;> decide
theorem andNot_df (x : Int) (h : 0 ≤ x ∧ x ≤ 65535) : (bits .andNot .u16 x 16384 == 0) = decide (x = 0 ∨ x = 16384) := by
  obtain ⟨n, rfl⟩ := Int.eq_ofNat_of_zero_le h.1
  have e := u16_andNot (n : Int) 16384 (by omega) (by omega) (by omega) (by omega)
  rw [e]
  have e2 : (65535 - Int.toNat 16384 : Nat) = 49151 := by decide
  rw [e2, Int.toNat_natCast]
  have h3 := no_df n (by omega)
  rw [Bool.eq_iff_iff, beq_iff_eq, decide_eq_true_eq]
  omega

theorem fault1 (s : ByteArray) (w : World) :
    Calls Try.prog 64 #[.string s] w fun e w' => e = .returned (.bool (decide (s.size < 20))) ∧ w = w' := by
  go_enter Try.func64, Try.ntmps64
  go_wp2
  go_ret
  exact ⟨ret_bool (decide_eq_decide.2 (by omega)), rfl⟩
theorem fault2 (s : ByteArray) (w : World) (hs : s.size ≤ 1099511627776) (h0 : 0 < s.size) :
    Calls Try.prog 65 #[.string s] w fun e w' => e = .returned (.bool (decide (bt (L s) 0 / 16 ≠ 4))) ∧ w = w' := by
  have b0 := bt_bd (L s) 0
  have e0 := bt_at s 0 h0
  have HE : Hid ((s[0].toNat : Int) = bt (L s) 0) := e0
  clear e0
  go_enter Try.func65, Try.ntmps65
  go_wp2
  go_ret
  exact ⟨ret_bool (by rw [HE.out, bne_dec]), rfl⟩
theorem fault3 (s : ByteArray) (w : World) (hs : s.size ≤ 1099511627776) (h0 : 0 < s.size) :
    Calls Try.prog 66 #[.string s] w fun e w' => e = .returned (.bool (decide (bt (L s) 0 % 16 ≠ 5))) ∧ w = w' := by
  have b0 := c_lt s[0]
  have e0 := bt_at s 0 h0
  have HE : Hid ((s[0].toNat : Int) = bt (L s) 0) := e0
  clear e0
  go_enter Try.func66, Try.ntmps66
  go_wp2
  go_ret
  exact ⟨ret_bool (by rw [HE.out, bne_dec]), rfl⟩
theorem fault4 (s : ByteArray) (w : World) (hs : s.size ≤ 1099511627776) (h0 : 4 ≤ s.size) :
    Calls Try.prog 67 #[.string s] w fun e w' => e = .returned (.bool (decide (wd (L s) 2 ≠ (s.size : Int)))) ∧ w = w' := by
  have b0 := wd_bd (L s) 2
  go_enter Try.func67, Try.ntmps67
  go_wp2_with fail
  refine (at16 s 2 w hs (by omega)).mono ?_
  rintro e w1 ⟨rfl, rfl⟩
  go_wp2
  go_ret
  exact ⟨ret_bool (by rw [bne_dec]), rfl⟩
theorem right_one (b : Nat) (s : ByteArray) (w : World) (h : w.cell? ⟨b, 0, none⟩ = some (.string s)) (hs : s.size ≤ 1099511627776) :
    Calls Try.prog 69 #[.slice (some ⟨b, 0, none⟩) 1 1] w fun e w' => e = .returned (.bool (ck (wsum (L s)) == 0)) ∧ Up w w' := by
  have e : su.cat [s] = L s := by show L s ++ [] = L s; rw [List.append_nil]
  have hc := su.rightC (some ⟨b, 0, none⟩) 1 1 [s] rfl (by simp) (by rw [e]; exact hs) w
    (fun _ => ⟨b, 0, rfl, World.block_lt_of_cell? w _ h, fun j hj => by match j, hj with | 0, _ => exact h⟩)
  rw [e] at hc
  exact hc
theorem fault5 (s : ByteArray) (w : World) (hs : s.size ≤ 1099511627776) (h0 : 20 ≤ s.size) :
    Calls Try.prog 68 #[.string s] w fun e w' => e = .returned (.bool (decide (ck (wsum ((L s).take 20)) ≠ 0))) ∧ Up w w' := by
  have hL : L (s.extract 0 20) = (L s).take 20 := by rw [L_extract, List.drop_zero]
  have hz : (s.extract 0 20).size = 20 := by simp; omega
  have HL := Lib.hid hL; clear hL
  go_enter Try.func68, Try.ntmps68
  go_wp2_with fail
  refine (right_one _ _ _ (World.cell?_alloc_new _ _ _ _) (by rw [hz]; decide)).mono ?_
  rintro e w1 ⟨rfl, hv⟩
  go_wp2
  go_ret
  exact ⟨ret_bool (by rw [HL.out, beq_dec]; simp), (up_al _ (Below.refl _ _)).on hv⟩
theorem fault6 (s : ByteArray) (w : World) (hs : s.size ≤ 1099511627776) (h0 : 8 ≤ s.size) :
    Calls Try.prog 70 #[.string s] w fun e w' => e = .returned (.bool (decide (wd (L s) 6 ≠ 0 ∧ wd (L s) 6 ≠ 16384))) ∧ w = w' := by
  have b0 := wd_bd (L s) 6
  have q := Lib.hid (andNot_df _ b0)
  go_enter Try.func70, Try.ntmps70
  go_wp2_with fail
  refine (at16 s 6 w hs (by omega)).mono ?_
  rintro e w1 ⟨rfl, rfl⟩
  go_wp2
  go_ret
  exact ⟨ret_bool (by rw [bne, q.out]; simp), rfl⟩
abbrev FC : List Value := [.int .i64 50, .func (.func 64) #[] #[], .int .i64 51, .func (.func 65) #[] #[], .int .i64 52, .func (.func 66) #[] #[],
  .int .i64 53, .func (.func 67) #[] #[], .int .i64 55, .func (.func 68) #[] #[], .int .i64 54, .func (.func 70) #[] #[]]
theorem faultsC (w : World) :
    Calls Try.prog 39 #[] w fun e w' => e = .returned (.slice (some ⟨w.heap.size, 0, none⟩) 6 6) ∧ w' = w.alloc (.cells FC.toArray 86) := by
  go_enter Try.func39, Try.ntmps39
  go_wp2
  go_ret
  exact ⟨rfl, rfl⟩
theorem cloneC (s : ByteArray) (w : World) (hs : s.size ≤ 1099511627776) :
    Calls Try.prog 31 #[.string s] w fun e w' => e = .returned (.string s) ∧ Up w w' := by
  go_enter Try.func31, Try.ntmps31
  go_wp2_with fail
  refine (Any.stringslite_Clone Try.lClone s w (by omega)).mono ?_
  rintro e w1 ⟨rfl, hv⟩
  go_wp2
  go_ret
  exact ⟨rfl, hv⟩
end Go.Proofs.Ytafckmbgefbonaa.ip
