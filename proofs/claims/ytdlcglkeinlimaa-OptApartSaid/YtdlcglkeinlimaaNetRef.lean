/- The document's answer for numbers and bytes; results in cells; what packages of heads share. Condition: the arguments fit their kinds. -/
import Derived.Test.YtdlcglkeinlimaaNetRel
namespace Go.Proofs.Ytdlcglkeinlimaa.nb
open Go.RowKit Go.Shelf Go.Proofs.Ytdlcglkeinlimaa.sm
set_option linter.unusedVariables false

theorem results_cell_tmp2 {fn : Func} {p u v : Tmp} {ty : TypeId} (h : fn.results = #[.cell p ty, .tmp u, .tmp v]) (tmps : Array Value) (P : Program) (w : World) :
    (results fn tmps).run P w =
      ((asAddr (tmps.getD p undef)).run P w).andThen fun a w₁ => ((loadVar ty a).run P w₁).andThen fun x w₂ => .ok (.tuple #[x, tmps.getD u undef, tmps.getD v undef]) w₂ := by
  simp only [results, h]
  simp [Sem.run_bind, Result.andThen]

theorem results_cell1 {fn : Func} {p : Tmp} {ty : TypeId} (h : fn.results = #[.cell p ty]) (tmps : Array Value) (P : Program) (w : World) :
    (results fn tmps).run P w = ((asAddr (tmps.getD p undef)).run P w).andThen fun a w₁ => ((loadVar ty a).run P w₁).andThen fun v w₂ => .ok v w₂ := by
  simp only [results, h]
  simp [Sem.run_bind, Result.andThen]
  cases (Sem.run P (asAddr (tmps[p]?.getD undef)) w) with
  | ok a w1 => cases h2 : (Sem.run P (loadVar ty a) w1) <;> simp [h2]
  | halt h w1 => rfl
theorem beq_dec (x y : Int) : (x == y) = decide (x = y) := by rw [Bool.eq_iff_iff]; simp
theorem bne_dec (x y : Int) : (x != y) = decide (x ≠ y) := by rw [Bool.eq_iff_iff]; simp
theorem u8_and15 (x : Nat) (h : x ≤ 255) : bits .and .u8 (x : Int) 15 = ((x % 16 : Nat) : Int) := by
  have h1 : (BitVec.ofInt 8 (x : Int)).toNat = x := by rw [BitVec.ofInt_natCast, BitVec.toNat_ofNat]; exact Nat.mod_eq_of_lt (by omega)
  have h2 : (BitVec.ofInt 8 (15 : Int)).toNat = 15 := by decide
  show IntKind.u8.wrap ((BitVec.ofInt 8 (x : Int) &&& BitVec.ofInt 8 (15 : Int)).toNat : Int) = _
  rw [BitVec.toNat_and, h1, h2, show x &&& 15 = x % 16 from Nat.and_two_pow_sub_one_eq_mod x 4, IntKind.wrap_u8]
  omega
set_option maxRecDepth 100000 in
theorem refBytes (n : Int) (w : World) (hn : 0 ≤ n ∧ n ≤ 65535) :
    Calls Try.prog 37 #[.int .u16 n] w fun e w' => e = .returned (.string (tx (B16 n.toNat))) ∧ Up w w' := by
  obtain ⟨m, rfl⟩ := Int.eq_ofNat_of_zero_le hn.1
  rw [Int.toNat_natCast]
  have n1 : (m : Int) / 256 = ((oct (m / 256)).toNat : Int) := by rw [oct_nat (by omega)]; omega
  have n0 : (m : Int) % 256 = ((oct (m % 256)).toNat : Int) := by rw [oct_nat (by omega)]; omega
  have hcv := conv_lit (w := w) (B16 m) 2 rfl #[.int .u8 ((oct (m / 256)).toNat : Int), .int .u8 ((oct (m % 256)).toNat : Int)] rfl
  go_enter Try.func37, Try.ntmps37
  go_wp2
  go_ret
  exact ⟨rfl, up_al _ (Below.refl _ _)⟩
theorem B32_two (x : Nat) (h : x ≤ 4294967295) : B16 (x / 65536) ++ B16 (x % 65536) = B32 x := by
  show [oct (x / 65536 / 256), oct (x / 65536 % 256), oct (x % 65536 / 256), oct (x % 65536 % 256)] = [oct (q3 x), oct (q2 x), oct (q1 x), oct (q0 x)]
  unfold q3 q2 q1 q0
  rw [show x / 65536 / 256 = x / 16777216 by omega, show x % 65536 / 256 = x / 256 % 256 by omega, show x % 65536 % 256 = x % 256 by omega]
theorem sz16 (n : Nat) : (tx (B16 n)).size = 2 := by rw [tx_size]; rfl
theorem sz32 (n : Nat) : (tx (B32 n)).size = 4 := by rw [tx_size]; rfl
set_option maxRecDepth 100000 in
theorem refFour (x : Nat) (w : World) (hx : x ≤ 4294967295) :
    Calls Try.prog 38 #[.int .u32 x] w fun e w' => e = .returned (.string (tx (B32 x))) ∧ Up w w' := by
  have h1 : (0 : Int) ≤ (x : Int) / 65536 ∧ (x : Int) / 65536 ≤ 65535 := by omega
  have h2 : (0 : Int) ≤ (x : Int) % 65536 ∧ (x : Int) % 65536 ≤ 65535 := by omega
  have z1 := sz16 ((x : Int) / 65536).toNat
  have z2 := sz16 ((x : Int) % 65536).toNat
  have HE : Hid (tx (B16 ((x : Int) / 65536).toNat) ++ tx (B16 ((x : Int) % 65536).toNat) = tx (B32 x)) := by
    unfold Hid
    rw [tx_app, show ((x : Int) / 65536).toNat = x / 65536 by omega, show ((x : Int) % 65536).toNat = x % 65536 by omega, B32_two x hx]
  have HX := Lib.hid hx; clear hx
  go_enter Try.func38, Try.ntmps38
  go_wp2_with fail
  refine (refBytes _ _ (by first | exact h1 | (have := HX.out; omega))).mono ?_
  rintro e w1 ⟨rfl, hv1⟩
  go_wp2_with fail
  refine (refBytes _ _ (by first | exact h2 | (have := HX.out; omega))).mono ?_
  rintro e w2 ⟨rfl, hv2⟩
  go_wp2
  go_ret
  exact ⟨by rw [← HE.out]; first | rfl | simp, hv1.on hv2⟩

/-- a number out of k bytes -/
def nm (l : List UInt8) : Nat → Int
  | 0 => 0
  | k + 1 => 256 * nm l k + bt l k
theorem nm_bd (l : List UInt8) : 0 ≤ nm l 0 ∧ nm l 0 ≤ 0 ∧ 0 ≤ nm l 1 ∧ nm l 1 ≤ 255 ∧ 0 ≤ nm l 2 ∧ nm l 2 ≤ 65535 ∧ 0 ≤ nm l 3 ∧ nm l 3 ≤ 16777215 ∧ 0 ≤ nm l 4 ∧ nm l 4 ≤ 4294967295 := by
  have b0 := bt_bd l 0; have b1 := bt_bd l 1; have b2 := bt_bd l 2; have b3 := bt_bd l 3
  have e0 : nm l 0 = 0 := rfl
  have e1 : nm l 1 = 256 * nm l 0 + bt l 0 := rfl
  have e2 : nm l 2 = 256 * nm l 1 + bt l 1 := rfl
  have e3 : nm l 3 = 256 * nm l 2 + bt l 2 := rfl
  have e4 : nm l 4 = 256 * nm l 3 + bt l 3 := rfl
  omega
theorem nm_le (l : List UInt8) (k : Nat) (hk : k ≤ 4) : 0 ≤ nm l k ∧ nm l k ≤ 4294967295 := by
  have := nm_bd l
  rcases (by omega : k = 0 ∨ k = 1 ∨ k = 2 ∨ k = 3 ∨ k = 4) with rfl | rfl | rfl | rfl | rfl <;> omega
theorem nm_lt (l : List UInt8) (k : Nat) (hk : k < 4) : 0 ≤ nm l k ∧ 256 * nm l k + 255 ≤ 4294967295 := by
  have := nm_bd l
  rcases (by omega : k = 0 ∨ k = 1 ∨ k = 2 ∨ k = 3) with rfl | rfl | rfl | rfl <;> omega
set_option maxHeartbeats 1000000 in
set_option maxRecDepth 100000 in
theorem refNum (s : ByteArray) (w : World) (hs : s.size ≤ 4) :
    Calls Try.prog 46 #[.string s] w fun e w' => e = .returned (.int .u32 (nm (L s) s.size)) ∧ w = w' := by
  go_enter Try.func46, Try.ntmps46
  go_wp2
  go_loop [3, 4] (fun x i => ∃ k : Nat, k ≤ s.size ∧ i = .int .i64 (k : Nat) ∧ x = .int .u32 (nm (L s) k)) (fun _ i => s.size - (intOf i).toNat)
  case atStart => exact ⟨0, by omega, rfl, rfl⟩
  case round =>
    obtain ⟨k, hk, rfl, rfl⟩ := hrel
    have b := nm_le (L s) k (by omega)
    by_cases h : k < s.size
    · have b2 := nm_lt (L s) k (by omega)
      have bb := bt_bd (L s) k
      have hn := Lib.hid (show nm (L s) (k + 1) = 256 * nm (L s) k + bt (L s) k from rfl)
      have e := bt_at s k h
      rw [← e] at bb
      have HE : Hid ((s[k].toNat : Int) = bt (L s) k) := e
      clear e
      generalize nm (L s) k = x at b b2 hn ⊢
      go_wp2
      go_round
      case rel => exact ⟨k + 1, by omega, by go_num, by rw [hn.out, ← HE.out]⟩
      case measure => simp [intOf]; omega
    · obtain rfl : k = s.size := by omega
      go_wp2
      go_ret
      exact ⟨rfl, rfl⟩
theorem nm2 (l : List UInt8) (k : Nat) : nm ((l.drop k).take 2) 2 = wd l k := by
  have e : ∀ j, j < 2 → bt ((l.drop k).take 2) j = bt l (k + j) := fun j hj => by
    rw [← bt_drop]; unfold bt; simp [List.getD, List.getElem?_take, hj]
  show 256 * (256 * 0 + bt _ 0) + bt _ 1 = bt l k * 256 + bt l (k + 1)
  rw [e 0 (by omega), e 1 (by omega), Nat.add_zero]; omega
theorem nm4 (l : List UInt8) (k : Nat) : nm ((l.drop k).take 4) 4 = qd l k := by
  have e : ∀ j, j < 4 → bt ((l.drop k).take 4) j = bt l (k + j) := fun j hj => by
    rw [← bt_drop]; unfold bt; simp [List.getD, List.getElem?_take, hj]
  show 256 * (256 * (256 * (256 * 0 + bt _ 0) + bt _ 1) + bt _ 2) + bt _ 3 = (bt l k * 256 + bt l (k + 1)) * 65536 + (bt l (k + 2) * 256 + bt l (k + 3))
  rw [e 0 (by omega), e 1 (by omega), e 2 (by omega), e 3 (by omega), Nat.add_zero]; omega
theorem sub_size (s : ByteArray) (i j : Nat) (h : i ≤ j) (hj : j ≤ s.size) : (s.extract i j).size = j - i := by simp; omega
theorem num2 (s : ByteArray) (k : Nat) (h : k + 2 ≤ s.size) (w : World) :
    Calls Try.prog 46 #[.string (s.extract k (k + 2))] w fun e w' => e = .returned (.int .u32 (wd (L s) k)) ∧ w = w' := by
  have hz := sub_size s k (k + 2) (by omega) h
  refine (refNum (s.extract k (k + 2)) w (by omega)).mono fun e w' ⟨h1, h2⟩ => ⟨?_, h2⟩
  rw [h1, hz, show k + 2 - k = 2 by omega, L_extract, show k + 2 - k = 2 by omega, nm2]
theorem num4 (s : ByteArray) (k : Nat) (h : k + 4 ≤ s.size) (w : World) :
    Calls Try.prog 46 #[.string (s.extract k (k + 4))] w fun e w' => e = .returned (.int .u32 (qd (L s) k)) ∧ w = w' := by
  have hz := sub_size s k (k + 4) (by omega) h
  refine (refNum (s.extract k (k + 4)) w (by omega)).mono fun e w' ⟨h1, h2⟩ => ⟨?_, h2⟩
  rw [h1, hz, show k + 4 - k = 4 by omega, L_extract, show k + 4 - k = 4 by omega, nm4]
end Go.Proofs.Ytdlcglkeinlimaa.nb
