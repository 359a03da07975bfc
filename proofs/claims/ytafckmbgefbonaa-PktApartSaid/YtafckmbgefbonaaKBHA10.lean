/- B H A: contracts, part 10. Condition: as each says. -/
import Derived.Test.YtafckmbgefbonaaKBHA2
import Derived.Test.YtafckmbgefbonaaKBHA9
import Derived.Shelf.Strconv.Itoa0
set_option linter.unusedVariables false
set_option linter.unusedSimpArgs false
namespace Go.Proofs.Ytafckmbgefbonaa.nb
open Go.RowKit Go.Shelf Go.Proofs.Ytafckmbgefbonaa.sm
set_option linter.unusedVariables false

theorem size8 (w : World) : Calls Try.prog 80 #[] w fun e w' => e = .returned (.int .i64 1) ∧ w = w' := by
  have q : Lib.bitLen 255 = 8 := by decide +kernel
  go_enter Try.func80, Try.ntmps80
  go_wp2_with (go_at_call 75; refine (Any.bits_Len64 Try.lLen64 255 w (by decide) (by decide)).mono ?_; rintro e w' ⟨rfl, rfl⟩)
  go_ret
  exact ⟨ret_int (by decide), rfl⟩

theorem size16 (w : World) : Calls Try.prog 77 #[] w fun e w' => e = .returned (.int .i64 2) ∧ w = w' := by
  have q : Lib.bitLen 65535 = 16 := by decide +kernel
  go_enter Try.func77, Try.ntmps77
  go_wp2_with (go_at_call 75; refine (Any.bits_Len64 Try.lLen64 65535 w (by decide) (by decide)).mono ?_; rintro e w' ⟨rfl, rfl⟩)
  go_ret
  exact ⟨ret_int (by decide), rfl⟩

theorem size32 (w : World) : Calls Try.prog 48 #[] w fun e w' => e = .returned (.int .i64 4) ∧ w = w' := by
  have q : Lib.bitLen 4294967295 = 32 := by decide +kernel
  go_enter Try.func48, Try.ntmps48
  go_wp2_with (go_at_call 75; refine (Any.bits_Len64 Try.lLen64 4294967295 w (by decide) (by decide)).mono ?_; rintro e w' ⟨rfl, rfl⟩)
  go_ret
  exact ⟨ret_int (by decide), rfl⟩
set_option maxHeartbeats 1000000 in
set_option maxRecDepth 100000 in
theorem lay8 (B : Nat) (v : Value) (xs : List UInt8) (n : Nat) (w : World) (hn : n ≤ 255) (hown : OwnB w B v xs) (hx : xs.length ≤ 1024) (hB : B ≤ w.heap.size) :
    Calls Try.prog 60 #[v, .int .u8 n] w fun e w' => (∃ v', e = .returned v' ∧ OwnB w' B v' (xs ++ [oct n])) ∧ Below B w w' := by
  go_enter Try.func60, Try.ntmps60
  go_wp2_with (go_at_call 80; refine (size8 w).mono ?_; rintro e w' ⟨rfl, rfl⟩)
  go_loopw [0, 5] (fun s l wr => ∃ k : Nat, k ≤ 1 ∧ l = .int .i64 (0 - (k : Int)) ∧ OwnB wr B s (xs ++ [oct n].take k) ∧ Below B w wr) (fun _ l _ => ((intOf l) + 1).toNat)
  case atStart => exact ⟨0, by omega, rfl, by simpa using hown, Below.refl _ _⟩
  case round =>
    obtain ⟨k, hk, rfl, ho, hb⟩ := hrel
    have hB1 := Nat.le_trans hB hb.size
    rcases (by omega : k = 0 ∨ k = 1) with rfl | rfl
    · go_wp2_with (at_builtin; refine app1 (.tmp 12) (.tmp 17) _ n (oct n) (by rw [oct_nat hn]) (ho.up ((Below.refl _ _).alloc (Nat.le_refl _) _)) rfl rfl rfl rfl (by go_simp) (by simp; omega) (by simp; omega) ?_; intro v1 w1 hown1 hb1; have hb2 := (hb.alloc hB1 _).trans hb1)
      go_roundw
      case rel => exact ⟨1, by omega, by go_num, by simpa using hown1, hb2⟩
      case measure => simp [intOf]
    · go_wp2
      go_ret
      exact ⟨⟨_, rfl, by simpa using ho⟩, hb⟩
set_option maxHeartbeats 1000000 in
set_option maxRecDepth 100000 in
theorem lay16 (B : Nat) (v : Value) (xs : List UInt8) (n : Nat) (w : World) (hn : n ≤ 65535) (hown : OwnB w B v xs) (hx : xs.length ≤ 1024) (hB : B ≤ w.heap.size) :
    Calls Try.prog 55 #[v, .int .u16 n] w fun e w' => (∃ v', e = .returned v' ∧ OwnB w' B v' (xs ++ B16 n)) ∧ Below B w w' := by
  have n1 : (n : Int) / 256 = ((oct (n / 256)).toNat : Int) := by rw [oct_nat (by omega)]; omega
  have n0 : (n : Int) % 256 = ((oct (n % 256)).toNat : Int) := by rw [oct_nat (by omega)]; omega
  have N1 := Lib.hid n1
  have N0 := Lib.hid n0
  clear n1 n0
  go_enter Try.func55, Try.ntmps55
  go_wp2_with (go_at_call 77; refine (size16 w).mono ?_; rintro e w' ⟨rfl, rfl⟩)
  go_loopw [0, 5] (fun s l wr => ∃ k : Nat, k ≤ 2 ∧ l = .int .i64 (1 - (k : Int)) ∧ OwnB wr B s (xs ++ (B16 n).take k) ∧ Below B w wr) (fun _ l _ => ((intOf l) + 1).toNat)
  case atStart => exact ⟨0, by omega, rfl, by simpa using hown, Below.refl _ _⟩
  case round =>
    obtain ⟨k, hk, rfl, ho, hb⟩ := hrel
    have hB1 := Nat.le_trans hB hb.size
    rcases (by omega : k = 0 ∨ k = 1 ∨ k = 2) with rfl | rfl | rfl
    · go_wp2_with (at_builtin; refine app1 (.tmp 12) (.tmp 18) _ _ (oct (n / 256)) N1.out (ho.up ((Below.refl _ _).alloc (Nat.le_refl _) _)) rfl rfl rfl rfl (by go_simp) (by simp; omega) (by simp; omega) ?_; intro v1 w1 hown1 hb1; have hb2 := (hb.alloc hB1 _).trans hb1)
      go_roundw
      case rel => exact ⟨1, by omega, by go_num, by simpa [B16] using hown1, hb2⟩
      case measure => simp [intOf]
    · go_wp2_with (at_builtin; refine app1 (.tmp 12) (.tmp 18) _ _ (oct (n % 256)) N0.out (ho.up ((Below.refl _ _).alloc (Nat.le_refl _) _)) rfl rfl rfl rfl (by go_simp) (by simp [B16]; omega) (by simp; omega) ?_; intro v1 w1 hown1 hb1; have hb2 := (hb.alloc hB1 _).trans hb1)
      go_roundw
      case rel => exact ⟨2, by omega, by go_num, by simpa [B16] using hown1, hb2⟩
      case measure => simp [intOf]
    · go_wp2
      go_ret
      exact ⟨⟨_, rfl, by simpa [B16] using ho⟩, hb⟩
set_option maxHeartbeats 1000000 in
set_option maxRecDepth 100000 in
theorem lay32 (B : Nat) (v : Value) (xs : List UInt8) (n : Nat) (w : World) (hn : n ≤ 4294967295) (hown : OwnB w B v xs) (hx : xs.length ≤ 1024) (hB : B ≤ w.heap.size) :
    Calls Try.prog 54 #[v, .int .u32 n] w fun e w' => (∃ v', e = .returned v' ∧ OwnB w' B v' (xs ++ B32 n)) ∧ Below B w w' := by
  have hq := q_le n hn
  have n3 : (n : Int) / 16777216 = ((oct (q3 n)).toNat : Int) := by rw [oct_nat hq.1]; unfold q3; omega
  have n2 : ((n : Int) / 65536) % 256 = ((oct (q2 n)).toNat : Int) := by rw [oct_nat hq.2.1]; unfold q2; omega
  have n1 : ((n : Int) / 256) % 256 = ((oct (q1 n)).toNat : Int) := by rw [oct_nat hq.2.2.1]; unfold q1; omega
  have n0 : (n : Int) % 256 = ((oct (q0 n)).toNat : Int) := by rw [oct_nat hq.2.2.2]; unfold q0; omega
  have N3 := Lib.hid n3
  have N2 := Lib.hid n2
  have N1 := Lib.hid n1
  have N0 := Lib.hid n0
  clear n3 n2 n1 n0 hq
  go_enter Try.func54, Try.ntmps54
  go_wp2_with (go_at_call 48; refine (size32 w).mono ?_; rintro e w' ⟨rfl, rfl⟩)
  go_loopw [0, 5] (fun s l wr => ∃ k : Nat, k ≤ 4 ∧ l = .int .i64 (3 - (k : Int)) ∧ OwnB wr B s (xs ++ (B32 n).take k) ∧ Below B w wr) (fun _ l _ => ((intOf l) + 1).toNat)
  case atStart => exact ⟨0, by omega, rfl, by simpa using hown, Below.refl _ _⟩
  case round =>
    obtain ⟨k, hk, rfl, ho, hb⟩ := hrel
    have hB1 := Nat.le_trans hB hb.size
    rcases (by omega : k = 0 ∨ k = 1 ∨ k = 2 ∨ k = 3 ∨ k = 4) with rfl | rfl | rfl | rfl | rfl
    · go_wp2_with (at_builtin; refine app1 (.tmp 12) (.tmp 18) _ _ (oct (q3 n)) N3.out (ho.up ((Below.refl _ _).alloc (Nat.le_refl _) _)) rfl rfl rfl rfl (by go_simp) (by simp; omega) (by simp; omega) ?_; intro v1 w1 hown1 hb1; have hb2 := (hb.alloc hB1 _).trans hb1)
      go_roundw
      case rel => exact ⟨1, by omega, by go_num, by simpa [B32] using hown1, hb2⟩
      case measure => simp [intOf]
    · go_wp2_with (at_builtin; refine app1 (.tmp 12) (.tmp 18) _ _ (oct (q2 n)) N2.out (ho.up ((Below.refl _ _).alloc (Nat.le_refl _) _)) rfl rfl rfl rfl (by go_simp) (by simp [B32]; omega) (by simp; omega) ?_; intro v1 w1 hown1 hb1; have hb2 := (hb.alloc hB1 _).trans hb1)
      go_roundw
      case rel => exact ⟨2, by omega, by go_num, by simpa [B32] using hown1, hb2⟩
      case measure => simp [intOf]
    · go_wp2_with (at_builtin; refine app1 (.tmp 12) (.tmp 18) _ _ (oct (q1 n)) N1.out (ho.up ((Below.refl _ _).alloc (Nat.le_refl _) _)) rfl rfl rfl rfl (by go_simp) (by simp [B32]; omega) (by simp; omega) ?_; intro v1 w1 hown1 hb1; have hb2 := (hb.alloc hB1 _).trans hb1)
      go_roundw
      case rel => exact ⟨3, by omega, by go_num, by simpa [B32] using hown1, hb2⟩
      case measure => simp [intOf]
    · go_wp2_with (at_builtin; refine app1 (.tmp 12) (.tmp 18) _ _ (oct (q0 n)) N0.out (ho.up ((Below.refl _ _).alloc (Nat.le_refl _) _)) rfl rfl rfl rfl (by go_simp) (by simp [B32]; omega) (by simp; omega) ?_; intro v1 w1 hown1 hb1; have hb2 := (hb.alloc hB1 _).trans hb1)
      go_roundw
      case rel => exact ⟨4, by omega, by go_num, by simpa [B32] using hown1, hb2⟩
      case measure => simp [intOf]
    · go_wp2
      go_ret
      exact ⟨⟨_, rfl, by simpa [B32] using ho⟩, hb⟩

def R32 (a b c d : Int) : Nat → Int
  | 0 => 0
  | 1 => a * 16777216
  | 2 => a * 16777216 + b * 65536
  | 3 => a * 16777216 + b * 65536 + c * 256
  | _ => a * 16777216 + b * 65536 + c * 256 + d
theorem or32i (x y : Int) (i a : Nat) (hx : x = a * 2 ^ i) (h0 : 0 ≤ x) (hy : 0 ≤ y ∧ y < 2 ^ i) (h : x + y < 4294967296) : bits .or .u32 x y = x + y := by
  obtain ⟨n, rfl⟩ := Int.eq_ofNat_of_zero_le h0
  obtain ⟨m, rfl⟩ := Int.eq_ofNat_of_zero_le hy.1
  have e : n = a * 2 ^ i := by exact_mod_cast hx
  rw [or32 n m (by omega) (by omega), e, or_add a i m (by exact_mod_cast hy.2)]
  simp
theorem or16i (x y : Int) (i a : Nat) (hx : x = a * 2 ^ i) (h0 : 0 ≤ x) (hy : 0 ≤ y ∧ y < 2 ^ i) (h : x + y < 65536) : bits .or .u16 x y = x + y := by
  obtain ⟨n, rfl⟩ := Int.eq_ofNat_of_zero_le h0
  obtain ⟨m, rfl⟩ := Int.eq_ofNat_of_zero_le hy.1
  have e : n = a * 2 ^ i := by exact_mod_cast hx
  rw [or16 n m (by omega) (by omega), e, or_add a i m (by exact_mod_cast hy.2)]
  simp

set_option maxHeartbeats 1000000 in
set_option maxRecDepth 100000 in
theorem at16 (s : ByteArray) (p : Nat) (w : World) (hs : s.size ≤ 1099511627776) (hp : p + 2 ≤ s.size) :
    Calls Try.prog 50 #[.string s, .int .i64 p] w fun e w' => e = .returned (.int .u16 (wd (L s) p)) ∧ w = w' := by
  have b0 := bt_bd (L s) p; have b1 := bt_bd (L s) (p + 1)
  have e0 := bt_at s p (by omega); have e1 := bt_at s (p + 1) (by omega)
  have o0 := Lib.hid (or16i 0 (bt (L s) p * 256) 16 0 (by omega) (by omega) (by omega) (by omega))
  have o1 := Lib.hid (or16i (bt (L s) p * 256) (bt (L s) (p + 1)) 8 (bt (L s) p).toNat (by omega) (by omega) (by omega) (by omega))
  have E : wd (L s) p = bt (L s) p * 256 + bt (L s) (p + 1) := rfl
  rw [← e0, ← e1] at E o1
  rw [← e0] at o0
  have HE := Lib.hid E; clear E
  rw [← e0] at b0; rw [← e1] at b1
  clear e0 e1
  go_enter Try.func50, Try.ntmps50
  go_wp2_with (go_at_call 77; refine (size16 w).mono ?_; rintro e w' ⟨rfl, rfl⟩)
  go_loop [6, 20] (fun n i => ∃ (k : Nat), k ≤ 2 ∧ i = .int .i64 (k : Nat) ∧ Hid (n = .int .u16 (if k = 0 then 0 else if k = 1 then (s[p].toNat : Int) * 256 else (s[p].toNat : Int) * 256 + (s[p + 1].toNat : Int)))) (fun _ i => 2 - (intOf i).toNat)
  case atStart => exact ⟨0, by omega, rfl, rfl⟩
  case round =>
    obtain ⟨k, hk, rfl, hn⟩ := hrel
    rcases (by omega : k = 0 ∨ k = 1 ∨ k = 2) with rfl | rfl | rfl
    · obtain rfl := hn.out
      have oo := o0.out
      rw [Int.zero_add] at oo
      go_wp2
      go_round
      case rel => exact ⟨1, by omega, by go_num, by unfold Hid; simp [oo]⟩
      case measure => simp [intOf]
    · obtain rfl := hn.out
      go_wp2
      go_round
      case rel => exact ⟨2, by omega, by go_num, by unfold Hid; simp [o1.out]⟩
      case measure => simp [intOf]
    · obtain rfl := hn.out
      go_wp2
      go_ret
      exact ⟨ret_int HE.out.symm, rfl⟩

set_option maxHeartbeats 1000000 in
set_option maxRecDepth 100000 in
theorem at32 (s : ByteArray) (p : Nat) (w : World) (hs : s.size ≤ 1099511627776) (hp : p + 4 ≤ s.size) :
    Calls Try.prog 71 #[.string s, .int .i64 p] w fun e w' => e = .returned (.int .u32 (qd (L s) p)) ∧ w = w' := by
  have b0 := bt_bd (L s) p; have b1 := bt_bd (L s) (p + 1); have b2 := bt_bd (L s) (p + 2); have b3 := bt_bd (L s) (p + 3)
  have e0 := bt_at s p (by omega); have e1 := bt_at s (p + 1) (by omega); have e2 := bt_at s (p + 2) (by omega); have e3 := bt_at s (p + 3) (by omega)
  have E : qd (L s) p = R32 (bt (L s) p) (bt (L s) (p + 1)) (bt (L s) (p + 2)) (bt (L s) (p + 3)) 4 := by
    show (bt (L s) p * 256 + bt (L s) (p + 1)) * 65536 + (bt (L s) (p + 2) * 256 + bt (L s) (p + 3)) = bt (L s) p * 16777216 + bt (L s) (p + 1) * 65536 + bt (L s) (p + 2) * 256 + bt (L s) (p + 3)
    omega
  have o0 := or32i 0 (bt (L s) p * 16777216) 32 0 (by omega) (by omega) (by omega) (by omega)
  have o1 := or32i (bt (L s) p * 16777216) (bt (L s) (p + 1) * 65536) 24 (bt (L s) p).toNat (by omega) (by omega) (by omega) (by omega)
  have o2 := or32i (bt (L s) p * 16777216 + bt (L s) (p + 1) * 65536) (bt (L s) (p + 2) * 256) 16 (bt (L s) p * 256 + bt (L s) (p + 1)).toNat (by omega) (by omega) (by omega) (by omega)
  have o3 := or32i (bt (L s) p * 16777216 + bt (L s) (p + 1) * 65536 + bt (L s) (p + 2) * 256) (bt (L s) (p + 3)) 8 (bt (L s) p * 65536 + bt (L s) (p + 1) * 256 + bt (L s) (p + 2)).toNat (by omega) (by omega) (by omega) (by omega)
  rw [← e0, ← e1, ← e2, ← e3] at E o3
  rw [← e0] at o0
  rw [← e0, ← e1] at o1
  rw [← e0, ← e1, ← e2] at o2
  rw [← e0] at b0; rw [← e1] at b1; rw [← e2] at b2; rw [← e3] at b3
  clear e0 e1 e2 e3
  obtain ⟨R, r0, r1, r2, r3, r4, rE⟩ : ∃ R : Nat → Int, R 0 = 0 ∧ Hid (bits .or .u32 (R 0) ((s[p].toNat : Int) * 16777216) = R 1) ∧ Hid (bits .or .u32 (R 1) ((s[p + 1].toNat : Int) * 65536) = R 2) ∧ Hid (bits .or .u32 (R 2) ((s[p + 2].toNat : Int) * 256) = R 3)
      ∧ Hid (bits .or .u32 (R 3) (s[p + 3].toNat : Int) = R 4) ∧ Hid (qd (L s) p = R 4) := by
    refine ⟨R32 (s[p].toNat : Int) (s[p + 1].toNat : Int) (s[p + 2].toNat : Int) (s[p + 3].toNat : Int), rfl, ?_, ?_, ?_, ?_, E⟩
    · exact o0.trans (Int.zero_add _)
    · exact o1
    · exact o2
    · exact o3
  clear o0 o1 o2 o3 E
  have R0 := Lib.hid r0; clear r0
  go_enter Try.func71, Try.ntmps71
  go_wp2_with (go_at_call 48; refine (size32 w).mono ?_; rintro e w' ⟨rfl, rfl⟩)
  go_loop [6, 20] (fun n i => ∃ (k : Nat), k ≤ 4 ∧ i = .int .i64 (k : Nat) ∧ n = .int .u32 (R k)) (fun _ i => 4 - (intOf i).toNat)
  case atStart => exact ⟨0, by omega, rfl, by rw [R0.out]⟩
  case round =>
    obtain ⟨k, hk, rfl, rfl⟩ := hrel
    rcases (by omega : k = 0 ∨ k = 1 ∨ k = 2 ∨ k = 3 ∨ k = 4) with rfl | rfl | rfl | rfl | rfl
    · go_wp2
      go_round
      case rel => exact ⟨1, by omega, by go_num, by rw [← r1.out]⟩
      case measure => simp [intOf]
    · go_wp2
      go_round
      case rel => exact ⟨2, by omega, by go_num, by rw [← r2.out]⟩
      case measure => simp [intOf]
    · go_wp2
      go_round
      case rel => exact ⟨3, by omega, by go_num, by rw [← r3.out]⟩
      case measure => simp [intOf]
    · go_wp2
      go_round
      case rel => exact ⟨4, by omega, by go_num, by rw [← r4.out]⟩
      case measure => simp [intOf]
    · go_wp2
      go_ret
      exact ⟨ret_int rE.out.symm, rfl⟩
theorem at16i (s : ByteArray) (p : Int) (w : World) (hs : s.size ≤ 1099511627776) (hp : 0 ≤ p ∧ p + 2 ≤ (s.size : Int)) :
    Calls Try.prog 50 #[.string s, .int .i64 p] w fun e w' => e = .returned (.int .u16 (wd (L s) p.toNat)) ∧ w = w' := by
  obtain ⟨n, rfl⟩ := Int.eq_ofNat_of_zero_le hp.1
  exact at16 s n w hs (by omega)
theorem at32i (s : ByteArray) (p : Int) (w : World) (hs : s.size ≤ 1099511627776) (hp : 0 ≤ p ∧ p + 4 ≤ (s.size : Int)) :
    Calls Try.prog 71 #[.string s, .int .i64 p] w fun e w' => e = .returned (.int .u32 (qd (L s) p.toNat)) ∧ w = w' := by
  obtain ⟨n, rfl⟩ := Int.eq_ofNat_of_zero_le hp.1
  exact at32 s n w hs (by omega)
end Go.Proofs.Ytafckmbgefbonaa.nb
