/- A law of ip, walked: what was written is read; a packet of which one bit of the head is turned, one that is cut off, one that is longer, is not. Condition: the arguments fit their kinds. -/
import Derived.Test.YtolebodpcefcfaaIpK
namespace Go.Proofs.Ytolebodpcefcfaa.ip
open Go.RowKit Go.Shelf Go.Proofs.Ytolebodpcefcfaa.sm Go.Proofs.Ytolebodpcefcfaa.nb Go.Proofs.Ytolebodpcefcfaa.im
set_option linter.unusedVariables false

/-- a text's bytes in new memory -/
def Row (W : World) (B : Nat) (xs : List Int) : Prop := ∀ i, i < xs.length → W.cell? ⟨B, i, none⟩ = some (.int .u8 (xs.getD i 0)) ∧ W.frozen? ⟨B, i, none⟩ = false
def nums (x : ByteArray) : List Int := (L x).map fun c => (c.toNat : Int)
theorem nums_len (x : ByteArray) : (nums x).length = x.size := by rw [nums, List.length_map, L_len]
theorem conv_in (x : ByteArray) (w : World) : ∃ (cap : Nat) (W : World), (convert 9 38 (.string x)).run Try.prog w = .ok (.slice (some ⟨w.heap.size, 0, none⟩) x.size cap) W ∧ Up w W ∧ Row W w.heap.size (nums x) := by
  refine ⟨_, _, run_bytes_of_string w 9 38 5 x Try.underlying9 Try.underlying38 Try.underlying5, up_al _ (up_dr (Below.refl _ _)), fun i hi => ?_⟩
  rw [nums_len] at hi
  have hb : (w.drew.alloc (.cells (bytesRow x (grownCap w x.size 0 5)) 5 ((bytesRow x (grownCap w x.size 0 5)).size, (bytesRow x (grownCap w x.size 0 5)).size + 1))).heap[w.heap.size]? =
    some (.cells (bytesRow x (grownCap w x.size 0 5)) 5 ((bytesRow x (grownCap w x.size 0 5)).size, (bytesRow x (grownCap w x.size 0 5)).size + 1)) := World.alloc_heap_new w.drew _
  generalize grownCap w x.size 0 5 = c at *
  have hz : x.size ≤ (bytesRow x c).size := by unfold bytesRow; rw [Array.size_append, Array.size_map]; show x.data.size ≤ _; omega
  refine ⟨?_, ?_⟩
  · simp only [World.cell?, hb]
    show (bytesRow x c)[i]? = _
    have h1 : i < (x.data.map (fun b => Value.int .u8 b.toNat)).size := by rw [Array.size_map]; exact hi
    have h2 : i < (L x).length := hi
    unfold bytesRow
    rw [Array.getElem?_append_left h1, Array.getElem?_eq_getElem h1, Array.getElem_map, nums, List.getD, List.getElem?_map, List.getElem?_eq_getElem h2]
    rfl
  · simp only [World.frozen?, hb]
    simp
    omega
theorem Row.set {W : World} {B : Nat} {xs : List Int} (h : Row W B xs) (k : Nat) (v : Int) (hk : k < xs.length) : Row (W.setCell ⟨B, k, none⟩ (.int .u8 v)) B (xs.set k v) := fun i hi => by
  rw [List.length_set] at hi
  obtain ⟨h1, h2⟩ := h i hi
  refine ⟨?_, by rw [World.frozen?_setCell]; exact h2⟩
  by_cases hik : i = k
  · subst hik
    rw [World.cell?_setCell_same' _ _ _ (by rw [h1]; rfl)]
    simp [hi]
  · rw [World.cell?_setCell_other _ _ _ _ (by intro e; cases e; exact hik rfl), h1]
    simp [List.getD, List.getElem?_set, Ne.symm hik]
theorem row_back {W : World} {B : Nat} {xs : List Int} (h : Row W B xs) (n cap : Nat) (hn : xs.length = n) (m : Nat) : (convert 38 9 (.slice (some ⟨B, 0, none⟩) n cap)).run Try.prog (W.drewN m) = .ok (.string (strOfNums xs)) (W.drewN m) :=
  run_convert_bytes_arg _ 38 5 Try.underlying38 Try.underlying5 B 0 n cap xs hn (fun i hi => by rw [World.cell?_drewN, Nat.zero_add]; exact (h i (by omega)).1) 9 Try.underlying9

theorem row_back0 {W : World} {B : Nat} {xs : List Int} (h : Row W B xs) (n cap : Nat) (hn : xs.length = n) : (convert 38 9 (.slice (some ⟨B, 0, none⟩) n cap)).run Try.prog W = .ok (.string (strOfNums xs)) W :=
  run_convert_bytes_arg _ 38 5 Try.underlying38 Try.underlying5 B 0 n cap xs hn (fun i hi => by rw [Nat.zero_add]; exact (h i (by omega)).1) 9 Try.underlying9
theorem flip_nat : ∀ x : Fin 256, ∀ m : Fin 8, ((x.val ^^^ 2 ^ m.val) = x.val + 2 ^ m.val ∨ (x.val ^^^ 2 ^ m.val) + 2 ^ m.val = x.val) ∧ (x.val ^^^ 2 ^ m.val) < 256 := by decide +kernel
theorem flip8 (x m : Nat) (hx : x ≤ 255) (hm : m < 8) : ∃ y : Nat, y ≤ 255 ∧ bits .xor .u8 (x : Int) ((2 ^ m : Nat) : Int) = (y : Int) ∧ Bit (x : Int) (y : Int) := by
  obtain ⟨h1, h2⟩ := flip_nat ⟨x, by omega⟩ ⟨m, hm⟩
  simp only at h1 h2
  have hp : 2 ^ m < 256 := by
    rcases (by omega : m = 0 ∨ m = 1 ∨ m = 2 ∨ m = 3 ∨ m = 4 ∨ m = 5 ∨ m = 6 ∨ m = 7) with rfl | rfl | rfl | rfl | rfl | rfl | rfl | rfl <;> decide
  refine ⟨x ^^^ 2 ^ m, by omega, ?_, m, hm, ?_⟩
  · have := u8_xor_nat x (2 ^ m) (by omega) hp
    exact this
  · have e : ((2 ^ m : Nat) : Int) = (2 : Int) ^ m := by simp
    rcases h1 with h1 | h1
    · left; rw [h1]; simp
    · right; have : ((x ^^^ 2 ^ m : Nat) : Int) + ((2 ^ m : Nat) : Int) = (x : Int) := by exact_mod_cast h1
      rw [e] at this; omega
theorem set_str1 (x : ByteArray) (k a : Nat) (ha : a ≤ 255) : L (strOfNums ((nums x).set k a)) = (L x).set k (UInt8.ofNat a) := by
  show (strOfNums _).data.toList = _
  rw [strOfNums_data, nums, List.map_set, List.map_map]
  have e : (L x).map ((fun n : Int => UInt8.ofNat n.toNat) ∘ fun c : UInt8 => (c.toNat : Int)) = L x := by
    conv => rhs; rw [← List.map_id (L x)]
    apply List.map_congr_left
    intro c _
    simp
  rw [e]
  simp
theorem nums_at (x : ByteArray) (k : Nat) (h : k < x.size) : (nums x).getD k 0 = bt (L x) k := by
  have h2 : k < (L x).length := h
  rw [bt_get _ _ h2, nums, List.getD, List.getElem?_map, List.getElem?_eq_getElem h2]; rfl
theorem decS (a b p t s i : Nat) (d : Bool) (l S : ByteArray) (w : World) (h : Ok a b p t s i) (hl : l.size ≤ 2048) (hS : S = tx (en a b p t s i d (L l))) :
    Calls Try.prog 10 #[.string S] w fun e w' => e = .returned (.tuple #[HV a b p t s i d, .string l, .int .i64 0]) ∧ Up w w' :=
  (decodeC S w (by rw [enS_size hS]; omega)).mono fun e w' hh => ⟨by rw [hh.1, hS, L_tx, DV_en h (by rw [L_len]; omega), tx_L], hh.2⟩
theorem decErr (T : ByteArray) (n : Nat) (w : World) (hz : T.size ≤ 4096) (hn : dec (L T) = n) (h0 : n ≠ 0) :
    Calls Try.prog 10 #[.string T] w fun e w' => e = .returned (.tuple #[HV 0 0 0 0 0 0 false, .string { data := #[] }, .int .i64 n]) ∧ Up w w' :=
  (decodeC T w (by omega)).mono fun e w' hh => ⟨by rw [hh.1, DV_err hn h0]; rfl, hh.2⟩

set_option maxHeartbeats 4000000 in
set_option maxRecDepth 100000 in
theorem lawBack (a b p t s i : Nat) (d : Bool) (l : ByteArray) (bit cut : Nat) (w : World) (h : Ok a b p t s i) (hm : l.size ≤ maxLen) (hbit : bit ≤ 255) (hcut : cut ≤ 65535) :
    Calls Try.prog 5 #[HV a b p t s i d, .string l, .int .u8 bit, .int .u16 cut] w fun e w' => e = .returned (.bool true) ∧ Up w w' := by
  by_cases hl : l.size ≤ 2048
  case neg =>
    have hl' : 2048 < l.size := by omega
    go_enter Try.func5, Try.ntmps5
    go_wp2_with fail
    refine (aliveC _).mono ?_
    rintro e w1 ⟨rfl, hv⟩
    go_wp2
    go_ret
    exact ⟨rfl, (up_al _ (Below.refl _ _)).on hv⟩
  clear hm
  obtain ⟨S, hS⟩ : ∃ S, S = tx (en a b p t s i d (L l)) := ⟨_, rfl⟩
  have z := enS_size hS
  have HS := Lib.hid hS
  -- the bit that is turned
  obtain ⟨k, hk⟩ : ∃ k, k = bit % 160 := ⟨_, rfl⟩
  have hk1 : k < 160 := by omega
  have hkI : (bit : Int) % 160 = (k : Int) := by omega
  obtain ⟨j, hj⟩ : ∃ j, j = k / 8 := ⟨_, rfl⟩
  have hj1 : j < 20 := by omega
  have hjI : (k : Int) / 8 = (j : Int) := by omega
  obtain ⟨m, hmk⟩ : ∃ m, m = k % 8 := ⟨_, rfl⟩
  have hm1 : m < 8 := by omega
  have hmI : (k : Int) % 8 = (m : Int) := by omega
  have hjS : j < S.size := by omega
  obtain ⟨x, hx⟩ : ∃ x : Nat, (x : Int) = bt (L S) j := ⟨(bt (L S) j).toNat, by have := bt_bd (L S) j; omega⟩
  have hx1 : x ≤ 255 := by have := bt_bd (L S) j; omega
  obtain ⟨y, hy1, hy, hyb⟩ := flip8 x m hx1 hm1
  have hnx : (nums S).getD j 0 = (x : Int) := by rw [nums_at S j hjS, hx]
  obtain ⟨T, hT⟩ : ∃ T, T = strOfNums ((nums S).set j y) := ⟨_, rfl⟩
  have hLT : L T = (L S).set j (UInt8.ofNat y) := by rw [hT]; exact set_str1 S j y hy1
  have zT : T.size = S.size := by rw [← L_len, hLT, List.length_set, L_len]
  have hyN : (UInt8.ofNat y).toNat = y := by rw [UInt8.toNat_ofNat']; omega
  have hdT : dec (L T) ≠ 0 := by
    rw [hLT]
    refine hurt (L S) j (UInt8.ofNat y) hj1 (by rw [L_len]; omega) ?_ (by rw [hyN, ← hx]; exact hyb)
    rw [hS, L_tx, en_take]; exact hc_right _ _ _ _ _ _ _ _
  have hdC : dec (L (S.extract 0 (cut % S.size))) ≠ 0 := by
    rw [L_extract, List.drop_zero, hS, L_tx]
    exact short (by rw [L_len]; omega) _ (by have := Nat.mod_lt cut (show 0 < S.size by omega); rw [← hS, z, L_len] at *; simpa using this)
  have hdL : dec (L (S ++ { data := #[0] })) = 53 := by
    rw [L_app, hS, L_tx]
    exact longer (by rw [L_len]; omega) 0
  obtain ⟨C, hC⟩ : ∃ C, C = S.extract 0 (cut % S.size) := ⟨_, rfl⟩
  have zC : C.size ≤ 2068 := by have := Nat.mod_lt cut (show 0 < S.size by omega); rw [hC]; simp; omega
  rw [← hC] at hdC
  have HC := Lib.hid hC
  have CT := Lib.hid (fun w => decErr T (dec (L T)) w (by omega) rfl hdT)
  have CC := Lib.hid (fun w => decErr C (dec (L C)) w (by omega) rfl hdC)
  have CL := Lib.hid (fun w => decErr (S ++ { data := #[0] }) 53 w (by rw [ByteArray.size_append]; have : ({ data := #[0] } : ByteArray).size = 1 := rfl; omega) hdL (by decide))
  generalize dec (L T) = e1 at CT hdT
  generalize dec (L C) = e2 at CC hdC
  have HT := Lib.hid hT
  have q1 : ¬ (e1 : Int) = 0 := by omega
  have q2 : ¬ (e2 : Int) = 0 := by omega
  have p1 := Lib.hid (show ((e1 : Int) != 0) = true by rw [bne_dec]; exact decide_eq_true q1)
  have p2 := Lib.hid (show ((e2 : Int) != 0) = true by rw [bne_dec]; exact decide_eq_true q2)
  have hy2 : bits .xor .u8 (x : Int) ((2 : Int) ^ m % 256) = (y : Int) := by
    rw [← hy]
    have hp := pow_lt8 hm1
    congr 1
    rw [show ((2 ^ m : Nat) : Int) = (2 : Int) ^ m by simp]
    omega
  clear hdL hLT hyN hyb hx hk hj hmk hT hS hC hdT hdC
  go_enter Try.func5, Try.ntmps5
  go_upto_region 3 with fail
  have U0 : Up w (w.alloc (.cells #[.int .u32 a, .int .u32 b, .int .u8 p, .int .u8 t, .int .u8 s, .int .u16 i, .bool d] 25)) := up_al _ (Below.refl _ _)
  have A0 := Box.new w #[.int .u32 a, .int .u32 b, .int .u8 p, .int .u8 t, .int .u8 s, .int .u16 i, .bool d] 25
  generalize (w.alloc (.cells #[.int .u32 a, .int .u32 b, .int .u8 p, .int .u8 t, .int .u8 s, .int .u16 i, .bool d] 25)) = w0 at U0 A0 ⊢
  generalize w.heap.size = n0 at A0 ⊢
  obtain ⟨k0, k1, k2, k3, k4, k5, k6⟩ := Box.e7 A0
  go_wp2_with fail
  refine (encS a b p t s i d l S w0 h hl HS.out).mono ?_
  rintro e v1 ⟨rfl, hv1⟩
  have U1 := U0.on hv1
  have A1 := A0.up hv1
  clear k0 k1 k2 k3 k4 k5 k6 U0 A0 hv1
  go_wp2_with fail
  refine (decS a b p t s i d l S v1 h hl HS.out).mono ?_
  rintro e v2 ⟨rfl, hv2⟩
  go_upto_region 5 with fail
  have U2 : Up w (v2.alloc (.cells #[.int .u32 a, .int .u32 b, .int .u8 p, .int .u8 t, .int .u8 s, .int .u16 i, .bool d] 25)) := up_al _ (U1.on hv2)
  have A2 := (A1.up hv2).alloc (.cells #[.int .u32 a, .int .u32 b, .int .u8 p, .int .u8 t, .int .u8 s, .int .u16 i, .bool d] 25)
  have B2 := Box.new v2 #[.int .u32 a, .int .u32 b, .int .u8 p, .int .u8 t, .int .u8 s, .int .u16 i, .bool d] 25
  generalize (v2.alloc (.cells #[.int .u32 a, .int .u32 b, .int .u8 p, .int .u8 t, .int .u8 s, .int .u16 i, .bool d] 25)) = w2 at U2 A2 B2 ⊢
  generalize v2.heap.size = n1 at B2 ⊢
  clear U1 A1 hv2
  obtain ⟨k0, k1, k2, k3, k4, k5, k6⟩ := Box.e7 A2
  obtain ⟨m0, m1, m2, m3, m4, m5, m6⟩ := Box.e7 B2
  go_upto_region 7 with fail
  clear k0 k1 k2 k3 k4 k5 k6 m0 m1 m2 m3 m4 m5 m6 A2 B2
  obtain ⟨cap, W, hcv, hUW, hRow⟩ := conv_in S w2
  have U3 := U2.on hUW
  have hrg := (hRow j (by rw [nums_len]; exact hjS))
  rw [hnx] at hrg
  obtain ⟨d1, f1⟩ := hrg
  go_upto_region 9 with fail
  rw [hkI]
  go_upto_region 10 with fail
  clear hy2
  have hR1 := hRow.set j (y : Int) (by rw [nums_len]; exact hjS)
  have U4 : Up w (W.setCell ⟨w2.heap.size, j, none⟩ (.int .u8 (y : Int))) := up_set U3 U2.size
  generalize W.setCell ⟨w2.heap.size, j, none⟩ (.int .u8 (y : Int)) = w4 at hR1 U4 ⊢
  have hbk := row_back0 hR1 (20 + l.size) cap (by rw [List.length_set, nums_len, z])
  rw [← HT.out] at hbk
  clear hcv hUW hRow U3 d1 f1 hR1 U2
  generalize w2.heap.size = n2 at hbk ⊢
  go_wp2_with fail
  refine (CT.out _).mono ?_
  rintro e v5 ⟨rfl, hv5⟩
  go_upto_region 11 with fail
  have U5 : Up w (v5.alloc (.cells #[.int .u32 0, .int .u32 0, .int .u8 0, .int .u8 0, .int .u8 0, .int .u16 0, .bool false] 25)) := up_al _ (U4.on hv5)
  generalize (v5.alloc (.cells #[.int .u32 0, .int .u32 0, .int .u8 0, .int .u8 0, .int .u8 0, .int .u16 0, .bool false] 25)) = w5 at U5 ⊢
  clear U4 hv5 hbk
  have g4 : ¬ (20 + (l.size : Int)) = 0 := by omega
  have g1 : (0 : Int) ≤ (cut : Int) % (20 + (l.size : Int)) := Int.emod_nonneg _ g4
  have g2 : (cut : Int) % (20 + (l.size : Int)) ≤ 20 + (l.size : Int) := Int.le_of_lt (Int.emod_lt_of_pos _ (by omega))
  have g3 : ((cut : Int) % (20 + (l.size : Int))).toNat = cut % (20 + l.size) := by
    rw [show (20 + (l.size : Int)) = ((20 + l.size : Nat) : Int) by simp, ← Int.natCast_emod, Int.toNat_natCast]
  go_wp2_with fail
  rw [show cut % (20 + l.size) = cut % S.size by rw [z], ← HC.out]
  clear g1 g2 g3 g4
  refine (CC.out _).mono ?_
  rintro e v6 ⟨rfl, hv6⟩
  go_upto_region 12 with fail
  have U6 : Up w (v6.alloc (.cells #[.int .u32 0, .int .u32 0, .int .u8 0, .int .u8 0, .int .u8 0, .int .u16 0, .bool false] 25)) := up_al _ (U5.on hv6)
  generalize (v6.alloc (.cells #[.int .u32 0, .int .u32 0, .int .u8 0, .int .u8 0, .int .u8 0, .int .u16 0, .bool false] 25)) = w6 at U6 ⊢
  clear U5 hv6
  go_wp2_with fail
  refine (CL.out _).mono ?_
  rintro e v7 ⟨rfl, hv7⟩
  go_upto_region 13 with fail
  have U7 : Up w (v7.alloc (.cells #[.int .u32 0, .int .u32 0, .int .u8 0, .int .u8 0, .int .u8 0, .int .u16 0, .bool false] 25)) := up_al _ (U6.on hv7)
  generalize (v7.alloc (.cells #[.int .u32 0, .int .u32 0, .int .u8 0, .int .u8 0, .int .u8 0, .int .u16 0, .bool false] 25)) = w7 at U7 ⊢
  clear U6 hv7
  go_wp2_with fail
  refine (aliveC _).mono ?_
  rintro e w8 ⟨rfl, hv8⟩
  go_wp2
  go_ret
  exact ⟨ret_bool (by rw [p1.out, p2.out]; rfl), U7.on hv8⟩
end Go.Proofs.Ytolebodpcefcfaa.ip
