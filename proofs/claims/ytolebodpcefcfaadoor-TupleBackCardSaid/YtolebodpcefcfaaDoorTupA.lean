/- Package wire: the sizes of numbers, their bytes. Condition: the arguments fit their kinds. -/
import Derived.Test.YtolebodpcefcfaaDoorRows
import Derived.Test.YtolebodpcefcfaaDoorTupM
import Derived.Test.YtolebodpcefcfaaDoorTupLaid
import Derived.Shelf.Strconv.Itoa0
import Derived.WalkKit
import Derived.ProofKit
import Derived.WalkSmall
import Derived.Lib.Hide
import Derived.Lib.AppendIntMem
import Derived.OwnWalk
import Derived.BigQuiet
import Derived.IntWalk
import Derived.Laws.BitsAllLaws
import Derived.Laws.Bits64b
import Derived.Laws.Shifts
import Derived.Outline
namespace Go.Proofs.YtolebodpcefcfaaDoor.tu
open Go.RowKit Go.Shelf Go.Proofs.YtolebodpcefcfaaDoor.tm
set_option linter.unusedVariables false

theorem ret_int {k : IntKind} {a b : Int} (h : a = b) : Ending.returned (.int k a) = .returned (.int k b) := by rw [h]
theorem ret_bool {a b : Bool} (h : a = b) : Ending.returned (.bool a) = .returned (.bool b) := by rw [h]
/-- a text's bytes -/
abbrev L (s : ByteArray) : List UInt8 := s.data.toList
theorem L_len (s : ByteArray) : (L s).length = s.size := rfl
/-- a world above w0 -/
abbrev Up (w0 w : World) : Prop := Below w0.heap.size w0 w
theorem up_al {w0 w : World} (o : Obj) (h : Up w0 w) : Up w0 (w.alloc o) := h.alloc h.size _
theorem up_dr {w0 w : World} (h : Up w0 w) : Up w0 w.drew := h.drew
theorem up_drN {w0 w : World} (n : Nat) (h : Up w0 w) : Up w0 (w.drewN n) := below_drewN h n
theorem Up.on {w0 w w' : World} (h : Up w0 w) (h' : Up w w') : Up w0 w' := h.trans (h'.mono h.size)

theorem size8 (w : World) : Calls Tryd.prog 37 #[] w fun e w' => e = .returned (.int .i64 1) ∧ w = w' := by
  have q : Lib.bitLen 255 = 8 := by decide +kernel
  go_enter Tryd.func37, Tryd.ntmps37
  go_wp2_with (go_at_call 45; refine (Any.bits_Len64 Tryd.lLen64 255 w (by decide) (by decide)).mono ?_; rintro e w' ⟨rfl, rfl⟩)
  go_ret
  exact ⟨ret_int (by decide), rfl⟩

theorem size16 (w : World) : Calls Tryd.prog 34 #[] w fun e w' => e = .returned (.int .i64 2) ∧ w = w' := by
  have q : Lib.bitLen 65535 = 16 := by decide +kernel
  go_enter Tryd.func34, Tryd.ntmps34
  go_wp2_with (go_at_call 45; refine (Any.bits_Len64 Tryd.lLen64 65535 w (by decide) (by decide)).mono ?_; rintro e w' ⟨rfl, rfl⟩)
  go_ret
  exact ⟨ret_int (by decide), rfl⟩

theorem size32 (w : World) : Calls Tryd.prog 38 #[] w fun e w' => e = .returned (.int .i64 4) ∧ w = w' := by
  have q : Lib.bitLen 4294967295 = 32 := by decide +kernel
  go_enter Tryd.func38, Tryd.ntmps38
  go_wp2_with (go_at_call 45; refine (Any.bits_Len64 Tryd.lLen64 4294967295 w (by decide) (by decide)).mono ?_; rintro e w' ⟨rfl, rfl⟩)
  go_ret
  exact ⟨ret_int (by decide), rfl⟩

/-! ### bytes that a call has gathered -/
abbrev BC (xs : List UInt8) : List Value := Lib.byteCells xs
def OwnB (w : World) (B : Nat) (v : Value) (xs : List UInt8) : Prop := w.ownsRow B 5 1 v xs.length (BC xs)
theorem OwnB.nil_ (w : World) (B : Nat) : OwnB w B (.slice none 0 0) [] := World.ownsRow_nil _ _ _ _
theorem kept_below {w w' : World} {B e size n : Nat} {v : Value} {xs : List Value} (h : w.ownsRow B e size v n xs) (hb : Below w.heap.size w w') : w'.ownsRow B e size v n xs := by
  refine ⟨h.1, ?_⟩
  rcases h.2 with hn | ⟨g, cap, cur, rfl, hB, hgg, rest⟩
  · exact .inl hn
  · exact .inr ⟨g, cap, cur, rfl, hB, (hb.block g (Array.getElem?_eq_some_iff.1 hgg).1).trans hgg, rest⟩
theorem OwnB.up {w w' : World} {B : Nat} {v : Value} {xs : List UInt8} (h : OwnB w B v xs) (hb : Up w w') : OwnB w' B v xs := kept_below h hb
theorem own_form {w : World} {B e size n : Nat} {v : Value} {xs : List Value} (h : w.ownsRow B e size v n xs) : (v = .slice none 0 0 ∧ n = 0) ∨ ∃ g cap, v = .slice (some ⟨g, 0, none⟩) n cap ∧ B ≤ g ∧ g < w.heap.size ∧ n ≤ cap ∧ cap ≤ maxLen := by
  rcases h.2 with hn | ⟨g, cap, cur, rfl, hB, hgg, h1, h2, _⟩
  · exact .inl hn
  · exact .inr ⟨g, cap, rfl, hB, (Array.getElem?_eq_some_iff.1 hgg).1, h1, h2⟩
theorem info5 : (Tryd.prog.info? 5).map (fun i => (i.zero, i.size, i.bytes)) = some (some (.int .u8 0), 1, 1) := by kernel_rfl
section
variable {ops : Array Oper} {rest : List Oper} {o : Oper} {a : Act} {Q : Exit → Act → World → Prop} {w : World} {B : Nat} {v : Value}
theorem app1 {ps : List UInt8} (s x : Operand) (g : Nat) (u : Int) (c : UInt8) (hu : u = (c.toNat : Int)) (hown : OwnB w B v ps) (hgd : o.guard = none) (ho : o.op = .call { callee := .builtin .append, args := #[s, x], argTypes := #[43, 43] })
    (hs : a.eval s = v) (hx : a.eval x = .slice (some ⟨g, 0, none⟩) 1 1) (hc : w.cell? ⟨g, 0, none⟩ = some (.int .u8 u)) (hn : ps.length < 1099511627776) (hB : B ≤ w.heap.size)
    (h : ∀ v' w', OwnB w' B v' (ps ++ [c]) → Below B w w' → wpList Tryd.prog ops Q rest (a.put o.dst v') w') : wpList Tryd.prog ops Q (o :: rest) a w := by
  subst hu
  obtain ⟨i0, hi, hz0, hz1, hz2⟩ := info_parts info5
  refine wpList_append_own w hgd s x 43 ho B 5 i0 (.int .u8 0) 1 1 Tryd.underlying43 hi hz0 hz1 hz2 rfl (by decide) v ps.length _ hs hown ⟨g, 0, none⟩ 1 1 [.int .u8 (c.toNat : Int)] hx rfl ?_ ?_ (by unfold maxLen; omega) (by omega) hB ?_
  · intro j u' hj
    match j, hj with
    | 0, hj => simp at hj; subst hj; exact hc
  · intro u' hu; simp at hu; subst hu; rfl
  · intro v' w' ho' hg _
    exact h v' w' (by unfold OwnB; rw [show BC (ps ++ [c]) = BC ps ++ [.int .u8 (c.toNat : Int)] by simp [BC, Lib.byteCells], List.length_append]; exact ho') ((Below.refl B w).grown hg hB (fun k hk => (hown.lt k hk).1))
end

/-- a number's bytes -/
def oct (n : Nat) : UInt8 := UInt8.ofNat n
theorem oct_nat {n : Nat} (h : n ≤ 255) : (oct n).toNat = n := by
  show (UInt8.ofNat n).toNat = n
  rw [UInt8.toNat_ofNat']; exact Nat.mod_eq_of_lt (by omega)
def B32 (i : Nat) : List UInt8 := [oct (q3 i), oct (q2 i), oct (q1 i), oct (q0 i)]
def B16 (p : Nat) : List UInt8 := [oct (p / 256), oct (p % 256)]

set_option maxHeartbeats 1000000 in
set_option maxRecDepth 100000 in
theorem lay8 (B : Nat) (v : Value) (xs : List UInt8) (n : Nat) (w : World) (hn : n ≤ 255) (hown : OwnB w B v xs) (hx : xs.length ≤ 1024) (hB : B ≤ w.heap.size) :
    Calls Tryd.prog 21 #[v, .int .u8 n] w fun e w' => (∃ v', e = .returned v' ∧ OwnB w' B v' (xs ++ [oct n])) ∧ Below B w w' := by
  go_enter Tryd.func21, Tryd.ntmps21
  go_wp2_with (go_at_call 37; refine (size8 w).mono ?_; rintro e w' ⟨rfl, rfl⟩)
  go_loopw [0, 5] (fun s l wr => ∃ k : Nat, k ≤ 1 ∧ l = .int .i64 (0 - (k : Int)) ∧ OwnB wr B s (xs ++ [oct n].take k) ∧ Below B w wr) (fun _ l _ => ((intOf l) + 1).toNat)
  case atStart => exact ⟨0, by omega, rfl, by simpa using hown, Below.refl _ _⟩
  case round =>
    obtain ⟨k, hk, rfl, ho, hb⟩ := hrel
    have hB1 := Nat.le_trans hB hb.size
    rcases (by omega : k = 0 ∨ k = 1) with rfl | rfl
    · go_wp2_with (at_builtin; refine app1 (.tmp 12) (.tmp 17) _ n (oct n) (by rw [oct_nat hn]) (ho.up ((Below.refl _ _).alloc (Nat.le_refl _) _)) rfl rfl rfl rfl (by go_simp) (by simp; omega) (by simp; omega) ?_; intro v1 w1 hown1 hb1; have hb2 := (hb.alloc hB1 _).trans hb1)
      go_roundw
      case rel => exact ⟨1, by omega, by go_num, by simpa using hown1, hb2⟩
      case measure => simp [intOf]
    · go_wp2
      go_ret
      exact ⟨⟨_, rfl, by simpa using ho⟩, hb⟩
theorem lt_chain {a b c : Nat} (h : a ≤ b) (h' : b ≤ c) : a ≤ c := Nat.le_trans h h'
set_option maxHeartbeats 1000000 in
set_option maxRecDepth 100000 in
theorem lay16 (B : Nat) (v : Value) (xs : List UInt8) (n : Nat) (w : World) (hn : n ≤ 65535) (hown : OwnB w B v xs) (hx : xs.length ≤ 1024) (hB : B ≤ w.heap.size) :
    Calls Tryd.prog 22 #[v, .int .u16 n] w fun e w' => (∃ v', e = .returned v' ∧ OwnB w' B v' (xs ++ B16 n)) ∧ Below B w w' := by
  have n1 : (n : Int) / 256 = ((oct (n / 256)).toNat : Int) := by rw [oct_nat (by omega)]; omega
  have n0 : (n : Int) % 256 = ((oct (n % 256)).toNat : Int) := by rw [oct_nat (by omega)]; omega
  have N1 := Lib.hid n1
  have N0 := Lib.hid n0
  clear n1 n0
  go_enter Tryd.func22, Tryd.ntmps22
  go_wp2_with (go_at_call 34; refine (size16 w).mono ?_; rintro e w' ⟨rfl, rfl⟩)
  go_loopw [0, 5] (fun s l wr => ∃ k : Nat, k ≤ 2 ∧ l = .int .i64 (1 - (k : Int)) ∧ OwnB wr B s (xs ++ (B16 n).take k) ∧ Below B w wr) (fun _ l _ => ((intOf l) + 1).toNat)
  case atStart => exact ⟨0, by omega, rfl, by simpa using hown, Below.refl _ _⟩
  case round =>
    obtain ⟨k, hk, rfl, ho, hb⟩ := hrel
    have hB1 := Nat.le_trans hB hb.size
    rcases (by omega : k = 0 ∨ k = 1 ∨ k = 2) with rfl | rfl | rfl
    · go_wp2_with (at_builtin; refine app1 (.tmp 12) (.tmp 18) _ _ (oct (n / 256)) N1.out (ho.up ((Below.refl _ _).alloc (Nat.le_refl _) _)) rfl rfl rfl rfl (by go_simp) (by simp; omega) (by simp; omega) ?_; intro v1 w1 hown1 hb1; have hb2 := (hb.alloc hB1 _).trans hb1)
      go_roundw
      case rel => exact ⟨1, by omega, by go_num, by simpa [B16] using hown1, hb2⟩
      case measure => simp [intOf]
    · go_wp2_with (at_builtin; refine app1 (.tmp 12) (.tmp 18) _ _ (oct (n % 256)) N0.out (ho.up ((Below.refl _ _).alloc (Nat.le_refl _) _)) rfl rfl rfl rfl (by go_simp) (by simp [B16]; omega) (by simp; omega) ?_; intro v1 w1 hown1 hb1; have hb2 := (hb.alloc hB1 _).trans hb1)
      go_roundw
      case rel => exact ⟨2, by omega, by go_num, by simpa [B16] using hown1, hb2⟩
      case measure => simp [intOf]
    · go_wp2
      go_ret
      exact ⟨⟨_, rfl, by simpa [B16] using ho⟩, hb⟩
set_option maxHeartbeats 1000000 in
set_option maxRecDepth 100000 in
theorem lay32 (B : Nat) (v : Value) (xs : List UInt8) (n : Nat) (w : World) (hn : n ≤ 4294967295) (hown : OwnB w B v xs) (hx : xs.length ≤ 1024) (hB : B ≤ w.heap.size) :
    Calls Tryd.prog 26 #[v, .int .u32 n] w fun e w' => (∃ v', e = .returned v' ∧ OwnB w' B v' (xs ++ B32 n)) ∧ Below B w w' := by
  have hq := q_le n
  have n3 : (n : Int) / 16777216 = ((oct (q3 n)).toNat : Int) := by rw [oct_nat hq.1]; unfold q3; omega
  have n2 : ((n : Int) / 65536) % 256 = ((oct (q2 n)).toNat : Int) := by rw [oct_nat hq.2.1]; unfold q2; omega
  have n1 : ((n : Int) / 256) % 256 = ((oct (q1 n)).toNat : Int) := by rw [oct_nat hq.2.2.1]; unfold q1; omega
  have n0 : (n : Int) % 256 = ((oct (q0 n)).toNat : Int) := by rw [oct_nat hq.2.2.2]; unfold q0; omega
  have N3 := Lib.hid n3
  have N2 := Lib.hid n2
  have N1 := Lib.hid n1
  have N0 := Lib.hid n0
  clear n3 n2 n1 n0 hq
  go_enter Tryd.func26, Tryd.ntmps26
  go_wp2_with (go_at_call 38; refine (size32 w).mono ?_; rintro e w' ⟨rfl, rfl⟩)
  go_loopw [0, 5] (fun s l wr => ∃ k : Nat, k ≤ 4 ∧ l = .int .i64 (3 - (k : Int)) ∧ OwnB wr B s (xs ++ (B32 n).take k) ∧ Below B w wr) (fun _ l _ => ((intOf l) + 1).toNat)
  case atStart => exact ⟨0, by omega, rfl, by simpa using hown, Below.refl _ _⟩
  case round =>
    obtain ⟨k, hk, rfl, ho, hb⟩ := hrel
    have hB1 := Nat.le_trans hB hb.size
    rcases (by omega : k = 0 ∨ k = 1 ∨ k = 2 ∨ k = 3 ∨ k = 4) with rfl | rfl | rfl | rfl | rfl
    · go_wp2_with (at_builtin; refine app1 (.tmp 12) (.tmp 18) _ _ (oct (q3 n)) N3.out (ho.up ((Below.refl _ _).alloc (Nat.le_refl _) _)) rfl rfl rfl rfl (by go_simp) (by simp; omega) (by simp; omega) ?_; intro v1 w1 hown1 hb1; have hb2 := (hb.alloc hB1 _).trans hb1)
      go_roundw
      case rel => exact ⟨1, by omega, by go_num, by simpa [B32] using hown1, hb2⟩
      case measure => simp [intOf]
    · go_wp2_with (at_builtin; refine app1 (.tmp 12) (.tmp 18) _ _ (oct (q2 n)) N2.out (ho.up ((Below.refl _ _).alloc (Nat.le_refl _) _)) rfl rfl rfl rfl (by go_simp) (by simp [B32]; omega) (by simp; omega) ?_; intro v1 w1 hown1 hb1; have hb2 := (hb.alloc hB1 _).trans hb1)
      go_roundw
      case rel => exact ⟨2, by omega, by go_num, by simpa [B32] using hown1, hb2⟩
      case measure => simp [intOf]
    · go_wp2_with (at_builtin; refine app1 (.tmp 12) (.tmp 18) _ _ (oct (q1 n)) N1.out (ho.up ((Below.refl _ _).alloc (Nat.le_refl _) _)) rfl rfl rfl rfl (by go_simp) (by simp [B32]; omega) (by simp; omega) ?_; intro v1 w1 hown1 hb1; have hb2 := (hb.alloc hB1 _).trans hb1)
      go_roundw
      case rel => exact ⟨3, by omega, by go_num, by simpa [B32] using hown1, hb2⟩
      case measure => simp [intOf]
    · go_wp2_with (at_builtin; refine app1 (.tmp 12) (.tmp 18) _ _ (oct (q0 n)) N0.out (ho.up ((Below.refl _ _).alloc (Nat.le_refl _) _)) rfl rfl rfl rfl (by go_simp) (by simp [B32]; omega) (by simp; omega) ?_; intro v1 w1 hown1 hb1; have hb2 := (hb.alloc hB1 _).trans hb1)
      go_roundw
      case rel => exact ⟨4, by omega, by go_num, by simpa [B32] using hown1, hb2⟩
      case measure => simp [intOf]
    · go_wp2
      go_ret
      exact ⟨⟨_, rfl, by simpa [B32] using ho⟩, hb⟩

end Go.Proofs.YtolebodpcefcfaaDoor.tu
