/- The document's answer for tuple: an address's text. Condition: the arguments fit their kinds. -/
import Derived.Test.YtolebodpcefcfaaDoorTupE
namespace Go.Proofs.YtolebodpcefcfaaDoor.tu
open Go.RowKit Go.Shelf Go.Proofs.YtolebodpcefcfaaDoor.tm
set_option linter.unusedVariables false

def ds (n : Nat) : ByteArray := ⟨(D n).toArray⟩
theorem L_ds (n : Nat) : L (ds n) = D n := by simp [ds]
theorem ds_size {n : Nat} (h : n ≤ 65535) : (ds n).size ≤ 5 := by have := D_len (n := n) (by omega); rw [← L_ds, L_len] at this; exact this
theorem refNumS (n : Nat) (w : World) (hn : n ≤ 65535) : Calls Tryd.prog 28 #[.int .u64 n] w fun e w' => e = .returned (.string (ds n)) ∧ Up w w' := refNum n w hn
def tS (i p : Nat) : ByteArray := ⟨(T i p).toArray⟩
theorem L_tS (i p : Nat) : L (tS i p) = T i p := by simp [tS]
theorem ba_eq {a b : ByteArray} (h : L a = L b) : a = b := by rw [ba_of h]
theorem and32 (x : Nat) (hx : x < 4294967296) : bits .and .u32 (x : Int) 255 = ((x % 256 : Nat) : Int) := by
  have h1 : (BitVec.ofInt 32 (x : Int)).toNat = x := by rw [BitVec.ofInt_natCast, BitVec.toNat_ofNat]; exact Nat.mod_eq_of_lt (by omega)
  have h2 : (BitVec.ofInt 32 (255 : Int)).toNat = 255 := by decide
  show IntKind.u32.wrap ((BitVec.ofInt 32 (x : Int) &&& BitVec.ofInt 32 (255 : Int)).toNat : Int) = _
  rw [BitVec.toNat_and, h1, h2, show x &&& 255 = x % 256 from Nat.and_two_pow_sub_one_eq_mod x 8, IntKind.wrap_u32]
  omega
def X (i : Nat) : Nat → List UInt8
  | 0 => []
  | 1 => D (q3 i) ++ [46]
  | 2 => D (q3 i) ++ [46] ++ D (q2 i) ++ [46]
  | 3 => D (q3 i) ++ [46] ++ D (q2 i) ++ [46] ++ D (q1 i) ++ [46]
  | _ => D (q3 i) ++ [46] ++ D (q2 i) ++ [46] ++ D (q1 i) ++ [46] ++ D (q0 i)
theorem T_X (i p : Nat) : T i p = X i 4 ++ [58] ++ D p := by simp [T, T4, X]

set_option maxHeartbeats 1000000 in
set_option maxRecDepth 100000 in
theorem refText (i p : Nat) (w : World) (hi : i ≤ 4294967295) (hp : p ≤ 65535) :
    Calls Tryd.prog 11 #[.agg #[.int .u32 i, .int .u16 p]] w fun e w' => e = .returned (.string (tS i p)) ∧ Up w w' := by
  have hq := q_le i
  have n3 := Lib.hid (show bits .and .u32 ((i : Int) / 16777216) 255 = (q3 i : Nat) by have := and32 (i / 16777216) (by omega); unfold q3; simpa using this)
  have n2 := Lib.hid (show bits .and .u32 ((i : Int) / 65536) 255 = (q2 i : Nat) by have := and32 (i / 65536) (by omega); unfold q2; simpa using this)
  have n1 := Lib.hid (show bits .and .u32 ((i : Int) / 256) 255 = (q1 i : Nat) by have := and32 (i / 256) (by omega); unfold q1; simpa using this)
  have n0 := Lib.hid (show bits .and .u32 (i : Int) 255 = (q0 i : Nat) by have := and32 i (by omega); unfold q0; simpa using this)
  go_enter Tryd.func11, Tryd.ntmps11
  go_wp2
  have B0 := Box.new w i p
  have hu : Up w (w.alloc (.cells #[.int .u32 i, .int .u16 p] 25)) := up_al _ (Below.refl _ _)
  generalize (w.alloc (.cells #[.int .u32 i, .int .u16 p] 25)) = w0 at B0 hu ⊢
  go_loopw [3, 4] (fun s x wr => ∃ (k : Nat) (t : ByteArray), k ≤ 4 ∧ x = .int .i64 (3 - (k : Int)) ∧ s = .string t ∧ t.size ≤ 6 * k ∧ Hid (L t = X i k) ∧ Hid (Box wr w.heap.size i p) ∧ Up w wr)
    (fun _ x _ => ((intOf x) + 1).toNat)
  case atStart => exact ⟨0, ByteArray.empty, by omega, rfl, rfl, by exact Nat.le_refl _, rfl, B0, hu⟩
  case round =>
    obtain ⟨k, t, hk, rfl, rfl, htz, ht, hB, hu1⟩ := hrel
    obtain ⟨b0, b1, -⟩ := hB.out
    rcases (by omega : k = 0 ∨ k = 1 ∨ k = 2 ∨ k = 3 ∨ k = 4) with rfl | rfl | rfl | rfl | rfl
    · have e3 := n3.out
      have hz := ds_size (n := q3 i) (by omega)
      go_wp2_with (go_at_call 28; refine (refNumS (q3 i) wr (by omega)).mono ?_; rintro e w1 ⟨rfl, hv⟩)
      go_roundw
      case rel => exact ⟨1, _, by omega, by go_num, rfl, by rw [ByteArray.size_append, ByteArray.size_append]; show _ + _ + 1 ≤ _; omega, by unfold Hid; rw [L_app, L_app, L_ds, ht.out]; rfl, hB.out.up hv, hu1.on hv⟩
      case measure => simp [intOf]
    · have e3 := n2.out
      have hz := ds_size (n := q2 i) (by omega)
      go_wp2_with (go_at_call 28; refine (refNumS (q2 i) wr (by omega)).mono ?_; rintro e w1 ⟨rfl, hv⟩)
      go_roundw
      case rel => exact ⟨2, _, by omega, by go_num, rfl, by rw [ByteArray.size_append, ByteArray.size_append]; show _ + _ + 1 ≤ _; omega, by unfold Hid; rw [L_app, L_app, L_ds, ht.out]; rfl, hB.out.up hv, hu1.on hv⟩
      case measure => simp [intOf]
    · have e3 := n1.out
      have hz := ds_size (n := q1 i) (by omega)
      go_wp2_with (go_at_call 28; refine (refNumS (q1 i) wr (by omega)).mono ?_; rintro e w1 ⟨rfl, hv⟩)
      go_roundw
      case rel => exact ⟨3, _, by omega, by go_num, rfl, by rw [ByteArray.size_append, ByteArray.size_append]; show _ + _ + 1 ≤ _; omega, by unfold Hid; rw [L_app, L_app, L_ds, ht.out]; rfl, hB.out.up hv, hu1.on hv⟩
      case measure => simp [intOf]
    · have e3 := n0.out
      have hz := ds_size (n := q0 i) (by omega)
      go_wp2_with (go_at_call 28; refine (refNumS (q0 i) wr (by omega)).mono ?_; rintro e w1 ⟨rfl, hv⟩)
      go_roundw
      case rel => exact ⟨4, _, by omega, by go_num, rfl, by simp; omega, by unfold Hid; rw [L_app, L_ds, ht.out]; rfl, hB.out.up hv, hu1.on hv⟩
      case measure => simp [intOf]
    · have hz := ds_size (n := p) (by omega)
      have HE : Hid (t ++ { data := #[58] } ++ ds p = tS i p) := ba_eq (by rw [L_app, L_app, L_ds, L_tS, ht.out, T_X])
      go_wp2_with (go_at_call 28; refine (refNumS p wr (by omega)).mono ?_; rintro e w1 ⟨rfl, hv⟩)
      go_ret
      exact ⟨by rw [← HE.out]; rfl, hu1.on hv⟩
end Go.Proofs.YtolebodpcefcfaaDoor.tu
