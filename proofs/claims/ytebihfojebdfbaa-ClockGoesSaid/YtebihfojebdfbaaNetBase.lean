/- Numbers' bytes, texts, worlds, bytes that a call gathers: what packages share. Condition: none. -/
import Derived.Test.YtebihfojebdfbaaRows
import Derived.Test.YtebihfojebdfbaaNetSumM
import Derived.Shelf.Abstract
import Derived.WalkKit
import Derived.ProofKit
import Derived.WalkSmall
import Derived.Lib.Hide
import Derived.Lib.AppendIntMem
import Derived.OwnWalk
import Derived.BigQuiet
import Derived.IntWalk
import Derived.Deep.QuietTactic
import Derived.Deep.RegionHeld3
import Derived.Deep.RegionWith
import Derived.Deep.DeepCutAuto
import Derived.Laws.BitsAllLaws
import Derived.Laws.Bits64b
import Derived.Laws.Shifts
import Derived.Laws.ResultCell
import Derived.Laws.IdiomStrings
import Derived.Laws.BytesArg
import Derived.Outline
namespace Go.Proofs.Ytebihfojebdfbaa.nb
open Go.RowKit Go.Shelf Go.Proofs.Ytebihfojebdfbaa.sm
set_option linter.unusedVariables false

theorem ret_int {k : IntKind} {a b : Int} (h : a = b) : Ending.returned (.int k a) = .returned (.int k b) := by rw [h]
theorem ret_bool {a b : Bool} (h : a = b) : Ending.returned (.bool a) = .returned (.bool b) := by rw [h]
/-- a text's bytes -/
abbrev L (s : ByteArray) : List UInt8 := s.data.toList
theorem L_len (s : ByteArray) : (L s).length = s.size := rfl
theorem L_app (a b : ByteArray) : L (a ++ b) = L a ++ L b := by
  show (a ++ b).data.toList = _
  simp
theorem ba_of {a : ByteArray} {l : List UInt8} (h : L a = l) : a = ⟨l.toArray⟩ := by
  subst h
  cases a
  simp
theorem ba_eq {a b : ByteArray} (h : L a = L b) : a = b := by rw [ba_of h]
/-- the text of these bytes -/
def tx (l : List UInt8) : ByteArray := ⟨l.toArray⟩
theorem L_tx (l : List UInt8) : L (tx l) = l := by simp [tx]
theorem tx_L (a : ByteArray) : tx (L a) = a := ba_eq (L_tx _)
theorem tx_size (l : List UInt8) : (tx l).size = l.length := by rw [← L_len, L_tx]
theorem tx_app (l m : List UInt8) : tx l ++ tx m = tx (l ++ m) := ba_eq (by rw [L_app, L_tx, L_tx, L_tx])
theorem L_extract (a : ByteArray) (i j : Nat) : L (a.extract i j) = ((L a).drop i).take (j - i) := by simp [L]
theorem tx_extract (a : ByteArray) (i j : Nat) : a.extract i j = tx (((L a).drop i).take (j - i)) := ba_eq (by rw [L_extract, L_tx])
/-- a world above w0 -/
abbrev Up (w0 w : World) : Prop := Below w0.heap.size w0 w
theorem up_al {w0 w : World} (o : Obj) (h : Up w0 w) : Up w0 (w.alloc o) := h.alloc h.size _
theorem up_dr {w0 w : World} (h : Up w0 w) : Up w0 w.drew := h.drew
theorem up_drN {w0 w : World} (n : Nat) (h : Up w0 w) : Up w0 (w.drewN n) := below_drewN h n
theorem Up.on {w0 w w' : World} (h : Up w0 w) (h' : Up w w') : Up w0 w' := h.trans (h'.mono h.size)
theorem up_set {w0 w : World} {b o : Nat} {v : Value} (h : Up w0 w) (hb : w0.heap.size ≤ b) : Up w0 (w.setCell ⟨b, o, none⟩ v) := h.setCell (p := ⟨b, o, none⟩) hb _

/-! ### bytes that a call has gathered -/
abbrev BC (xs : List UInt8) : List Value := Lib.byteCells xs
def OwnB (w : World) (B : Nat) (v : Value) (xs : List UInt8) : Prop := w.ownsRow B 5 1 v xs.length (BC xs)
theorem OwnB.nil_ (w : World) (B : Nat) : OwnB w B (.slice none 0 0) [] := World.ownsRow_nil _ _ _ _
theorem kept_below {w w' : World} {B e size n : Nat} {v : Value} {xs : List Value} (h : w.ownsRow B e size v n xs) (hb : Below w.heap.size w w') : w'.ownsRow B e size v n xs := by
  refine ⟨h.1, ?_⟩
  rcases h.2 with hn | ⟨g, cap, cur, rfl, hB, hgg, rest⟩
  · exact .inl hn
  · exact .inr ⟨g, cap, cur, rfl, hB, (hb.block g (Array.getElem?_eq_some_iff.1 hgg).1).trans hgg, rest⟩
theorem OwnB.up {w w' : World} {B : Nat} {v : Value} {xs : List UInt8} (h : OwnB w B v xs) (hb : Up w w') : OwnB w' B v xs := kept_below h hb
theorem own_form {w : World} {B e size n : Nat} {v : Value} {xs : List Value} (h : w.ownsRow B e size v n xs) : (v = .slice none 0 0 ∧ n = 0) ∨ ∃ g cap, v = .slice (some ⟨g, 0, none⟩) n cap ∧ B ≤ g ∧ g < w.heap.size ∧ n ≤ cap ∧ cap ≤ maxLen := by
  rcases h.2 with hn | ⟨g, cap, cur, rfl, hB, hgg, h1, h2, _⟩
  · exact .inl hn
  · exact .inr ⟨g, cap, rfl, hB, (Array.getElem?_eq_some_iff.1 hgg).1, h1, h2⟩
theorem info5 : (Try.prog.info? 5).map (fun i => (i.zero, i.size, i.bytes)) = some (some (.int .u8 0), 1, 1) := by kernel_rfl
section
variable {ops : Array Oper} {rest : List Oper} {o : Oper} {a : Act} {Q : Exit → Act → World → Prop} {w : World} {B : Nat} {v : Value}
end

/-- a number's bytes -/
def oct (n : Nat) : UInt8 := UInt8.ofNat n
theorem oct_nat {n : Nat} (h : n ≤ 255) : (oct n).toNat = n := by
  show (UInt8.ofNat n).toNat = n
  rw [UInt8.toNat_ofNat']; exact Nat.mod_eq_of_lt (by omega)
theorem oct_of (c : UInt8) : oct c.toNat = c := by show UInt8.ofNat c.toNat = c; simp
def q3 (i : Nat) : Nat := i / 16777216
def q2 (i : Nat) : Nat := i / 65536 % 256
def q1 (i : Nat) : Nat := i / 256 % 256
def q0 (i : Nat) : Nat := i % 256
theorem q_le (i : Nat) (h : i ≤ 4294967295) : q3 i ≤ 255 ∧ q2 i ≤ 255 ∧ q1 i ≤ 255 ∧ q0 i ≤ 255 := by unfold q3 q2 q1 q0; omega
def B32 (i : Nat) : List UInt8 := [oct (q3 i), oct (q2 i), oct (q1 i), oct (q0 i)]
def B16 (p : Nat) : List UInt8 := [oct (p / 256), oct (p % 256)]
/-- the number of four bytes -/
def qd (l : List UInt8) (k : Nat) : Int := wd l k * 65536 + wd l (k + 2)
theorem qd_bd (l : List UInt8) (k : Nat) : 0 ≤ qd l k ∧ qd l k ≤ 4294967295 := by unfold qd; have := wd_bd l k; have := wd_bd l (k + 2); omega
theorem bt_at (s : ByteArray) (k : Nat) (h : k < s.size) : ((s[k]).toNat : Int) = bt (L s) k := by rw [bt_get _ _ h]; rfl

/-! ### bits -/
theorem or32 (x y : Nat) (hx : x < 4294967296) (hy : y < 4294967296) : bits .or .u32 (x : Int) (y : Int) = ((x ||| y : Nat) : Int) := by
  have h1 : (BitVec.ofInt 32 (x : Int)).toNat = x := by rw [BitVec.ofInt_natCast, BitVec.toNat_ofNat]; exact Nat.mod_eq_of_lt (by omega)
  have h2 : (BitVec.ofInt 32 (y : Int)).toNat = y := by rw [BitVec.ofInt_natCast, BitVec.toNat_ofNat]; exact Nat.mod_eq_of_lt (by omega)
  have h3 : x ||| y < 4294967296 := Nat.or_lt_two_pow (n := 32) (by omega) (by omega)
  show IntKind.u32.wrap ((BitVec.ofInt 32 (x : Int) ||| BitVec.ofInt 32 (y : Int)).toNat : Int) = _
  rw [BitVec.toNat_or, h1, h2, IntKind.wrap_u32]
  omega
theorem or16 (x y : Nat) (hx : x < 65536) (hy : y < 65536) : bits .or .u16 (x : Int) (y : Int) = ((x ||| y : Nat) : Int) := by
  have h1 : (BitVec.ofInt 16 (x : Int)).toNat = x := by rw [BitVec.ofInt_natCast, BitVec.toNat_ofNat]; exact Nat.mod_eq_of_lt (by omega)
  have h2 : (BitVec.ofInt 16 (y : Int)).toNat = y := by rw [BitVec.ofInt_natCast, BitVec.toNat_ofNat]; exact Nat.mod_eq_of_lt (by omega)
  have h3 : x ||| y < 65536 := Nat.or_lt_two_pow (n := 16) (by omega) (by omega)
  show IntKind.u16.wrap ((BitVec.ofInt 16 (x : Int) ||| BitVec.ofInt 16 (y : Int)).toNat : Int) = _
  rw [BitVec.toNat_or, h1, h2, IntKind.wrap_u16]
  omega
theorem or_add (a i y : Nat) (h : y < 2 ^ i) : a * 2 ^ i ||| y = a * 2 ^ i + y := by
  have := Nat.shiftLeft_add_eq_or_of_lt h a
  rw [Nat.shiftLeft_eq] at this
  exact this.symm
theorem c_lt (c : UInt8) : c.toNat ≤ 255 := by have := UInt8.toNat_lt c; omega

/-! ### texts out of bytes -/
/-! ### values that lie in a block of their own -/
def Box (W : World) (b : Nat) (vs : List Value) : Prop := b < W.heap.size ∧ ∀ j v, vs[j]? = some v → W.cell? ⟨b, j, none⟩ = some v ∧ W.frozen? ⟨b, j, none⟩ = false
theorem Box.below {W W' : World} {b B : Nat} {vs : List Value} (h : Box W b vs) (hb : Below B W W') (hB : b < B) : Box W' b vs :=
  ⟨Nat.lt_of_lt_of_le h.1 hb.size, fun j v hv => ⟨(hb.cell (p := ⟨b, j, none⟩) hB).trans (h.2 j v hv).1, (hb.frozen (p := ⟨b, j, none⟩) hB).trans (h.2 j v hv).2⟩⟩
theorem Box.up {W W' : World} {b : Nat} {vs : List Value} (h : Box W b vs) (hb : Up W W') : Box W' b vs := h.below hb h.1
theorem Box.new (W : World) (vs : Array Value) (T : TypeId) : Box (W.alloc (.cells vs T)) W.heap.size vs.toList :=
  ⟨by simp, fun j v hv => ⟨by rw [World.cell?_alloc_new]; simpa using hv, by simp⟩⟩
theorem Box.drew {W : World} {b : Nat} {vs : List Value} (h : Box W b vs) : Box W.drew b vs := h.up (Below.refl _ _).drew
theorem Box.drewN {W : World} {b : Nat} {vs : List Value} (h : Box W b vs) (n : Nat) : Box (W.drewN n) b vs := h.up (below_drewN (Below.refl _ _) n)
theorem Box.alloc {W : World} {b : Nat} {vs : List Value} (h : Box W b vs) (o : Obj) : Box (W.alloc o) b vs := h.up (up_al o (Below.refl _ _))
theorem Box.at {W : World} {b : Nat} {vs : List Value} (h : Box W b vs) (j : Nat) {v : Value} (hv : vs[j]? = some v) : W.cell? ⟨b, j, none⟩ = some v := (h.2 j v hv).1
theorem Box.fr {W : World} {b : Nat} {vs : List Value} (h : Box W b vs) (j : Nat) {v : Value} (hv : vs[j]? = some v) : W.frozen? ⟨b, j, none⟩ = false := (h.2 j v hv).2
theorem Box.far {W : World} {b c o : Nat} {vs : List Value} (h : Box W b vs) (hc : c ≠ b) (v : Value) : Box (W.setCell ⟨c, o, none⟩ v) b vs :=
  ⟨by simpa using h.1, fun j x hx => ⟨by rw [World.cell?_setCell_other _ _ _ _ (fun e => hc (by cases e; rfl))]; exact (h.2 j x hx).1, by rw [World.frozen?_setCell]; exact (h.2 j x hx).2⟩⟩
theorem Box.set {W : World} {b : Nat} {vs : List Value} (h : Box W b vs) (k : Nat) (v : Value) : Box (W.setCell ⟨b, k, none⟩ v) b (vs.set k v) :=
  ⟨by simpa using h.1, fun j x hx => by
    refine ⟨?_, ?_⟩
    · by_cases hjk : j = k
      · subst hjk
        have hl : j < vs.length := by
          have := (List.getElem?_eq_some_iff.1 hx).1
          simpa using this
        have e : vs[j]? = some vs[j] := List.getElem?_eq_getElem hl
        rw [World.cell?_setCell_same' _ _ _ (by rw [(h.2 j _ e).1]; rfl)]
        simpa [List.getElem?_set, hl] using hx
      · rw [World.cell?_setCell_other _ _ _ _ (by intro e; cases e; exact hjk rfl)]
        rw [List.getElem?_set_ne (Ne.symm hjk)] at hx
        exact (h.2 j x hx).1
    · rw [World.frozen?_setCell]
      by_cases hl : j < vs.length
      · exact (h.2 j _ (List.getElem?_eq_getElem hl)).2
      · have := (List.getElem?_eq_some_iff.1 hx).1
        simp at this; omega⟩
end Go.Proofs.Ytebihfojebdfbaa.nb
