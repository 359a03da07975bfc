/- T R W: contracts, part 2. Condition: as each says. -/
import Derived.Test.YtafckmbgefbonaaGreatVTRW1
import Derived.Test.YtafckmbgefbonaaGreatRows
import Derived.Shelf.Abstract
import Derived.WalkKit
import Derived.ProofKit
import Derived.WalkSmall
import Derived.Lib.Hide
import Derived.Lib.AppendIntMem
import Derived.OwnWalk
import Derived.BigQuiet
import Derived.IntWalk
import Derived.Deep.QuietTactic
import Derived.Deep.RegionHeld3
import Derived.Deep.RegionWith
import Derived.Deep.DeepCutAuto
import Derived.Laws.BitsAllLaws
import Derived.Laws.Bits64b
import Derived.Laws.Shifts
import Derived.Laws.ResultCell
import Derived.Laws.IdiomStrings
import Derived.Laws.BytesArg
import Derived.Outline
set_option linter.unusedVariables false
set_option linter.unusedSimpArgs false
set_option maxRecDepth 100000
set_option maxHeartbeats 8000000
namespace Go.Proofs.YtafckmbgefbonaaGreat.nb
open RowKit Shelf sm

theorem ret_int {k : IntKind} {a b : Int} (h : a = b) : Ending.returned (.int k a) = .returned (.int k b) := by rw [h]
theorem ret_bool {a b : Bool} (h : a = b) : Ending.returned (.bool a) = .returned (.bool b) := by rw [h]
abbrev L (s : ByteArray) : List UInt8 := s.data.toList
theorem L_len (s : ByteArray) : (L s).length = s.size := rfl
theorem L_app (a b : ByteArray) : L (a ++ b) = L a ++ L b := by
 show (a ++ b).data.toList = _
 simp
theorem ba_of {a : ByteArray} {l : List UInt8} (h : L a = l) : a = ⟨l.toArray⟩ := by
 subst h
 cases a
 simp
theorem ba_eq {a b : ByteArray} (h : L a = L b) : a = b := by rw [ba_of h]
def tx (l : List UInt8) : ByteArray := ⟨l.toArray⟩
theorem L_tx (l : List UInt8) : L (tx l) = l := by simp [tx]
theorem tx_L (a : ByteArray) : tx (L a) = a := ba_eq (L_tx _)
theorem tx_size (l : List UInt8) : (tx l).size = l.length := by rw [← L_len, L_tx]
theorem tx_app (l m : List UInt8) : tx l ++ tx m = tx (l ++ m) := ba_eq (by rw [L_app, L_tx, L_tx, L_tx])
theorem L_extract (a : ByteArray) (i j : Nat) : L (a.extract i j) = ((L a).drop i).take (j - i) := by simp [L]
theorem tx_extract (a : ByteArray) (i j : Nat) : a.extract i j = tx (((L a).drop i).take (j - i)) := ba_eq (by rw [L_extract, L_tx])
abbrev Up (w0 w : World) : Prop := Below w0.heap.size w0 w
theorem up_al {w0 w : World} (o : Obj) (h : Up w0 w) : Up w0 (w.alloc o) := h.alloc h.size _
theorem up_dr {w0 w : World} (h : Up w0 w) : Up w0 w.drew := h.drew
theorem up_drN {w0 w : World} (n : Nat) (h : Up w0 w) : Up w0 (w.drewN n) := below_drewN h n
theorem Up.on {w0 w w' : World} (h : Up w0 w) (h' : Up w w') : Up w0 w' := h.trans (h'.mono h.size)
theorem up_set {w0 w : World} {b o : Nat} {v : Value} (h : Up w0 w) (hb : w0.heap.size ≤ b) : Up w0 (w.setCell ⟨b, o, none⟩ v) := h.setCell (p := ⟨b, o, none⟩) hb _

/-! ### bytes that a call has gathered -/
abbrev BC (xs : List UInt8) : List Value := Lib.byteCells xs
def OwnB (w : World) (B : Nat) (v : Value) (xs : List UInt8) : Prop := w.ownsRow B 5 1 v xs.length (BC xs)
theorem OwnB.nil_ (w : World) (B : Nat) : OwnB w B (.slice none 0 0) [] := World.ownsRow_nil _ _ _ _
theorem kept_below {w w' : World} {B e size n : Nat} {v : Value} {xs : List Value} (h : w.ownsRow B e size v n xs) (hb : Below w.heap.size w w') : w'.ownsRow B e size v n xs := by
 refine ⟨h.1, ?_⟩
 rcases h.2 with hn | ⟨g, cap, cur, rfl, hB, hgg, rest⟩
 ·exact .inl hn
 ·exact .inr ⟨g, cap, cur, rfl, hB, (hb.block g (Array.getElem?_eq_some_iff.1 hgg).1).trans hgg, rest⟩
theorem OwnB.up {w w' : World} {B : Nat} {v : Value} {xs : List UInt8} (h : OwnB w B v xs) (hb : Up w w') : OwnB w' B v xs := kept_below h hb
theorem own_form {w : World} {B e size n : Nat} {v : Value} {xs : List Value} (h : w.ownsRow B e size v n xs) : (v = .slice none 0 0 ∧ n = 0) ∨ ∃ g cap, v = .slice (some ⟨g, 0, none⟩) n cap ∧ B ≤ g ∧ g < w.heap.size ∧ n ≤ cap ∧ cap ≤ maxLen := by
 rcases h.2 with hn | ⟨g, cap, cur, rfl, hB, hgg, h1, h2, _⟩
 ·exact .inl hn
 ·exact .inr ⟨g, cap, rfl, hB, (Array.getElem?_eq_some_iff.1 hgg).1, h1, h2⟩
theorem info5 : (Tryz.prog.info? 5).map (fun i => (i.zero, i.size, i.bytes)) = some (some (.int .u8 0), 1, 1) := by kernel_rfl
section
variable {ops : Array Oper} {rest : List Oper} {o : Oper} {a : Act} {Q : Exit → Act → World → Prop} {w : World} {B : Nat} {v : Value}
theorem app1 {ps : List UInt8} (s x : Operand) (g : Nat) (u : Int) (c : UInt8) (hu : u = (c.toNat : Int)) (hown : OwnB w B v ps) (hgd : o.guard = none) (ho : o.op = .call { callee := .builtin .append, args := #[s, x], argTypes := #[66, 66] })
  (hs : a.eval s = v) (hx : a.eval x = .slice (some ⟨g, 0, none⟩) 1 1) (hc : w.cell? ⟨g, 0, none⟩ = some (.int .u8 u)) (hn : ps.length < 1099511627776) (hB : B ≤ w.heap.size)
  (h : ∀ v' w', OwnB w' B v' (ps ++ [c]) → Below B w w' → wpList Tryz.prog ops Q rest (a.put o.dst v') w') : wpList Tryz.prog ops Q (o :: rest) a w := by
 subst hu
 obtain ⟨i0, hi, hz0, hz1, hz2⟩ := info_parts info5
 refine wpList_append_own w hgd s x 66 ho B 5 i0 (.int .u8 0) 1 1 Tryz.underlying66 hi hz0 hz1 hz2 rfl (by decide) v ps.length _ hs hown ⟨g, 0, none⟩ 1 1 [.int .u8 (c.toNat : Int)] hx rfl ?_ ?_ (by unfold maxLen; omega) (by omega) hB ?_
 ·intro j u' hj
  match j, hj with
  | 0, hj => simp at hj; subst hj; exact hc
 ·intro u' hu; simp at hu; subst hu; rfl
 ·intro v' w' ho' hg _
  exact h v' w' (by unfold OwnB; rw [show BC (ps ++ [c]) = BC ps ++ [.int .u8 (c.toNat : Int)] by simp [BC, Lib.byteCells], List.length_append]; exact ho') ((Below.refl B w).grown hg hB (fun k hk => (hown.lt k hk).1))
end

def oct (n : Nat) : UInt8 := UInt8.ofNat n
theorem oct_nat {n : Nat} (h : n ≤ 255) : (oct n).toNat = n := by
 show (UInt8.ofNat n).toNat = n
 rw [UInt8.toNat_ofNat']; exact Nat.mod_eq_of_lt (by omega)
theorem oct_of (c : UInt8) : oct c.toNat = c := by show UInt8.ofNat c.toNat = c; simp
def q3 (i : Nat) : Nat := i / 16777216
def q2 (i : Nat) : Nat := i / 65536 % 256
def q1 (i : Nat) : Nat := i / 256 % 256
def q0 (i : Nat) : Nat := i % 256
theorem q_le (i : Nat) (h : i ≤ 4294967295) : q3 i ≤ 255 ∧ q2 i ≤ 255 ∧ q1 i ≤ 255 ∧ q0 i ≤ 255 := by unfold q3 q2 q1 q0; omega
def B32 (i : Nat) : List UInt8 := [oct (q3 i), oct (q2 i), oct (q1 i), oct (q0 i)]
def B16 (p : Nat) : List UInt8 := [oct (p / 256), oct (p % 256)]
def qd (l : List UInt8) (k : Nat) : Int := wd l k * 65536 + wd l (k + 2)
theorem qd_bd (l : List UInt8) (k : Nat) : 0 ≤ qd l k ∧ qd l k ≤ 4294967295 := by unfold qd; have := wd_bd l k; have := wd_bd l (k + 2); omega
theorem bt_at (s : ByteArray) (k : Nat) (h : k < s.size) : ((s[k]).toNat : Int) = bt (L s) k := by rw [bt_get _ _ h]; rfl

/-! ### bits -/
theorem or32 (x y : Nat) (hx : x < 4294967296) (hy : y < 4294967296) : bits .or .u32 (x : Int) (y : Int) = ((x ||| y : Nat) : Int) := by
 have h1 : (BitVec.ofInt 32 (x : Int)).toNat = x := by rw [BitVec.ofInt_natCast, BitVec.toNat_ofNat]; exact Nat.mod_eq_of_lt (by omega)
 have h2 : (BitVec.ofInt 32 (y : Int)).toNat = y := by rw [BitVec.ofInt_natCast, BitVec.toNat_ofNat]; exact Nat.mod_eq_of_lt (by omega)
 have h3 : x ||| y < 4294967296 := Nat.or_lt_two_pow (n := 32) (by omega) (by omega)
 show IntKind.u32.wrap ((BitVec.ofInt 32 (x : Int) ||| BitVec.ofInt 32 (y : Int)).toNat : Int) = _
 rw [BitVec.toNat_or, h1, h2, IntKind.wrap_u32]
 omega
theorem or16 (x y : Nat) (hx : x < 65536) (hy : y < 65536) : bits .or .u16 (x : Int) (y : Int) = ((x ||| y : Nat) : Int) := by
 have h1 : (BitVec.ofInt 16 (x : Int)).toNat = x := by rw [BitVec.ofInt_natCast, BitVec.toNat_ofNat]; exact Nat.mod_eq_of_lt (by omega)
 have h2 : (BitVec.ofInt 16 (y : Int)).toNat = y := by rw [BitVec.ofInt_natCast, BitVec.toNat_ofNat]; exact Nat.mod_eq_of_lt (by omega)
 have h3 : x ||| y < 65536 := Nat.or_lt_two_pow (n := 16) (by omega) (by omega)
 show IntKind.u16.wrap ((BitVec.ofInt 16 (x : Int) ||| BitVec.ofInt 16 (y : Int)).toNat : Int) = _
 rw [BitVec.toNat_or, h1, h2, IntKind.wrap_u16]
 omega
theorem or_add (a i y : Nat) (h : y < 2 ^ i) : a * 2 ^ i ||| y = a * 2 ^ i + y := by
 have := Nat.shiftLeft_add_eq_or_of_lt h a
 rw [Nat.shiftLeft_eq] at this
 exact this.symm
theorem c_lt (c : UInt8) : c.toNat ≤ 255 := by have := UInt8.toNat_lt c; omega

/-! ### texts out of bytes -/
theorem conv_at {w W : World} {B g cap : Nat} {xs : List UInt8} (h : OwnB w B (.slice (some ⟨g, 0, none⟩) xs.length cap) xs) (hW : ∀ a, W.cell? a = w.cell? a) :
  (convert 66 9 (.slice (some ⟨g, 0, none⟩) xs.length cap)).run Tryz.prog W = .ok (.string (tx xs)) W :=
 run_convert_bytes_back (P := Tryz.prog) W 66 9 5 ⟨g, 0, none⟩ cap xs Tryz.underlying66 Tryz.underlying5 Tryz.underlying9 (fun j hj => by rw [hW]; exact World.ownsRow.cells h (g := g) rfl j _ (by simp [BC, Lib.byteCells, hj]))
theorem conv_own {w : World} {B : Nat} {v : Value} {xs : List UInt8} (h : OwnB w B v xs) (n : Nat) (hn : xs.length = n) (h0 : 0 < n) :
  ∃ g cap, v = .slice (some ⟨g, 0, none⟩) n cap ∧ (∀ m, (convert 66 9 (.slice (some ⟨g, 0, none⟩) n cap)).run Tryz.prog (w.drewN m) = .ok (.string (tx xs)) (w.drewN m)) ∧ (convert 66 9 (.slice (some ⟨g, 0, none⟩) n cap)).run Tryz.prog w = .ok (.string (tx xs)) w
   ∧ (convert 66 9 (.slice (some ⟨g, 0, none⟩) n cap)).run Tryz.prog w.drew = .ok (.string (tx xs)) w.drew ∧ (convert 66 9 (.slice (some ⟨g, 0, none⟩) n cap)).run Tryz.prog w.drew.drew = .ok (.string (tx xs)) w.drew.drew := by
 subst hn
 rcases own_form h with ⟨_, he⟩ | ⟨g, cap, rfl, hB, hg, hc, hm⟩
 ·omega
 ·exact ⟨g, cap, rfl, fun m => conv_at h (fun a => World.cell?_drewN _ _ _), conv_at h (fun a => rfl), conv_at h (fun a => World.cell?_drew _ _), conv_at h (fun a => by rw [World.cell?_drew, World.cell?_drew])⟩

theorem conv_lit {w : World} (l : List UInt8) (n : Nat) (hn : l.length = n) (cs : Array Value) (hc : cs = (BC l).toArray) :
  (convert 66 9 (.slice (some ⟨w.heap.size, 0, none⟩) n n)).run Tryz.prog (w.alloc (.cells cs 5)) = .ok (.string (tx l)) (w.alloc (.cells cs 5)) := by
 subst hn; subst hc
 refine run_convert_bytes_back (P := Tryz.prog) _ 66 9 5 ⟨w.heap.size, 0, none⟩ l.length l Tryz.underlying66 Tryz.underlying5 Tryz.underlying9 (fun j hj => ?_)
 rw [show (⟨w.heap.size, 0, none⟩ : Addr).add j = ⟨w.heap.size, j, none⟩ by unfold Addr.add; split <;> simp_all, World.cell?_alloc_new]
 simp [BC, Lib.byteCells, hj]

/-! ### values that lie in a block of their own -/
def Box (W : World) (b : Nat) (vs : List Value) : Prop := b < W.heap.size ∧ ∀ j v, vs[j]? = some v → W.cell? ⟨b, j, none⟩ = some v ∧ W.frozen? ⟨b, j, none⟩ = false
theorem Box.below {W W' : World} {b B : Nat} {vs : List Value} (h : Box W b vs) (hb : Below B W W') (hB : b < B) : Box W' b vs :=
 ⟨Nat.lt_of_lt_of_le h.1 hb.size, fun j v hv => ⟨(hb.cell (p := ⟨b, j, none⟩) hB).trans (h.2 j v hv).1, (hb.frozen (p := ⟨b, j, none⟩) hB).trans (h.2 j v hv).2⟩⟩
theorem Box.up {W W' : World} {b : Nat} {vs : List Value} (h : Box W b vs) (hb : Up W W') : Box W' b vs := h.below hb h.1
theorem Box.new (W : World) (vs : Array Value) (T : TypeId) : Box (W.alloc (.cells vs T)) W.heap.size vs.toList :=
 ⟨by simp, fun j v hv => ⟨by rw [World.cell?_alloc_new]; simpa using hv, by simp⟩⟩
theorem Box.drew {W : World} {b : Nat} {vs : List Value} (h : Box W b vs) : Box W.drew b vs := h.up (Below.refl _ _).drew
theorem Box.drewN {W : World} {b : Nat} {vs : List Value} (h : Box W b vs) (n : Nat) : Box (W.drewN n) b vs := h.up (below_drewN (Below.refl _ _) n)
theorem Box.alloc {W : World} {b : Nat} {vs : List Value} (h : Box W b vs) (o : Obj) : Box (W.alloc o) b vs := h.up (up_al o (Below.refl _ _))
theorem Box.at {W : World} {b : Nat} {vs : List Value} (h : Box W b vs) (j : Nat) {v : Value} (hv : vs[j]? = some v) : W.cell? ⟨b, j, none⟩ = some v := (h.2 j v hv).1
theorem Box.fr {W : World} {b : Nat} {vs : List Value} (h : Box W b vs) (j : Nat) {v : Value} (hv : vs[j]? = some v) : W.frozen? ⟨b, j, none⟩ = false := (h.2 j v hv).2
theorem Box.far {W : World} {b c o : Nat} {vs : List Value} (h : Box W b vs) (hc : c ≠ b) (v : Value) : Box (W.setCell ⟨c, o, none⟩ v) b vs :=
 ⟨by simpa using h.1, fun j x hx => ⟨by rw [World.cell?_setCell_other _ _ _ _ (fun e => hc (by cases e; rfl))]; exact (h.2 j x hx).1, by rw [World.frozen?_setCell]; exact (h.2 j x hx).2⟩⟩
theorem Box.set {W : World} {b : Nat} {vs : List Value} (h : Box W b vs) (k : Nat) (v : Value) : Box (W.setCell ⟨b, k, none⟩ v) b (vs.set k v) :=
 ⟨by simpa using h.1, fun j x hx => by
  refine ⟨?_, ?_⟩
  ·by_cases hjk : j = k
   ·subst hjk
    have hl : j < vs.length := by
     have := (List.getElem?_eq_some_iff.1 hx).1
     simpa using this
    have e : vs[j]? = some vs[j] := List.getElem?_eq_getElem hl
    rw [World.cell?_setCell_same' _ _ _ (by rw [(h.2 j _ e).1]; rfl)]
    simpa [List.getElem?_set, hl] using hx
   ·rw [World.cell?_setCell_other _ _ _ _ (by intro e; cases e; exact hjk rfl)]
    rw [List.getElem?_set_ne (Ne.symm hjk)] at hx
    exact (h.2 j x hx).1
  ·rw [World.frozen?_setCell]
   by_cases hl : j < vs.length
   ·exact (h.2 j _ (List.getElem?_eq_getElem hl)).2
   ·have := (List.getElem?_eq_some_iff.1 hx).1
    simp at this; omega⟩
end Go.Proofs.YtafckmbgefbonaaGreat.nb

namespace Go.Proofs.YtafckmbgefbonaaGreat
open Go.RowKit Go.Shelf Go.Lib
theorem gD {a : Array Value} {n : Nat} {u v : Value} (h : a.getD n u = v) : a[n]?.getD u = v := by rw [Array.getD_eq_getD_getElem?] at h; exact h
theorem bR {n : Nat} {w : World} : Below n w w := Below.refl _ _
theorem upN {w : World} {c : Obj} {b : Nat} {vs : List Value} (_ : nb.Box (w.alloc c) b vs) : nb.Up w (w.alloc c) := nb.up_al _ (Below.refl _ _)
theorem upM {w0 w : World} {c : Obj} {b : Nat} {vs : List Value} (_ : nb.Box (w.alloc c) b vs) (h : nb.Up w0 w) : nb.Up w0 (w.alloc c) := nb.up_al _ h
theorem alN {w : World} {c : Obj} {b d : Nat} {vs us : List Value} (_ : nb.Box (w.alloc c) b vs) (h : nb.Box w d us) : nb.Box (w.alloc c) d us := h.alloc _
theorem szN {w : World} {c : Obj} {b : Nat} {vs : List Value} (_ : nb.Box (w.alloc c) b vs) : (w.alloc c).heap.size = w.heap.size + 1 := World.size_alloc ..
theorem bx10 {W : World} {b : Nat} {x0 x1 x2 x3 x4 x5 x6 x7 x8 x9 : Value} (h : nb.Box W b [x0, x1, x2, x3, x4, x5, x6, x7, x8, x9]) : W.cell? ⟨b, 0, none⟩ = some x0 ∧ W.cell? ⟨b, 1, none⟩ = some x1 ∧ W.cell? ⟨b, 2, none⟩ = some x2 ∧ W.cell? ⟨b, 3, none⟩ = some x3 ∧ W.cell? ⟨b, 4, none⟩ = some x4 ∧ W.cell? ⟨b, 5, none⟩ = some x5 ∧ W.cell? ⟨b, 6, none⟩ = some x6 ∧ W.cell? ⟨b, 7, none⟩ = some x7 ∧ W.cell? ⟨b, 8, none⟩ = some x8 ∧ W.cell? ⟨b, 9, none⟩ = some x9 := ⟨h.at 0 rfl, h.at 1 rfl, h.at 2 rfl, h.at 3 rfl, h.at 4 rfl, h.at 5 rfl, h.at 6 rfl, h.at 7 rfl, h.at 8 rfl, h.at 9 rfl⟩
theorem bf10 {W : World} {b : Nat} {x0 x1 x2 x3 x4 x5 x6 x7 x8 x9 : Value} (h : nb.Box W b [x0, x1, x2, x3, x4, x5, x6, x7, x8, x9]) : W.frozen? ⟨b, 0, none⟩ = false ∧ W.frozen? ⟨b, 1, none⟩ = false ∧ W.frozen? ⟨b, 2, none⟩ = false ∧ W.frozen? ⟨b, 3, none⟩ = false ∧ W.frozen? ⟨b, 4, none⟩ = false ∧ W.frozen? ⟨b, 5, none⟩ = false ∧ W.frozen? ⟨b, 6, none⟩ = false ∧ W.frozen? ⟨b, 7, none⟩ = false ∧ W.frozen? ⟨b, 8, none⟩ = false ∧ W.frozen? ⟨b, 9, none⟩ = false := ⟨h.fr 0 rfl, h.fr 1 rfl, h.fr 2 rfl, h.fr 3 rfl, h.fr 4 rfl, h.fr 5 rfl, h.fr 6 rfl, h.fr 7 rfl, h.fr 8 rfl, h.fr 9 rfl⟩
theorem bx16 {W : World} {b : Nat} {x0 x1 x2 x3 x4 x5 x6 x7 x8 x9 x10 x11 x12 x13 x14 x15 : Value} (h : nb.Box W b [x0, x1, x2, x3, x4, x5, x6, x7, x8, x9, x10, x11, x12, x13, x14, x15]) : W.cell? ⟨b, 0, none⟩ = some x0 ∧ W.cell? ⟨b, 1, none⟩ = some x1 ∧ W.cell? ⟨b, 2, none⟩ = some x2 ∧ W.cell? ⟨b, 3, none⟩ = some x3 ∧ W.cell? ⟨b, 4, none⟩ = some x4 ∧ W.cell? ⟨b, 5, none⟩ = some x5 ∧ W.cell? ⟨b, 6, none⟩ = some x6 ∧ W.cell? ⟨b, 7, none⟩ = some x7 ∧ W.cell? ⟨b, 8, none⟩ = some x8 ∧ W.cell? ⟨b, 9, none⟩ = some x9 ∧ W.cell? ⟨b, 10, none⟩ = some x10 ∧ W.cell? ⟨b, 11, none⟩ = some x11 ∧ W.cell? ⟨b, 12, none⟩ = some x12 ∧ W.cell? ⟨b, 13, none⟩ = some x13 ∧ W.cell? ⟨b, 14, none⟩ = some x14 ∧ W.cell? ⟨b, 15, none⟩ = some x15 := ⟨h.at 0 rfl, h.at 1 rfl, h.at 2 rfl, h.at 3 rfl, h.at 4 rfl, h.at 5 rfl, h.at 6 rfl, h.at 7 rfl, h.at 8 rfl, h.at 9 rfl, h.at 10 rfl, h.at 11 rfl, h.at 12 rfl, h.at 13 rfl, h.at 14 rfl, h.at 15 rfl⟩
theorem bf16 {W : World} {b : Nat} {x0 x1 x2 x3 x4 x5 x6 x7 x8 x9 x10 x11 x12 x13 x14 x15 : Value} (h : nb.Box W b [x0, x1, x2, x3, x4, x5, x6, x7, x8, x9, x10, x11, x12, x13, x14, x15]) : W.frozen? ⟨b, 0, none⟩ = false ∧ W.frozen? ⟨b, 1, none⟩ = false ∧ W.frozen? ⟨b, 2, none⟩ = false ∧ W.frozen? ⟨b, 3, none⟩ = false ∧ W.frozen? ⟨b, 4, none⟩ = false ∧ W.frozen? ⟨b, 5, none⟩ = false ∧ W.frozen? ⟨b, 6, none⟩ = false ∧ W.frozen? ⟨b, 7, none⟩ = false ∧ W.frozen? ⟨b, 8, none⟩ = false ∧ W.frozen? ⟨b, 9, none⟩ = false ∧ W.frozen? ⟨b, 10, none⟩ = false ∧ W.frozen? ⟨b, 11, none⟩ = false ∧ W.frozen? ⟨b, 12, none⟩ = false ∧ W.frozen? ⟨b, 13, none⟩ = false ∧ W.frozen? ⟨b, 14, none⟩ = false ∧ W.frozen? ⟨b, 15, none⟩ = false := ⟨h.fr 0 rfl, h.fr 1 rfl, h.fr 2 rfl, h.fr 3 rfl, h.fr 4 rfl, h.fr 5 rfl, h.fr 6 rfl, h.fr 7 rfl, h.fr 8 rfl, h.fr 9 rfl, h.fr 10 rfl, h.fr 11 rfl, h.fr 12 rfl, h.fr 13 rfl, h.fr 14 rfl, h.fr 15 rfl⟩
end Go.Proofs.YtafckmbgefbonaaGreat

namespace Go.Proofs.YtafckmbgefbonaaGreat.pm
open sm nb

def foldT (c : Int) (ps : List (Int × Int)) : Int := ps.foldl (fun c p => turn c p.1 p.2) c
def was (ps : List (Int × Int)) : Int := (ps.map (·.1)).sum
def now (ps : List (Int × Int)) : Int := (ps.map (·.2)).sum
abbrev Words (ps : List (Int × Int)) : Prop := ∀ p ∈ ps, (0 ≤ p.1 ∧ p.1 ≤ 65535) ∧ 0 ≤ p.2 ∧ p.2 ≤ 65535
theorem turn_mod (c a b : Int) (hc : 0 ≤ c ∧ c ≤ 65535) (ha : 0 ≤ a ∧ a ≤ 65535) (hb : 0 ≤ b ∧ b ≤ 65535) :
  (0 ≤ turn c a b ∧ turn c a b ≤ 65535) ∧ (turn c a b - (c + a - b)) % 65535 = 0 ∧ (c ≤ 65534 → turn c a b ≤ 65534) := by
 unfold turn ck ones
 split <;> omega
theorem foldT_mod : ∀ (ps : List (Int × Int)) (c : Int), (0 ≤ c ∧ c ≤ 65535) → Words ps →
  (0 ≤ foldT c ps ∧ foldT c ps ≤ 65535) ∧ (foldT c ps - (c + was ps - now ps)) % 65535 = 0 ∧ (c ≤ 65534 → foldT c ps ≤ 65534)
 | [], c, hc, _ => ⟨hc, by simp [foldT, was, now], fun h => h⟩
 | p :: t, c, hc, hw => by
  obtain ⟨h1, h2, h3⟩ := turn_mod c p.1 p.2 hc (hw p (by simp)).1 (hw p (by simp)).2
  obtain ⟨h4, h5, h6⟩ := foldT_mod t (turn c p.1 p.2) h1 (fun q hq => hw q (by simp [hq]))
  have e : foldT c (p :: t) = foldT (turn c p.1 p.2) t := rfl
  rw [e]
  refine ⟨h4, ?_, fun h => h6 (h3 h)⟩
  have ew : was (p :: t) = p.1 + was t := by simp [was]
  have en : now (p :: t) = p.2 + now t := by simp [now]
  rw [ew, en]
  omega
theorem foldT_app (c : Int) (ps qs : List (Int × Int)) : foldT c (ps ++ qs) = foldT (foldT c ps) qs := by unfold foldT; rw [List.foldl_append]
def wp (a b : List UInt8) (k : Nat) : List (Int × Int) := (List.range k).map fun i => (wd a (2 * i), wd b (2 * i))
theorem wp_words (a b : List UInt8) (k : Nat) : Words (wp a b k) := by
 intro p hp
 obtain ⟨i, _, rfl⟩ := List.mem_map.1 hp
 exact ⟨wd_bd _ _, wd_bd _ _⟩
theorem turns_fold (c : Int) (a b : List UInt8) : ∀ k, turns c a b k = foldT c (wp a b k)
 | 0 => rfl
 | k + 1 => by
  show turn (turns c a b k) _ _ = _
  rw [turns_fold c a b k]
  unfold wp
  rw [List.range_succ, List.map_append, foldT_app]; rfl
theorem wsum_wds (a : List UInt8) : ∀ k, a.length = 2 * k → ((List.range k).map fun i => wd a (2 * i)).sum = wsum a
 | 0, h => by
  have : a = [] := List.length_eq_zero_iff.1 (by omega)
  subst this; rfl
 | k + 1, h => by
  have e : (List.range k).map ((fun i => wd a (2 * i)) ∘ Nat.succ) = (List.range k).map fun i => wd (a.drop 2) (2 * i) := List.map_congr_left fun i _ => by
   show wd a (2 * (i + 1)) = wd (a.drop 2) (2 * i)
   rw [wd_drop, show 2 + 2 * i = 2 * (i + 1) by omega]
  rw [List.range_succ_eq_map, List.map_cons, List.map_map, List.sum_cons, wsum_cons a (by omega), e, wsum_wds (a.drop 2) k (by rw [List.length_drop]; omega)]
theorem was_wp (a b : List UInt8) (k : Nat) (ha : a.length = 2 * k) : was (wp a b k) = wsum a := by
 unfold was wp
 rw [List.map_map, ← wsum_wds a k ha]; rfl
theorem now_wp (a b : List UInt8) (k : Nat) (hb : b.length = 2 * k) : now (wp a b k) = wsum b := by
 unfold now wp
 rw [List.map_map, ← wsum_wds b k hb]; rfl
theorem still_right (S c : Int) (ps : List (Int × Int)) (hc : 0 ≤ c ∧ c ≤ 65535) (hw : Words ps) (h0 : 0 ≤ S + c + was ps) (h : ck (S + c + was ps) = 0) (hpos : 0 < S + foldT c ps + now ps) : ck (S + foldT c ps + now ps) = 0 := by
 obtain ⟨h1, h2, _⟩ := foldT_mod ps c hc hw
 have h3 : (S + c + was ps) % 65535 = 0 := by
  have := ones_mod _ h0
  unfold ck at h
  omega
 have h4 : (S + foldT c ps + now ps) % 65535 = 0 := by omega
 have h5 := ones_mod _ (Int.le_of_lt hpos)
 have h6 := ones_pos _ hpos
 have h7 := ones_bd _ (Int.le_of_lt hpos)
 unfold ck
 omega
theorem same_sum (S c : Int) (ps : List (Int × Int)) (hw : Words ps) (h0 : 0 < S + was ps) (h1 : 0 < S + now ps) (hc : c = ck (S + was ps)) : foldT c ps = ck (S + now ps) := by
 have b0 := ones_bd _ (Int.le_of_lt h0); have p0 := ones_pos _ h0; have m0 := ones_mod _ (Int.le_of_lt h0)
 have b1 := ones_bd _ (Int.le_of_lt h1); have p1 := ones_pos _ h1; have m1 := ones_mod _ (Int.le_of_lt h1)
 unfold ck at hc
 obtain ⟨h2, h3, h4⟩ := foldT_mod ps c (by omega) hw
 have h5 := h4 (by omega)
 unfold ck
 omega
end Go.Proofs.YtafckmbgefbonaaGreat.pm

namespace Go.Proofs.YtafckmbgefbonaaGreat.im
open sm nb

def dfb (d : Bool) : UInt8 := if d then 64 else 0
def hd (a b p t s i : Nat) (d : Bool) (n c : Nat) : List UInt8 :=
  [69, oct s, oct (n / 256), oct (n % 256), oct (i / 256), oct (i % 256), dfb d, 0, oct t, oct p, oct (c / 256), oct (c % 256),
   oct (q3 a), oct (q2 a), oct (q1 a), oct (q0 a), oct (q3 b), oct (q2 b), oct (q1 b), oct (q0 b)]
theorem hd_len (a b p t s i : Nat) (d : Bool) (n c : Nat) : (hd a b p t s i d n c).length = 20 := rfl
def Ok (a b p t s i : Nat) : Prop := a ≤ 4294967295 ∧ b ≤ 4294967295 ∧ p ≤ 255 ∧ t ≤ 255 ∧ s ≤ 255 ∧ i ≤ 65535
theorem hd_sum (a b p t s i : Nat) (d : Bool) (n c : Nat) (hc : c ≤ 65535) : wsum (hd a b p t s i d n c) = wsum (hd a b p t s i d n 0) + (c : Int) := by
 have h1 : (oct (c / 256)).toNat = c / 256 := oct_nat (by omega)
 have h2 : (oct (c % 256)).toNat = c % 256 := oct_nat (by omega)
 have h3 : (oct (0 / 256)).toNat = 0 := oct_nat (by omega)
 have h4 : (oct (0 % 256)).toNat = 0 := oct_nat (by omega)
 simp only [hd, wsum, h1, h2, h3, h4]
 omega
def cs (a b p t s i : Nat) (d : Bool) (n : Nat) : Nat := (ck (wsum (hd a b p t s i d n 0))).toNat
theorem cs_int (a b p t s i : Nat) (d : Bool) (n : Nat) : ((cs a b p t s i d n : Nat) : Int) = ck (wsum (hd a b p t s i d n 0)) := by
 have := ck_bd _ (wsum_bd (hd a b p t s i d n 0)).1
 unfold cs; omega
theorem cs_le (a b p t s i : Nat) (d : Bool) (n : Nat) : cs a b p t s i d n ≤ 65535 := by
 have := ck_bd _ (wsum_bd (hd a b p t s i d n 0)).1
 unfold cs; omega
def hc (a b p t s i : Nat) (d : Bool) (n : Nat) : List UInt8 := hd a b p t s i d n (cs a b p t s i d n)
theorem hc_len (a b p t s i : Nat) (d : Bool) (n : Nat) : (hc a b p t s i d n).length = 20 := rfl
theorem hc_right (a b p t s i : Nat) (d : Bool) (n : Nat) : ck (wsum (hc a b p t s i d n)) = 0 := by
 unfold hc
 rw [hd_sum _ _ _ _ _ _ _ _ _ (cs_le _ _ _ _ _ _ _ _), cs_int]
 exact ck_bears _ (wsum_bd _).1
def en (a b p t s i : Nat) (d : Bool) (l : List UInt8) : List UInt8 := hc a b p t s i d (20 + l.length) ++ l
theorem en_len (a b p t s i : Nat) (d : Bool) (l : List UInt8) : (en a b p t s i d l).length = 20 + l.length := by unfold en; rw [List.length_append, hc_len]

def dec (l : List UInt8) : Nat :=
 if l.length < 20 then 50 else if bt l 0 / 16 ≠ 4 then 51 else if bt l 0 % 16 ≠ 5 then 52 else if wd l 2 ≠ (l.length : Int) then 53
 else if ck (wsum (l.take 20)) ≠ 0 then 55 else if wd l 6 ≠ 0 ∧ wd l 6 ≠ 16384 then 54 else 0
theorem dec_50 {l : List UInt8} (h : l.length < 20) : dec l = 50 := by unfold dec; rw [if_pos h]
theorem dec_51 {l : List UInt8} (h : ¬ l.length < 20) (h1 : bt l 0 / 16 ≠ 4) : dec l = 51 := by unfold dec; rw [if_neg h, if_pos h1]
theorem dec_52 {l : List UInt8} (h : ¬ l.length < 20) (h1 : bt l 0 / 16 = 4) (h2 : bt l 0 % 16 ≠ 5) : dec l = 52 := by unfold dec; rw [if_neg h, if_neg (by simpa using h1), if_pos h2]
theorem dec_53 {l : List UInt8} (h : ¬ l.length < 20) (h1 : bt l 0 / 16 = 4) (h2 : bt l 0 % 16 = 5) (h3 : wd l 2 ≠ (l.length : Int)) : dec l = 53 := by
 unfold dec; rw [if_neg h, if_neg (by simpa using h1), if_neg (by simpa using h2), if_pos h3]
theorem dec_55 {l : List UInt8} (h : ¬ l.length < 20) (h1 : bt l 0 / 16 = 4) (h2 : bt l 0 % 16 = 5) (h3 : wd l 2 = (l.length : Int)) (h4 : ck (wsum (l.take 20)) ≠ 0) : dec l = 55 := by
 unfold dec; rw [if_neg h, if_neg (by simpa using h1), if_neg (by simpa using h2), if_neg (by simpa using h3), if_pos h4]
theorem dec_54 {l : List UInt8} (h : ¬ l.length < 20) (h1 : bt l 0 / 16 = 4) (h2 : bt l 0 % 16 = 5) (h3 : wd l 2 = (l.length : Int)) (h4 : ck (wsum (l.take 20)) = 0) (h5 : wd l 6 ≠ 0 ∧ wd l 6 ≠ 16384) : dec l = 54 := by
 unfold dec; rw [if_neg h, if_neg (by simpa using h1), if_neg (by simpa using h2), if_neg (by simpa using h3), if_neg (by simpa using h4), if_pos h5]
theorem dec_0 {l : List UInt8} (h : ¬ l.length < 20) (h1 : bt l 0 / 16 = 4) (h2 : bt l 0 % 16 = 5) (h3 : wd l 2 = (l.length : Int)) (h4 : ck (wsum (l.take 20)) = 0) (h5 : ¬ (wd l 6 ≠ 0 ∧ wd l 6 ≠ 16384)) : dec l = 0 := by
 unfold dec; rw [if_neg h, if_neg (by simpa using h1), if_neg (by simpa using h2), if_neg (by simpa using h3), if_neg (by simpa using h4), if_neg h5]
theorem bt_app {l m : List UInt8} {k : Nat} (h : k < l.length) : bt (l ++ m) k = bt l k := by
 unfold bt; simp [List.getD, List.getElem?_append_left h]
theorem wd_app {l m : List UInt8} {k : Nat} (h : k + 1 < l.length) : wd (l ++ m) k = wd l k := by
 unfold wd; rw [bt_app (by omega), bt_app h]
section
variable {a b p t s i : Nat} {d : Bool} {l : List UInt8}
theorem bt_nat (xs : List UInt8) (k n : Nat) (h : xs.getD k 0 = oct n) (hn : n ≤ 255) : bt xs k = (n : Int) := by
 unfold bt; rw [h, oct_nat hn]
theorem en_b0 : bt (en a b p t s i d l) 0 = 69 := rfl
theorem en_len2 (h : l.length ≤ 65515) : wd (en a b p t s i d l) 2 = ((en a b p t s i d l).length : Int) := by
 rw [en_len]
 have h1 : bt (en a b p t s i d l) 2 = (((20 + l.length) / 256 : Nat) : Int) := bt_nat _ _ _ rfl (by omega)
 have h2 : bt (en a b p t s i d l) 3 = (((20 + l.length) % 256 : Nat) : Int) := bt_nat _ _ _ rfl (by omega)
 show bt _ 2 * 256 + bt _ 3 = _
 rw [h1, h2]; omega
theorem en_take : (en a b p t s i d l).take 20 = hc a b p t s i d (20 + l.length) := by
 unfold en
 rw [List.take_append_of_le_length (by rw [hc_len]; omega), List.take_of_length_le (by rw [hc_len]; omega)]
theorem en_drop : (en a b p t s i d l).drop 20 = l := by
 unfold en
 rw [List.drop_append_of_le_length (by rw [hc_len]; omega), List.drop_of_length_le (by rw [hc_len]; omega), List.nil_append]
theorem en_6 : wd (en a b p t s i d l) 6 = if d then 16384 else 0 := by
 have h1 : bt (en a b p t s i d l) 6 = ((dfb d).toNat : Int) := rfl
 have h2 : bt (en a b p t s i d l) 7 = 0 := rfl
 show bt _ 6 * 256 + bt _ 7 = _
 rw [h1, h2]; cases d <;> decide
theorem en_dec (h : l.length ≤ 65515) : dec (en a b p t s i d l) = 0 := by
 refine dec_0 (by rw [en_len]; omega) (by rw [en_b0]; decide) (by rw [en_b0]; decide) (en_len2 h) ?_ ?_
 ·rw [en_take]; exact hc_right _ _ _ _ _ _ _ _
 ·rw [en_6]; cases d <;> simp
theorem en_proto (h : Ok a b p t s i) : bt (en a b p t s i d l) 9 = p := bt_nat _ _ _ rfl h.2.2.1
theorem en_src (h : Ok a b p t s i) : qd (en a b p t s i d l) 12 = a := by
 have hq := q_le a h.1
 have h1 : bt (en a b p t s i d l) 12 = (q3 a : Nat) := bt_nat _ _ _ rfl hq.1
 have h2 : bt (en a b p t s i d l) 13 = (q2 a : Nat) := bt_nat _ _ _ rfl hq.2.1
 have h3 : bt (en a b p t s i d l) 14 = (q1 a : Nat) := bt_nat _ _ _ rfl hq.2.2.1
 have h4 : bt (en a b p t s i d l) 15 = (q0 a : Nat) := bt_nat _ _ _ rfl hq.2.2.2
 show (bt _ 12 * 256 + bt _ 13) * 65536 + (bt _ 14 * 256 + bt _ 15) = _
 rw [h1, h2, h3, h4]; unfold q3 q2 q1 q0; omega
theorem en_dst (h : Ok a b p t s i) : qd (en a b p t s i d l) 16 = b := by
 have hq := q_le b h.2.1
 have h1 : bt (en a b p t s i d l) 16 = (q3 b : Nat) := bt_nat _ _ _ rfl hq.1
 have h2 : bt (en a b p t s i d l) 17 = (q2 b : Nat) := bt_nat _ _ _ rfl hq.2.1
 have h3 : bt (en a b p t s i d l) 18 = (q1 b : Nat) := bt_nat _ _ _ rfl hq.2.2.1
 have h4 : bt (en a b p t s i d l) 19 = (q0 b : Nat) := bt_nat _ _ _ rfl hq.2.2.2
 show (bt _ 16 * 256 + bt _ 17) * 65536 + (bt _ 18 * 256 + bt _ 19) = _
 rw [h1, h2, h3, h4]; unfold q3 q2 q1 q0; omega
end

end Go.Proofs.YtafckmbgefbonaaGreat.im

namespace Go.Proofs.YtafckmbgefbonaaGreat.cm
open sm nb

theorem bt_nat (xs : List UInt8) (k n : Nat) (h : xs.getD k 0 = oct n) (hn : n ≤ 255) : bt xs k = (n : Int) := by
 unfold bt; rw [h, oct_nat hn]
def Ok (p q sq ak fl wi ur : Nat) : Prop := p ≤ 65535 ∧ q ≤ 65535 ∧ sq ≤ 4294967295 ∧ ak ≤ 4294967295 ∧ fl ≤ 255 ∧ wi ≤ 65535 ∧ ur ≤ 65535
def May (fl n : Nat) : Prop := n % 4 = 0 ∧ n ≤ 40 ∧ fl < 64
def pre (p q sq ak fl wi n : Nat) : List UInt8 :=
  [oct (p / 256), oct (p % 256), oct (q / 256), oct (q % 256), oct (q3 sq), oct (q2 sq), oct (q1 sq), oct (q0 sq), oct (q3 ak), oct (q2 ak), oct (q1 ak), oct (q0 ak),
   oct ((20 + n) / 4 * 16), oct fl, oct (wi / 256), oct (wi % 256)]
theorem pre_len (p q sq ak fl wi n : Nat) : (pre p q sq ak fl wi n).length = 16 := rfl
def rw_ (p q sq ak fl wi ur : Nat) (o d : List UInt8) (c : Nat) : List UInt8 := pre p q sq ak fl wi o.length ++ (B16 c ++ (B16 ur ++ (o ++ d)))
theorem rw_len (p q sq ak fl wi ur : Nat) (o d : List UInt8) (c : Nat) : (rw_ p q sq ak fl wi ur o d c).length = 20 + o.length + d.length := by
 unfold rw_
 simp only [List.length_append, pre_len]
 show 16 + (2 + (2 + (o.length + d.length))) = _
 omega
def ts (x y : Nat) (l : List UInt8) : Int := wsum (B32 x ++ B32 y ++ [0, 6] ++ B16 l.length ++ l)
theorem wsum_B16 (n : Nat) (h : n ≤ 65535) (l : List UInt8) : wsum (B16 n ++ l) = (n : Int) + wsum l := by
 show ((oct (n / 256)).toNat : Int) * 256 + ((oct (n % 256)).toNat : Int) + wsum l = _
 rw [oct_nat (by omega), oct_nat (by omega)]; omega
theorem wsum_B32 (x : Nat) (h : x ≤ 4294967295) : wsum (B32 x) = ((x / 65536 : Nat) : Int) + ((x % 65536 : Nat) : Int) := by
 have hq := q_le x h
 show ((oct (q3 x)).toNat : Int) * 256 + ((oct (q2 x)).toNat : Int) + (((oct (q1 x)).toNat : Int) * 256 + ((oct (q0 x)).toNat : Int) + 0) = _
 rw [oct_nat hq.1, oct_nat hq.2.1, oct_nat hq.2.2.1, oct_nat hq.2.2.2]
 unfold q3 q2 q1 q0; omega
theorem ts_eq (x y : Nat) (l : List UInt8) (hx : x ≤ 4294967295) (hy : y ≤ 4294967295) (hl : l.length ≤ 65535) :
  ts x y l = ((x / 65536 : Nat) : Int) + ((x % 65536 : Nat) : Int) + ((y / 65536 : Nat) : Int) + ((y % 65536 : Nat) : Int) + 6 + (l.length : Int) + wsum l := by
 unfold ts
 rw [List.append_assoc, List.append_assoc, List.append_assoc, wsum_append _ _ (by simp [B32]), wsum_append _ _ (by simp [B32]), wsum_B32 x hx, wsum_B32 y hy]
 show _ + (_ + (((0 : UInt8).toNat : Int) * 256 + ((6 : UInt8).toNat : Int) + wsum (B16 l.length ++ l))) = _
 rw [wsum_B16 _ hl]
 have e0 : ((0 : UInt8).toNat : Int) = 0 := rfl
 have e6 : ((6 : UInt8).toNat : Int) = 6 := rfl
 rw [e0, e6]; omega
theorem rw_sum (p q sq ak fl wi ur : Nat) (o d : List UInt8) (c : Nat) (hc : c ≤ 65535) : wsum (rw_ p q sq ak fl wi ur o d c) = wsum (rw_ p q sq ak fl wi ur o d 0) + (c : Int) := by
 have e : ∀ c, c ≤ 65535 → wsum (rw_ p q sq ak fl wi ur o d c) = wsum (pre p q sq ak fl wi o.length) + ((c : Int) + wsum (B16 ur ++ (o ++ d))) := fun c hc => by
  unfold rw_; rw [wsum_append _ _ (by rw [pre_len]), wsum_B16 c hc]
 rw [e c hc, e 0 (by omega)]; omega
def cs (x y p q sq ak fl wi ur : Nat) (o d : List UInt8) : Nat := (ck (ts x y (rw_ p q sq ak fl wi ur o d 0))).toNat
theorem cs_int (x y p q sq ak fl wi ur : Nat) (o d : List UInt8) : ((cs x y p q sq ak fl wi ur o d : Nat) : Int) = ck (ts x y (rw_ p q sq ak fl wi ur o d 0)) := by
 have := ck_bd (ts x y (rw_ p q sq ak fl wi ur o d 0)) (wsum_bd _).1
 unfold cs; omega
theorem cs_le (x y p q sq ak fl wi ur : Nat) (o d : List UInt8) : cs x y p q sq ak fl wi ur o d ≤ 65535 := by
 have := ck_bd (ts x y (rw_ p q sq ak fl wi ur o d 0)) (wsum_bd _).1
 unfold cs; omega
def en (x y p q sq ak fl wi ur : Nat) (o d : List UInt8) : List UInt8 := rw_ p q sq ak fl wi ur o d (cs x y p q sq ak fl wi ur o d)
theorem en_len (x y p q sq ak fl wi ur : Nat) (o d : List UInt8) : (en x y p q sq ak fl wi ur o d).length = 20 + o.length + d.length := rw_len _ _ _ _ _ _ _ _ _ _

def hl (l : List UInt8) : Int := bt l 12 / 16 * 4
def dec (x y : Nat) (l : List UInt8) : Nat :=
 if l.length < 20 then 50 else if 65515 < l.length then 4 else if ck (ts x y l) ≠ 0 then 55 else if hl l < 20 ∨ (l.length : Int) < hl l then 60
 else if bt l 12 % 16 ≠ 0 ∨ 64 ≤ bt l 13 then 61 else 0
section
variable {x y : Nat} {l : List UInt8}
theorem dec_50 (h : l.length < 20) : dec x y l = 50 := by unfold dec; rw [if_pos h]
theorem dec_4 (h : ¬ l.length < 20) (h1 : 65515 < l.length) : dec x y l = 4 := by unfold dec; rw [if_neg h, if_pos h1]
theorem dec_55 (h : ¬ l.length < 20) (h1 : ¬ 65515 < l.length) (h2 : ck (ts x y l) ≠ 0) : dec x y l = 55 := by unfold dec; rw [if_neg h, if_neg h1, if_pos h2]
theorem dec_60 (h : ¬ l.length < 20) (h1 : ¬ 65515 < l.length) (h2 : ¬ ck (ts x y l) ≠ 0) (h3 : hl l < 20 ∨ (l.length : Int) < hl l) : dec x y l = 60 := by
 unfold dec; rw [if_neg h, if_neg h1, if_neg h2, if_pos h3]
theorem dec_61 (h : ¬ l.length < 20) (h1 : ¬ 65515 < l.length) (h2 : ¬ ck (ts x y l) ≠ 0) (h3 : ¬ (hl l < 20 ∨ (l.length : Int) < hl l)) (h4 : bt l 12 % 16 ≠ 0 ∨ 64 ≤ bt l 13) : dec x y l = 61 := by
 unfold dec; rw [if_neg h, if_neg h1, if_neg h2, if_neg h3, if_pos h4]
theorem dec_0 (h : ¬ l.length < 20) (h1 : ¬ 65515 < l.length) (h2 : ¬ ck (ts x y l) ≠ 0) (h3 : ¬ (hl l < 20 ∨ (l.length : Int) < hl l)) (h4 : ¬ (bt l 12 % 16 ≠ 0 ∨ 64 ≤ bt l 13)) : dec x y l = 0 := by
 unfold dec; rw [if_neg h, if_neg h1, if_neg h2, if_neg h3, if_neg h4]
theorem dec_is0 (h : dec x y l = 0) : ¬ l.length < 20 ∧ ¬ 65515 < l.length ∧ ck (ts x y l) = 0 ∧ ¬ (hl l < 20 ∨ (l.length : Int) < hl l) ∧ ¬ (bt l 12 % 16 ≠ 0 ∨ 64 ≤ bt l 13) := by
 unfold dec at h
 split at h
 ·omega
 ·split at h
  ·omega
  ·split at h
   ·omega
   ·split at h
    ·omega
    ·split at h
     ·omega
     ·rename_i h1 h2 h3 h4 h5
      exact ⟨h1, h2, Decidable.not_not.1 h3, h4, h5⟩
end

section
variable {x y p q sq ak fl wi ur : Nat} {o d : List UInt8}
theorem en_right (hx : x ≤ 4294967295) (hy : y ≤ 4294967295) (hz : 20 + o.length + d.length ≤ 65515) : ck (ts x y (en x y p q sq ak fl wi ur o d)) = 0 := by
 have hc := cs_le x y p q sq ak fl wi ur o d
 have e : ts x y (en x y p q sq ak fl wi ur o d) = ts x y (rw_ p q sq ak fl wi ur o d 0) + ((cs x y p q sq ak fl wi ur o d : Nat) : Int) := by
  rw [ts_eq x y _ hx hy (by rw [en_len]; omega), ts_eq x y _ hx hy (by rw [rw_len]; omega), en_len, rw_len]
  unfold en
  rw [rw_sum _ _ _ _ _ _ _ _ _ _ hc]; omega
 rw [e, cs_int]
 exact ck_bears _ (wsum_bd _).1
theorem en_12 (hm : May fl o.length) : bt (en x y p q sq ak fl wi ur o d) 12 = ((20 + o.length) / 4 * 16 : Nat) := by
 obtain ⟨h1, h2, h3⟩ := hm
 exact bt_nat _ _ _ rfl (by omega)
theorem en_hl (hm : May fl o.length) : hl (en x y p q sq ak fl wi ur o d) = ((20 + o.length : Nat) : Int) := by
 unfold hl
 rw [en_12 hm]
 obtain ⟨h1, h2, h3⟩ := hm
 omega
theorem en_13 (h : fl ≤ 255) : bt (en x y p q sq ak fl wi ur o d) 13 = (fl : Int) := bt_nat _ _ _ rfl h
theorem en_dec (hx : x ≤ 4294967295) (hy : y ≤ 4294967295) (hm : May fl o.length) (hz : 20 + o.length + d.length ≤ 65515) : dec x y (en x y p q sq ak fl wi ur o d) = 0 := by
 have h12 := en_12 (x := x) (y := y) (p := p) (q := q) (sq := sq) (ak := ak) (wi := wi) (ur := ur) (d := d) hm
 have h13 := en_13 (x := x) (y := y) (p := p) (q := q) (sq := sq) (ak := ak) (fl := fl) (wi := wi) (ur := ur) (o := o) (d := d) (by have := hm.2.2; omega)
 have hh := en_hl (x := x) (y := y) (p := p) (q := q) (sq := sq) (ak := ak) (wi := wi) (ur := ur) (d := d) hm
 refine dec_0 (by rw [en_len]; omega) (by rw [en_len]; omega) (by rw [en_right hx hy hz]; simp) ?_ ?_
 ·rw [hh, en_len]; omega
 ·rw [h12, h13]; have := hm.2.2; omega
theorem en_p (h : p ≤ 65535) : wd (en x y p q sq ak fl wi ur o d) 0 = p := by
 have h1 : bt (en x y p q sq ak fl wi ur o d) 0 = ((p / 256 : Nat) : Int) := bt_nat _ _ _ rfl (by omega)
 have h2 : bt (en x y p q sq ak fl wi ur o d) 1 = ((p % 256 : Nat) : Int) := bt_nat _ _ _ rfl (by omega)
 show bt _ 0 * 256 + bt _ 1 = _
 rw [h1, h2]; omega
theorem en_q (h : q ≤ 65535) : wd (en x y p q sq ak fl wi ur o d) 2 = q := by
 have h1 : bt (en x y p q sq ak fl wi ur o d) 2 = ((q / 256 : Nat) : Int) := bt_nat _ _ _ rfl (by omega)
 have h2 : bt (en x y p q sq ak fl wi ur o d) 3 = ((q % 256 : Nat) : Int) := bt_nat _ _ _ rfl (by omega)
 show bt _ 2 * 256 + bt _ 3 = _
 rw [h1, h2]; omega
theorem en_sq (h : sq ≤ 4294967295) : qd (en x y p q sq ak fl wi ur o d) 4 = sq := by
 have hq := q_le sq h
 have h1 : bt (en x y p q sq ak fl wi ur o d) 4 = (q3 sq : Nat) := bt_nat _ _ _ rfl hq.1
 have h2 : bt (en x y p q sq ak fl wi ur o d) 5 = (q2 sq : Nat) := bt_nat _ _ _ rfl hq.2.1
 have h3 : bt (en x y p q sq ak fl wi ur o d) 6 = (q1 sq : Nat) := bt_nat _ _ _ rfl hq.2.2.1
 have h4 : bt (en x y p q sq ak fl wi ur o d) 7 = (q0 sq : Nat) := bt_nat _ _ _ rfl hq.2.2.2
 show (bt _ 4 * 256 + bt _ 5) * 65536 + (bt _ 6 * 256 + bt _ 7) = _
 rw [h1, h2, h3, h4]; unfold q3 q2 q1 q0; omega
theorem en_ak (h : ak ≤ 4294967295) : qd (en x y p q sq ak fl wi ur o d) 8 = ak := by
 have hq := q_le ak h
 have h1 : bt (en x y p q sq ak fl wi ur o d) 8 = (q3 ak : Nat) := bt_nat _ _ _ rfl hq.1
 have h2 : bt (en x y p q sq ak fl wi ur o d) 9 = (q2 ak : Nat) := bt_nat _ _ _ rfl hq.2.1
 have h3 : bt (en x y p q sq ak fl wi ur o d) 10 = (q1 ak : Nat) := bt_nat _ _ _ rfl hq.2.2.1
 have h4 : bt (en x y p q sq ak fl wi ur o d) 11 = (q0 ak : Nat) := bt_nat _ _ _ rfl hq.2.2.2
 show (bt _ 8 * 256 + bt _ 9) * 65536 + (bt _ 10 * 256 + bt _ 11) = _
 rw [h1, h2, h3, h4]; unfold q3 q2 q1 q0; omega
theorem en_wi (h : wi ≤ 65535) : wd (en x y p q sq ak fl wi ur o d) 14 = wi := by
 have h1 : bt (en x y p q sq ak fl wi ur o d) 14 = ((wi / 256 : Nat) : Int) := bt_nat _ _ _ rfl (by omega)
 have h2 : bt (en x y p q sq ak fl wi ur o d) 15 = ((wi % 256 : Nat) : Int) := bt_nat _ _ _ rfl (by omega)
 show bt _ 14 * 256 + bt _ 15 = _
 rw [h1, h2]; omega
theorem en_20 : (en x y p q sq ak fl wi ur o d).drop 20 = o ++ d := rfl
theorem en_opts : ((en x y p q sq ak fl wi ur o d).drop 20).take o.length = o := by
 rw [en_20, List.take_append_of_le_length (Nat.le_refl _), List.take_length]
theorem en_data : (en x y p q sq ak fl wi ur o d).drop (20 + o.length) = d := by
 rw [← List.drop_drop, en_20, List.drop_append_of_le_length (Nat.le_refl _), List.drop_length, List.nil_append]
end

/-! ### what is turned -/
end Go.Proofs.YtafckmbgefbonaaGreat.cm

namespace Go.Proofs.YtafckmbgefbonaaGreat.cm
open sm nb

theorem hi_of (a b : UInt8) : oct ((a.toNat * 256 + b.toNat) / 256) = a := by
 have := UInt8.toNat_lt b
 rw [show (a.toNat * 256 + b.toNat) / 256 = a.toNat by omega, oct_of]
theorem lo_of (a b : UInt8) : oct ((a.toNat * 256 + b.toNat) % 256) = b := by
 have := UInt8.toNat_lt b
 rw [show (a.toNat * 256 + b.toNat) % 256 = b.toNat by omega, oct_of]
end Go.Proofs.YtafckmbgefbonaaGreat.cm

namespace Go.Proofs.YtafckmbgefbonaaGreat.om
open sm nb

structure Opz where
 mss : Nat
 sc : Int
 sk : Bool
 bl : List (Nat × Nat)
 tm : Bool
 va : Nat
 ec : Nat
abbrev M32 : Nat := 4294967296
def none_ : Opz := ⟨0, -1, false, [], false, 0, 0⟩
def zero_ : Opz := ⟨0, 0, false, [], false, 0, 0⟩
def Wf (o : Opz) : Prop := o.mss ≤ 65535 ∧ (∀ b ∈ o.bl, b.1 < M32 ∧ b.2 < M32) ∧ o.va < M32 ∧ o.ec < M32
def same (a b : Opz) : Bool := a.mss == b.mss && a.sc == b.sc && a.sk == b.sk && a.tm == b.tm && a.va == b.va && a.ec == b.ec && a.bl == b.bl
theorem same_iff (a b : Opz) : same a b = true ↔ a = b := by
 cases a; cases b
 simp [same]
 constructor
 ·rintro ⟨⟨⟨⟨⟨⟨h1, h2⟩, h3⟩, h4⟩, h5⟩, h6⟩, h7⟩; exact ⟨h1, h2, h3, h7, h4, h5, h6⟩
 ·rintro ⟨h1, h2, h3, h7, h4, h5, h6⟩; exact ⟨⟨⟨⟨⟨⟨h1, h2⟩, h3⟩, h4⟩, h5⟩, h6⟩, h7⟩

/-! ### bytes of options -/
def rMss (o : Opz) : List UInt8 := if o.mss = 0 then [] else 2 :: 4 :: B16 o.mss
def rSc (o : Opz) : List UInt8 := if 0 ≤ o.sc then [1, 3, 3, oct o.sc.toNat] else []
def rSk (o : Opz) : List UInt8 := if o.sk = true then [1, 1, 4, 2] else []
def rTm (o : Opz) : List UInt8 := if o.tm = true then 1 :: 1 :: 8 :: 10 :: (B32 o.va ++ B32 o.ec) else []
def flat : List (Nat × Nat) → List UInt8
 | [] => []
 | b :: t => B32 b.1 ++ (B32 b.2 ++ flat t)
def rBl (o : Opz) : List UInt8 := if o.bl = [] then [] else 1 :: 1 :: 5 :: oct (2 + 8 * o.bl.length) :: flat o.bl
def raw (o : Opz) : List UInt8 := rMss o ++ (rSc o ++ (rSk o ++ (rTm o ++ rBl o)))
theorem flat_len : ∀ l, (flat l).length = 8 * l.length
 | [] => rfl
 | b :: t => by simp [flat, B32, flat_len t]; omega
theorem flat_app : ∀ l m, flat (l ++ m) = flat l ++ flat m
 | [], m => rfl
 | b :: t, m => by simp [flat, flat_app t m]
theorem rMss_len (o : Opz) : (rMss o).length = if o.mss = 0 then 0 else 4 := by unfold rMss; split <;> rfl
theorem rSc_len (o : Opz) : (rSc o).length = if 0 ≤ o.sc then 4 else 0 := by unfold rSc; split <;> rfl
theorem rSk_len (o : Opz) : (rSk o).length = if o.sk = true then 4 else 0 := by unfold rSk; split <;> rfl
theorem rTm_len (o : Opz) : (rTm o).length = if o.tm = true then 12 else 0 := by unfold rTm; split <;> rfl
theorem rBl_len (o : Opz) : (rBl o).length = if o.bl = [] then 0 else 4 + 8 * o.bl.length := by
 unfold rBl; split
 ·rfl
 ·simp only [List.length_cons, flat_len]; omega
def rawLen (o : Opz) : Nat := (if o.mss = 0 then 0 else 4) + (if 0 ≤ o.sc then 4 else 0) + (if o.sk = true then 4 else 0) + (if o.tm = true then 12 else 0) + (if o.bl = [] then 0 else 4 + 8 * o.bl.length)
theorem raw_len (o : Opz) : (raw o).length = rawLen o := by
 unfold raw rawLen
 rw [List.length_append, List.length_append, List.length_append, List.length_append, rMss_len, rSc_len, rSk_len, rTm_len, rBl_len]
 omega
theorem rawLen_four (o : Opz) : rawLen o % 4 = 0 := by
 unfold rawLen
 (repeat' split) <;> omega
abbrev May (o : Opz) : Prop := -1 ≤ o.sc ∧ o.sc ≤ 14 ∧ o.bl.length ≤ 4 ∧ (o.tm = false → o.va = 0 ∧ o.ec = 0) ∧ rawLen o ≤ 40

/-! ### bytes read -/
abbrev Item := Nat × List UInt8
def lenOk (k n : Nat) : Bool := if k = 2 then n == 4 else if k = 3 then n == 3 else if k = 4 then n == 2 else if k = 5 then n == 10 || n == 18 || n == 26 || n == 34 else if k = 8 then n == 10 else decide (2 ≤ n)
def known (k : Nat) : Bool := decide (2 ≤ k) && decide (k ≤ 5) || k == 8
theorem lenOk_two {k n : Nat} (h : lenOk k n = true) : 2 ≤ n := by
 unfold lenOk at h
 (repeat' split at h) <;> simp at h <;> omega
def parse : List UInt8 → Option (List Item)
 | [] => some []
 | k :: t =>
  if k.toNat = 0 then some [] else if k.toNat = 1 then parse t else
  match t with
  | [] => none
  | n :: u => if lenOk k.toNat n.toNat = true ∧ n.toNat ≤ u.length + 2 then (parse (u.drop (n.toNat - 2))).map fun r => (k.toNat, u.take (n.toNat - 2)) :: r else none
termination_by l => l.length
decreasing_by
 all_goals (simp; try omega)
theorem parse_nil : parse [] = some [] := by rw [parse]
theorem parse_0 (k : UInt8) (t : List UInt8) (h : k.toNat = 0) : parse (k :: t) = some [] := by cases t <;> rw [parse, if_pos h]
theorem parse_1 (k : UInt8) (t : List UInt8) (h : k.toNat = 1) : parse (k :: t) = parse t := by cases t <;> (conv => lhs; rw [parse, if_neg (by omega), if_pos h])
theorem parse_one (k : UInt8) (h : k.toNat ≠ 0) (h1 : k.toNat ≠ 1) : parse [k] = none := by rw [parse, if_neg h, if_neg h1]
theorem parse_no (k n : UInt8) (u : List UInt8) (h : k.toNat ≠ 0) (h1 : k.toNat ≠ 1) (h2 : ¬ (lenOk k.toNat n.toNat = true ∧ n.toNat ≤ u.length + 2)) : parse (k :: n :: u) = none := by
 rw [parse, if_neg h, if_neg h1, if_neg h2]
theorem parse_yes (k n : UInt8) (u : List UInt8) (h : k.toNat ≠ 0) (h1 : k.toNat ≠ 1) (h2 : lenOk k.toNat n.toNat = true) (h3 : n.toNat ≤ u.length + 2) :
  parse (k :: n :: u) = (parse (u.drop (n.toNat - 2))).map fun r => (k.toNat, u.take (n.toNat - 2)) :: r := by
 rw [parse, if_neg h, if_neg h1, if_pos ⟨h2, h3⟩]
theorem parse_item (k n : UInt8) (p t : List UInt8) (h : 2 ≤ k.toNat) (h2 : lenOk k.toNat n.toNat = true) (h3 : n.toNat = p.length + 2) :
  parse (k :: n :: (p ++ t)) = (parse t).map fun r => (k.toNat, p) :: r := by
 rw [parse_yes k n _ (by omega) (by omega) h2 (by rw [List.length_append]; omega)]
 rw [h3, Nat.add_sub_cancel, List.drop_left, List.take_left]
abbrev Clash (x y : Item) : Prop := known x.1 = true → x.1 ≠ y.1
abbrev Fine (l : List Item) : Prop := l.Pairwise Clash ∧ ∀ x ∈ l, ¬ (x.1 = 2 ∧ wd x.2 0 = 0)
def blocks (p : List UInt8) : List (Nat × Nat) := (List.range (p.length / 8)).map fun i => ((qd p (8 * i)).toNat, (qd p (8 * i + 4)).toNat)
def put (o : Opz) (x : Item) : Opz :=
 if x.1 = 2 then { o with mss := (wd x.2 0).toNat } else if x.1 = 3 then { o with sc := min (bt x.2 0) 14 } else if x.1 = 4 then { o with sk := true }
 else if x.1 = 5 then { o with bl := o.bl ++ blocks x.2 } else if x.1 = 8 then { o with tm := true, va := (qd x.2 0).toNat, ec := (qd x.2 4).toNat } else o
def dec (l : List UInt8) : Option Opz :=
 match parse l with
 | none => none
 | some its => if Fine its then some (its.foldl put none_) else none
def err (l : List UInt8) : Nat := if 40 < l.length then 4 else if (dec l).isNone then 70 else 0
def decO (l : List UInt8) : Opz := if 40 < l.length then zero_ else (dec l).getD zero_
theorem dec_some {l : List UInt8} {its : List Item} (h : parse l = some its) (hf : Fine its) : dec l = some (its.foldl put none_) := by
 unfold dec; rw [h]; exact if_pos hf
theorem dec_bad {l : List UInt8} {its : List Item} (h : parse l = some its) (hf : ¬ Fine its) : dec l = none := by
 unfold dec; rw [h]; exact if_neg hf
theorem dec_none {l : List UInt8} (h : parse l = none) : dec l = none := by
 unfold dec; rw [h]
theorem dec_is {l : List UInt8} {o : Opz} (h : dec l = some o) : ∃ its, parse l = some its ∧ Fine its ∧ o = its.foldl put none_ := by
 unfold dec at h
 split at h
 ·cases h
 ·rename_i its hp
  split at h
  ·rename_i hf; cases h; exact ⟨its, hp, hf, rfl⟩
  ·cases h
theorem err_0 {l : List UInt8} {o : Opz} (h : dec l = some o) (hl : l.length ≤ 40) : err l = 0 ∧ decO l = o := by
 unfold err decO; rw [if_neg (Nat.not_lt.2 hl), if_neg (Nat.not_lt.2 hl), h]; exact ⟨rfl, rfl⟩
theorem err_70 {l : List UInt8} (h : dec l = none) (hl : l.length ≤ 40) : err l = 70 ∧ decO l = zero_ := by
 unfold err decO; rw [if_neg (Nat.not_lt.2 hl), if_neg (Nat.not_lt.2 hl), h]; exact ⟨rfl, rfl⟩
theorem err_4 {l : List UInt8} (hl : 40 < l.length) : err l = 4 ∧ decO l = zero_ := by
 unfold err decO; rw [if_pos hl, if_pos hl]; exact ⟨rfl, rfl⟩
theorem err_is0 {l : List UInt8} (h : err l = 0) : l.length ≤ 40 ∧ ∃ o, dec l = some o ∧ decO l = o := by
 by_cases hl : 40 < l.length
 ·rw [(err_4 hl).1] at h; cases h
 ·cases hd : dec l with
  | none => rw [(err_70 hd (by omega)).1] at h; cases h
  | some o => exact ⟨by omega, o, rfl, (err_0 hd (by omega)).2⟩

/-! ### what was written is read -/
def iMss (o : Opz) : List Item := if o.mss = 0 then [] else [(2, B16 o.mss)]
def iSc (o : Opz) : List Item := if 0 ≤ o.sc then [(3, [oct o.sc.toNat])] else []
def iSk (o : Opz) : List Item := if o.sk = true then [(4, [])] else []
def iTm (o : Opz) : List Item := if o.tm = true then [(8, B32 o.va ++ B32 o.ec)] else []
def iBl (o : Opz) : List Item := if o.bl = [] then [] else [(5, flat o.bl)]
def items (o : Opz) : List Item := iMss o ++ (iSc o ++ (iSk o ++ (iTm o ++ iBl o)))
theorem map_id_nil (x : Option (List Item)) : x.map (fun r => [] ++ r) = x := by cases x <;> rfl
theorem p_mss (o : Opz) (t : List UInt8) : parse (rMss o ++ t) = (parse t).map fun r => iMss o ++ r := by
 unfold rMss iMss; split
 ·rw [map_id_nil]; rfl
 ·exact parse_item 2 4 (B16 o.mss) t (by decide) rfl rfl
theorem p_sc (o : Opz) (h : o.sc ≤ 14) (t : List UInt8) : parse (rSc o ++ t) = (parse t).map fun r => iSc o ++ r := by
 unfold rSc iSc; split
 ·show parse (1 :: 3 :: 3 :: ([oct o.sc.toNat] ++ t)) = _
  rw [parse_1 1 _ rfl, parse_item 3 3 _ t (by decide) rfl rfl]; rfl
 ·rw [map_id_nil]; rfl
theorem p_sk (o : Opz) (t : List UInt8) : parse (rSk o ++ t) = (parse t).map fun r => iSk o ++ r := by
 unfold rSk iSk; split
 ·show parse (1 :: 1 :: 4 :: 2 :: ([] ++ t)) = _
  rw [parse_1 1 _ rfl, parse_1 1 _ rfl, parse_item 4 2 _ t (by decide) rfl rfl]; rfl
 ·rw [map_id_nil]; rfl
theorem p_tm (o : Opz) (t : List UInt8) : parse (rTm o ++ t) = (parse t).map fun r => iTm o ++ r := by
 unfold rTm iTm; split
 ·show parse (1 :: 1 :: 8 :: 10 :: ((B32 o.va ++ B32 o.ec) ++ t)) = _
  rw [parse_1 1 _ rfl, parse_1 1 _ rfl, parse_item 8 10 _ t (by decide) rfl rfl]; rfl
 ·rw [map_id_nil]; rfl
theorem p_bl (o : Opz) (h : o.bl.length ≤ 4) (t : List UInt8) : parse (rBl o ++ t) = (parse t).map fun r => iBl o ++ r := by
 unfold rBl iBl; split
 ·rw [map_id_nil]; rfl
 ·rename_i hb
  have hn : 0 < o.bl.length := List.length_pos_iff.2 hb
  have e : (oct (2 + 8 * o.bl.length)).toNat = 2 + 8 * o.bl.length := oct_nat (by omega)
  show parse (1 :: 1 :: 5 :: oct (2 + 8 * o.bl.length) :: (flat o.bl ++ t)) = _
  rw [parse_1 1 _ rfl, parse_1 1 _ rfl, parse_item 5 _ _ t (by decide) ?_ (by rw [e, flat_len]; omega)]; rfl
  rw [e]
  rcases (by omega : o.bl.length = 1 ∨ o.bl.length = 2 ∨ o.bl.length = 3 ∨ o.bl.length = 4) with h | h | h | h <;> rw [h] <;> rfl
theorem p_raw {o : Opz} (h : May o) (t : List UInt8) : parse (raw o ++ t) = (parse t).map fun r => items o ++ r := by
 obtain ⟨_, h1, h2, _, _⟩ := h
 unfold raw items
 simp only [List.append_assoc]
 rw [p_mss, p_sc o h1, p_sk, p_tm, p_bl o h2]
 cases parse t with
 | none => rfl
 | some r => simp
theorem nat_oct (n : Nat) (h : n ≤ 255) (t : List UInt8) : bt (oct n :: t) 0 = (n : Int) := by
 show ((oct n).toNat : Int) = _
 rw [oct_nat h]
theorem wd_B16 (n : Nat) (h : n ≤ 65535) (t : List UInt8) : wd (B16 n ++ t) 0 = (n : Int) := by
 show ((oct (n / 256)).toNat : Int) * 256 + ((oct (n % 256)).toNat : Int) = _
 rw [oct_nat (by omega), oct_nat (by omega)]; omega
theorem qd_B32 (n : Nat) (h : n < M32) (t : List UInt8) : qd (B32 n ++ t) 0 = (n : Int) := by
 have hq := q_le n (by unfold M32 at h; omega)
 show (((oct (q3 n)).toNat : Int) * 256 + ((oct (q2 n)).toNat : Int)) * 65536 + (((oct (q1 n)).toNat : Int) * 256 + ((oct (q0 n)).toNat : Int)) = _
 rw [oct_nat hq.1, oct_nat hq.2.1, oct_nat hq.2.2.1, oct_nat hq.2.2.2]
 unfold q3 q2 q1 q0; omega
theorem qd_drop (l : List UInt8) (j k : Nat) : qd (l.drop j) k = qd l (j + k) := by unfold qd; rw [wd_drop, wd_drop]; rfl
theorem qd_B32' (a n : Nat) (h : n < M32) (t : List UInt8) : qd (B32 a ++ (B32 n ++ t)) 4 = (n : Int) := by
 have e := qd_drop (B32 a ++ (B32 n ++ t)) 4 0
 rw [← e, show (B32 a ++ (B32 n ++ t)).drop 4 = B32 n ++ t from rfl, qd_B32 n h]
theorem blocks_cons (b : Nat × Nat) (t : List UInt8) (h : b.1 < M32 ∧ b.2 < M32) : blocks (B32 b.1 ++ (B32 b.2 ++ t)) = b :: blocks t := by
 unfold blocks
 have e : (B32 b.1 ++ (B32 b.2 ++ t)).length / 8 = t.length / 8 + 1 := by simp [B32]; omega
 rw [e, List.range_succ_eq_map, List.map_cons, List.map_map]
 have e0 : ((qd (B32 b.1 ++ (B32 b.2 ++ t)) (8 * 0)).toNat, (qd (B32 b.1 ++ (B32 b.2 ++ t)) (8 * 0 + 4)).toNat) = b := by
  rw [Nat.mul_zero, Nat.zero_add, qd_B32 _ h.1, qd_B32' _ _ h.2]; simp
 rw [e0]
 refine congrArg (List.cons b) (List.map_congr_left ?_)
 intro i _
 have f1 := qd_drop (B32 b.1 ++ (B32 b.2 ++ t)) 8 (8 * i)
 have f2 := qd_drop (B32 b.1 ++ (B32 b.2 ++ t)) 8 (8 * i + 4)
 rw [show (B32 b.1 ++ (B32 b.2 ++ t)).drop 8 = t from rfl] at f1 f2
 show ((qd _ (8 * (i + 1))).toNat, (qd _ (8 * (i + 1) + 4)).toNat) = _
 rw [f1, f2, show 8 * (i + 1) = 8 + 8 * i by omega, show 8 + 8 * i + 4 = 8 + (8 * i + 4) by omega]
theorem blocks_flat : ∀ l : List (Nat × Nat), (∀ b ∈ l, b.1 < M32 ∧ b.2 < M32) → blocks (flat l) = l
 | [], _ => rfl
 | b :: t, h => by
  show blocks (B32 b.1 ++ (B32 b.2 ++ flat t)) = _
  rw [blocks_cons b _ (h b (by simp)), blocks_flat t (fun x hx => h x (by simp [hx]))]
theorem put_items {o : Opz} (h : May o) (hw : Wf o) : (items o).foldl put none_ = o := by
 obtain ⟨m, s, k, b, t, v, e⟩ := o
 obtain ⟨h1, h2, h3, h4, h5⟩ := h
 obtain ⟨w1, w2, w3, w4⟩ := hw
 dsimp only at h1 h2 h3 h4 h5 w1 w2 w3 w4
 have a1 : (iMss ⟨m, s, k, b, t, v, e⟩).foldl put none_ = ⟨m, -1, false, [], false, 0, 0⟩ := by
  unfold iMss; split
  ·rename_i h; dsimp only at h; subst h; rfl
  ·have := wd_B16 m w1 []
   rw [List.append_nil] at this
   show put none_ (2, B16 m) = _
   unfold put; simp [this, none_]
 have a2 : (iSc ⟨m, s, k, b, t, v, e⟩).foldl put ⟨m, -1, false, [], false, 0, 0⟩ = ⟨m, s, false, [], false, 0, 0⟩ := by
  unfold iSc; split
  ·rename_i h; dsimp only at h
   have := nat_oct s.toNat (by omega) []
   show put _ (3, [oct s.toNat]) = _
   unfold put; simp [this]; omega
  ·rename_i h; dsimp only at h
   show (⟨m, -1, false, [], false, 0, 0⟩ : Opz) = _
   rw [show s = -1 by omega]
 have a3 : (iSk ⟨m, s, k, b, t, v, e⟩).foldl put ⟨m, s, false, [], false, 0, 0⟩ = ⟨m, s, k, [], false, 0, 0⟩ := by
  unfold iSk; cases k <;> rfl
 have a4 : (iTm ⟨m, s, k, b, t, v, e⟩).foldl put ⟨m, s, k, [], false, 0, 0⟩ = ⟨m, s, k, [], t, v, e⟩ := by
  unfold iTm; cases t
  ·obtain ⟨rfl, rfl⟩ := h4 rfl; rfl
  ·have f1 := qd_B32 v w3 (B32 e)
   have f2 := qd_B32' v e w4 []
   rw [List.append_nil] at f2
   show put _ (8, B32 v ++ B32 e) = _
   unfold put; simp [f1, f2]
 have a5 : (iBl ⟨m, s, k, b, t, v, e⟩).foldl put ⟨m, s, k, [], t, v, e⟩ = ⟨m, s, k, b, t, v, e⟩ := by
  unfold iBl; split
  ·rename_i h; dsimp only at h; subst h; rfl
  ·show put _ (5, flat b) = _
   unfold put; simp [blocks_flat b w2]
 unfold items
 rw [List.foldl_append, List.foldl_append, List.foldl_append, List.foldl_append, a1, a2, a3, a4, a5]
theorem fine_items {o : Opz} (hw : Wf o) : Fine (items o) := by
 obtain ⟨m, s, k, b, t, v, e⟩ := o
 have hm : m ≤ 65535 := hw.1
 have f := wd_B16 m hm []
 rw [List.append_nil] at f
 unfold items iMss iSc iSk iTm iBl
 refine ⟨?_, ?_⟩
 ·(repeat' split) <;> simp [Clash]
 ·intro x hx
  simp only [List.mem_append] at hx
  rcases hx with hx | hx | hx | hx | hx
  ·split at hx
   ·cases hx
   ·rename_i h0
    simp at hx; subst hx
    rintro ⟨_, h⟩
    dsimp only at h h0
    rw [f] at h; omega
  all_goals
   split at hx
   all_goals (simp at hx; try subst hx)
   all_goals simp
theorem raw_dec {o : Opz} (h : May o) (hw : Wf o) : dec (raw o) = some o := by
 have hp := p_raw h []
 rw [List.append_nil, parse_nil] at hp
 simp only [Option.map_some, List.append_nil] at hp
 rw [dec_some hp (fine_items hw), put_items h hw]
end Go.Proofs.YtafckmbgefbonaaGreat.om

namespace Go.Proofs.YtafckmbgefbonaaGreat.om
open sm nb

inductive Ps : List UInt8 → List Item → Prop
 | nil : Ps [] []
 | stop (k : UInt8) (t : List UInt8) : k.toNat = 0 → Ps (k :: t) []
 | pad (k : UInt8) (t : List UInt8) (its : List Item) : k.toNat = 1 → Ps t its → Ps (k :: t) its
 | item (k n : UInt8) (p t : List UInt8) (its : List Item) : 2 ≤ k.toNat → lenOk k.toNat n.toNat = true → n.toNat = p.length + 2 → Ps t its → Ps (k :: n :: (p ++ t)) ((k.toNat, p) :: its)
theorem parse_of {l : List UInt8} {its : List Item} (h : Ps l its) : parse l = some its := by
 induction h with
 | nil => exact parse_nil
 | stop k t h => exact parse_0 k t h
 | pad k t its h _ ih => rw [parse_1 k t h, ih]
 | item k n p t its h1 h2 h3 _ ih => rw [parse_item k n p t h1 h2 h3, ih]; rfl
theorem ps_of : ∀ (m : Nat) (l : List UInt8) (its : List Item), l.length ≤ m → parse l = some its → Ps l its
 | _, [], its, _, h => by rw [parse_nil] at h; cases h; exact .nil
 | 0, k :: t, its, hm, h => by simp at hm
 | m + 1, k :: t, its, hm, h => by
  by_cases h0 : k.toNat = 0
  ·rw [parse_0 k t h0] at h; cases h; exact .stop k t h0
  by_cases h1 : k.toNat = 1
  ·rw [parse_1 k t h1] at h; exact .pad k t its h1 (ps_of m t its (by simp at hm; omega) h)
  cases t with
  | nil => rw [parse_one k h0 h1] at h; cases h
  | cons n u =>
   by_cases h2 : lenOk k.toNat n.toNat = true ∧ n.toNat ≤ u.length + 2
   ·rw [parse_yes k n u h0 h1 h2.1 h2.2] at h
    have h22 := lenOk_two h2.1
    have hl : n.toNat = (u.take (n.toNat - 2)).length + 2 := by rw [List.length_take]; omega
    cases hp : parse (u.drop (n.toNat - 2)) with
    | none => rw [hp] at h; cases h
    | some r =>
     rw [hp] at h; cases h
     have := ps_of m (u.drop (n.toNat - 2)) r (by rw [List.length_drop]; simp at hm; omega) hp
     have e := Ps.item k n _ _ r (by omega) h2.1 hl this
     rw [List.take_append_drop] at e
     exact e
   ·rw [parse_no k n u h0 h1 h2] at h; cases h
theorem ps_iff {l : List UInt8} {its : List Item} : parse l = some its ↔ Ps l its := ⟨fun h => ps_of _ l its (Nat.le_refl _) h, parse_of⟩

def addM (a b : Nat) : Nat := (a + b) % M32
theorem addM_lt (a b : Nat) : addM a b < M32 := Nat.mod_lt _ (by decide)
def tpay (b v e k : Nat) (p : List UInt8) : List UInt8 :=
 if k = 8 then B32 (addM (qd p 0).toNat v) ++ B32 (addM (qd p 4).toNat e)
 else if k = 5 then flat ((blocks p).map fun x => (addM x.1 b, addM x.2 b)) else p
abbrev tit (b v e : Nat) (x : Item) : Item := (x.1, tpay b v e x.1 x.2)
def turnL (b v e : Nat) : List UInt8 → List UInt8
 | [] => []
 | k :: t =>
  if k.toNat = 0 then k :: t else if k.toNat = 1 then k :: turnL b v e t else
  match t with
  | [] => [k]
  | n :: u => if 2 ≤ n.toNat then k :: n :: (tpay b v e k.toNat (u.take (n.toNat - 2)) ++ turnL b v e (u.drop (n.toNat - 2))) else k :: n :: u
termination_by l => l.length
decreasing_by
 all_goals (simp; try omega)
section
variable {b v e : Nat}
theorem turn_nil : turnL b v e [] = [] := by rw [turnL]
theorem turn_0 (k : UInt8) (t : List UInt8) (h : k.toNat = 0) : turnL b v e (k :: t) = k :: t := by cases t <;> (conv => lhs; rw [turnL, if_pos h])
theorem turn_1 (k : UInt8) (t : List UInt8) (h : k.toNat = 1) : turnL b v e (k :: t) = k :: turnL b v e t := by cases t <;> (conv => lhs; rw [turnL, if_neg (by omega), if_pos h])
theorem turn_item (k n : UInt8) (p t : List UInt8) (h : 2 ≤ k.toNat) (h3 : n.toNat = p.length + 2) : turnL b v e (k :: n :: (p ++ t)) = k :: n :: (tpay b v e k.toNat p ++ turnL b v e t) := by
 rw [turnL, if_neg (by omega), if_neg (by omega), if_pos (by omega), h3, Nat.add_sub_cancel, List.drop_left, List.take_left]
end
theorem len5 {n : Nat} (h : lenOk 5 n = true) : n = 10 ∨ n = 18 ∨ n = 26 ∨ n = 34 := by
 unfold lenOk at h; simp at h; omega
theorem len8 {n : Nat} (h : lenOk 8 n = true) : n = 10 := by
 unfold lenOk at h; simp at h; omega
theorem blocks_len (p : List UInt8) : (blocks p).length = p.length / 8 := by simp [blocks]
theorem tpay_len {b v e k n : Nat} {p : List UInt8} (h : lenOk k n = true) (hn : n = p.length + 2) : (tpay b v e k p).length = p.length := by
 unfold tpay
 split
 ·rename_i hk; subst hk
  have := len8 h
  simp [B32]; omega
 ·split
  ·rename_i hk; subst hk
   have := len5 h
   rw [flat_len, List.length_map, blocks_len]; omega
  ·rfl
theorem four (a b c d : UInt8) (t : List UInt8) : B32 (qd (a :: b :: c :: d :: t) 0).toNat = [a, b, c, d] := by
 have ha := c_lt a; have hb := c_lt b; have hc := c_lt c; have hd := c_lt d
 have e : qd (a :: b :: c :: d :: t) 0 = ((a.toNat * 16777216 + b.toNat * 65536 + c.toNat * 256 + d.toNat : Nat) : Int) := by
  show (((a.toNat : Int)) * 256 + (b.toNat : Int)) * 65536 + (((c.toNat : Int)) * 256 + (d.toNat : Int)) = _
  omega
 rw [e, Int.toNat_natCast]
 unfold B32 q3 q2 q1 q0
 rw [show (a.toNat * 16777216 + b.toNat * 65536 + c.toNat * 256 + d.toNat) / 16777216 = a.toNat by omega,
  show (a.toNat * 16777216 + b.toNat * 65536 + c.toNat * 256 + d.toNat) / 65536 % 256 = b.toNat by omega,
  show (a.toNat * 16777216 + b.toNat * 65536 + c.toNat * 256 + d.toNat) / 256 % 256 = c.toNat by omega,
  show (a.toNat * 16777216 + b.toNat * 65536 + c.toNat * 256 + d.toNat) % 256 = d.toNat by omega,
  oct_of, oct_of, oct_of, oct_of]
theorem qd_lt (p : List UInt8) (k : Nat) : (qd p k).toNat < M32 := by have := qd_bd p k; unfold M32; omega
theorem qd_four (p : List UInt8) (a b c d : UInt8) (t : List UInt8) (h : p = a :: b :: c :: d :: t) (k : Nat) : qd p (4 + k) = qd t k := by
 subst h; rw [← qd_drop]; rfl
theorem eight_split (p : List UInt8) (h : 8 ≤ p.length) : ∃ t, p = B32 (qd p 0).toNat ++ (B32 (qd p 4).toNat ++ t) := by
 match p, h with
 | a :: b :: c :: d :: a' :: b' :: c' :: d' :: t, _ =>
  refine ⟨t, ?_⟩
  have e := qd_four _ a b c d (a' :: b' :: c' :: d' :: t) rfl 0
  rw [show 4 + 0 = 4 from rfl] at e
  rw [e, four, four]; rfl
theorem map_lt (l : List (Nat × Nat)) (b : Nat) : ∀ x ∈ l.map (fun x : Nat × Nat => (addM x.1 b, addM x.2 b)), x.1 < M32 ∧ x.2 < M32 := by
 intro x hx
 obtain ⟨y, _, rfl⟩ := List.mem_map.1 hx
 exact ⟨addM_lt _ _, addM_lt _ _⟩
theorem blocks_lt (p : List UInt8) : ∀ x ∈ blocks p, x.1 < M32 ∧ x.2 < M32 := by
 intro x hx
 unfold blocks at hx
 obtain ⟨y, _, rfl⟩ := List.mem_map.1 hx
 exact ⟨qd_lt _ _, qd_lt _ _⟩
theorem ps_turn {b v e : Nat} {l : List UInt8} {its : List Item} (h : Ps l its) : Ps (turnL b v e l) (its.map (tit b v e)) := by
 induction h with
 | nil => rw [turn_nil]; exact .nil
 | stop k t h => rw [turn_0 k t h]; exact .stop k t h
 | pad k t its h _ ih => rw [turn_1 k t h]; exact .pad k _ _ h ih
 | item k n p t its h1 h2 h3 _ ih =>
  rw [turn_item k n p t h1 h3]
  exact .item k n _ _ _ h1 h2 (by rw [tpay_len h2 h3]; exact h3) ih
theorem turn_len {b v e : Nat} {l : List UInt8} {its : List Item} (h : Ps l its) : (turnL b v e l).length = l.length := by
 induction h with
 | nil => rw [turn_nil]
 | stop k t h => rw [turn_0 k t h]
 | pad k t its h _ ih => rw [turn_1 k t h, List.length_cons, ih, List.length_cons]
 | item k n p t its h1 h2 h3 _ ih =>
  rw [turn_item k n p t h1 h3]
  simp only [List.length_cons, List.length_append, ih, tpay_len h2 h3]
def tOp (b v e : Nat) (o : Opz) : Opz := { o with bl := o.bl.map fun x => (addM x.1 b, addM x.2 b), va := if o.tm then addM o.va v else o.va, ec := if o.tm then addM o.ec e else o.ec }
theorem put_turn (b v e : Nat) (o : Opz) (x : Item) : put (tOp b v e o) (tit b v e x) = tOp b v e (put o x) := by
 obtain ⟨k, p⟩ := x
 unfold put tit tpay tOp
 by_cases h2 : k = 2
 ·subst h2; rfl
 by_cases h3 : k = 3
 ·subst h3; rfl
 by_cases h4 : k = 4
 ·subst h4; rfl
 by_cases h5 : k = 5
 ·subst h5
  simp [blocks_flat _ (map_lt _ _)]
 by_cases h8 : k = 8
 ·subst h8
  have f2 := qd_B32' (addM (qd p 0).toNat v) (addM (qd p 4).toNat e) (addM_lt _ _) []
  rw [List.append_nil] at f2
  simp [qd_B32 _ (addM_lt _ _), f2]
 simp [h2, h3, h4, h5, h8]
theorem fold_turn (b v e : Nat) : ∀ (its : List Item) (o : Opz), (its.map (tit b v e)).foldl put (tOp b v e o) = tOp b v e (its.foldl put o)
 | [], _ => rfl
 | x :: t, o => by
  rw [List.map_cons, List.foldl_cons, List.foldl_cons, put_turn, fold_turn b v e t]
theorem fine_turn {b v e : Nat} {its : List Item} (h : Fine its) : Fine (its.map (tit b v e)) := by
 refine ⟨?_, ?_⟩
 ·rw [List.pairwise_map]; exact h.1
 ·intro x hx
  obtain ⟨y, hy, rfl⟩ := List.mem_map.1 hx
  rintro ⟨h1, h2⟩
  refine h.2 y hy ⟨h1, ?_⟩
  dsimp only at h1 h2
  unfold tpay at h2
  rw [if_neg (by omega), if_neg (by omega)] at h2
  exact h2
theorem turn_dec {b v e : Nat} {l : List UInt8} {o : Opz} (h : dec l = some o) : dec (turnL b v e l) = some (tOp b v e o) ∧ (turnL b v e l).length = l.length := by
 obtain ⟨its, hp, hf, rfl⟩ := dec_is h
 have hs := ps_iff.1 hp
 refine ⟨?_, turn_len hs⟩
 rw [dec_some (parse_of (ps_turn hs)) (fine_turn hf)]
 exact congrArg some (fold_turn b v e its none_)
theorem turn_err {b v e : Nat} {l : List UInt8} (h : err l = 0) : err (turnL b v e l) = 0 ∧ decO (turnL b v e l) = tOp b v e (decO l) ∧ (turnL b v e l).length = l.length := by
 obtain ⟨hl, o, hd, ho⟩ := err_is0 h
 obtain ⟨h1, h2⟩ := turn_dec (b := b) (v := v) (e := e) hd
 obtain ⟨h3, h4⟩ := err_0 h1 (by omega)
 exact ⟨h3, by rw [h4, ho], h2⟩
end Go.Proofs.YtafckmbgefbonaaGreat.om

namespace Go.Proofs.YtafckmbgefbonaaGreat.om
open sm nb

def Rdn (o : Opz) : Prop := Wf o ∧ -1 ≤ o.sc ∧ o.sc ≤ 14
theorem put_rdn {o : Opz} (h : Rdn o) (x : Item) : Rdn (put o x) := by
 obtain ⟨⟨h1, h2, h3, h4⟩, h5, h6⟩ := h
 have hw := wd_bd x.2 0
 have hb := bt_bd x.2 0
 unfold put
 by_cases c2 : x.1 = 2
 ·rw [if_pos c2]; exact ⟨⟨by dsimp only; omega, h2, h3, h4⟩, h5, h6⟩
 rw [if_neg c2]
 by_cases c3 : x.1 = 3
 ·rw [if_pos c3]; exact ⟨⟨h1, h2, h3, h4⟩, by dsimp only; omega, by dsimp only; omega⟩
 rw [if_neg c3]
 by_cases c4 : x.1 = 4
 ·rw [if_pos c4]; exact ⟨⟨h1, h2, h3, h4⟩, h5, h6⟩
 rw [if_neg c4]
 by_cases c5 : x.1 = 5
 ·rw [if_pos c5]
  refine ⟨⟨h1, ?_, h3, h4⟩, h5, h6⟩
  intro b hb
  rcases List.mem_append.1 hb with hb | hb
  ·exact h2 b hb
  ·exact blocks_lt x.2 b hb
 rw [if_neg c5]
 by_cases c8 : x.1 = 8
 ·rw [if_pos c8]; exact ⟨⟨h1, h2, qd_lt _ _, qd_lt _ _⟩, h5, h6⟩
 rw [if_neg c8]; exact ⟨⟨h1, h2, h3, h4⟩, h5, h6⟩
theorem fold_rdn : ∀ (its : List Item) (o : Opz), Rdn o → Rdn (its.foldl put o)
 | [], _, h => h
 | x :: t, o, h => fold_rdn t _ (put_rdn h x)
theorem rdn_none : Rdn none_ := ⟨⟨by decide, (by intro b hb; cases hb), by decide, by decide⟩, by decide, by decide⟩
theorem rdn_zero : Rdn zero_ := ⟨⟨by decide, (by intro b hb; cases hb), by decide, by decide⟩, by decide, by decide⟩
theorem put_len (o : Opz) (k : Nat) (p : List UInt8) : (put o (k, p)).bl.length ≤ o.bl.length + p.length := by
 unfold put
 by_cases c5 : k = 5
 ·subst c5
  simp only [show (5 : Nat) ≠ 2 by decide, show (5 : Nat) ≠ 3 by decide, show (5 : Nat) ≠ 4 by decide, if_true, if_false, List.length_append, blocks_len]; omega
 ·dsimp only
  by_cases c2 : k = 2
  ·rw [if_pos c2]; dsimp only; omega
  rw [if_neg c2]
  by_cases c3 : k = 3
  ·rw [if_pos c3]; dsimp only; omega
  rw [if_neg c3]
  by_cases c4 : k = 4
  ·rw [if_pos c4]; dsimp only; omega
  rw [if_neg c4, if_neg c5]
  by_cases c8 : k = 8
  ·rw [if_pos c8]; dsimp only; omega
  rw [if_neg c8]; omega
theorem fold_len {l : List UInt8} {its : List Item} (h : Ps l its) : ∀ o : Opz, (its.foldl put o).bl.length ≤ o.bl.length + l.length := by
 induction h with
 | nil => intro o; simp
 | stop k t h => intro o; simp
 | pad k t its h _ ih => intro o; have := ih o; simp; omega
 | item k n p t its h1 h2 h3 _ ih =>
  intro o
  have h4 := ih (put o (k.toNat, p))
  have h5 := put_len o k.toNat p
  rw [List.foldl_cons]
  simp only [List.length_cons, List.length_append]; omega
theorem decO_rdn (l : List UInt8) : Rdn (decO l) ∧ (decO l).bl.length ≤ l.length := by
 by_cases h : 40 < l.length
 ·rw [(err_4 h).2]; exact ⟨rdn_zero, Nat.zero_le _⟩
 ·cases hd : dec l with
  | none => rw [(err_70 hd (by omega)).2]; exact ⟨rdn_zero, Nat.zero_le _⟩
  | some o =>
   rw [(err_0 hd (by omega)).2]
   obtain ⟨its, hp, _, rfl⟩ := dec_is hd
   exact ⟨fold_rdn _ _ rdn_none, by have := fold_len (ps_iff.1 hp) none_; simpa [none_] using this⟩
end Go.Proofs.YtafckmbgefbonaaGreat.om

namespace Go.Proofs.YtafckmbgefbonaaGreat.pm
open sm nb

def sg (sp dp sq ak : Nat) (F : List UInt8) (wi c2 : Nat) (R : List UInt8) : List UInt8 := B16 sp ++ (B16 dp ++ (B32 sq ++ (B32 ak ++ (F ++ (B16 wi ++ (B16 c2 ++ R))))))
def fm (P : List UInt8) (c1 sa da sp dp sq ak : Nat) (F : List UInt8) (wi c2 : Nat) (R : List UInt8) : List UInt8 := P ++ (B16 c1 ++ (B32 sa ++ (B32 da ++ sg sp dp sq ak F wi c2 R)))
abbrev hl32 (x : Nat) : Int := ((x / 65536 : Nat) : Int) + ((x % 65536 : Nat) : Int)
section
variable {P F R : List UInt8} {c1 sa da sp dp sq ak wi c2 : Nat}
theorem sg_len (hF : F.length = 2) : (sg sp dp sq ak F wi c2 R).length = 18 + R.length := by
 unfold sg; simp [B16, B32, hF]; omega
theorem fm_len (hP : P.length = 10) (hF : F.length = 2) : (fm P c1 sa da sp dp sq ak F wi c2 R).length = 38 + R.length := by
 unfold fm; rw [List.length_append, List.length_append, List.length_append, List.length_append, sg_len hF, hP]
 show 10 + (2 + (4 + (4 + _))) = _
 omega
theorem fm_drop (hP : P.length = 10) : (fm P c1 sa da sp dp sq ak F wi c2 R).drop 20 = sg sp dp sq ak F wi c2 R := by
 unfold fm
 rw [← List.append_assoc, ← List.append_assoc, ← List.append_assoc]
 exact List.drop_left' (by simp [hP, B16, B32])
theorem fm_take (hP : P.length = 10) : (fm P c1 sa da sp dp sq ak F wi c2 R).take 20 = P ++ (B16 c1 ++ (B32 sa ++ B32 da)) := by
 unfold fm
 rw [← List.append_assoc, ← List.append_assoc, ← List.append_assoc, List.take_left' (by simp [hP, B16, B32])]
 simp only [List.append_assoc]
theorem fm_bt (hP : P.length = 10) (k : Nat) (hk : k < 10) : bt (fm P c1 sa da sp dp sq ak F wi c2 R) k = bt P k := im.bt_app (by omega)
theorem fm_wd (hP : P.length = 10) (k : Nat) (hk : k + 1 < 10) : wd (fm P c1 sa da sp dp sq ak F wi c2 R) k = wd P k := im.wd_app (by omega)
theorem fm_sa (hP : P.length = 10) (h : sa ≤ 4294967295) : qd (fm P c1 sa da sp dp sq ak F wi c2 R) 12 = sa := by
 have e := om.qd_drop (fm P c1 sa da sp dp sq ak F wi c2 R) 12 0
 have d : (fm P c1 sa da sp dp sq ak F wi c2 R).drop 12 = B32 sa ++ (B32 da ++ sg sp dp sq ak F wi c2 R) := by
  unfold fm
  rw [← List.append_assoc]
  exact List.drop_left' (by simp [hP, B16])
 rw [← e, d, om.qd_B32 sa (by unfold om.M32; omega)]
theorem fm_da (hP : P.length = 10) (h : da ≤ 4294967295) : qd (fm P c1 sa da sp dp sq ak F wi c2 R) 16 = da := by
 have e := om.qd_drop (fm P c1 sa da sp dp sq ak F wi c2 R) 16 0
 have d : (fm P c1 sa da sp dp sq ak F wi c2 R).drop 16 = B32 da ++ sg sp dp sq ak F wi c2 R := by
  unfold fm
  rw [← List.append_assoc, ← List.append_assoc]
  exact List.drop_left' (by simp [hP, B16, B32])
 rw [← e, d, om.qd_B32 da (by unfold om.M32; omega)]
theorem head_sum (hP : P.length = 10) (h1 : c1 ≤ 65535) (hs : sa ≤ 4294967295) (hd : da ≤ 4294967295) : wsum (P ++ (B16 c1 ++ (B32 sa ++ B32 da))) = wsum P + (c1 : Int) + hl32 sa + hl32 da := by
 rw [wsum_append _ _ (by rw [hP]), cm.wsum_B16 c1 h1, wsum_append _ _ (by simp [B32]), cm.wsum_B32 sa hs, cm.wsum_B32 da hd]
 unfold hl32
 omega
theorem sg_sum (hF : F.length = 2) (hsp : sp ≤ 65535) (hdp : dp ≤ 65535) (hsq : sq ≤ 4294967295) (hak : ak ≤ 4294967295) (hwi : wi ≤ 65535) (h2 : c2 ≤ 65535) :
  wsum (sg sp dp sq ak F wi c2 R) = (sp : Int) + dp + hl32 sq + hl32 ak + wsum F + wi + c2 + wsum R := by
 unfold sg
 rw [cm.wsum_B16 sp hsp, cm.wsum_B16 dp hdp, wsum_append (B32 sq) _ (by simp [B32]), wsum_append (B32 ak) _ (by simp [B32]), wsum_append F _ (by rw [hF]), cm.wsum_B32 sq hsq, cm.wsum_B32 ak hak, cm.wsum_B16 wi hwi, cm.wsum_B16 c2 h2]
 unfold hl32
 omega
theorem sg_read (hF : F.length = 2) (hsp : sp ≤ 65535) (hdp : dp ≤ 65535) (hsq : sq ≤ 4294967295) (hak : ak ≤ 4294967295) (hwi : wi ≤ 65535) :
  wd (sg sp dp sq ak F wi c2 R) 0 = sp ∧ wd (sg sp dp sq ak F wi c2 R) 2 = dp ∧ qd (sg sp dp sq ak F wi c2 R) 4 = sq ∧ qd (sg sp dp sq ak F wi c2 R) 8 = ak
   ∧ bt (sg sp dp sq ak F wi c2 R) 12 = bt F 0 ∧ bt (sg sp dp sq ak F wi c2 R) 13 = bt F 1 ∧ wd (sg sp dp sq ak F wi c2 R) 14 = wi ∧ ∀ k, (sg sp dp sq ak F wi c2 R).drop (18 + k) = R.drop k := by
 match F, hF with
 | [f0, f1], _ =>
  have hs := om.qd_drop (sg sp dp sq ak [f0, f1] wi c2 R) 4 0
  have ha := om.qd_drop (sg sp dp sq ak [f0, f1] wi c2 R) 8 0
  have ds : (sg sp dp sq ak [f0, f1] wi c2 R).drop 4 = B32 sq ++ (B32 ak ++ ([f0, f1] ++ (B16 wi ++ (B16 c2 ++ R)))) := rfl
  have dak : (sg sp dp sq ak [f0, f1] wi c2 R).drop 8 = B32 ak ++ ([f0, f1] ++ (B16 wi ++ (B16 c2 ++ R))) := rfl
  refine ⟨om.wd_B16 sp hsp _, ?_, ?_, ?_, rfl, rfl, ?_, fun k => ?_⟩
  ·rw [← wd_drop (sg sp dp sq ak [f0, f1] wi c2 R) 2 0]; exact om.wd_B16 dp hdp _
  ·rw [← hs, ds]; exact om.qd_B32 sq (by unfold om.M32; omega) _
  ·rw [← ha, dak]; exact om.qd_B32 ak (by unfold om.M32; omega) _
  ·rw [← wd_drop (sg sp dp sq ak [f0, f1] wi c2 R) 14 0]; exact om.wd_B16 wi hwi _
  ·rw [← List.drop_drop]; rfl
end
theorem two_B16 (a b : UInt8) (t : List UInt8) : B16 (wd (a :: b :: t) 0).toNat = [a, b] := by
 have ha := c_lt a; have hb := c_lt b
 have e : (wd (a :: b :: t) 0).toNat = a.toNat * 256 + b.toNat := by
  show ((a.toNat : Int) * 256 + (b.toNat : Int)).toNat = _; omega
 rw [e]
 show [oct ((a.toNat * 256 + b.toNat) / 256), oct ((a.toNat * 256 + b.toNat) % 256)] = _
 rw [cm.hi_of, cm.lo_of]
theorem take2_B16 (l : List UInt8) (k : Nat) (h : k + 2 ≤ l.length) : (l.drop k).take 2 = B16 (wd l k).toNat := by
 have hd : 2 ≤ (l.drop k).length := by rw [List.length_drop]; omega
 rw [show wd l k = wd (l.drop k) 0 by rw [wd_drop, Nat.add_zero]]
 match hl : l.drop k, hd with
 | a :: b :: t, _ => rw [two_B16]; rfl
theorem take4_B32 (l : List UInt8) (k : Nat) (h : k + 4 ≤ l.length) : (l.drop k).take 4 = B32 (qd l k).toNat := by
 have hd : 4 ≤ (l.drop k).length := by rw [List.length_drop]; omega
 rw [show qd l k = qd (l.drop k) 0 by rw [om.qd_drop, Nat.add_zero]]
 match hl : l.drop k, hd with
 | a :: b :: c :: d :: t, _ => rw [om.four]; rfl
theorem fm_of (l : List UInt8) (h : 38 ≤ l.length) : l = fm (l.take 10) (wd l 10).toNat (qd l 12).toNat (qd l 16).toNat (wd l 20).toNat (wd l 22).toNat (qd l 24).toNat (qd l 28).toNat ((l.drop 32).take 2) (wd l 34).toNat (wd l 36).toNat (l.drop 38) := by
 unfold fm sg
 rw [← take2_B16 l 10 (by omega), ← take4_B32 l 12 (by omega), ← take4_B32 l 16 (by omega), ← take2_B16 l 20 (by omega), ← take2_B16 l 22 (by omega), ← take4_B32 l 24 (by omega), ← take4_B32 l 28 (by omega), ← take2_B16 l 34 (by omega), ← take2_B16 l 36 (by omega)]
 have st : ∀ k n, l.drop k = (l.drop k).take n ++ l.drop (k + n) := fun k n => by rw [← List.drop_drop, List.take_append_drop]
 conv => lhs; rw [← List.take_append_drop 10 l, st 10 2, st 12 4, st 16 4, st 20 2, st 22 2, st 24 4, st 28 4, st 32 2, st 34 2, st 36 2]
end Go.Proofs.YtafckmbgefbonaaGreat.pm

namespace Go.Proofs.YtafckmbgefbonaaGreat.pm
open sm nb

structure Sg where
 sa : Nat
 da : Nat
 sp : Nat
 dp : Nat
 sq : Nat
 ak : Nat
 fl : Nat
 wi : Nat
 op : om.Opz
 dt : List UInt8
structure Sh where
 sa : Nat
 da : Nat
 sp : Nat
 dp : Nat
 sq : Nat
 ak : Nat
 va : Nat
 ec : Nat
 up : Int
 dn : Int
abbrev W32 (n : Nat) : Prop := n ≤ 4294967295
def WfS (s : Sg) : Prop := W32 s.sa ∧ W32 s.da ∧ s.sp ≤ 65535 ∧ s.dp ≤ 65535 ∧ W32 s.sq ∧ W32 s.ak ∧ s.fl ≤ 255 ∧ s.wi ≤ 65535 ∧ om.Wf s.op
def WfX (x : Sh) : Prop := W32 x.sa ∧ W32 x.da ∧ x.sp ≤ 65535 ∧ x.dp ≤ 65535 ∧ W32 x.sq ∧ W32 x.ak ∧ W32 x.va ∧ W32 x.ec
def flg (f : Nat) : Bool := decide (f < 32) && decide (f % 2 + f / 2 % 2 + f / 4 % 2 ≤ 1)
def MayS (s : Sg) : Prop := flg s.fl = true ∧ om.May s.op ∧ s.dt.length ≤ 1460
theorem flg_lt {f : Nat} (h : flg f = true) : f < 32 := by unfold flg at h; simp at h; exact h.1
def inner (s : Sg) : List UInt8 := cm.en s.sa s.da s.sp s.dp s.sq s.ak s.fl s.wi 0 (om.raw s.op) s.dt
def encS (s : Sg) : List UInt8 := im.en s.sa s.da 6 64 0 0 true (inner s)
def optsOf (g : List UInt8) : List UInt8 := (g.drop 20).take ((cm.hl g).toNat - 20)
def errG (x y : Nat) (g : List UInt8) : Nat :=
 if cm.dec x y g ≠ 0 then cm.dec x y g else if om.err (optsOf g) ≠ 0 then om.err (optsOf g) else if flg (bt g 13).toNat = false then 81 else if 1460 < (g.drop (cm.hl g).toNat).length then 4 else 0
def valG (x y : Nat) (g : List UInt8) : Sg := ⟨x, y, (wd g 0).toNat, (wd g 2).toNat, (qd g 4).toNat, (qd g 8).toNat, (bt g 13).toNat, (wd g 14).toNat, om.decO (optsOf g), g.drop (cm.hl g).toNat⟩
def errP (l : List UInt8) : Nat := if im.dec l ≠ 0 then im.dec l else if bt l 9 ≠ 6 then 80 else errG (qd l 12).toNat (qd l 16).toNat (l.drop 20)
def valP (l : List UInt8) : Sg := valG (qd l 12).toNat (qd l 16).toNat (l.drop 20)
theorem errP_ok {l : List UInt8} (h : im.dec l = 0) (h9 : bt l 9 = 6) : errP l = errG (qd l 12).toNat (qd l 16).toNat (l.drop 20) := by
 unfold errP; rw [if_neg (by omega), if_neg (by omega)]
theorem errG_ok {x y : Nat} {g : List UInt8} (h : cm.dec x y g = 0) (ho : om.err (optsOf g) = 0) (hf : flg (bt g 13).toNat = true) (hd : (g.drop (cm.hl g).toNat).length ≤ 1460) : errG x y g = 0 := by
 unfold errG; rw [if_neg (by omega), if_neg (by omega), if_neg (by rw [hf]; decide), if_neg (by omega)]
theorem errP_is0 {l : List UInt8} (h : errP l = 0) : im.dec l = 0 ∧ bt l 9 = 6 ∧ errG (qd l 12).toNat (qd l 16).toNat (l.drop 20) = 0 := by
 unfold errP at h
 split at h
 ·omega
 ·split at h
  ·omega
  ·rename_i h1 h2; exact ⟨by omega, by omega, h⟩
theorem errG_is0 {x y : Nat} {g : List UInt8} (h : errG x y g = 0) : cm.dec x y g = 0 ∧ om.err (optsOf g) = 0 ∧ flg (bt g 13).toNat = true ∧ (g.drop (cm.hl g).toNat).length ≤ 1460 := by
 unfold errG at h
 split at h
 ·omega
 ·split at h
  ·omega
  ·split at h
   ·omega
   ·split at h
    ·omega
    ·rename_i h1 h2 h3 h4; exact ⟨by omega, by omega, by simpa using h3, by omega⟩
section
variable {s : Sg}
theorem may_cm (hm : MayS s) : cm.May s.fl (om.raw s.op).length := by
 obtain ⟨h1, h2, h3⟩ := hm
 have h4 := om.rawLen_four s.op
 have h5 := h2.2.2.2.2
 rw [om.raw_len]
 exact ⟨h4, h5, by have := flg_lt h1; omega⟩
theorem raw40 (hm : MayS s) : (om.raw s.op).length ≤ 40 := by rw [om.raw_len]; exact hm.2.1.2.2.2.2
theorem inner_len (s : Sg) : (inner s).length = 20 + (om.raw s.op).length + s.dt.length := cm.en_len _ _ _ _ _ _ _ _ _ _ _
theorem inner_le (hm : MayS s) : (inner s).length ≤ 1520 := by rw [inner_len]; have := raw40 hm; have := hm.2.2; omega
theorem inner_opts (hm : MayS s) : optsOf (inner s) = om.raw s.op := by
 unfold optsOf inner
 rw [cm.en_hl (may_cm hm), Int.toNat_natCast, Nat.add_sub_cancel_left, cm.en_opts]
theorem inner_val (hm : MayS s) (hw : WfS s) : errG s.sa s.da (inner s) = 0 ∧ valG s.sa s.da (inner s) = s := by
 obtain ⟨w1, w2, w3, w4, w5, w6, w7, w8, w9⟩ := hw
 have hr := om.raw_dec hm.2.1 w9
 obtain ⟨he, ho⟩ := om.err_0 hr (raw40 hm)
 have hhl := cm.en_hl (x := s.sa) (y := s.da) (p := s.sp) (q := s.dp) (sq := s.sq) (ak := s.ak) (wi := s.wi) (ur := 0) (d := s.dt) (may_cm hm)
 have hdt : (inner s).drop (cm.hl (inner s)).toNat = s.dt := by
  unfold inner; rw [hhl, Int.toNat_natCast, cm.en_data]
 have h13 : bt (inner s) 13 = (s.fl : Int) := cm.en_13 w7
 refine ⟨errG_ok (cm.en_dec w1 w2 (may_cm hm) (by have := inner_le hm; rw [inner_len] at this; omega)) (by rw [inner_opts hm]; exact he) (by rw [h13, Int.toNat_natCast]; exact hm.1) (by rw [hdt]; exact hm.2.2), ?_⟩
 unfold valG
 rw [hdt, inner_opts hm, ho, h13]
 have e1 : wd (inner s) 0 = s.sp := cm.en_p w3
 have e2 : wd (inner s) 2 = s.dp := cm.en_q w4
 have e3 : qd (inner s) 4 = s.sq := cm.en_sq w5
 have e4 : qd (inner s) 8 = s.ak := cm.en_ak w6
 have e5 : wd (inner s) 14 = s.wi := cm.en_wi w8
 rw [e1, e2, e3, e4, e5]
 simp only [Int.toNat_natCast]
theorem ok_im (hw : WfS s) : im.Ok s.sa s.da 6 64 0 0 := ⟨hw.1, hw.2.1, by decide, by decide, by decide, by decide⟩
theorem enc_head (hm : MayS s) (hw : WfS s) : im.dec (encS s) = 0 ∧ bt (encS s) 9 = 6 ∧ qd (encS s) 12 = s.sa ∧ qd (encS s) 16 = s.da ∧ (encS s).drop 20 = inner s := by
 have hl : (inner s).length ≤ 65515 := Nat.le_trans (inner_le hm) (by decide)
 exact ⟨im.en_dec hl, im.en_proto (ok_im hw), im.en_src (ok_im hw), im.en_dst (ok_im hw), im.en_drop⟩
theorem enc_dec (hm : MayS s) (hw : WfS s) : errP (encS s) = 0 ∧ valP (encS s) = s := by
 obtain ⟨h1, h2, h3, h4, h5⟩ := enc_head hm hw
 obtain ⟨h6, h7⟩ := inner_val hm hw
 refine ⟨?_, ?_⟩
 ·rw [errP_ok h1 h2, h3, h4, h5, Int.toNat_natCast, Int.toNat_natCast]; exact h6
 ·unfold valP; rw [h3, h4, h5, Int.toNat_natCast, Int.toNat_natCast]; exact h7
theorem enc_len (s : Sg) : (encS s).length = 40 + (om.raw s.op).length + s.dt.length := by
 unfold encS; rw [im.en_len, inner_len]; omega
end
end Go.Proofs.YtafckmbgefbonaaGreat.pm
