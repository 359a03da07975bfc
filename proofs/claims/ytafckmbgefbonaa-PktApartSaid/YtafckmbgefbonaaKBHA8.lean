/- B H A: contracts, part 8. Condition: as each says. -/
import Derived.Test.YtafckmbgefbonaaKBHA7
import Derived.Deep.RegionLaw
set_option linter.unusedVariables false
set_option linter.unusedSimpArgs false
namespace Go.Proofs.Ytafckmbgefbonaa.op
open Go.RowKit Go.Shelf Go.Lib Go.Proofs.Ytafckmbgefbonaa.sm Go.Proofs.Ytafckmbgefbonaa.nb Go.Proofs.Ytafckmbgefbonaa.om
set_option linter.unusedVariables false

theorem put_2 (o : Opz) (p : List UInt8) : put o (2, p) = { o with mss := (wd p 0).toNat } := rfl
theorem put_3 (o : Opz) (p : List UInt8) : put o (3, p) = { o with sc := min (bt p 0) 14 } := rfl
theorem put_4 (o : Opz) (p : List UInt8) : put o (4, p) = { o with sk := true } := rfl
theorem put_5 (o : Opz) (p : List UInt8) : put o (5, p) = { o with bl := o.bl ++ blocks p } := rfl
theorem put_8 (o : Opz) (p : List UInt8) : put o (8, p) = { o with tm := true, va := (qd p 0).toNat, ec := (qd p 4).toNat } := rfl
theorem put_x (o : Opz) (j : Nat) (p : List UInt8) (h2 : j ≠ 2) (h3 : j ≠ 3) (h4 : j ≠ 4) (h5 : j ≠ 5) (h8 : j ≠ 8) : put o (j, p) = o := by simp [put, h2, h3, h4, h5, h8]
theorem blocks_at (p : List UInt8) (j : Nat) (h : j < p.length / 8) : (blocks p)[j]? = some ((qd p (8 * j)).toNat, (qd p (8 * j + 4)).toNat) := by
  unfold blocks; simp [h]
theorem blocks_take (p : List UInt8) (j : Nat) (h : j < p.length / 8) : (blocks p).take (j + 1) = (blocks p).take j ++ [((qd p (8 * j)).toNat, (qd p (8 * j + 4)).toNat)] := by
  have e := blocks_at p j h
  obtain ⟨hj, he⟩ := List.getElem?_eq_some_iff.1 e
  rw [List.take_succ_eq_append_getElem hj, he]
theorem own7 {W : World} {B b : Nat} {x : Value} {xs : List (Nat × Nat)} (h : OwnK W B x xs) (hb : b < B) (y0 y1 y2 y3 y4 y5 y6 : Value) : OwnK (((((((W.setCell ⟨b, 0, none⟩ y0).setCell ⟨b, 1, none⟩ y1).setCell ⟨b, 2, none⟩ y2).setCell ⟨b, 3, none⟩ y3).setCell ⟨b, 4, none⟩ y4).setCell ⟨b, 5, none⟩ y5).setCell ⟨b, 6, none⟩ y6) B x xs :=
  ownsRow_setCell_below (ownsRow_setCell_below (ownsRow_setCell_below (ownsRow_setCell_below (ownsRow_setCell_below (ownsRow_setCell_below (ownsRow_setCell_below h (a := ⟨b, 0, none⟩) hb _) (a := ⟨b, 1, none⟩) hb _) (a := ⟨b, 2, none⟩) hb _) (a := ⟨b, 3, none⟩) hb _) (a := ⟨b, 4, none⟩) hb _) (a := ⟨b, 5, none⟩) hb _) (a := ⟨b, 6, none⟩) hb _
theorem OwnK.far {w : World} {B n c : Nat} {A : Option Addr} {xs : List (Nat × Nat)} (h : OwnK w B (.slice A n c) xs) : ∀ ad, A = some ad → B ≤ ad.block := by
  intro ad he
  rcases own_form h with ⟨h1, _⟩ | ⟨g, cap, h1, hB, _⟩
  · cases h1; cases he
  · cases h1; cases he; exact hB
abbrev OV (o : Opz) (A : Option Addr) (n c : Nat) : Value := OA o.mss o.sc o.sk A n c o.tm o.va o.ec
end Go.Proofs.Ytafckmbgefbonaa.op

namespace Go.Proofs.Ytafckmbgefbonaa.op
open Go.RowKit Go.Shelf Go.Lib Go.Proofs.Ytafckmbgefbonaa.sm Go.Proofs.Ytafckmbgefbonaa.nb Go.Proofs.Ytafckmbgefbonaa.om
set_option linter.unusedVariables false

def OpV (B : Nat) (o : Opz) (x : Value) (W : World) : Prop := ∃ A n c, x = OV o A n c ∧ OwnK W B (.slice A n c) o.bl ∧ o.bl.length = n ∧ (o.bl = [] → A = none ∧ n = 0 ∧ c = 0)
theorem OpV.st (B : Nat) (o : Opz) : ∀ v w w', OpV B o v w → Up w w' → OpV B o v w' := fun _ _ _ ⟨A, n, c, h1, h2, h3, h4⟩ hu => ⟨A, n, c, h1, h2.up hu, h3, h4⟩
def TkV (B : Nat) (o : Opz) (bz : Bool) (x : Value) (W : World) : Prop := ∃ y, x = .tuple #[y, .bool bz] ∧ OpV B o y W
theorem TkV.st (B : Nat) (o : Opz) (bz : Bool) : ∀ v w w', TkV B o bz v w → Up w w' → TkV B o bz v w' := fun _ _ _ ⟨y, h1, h2⟩ hu => ⟨y, h1, OpV.st B o _ _ _ h2 hu⟩
def DecZ (l : List UInt8) (w : World) (e_ : Ending) (w' : World) : Prop := ∃ x, e_ = .returned (.tuple #[x, .int .i64 (err l : Nat)]) ∧ OptV w' x (decO l) ∧ Up w w'
def OptN (B : Nat) (w : World) (x : Value) (o : Opz) : Prop := ∃ A n c, x = OA o.mss o.sc o.sk A n c o.tm o.va o.ec ∧ o.bl.length = n ∧ RdB w A o.bl ∧ ∀ ad, A = some ad → B ≤ ad.block
def DecN (l : List UInt8) (w : World) (e_ : Ending) (w' : World) : Prop := ∃ x, e_ = .returned (.tuple #[x, .int .i64 (err l : Nat)]) ∧ OptN w.heap.size w' x (decO l) ∧ Up w w'
theorem DecN.z {l : List UInt8} {w : World} {e_ : Ending} {w' : World} (h : DecN l w e_ w') : DecZ l w e_ w' := by
  obtain ⟨x, he, ⟨A, n, c, h1, h2, h3, _⟩, hu⟩ := h
  exact ⟨x, he, ⟨A, n, c, h1, h2, h3⟩, hu⟩
theorem DecN.bad {l : List UInt8} {n : Nat} {w : World} {e_ : Ending} {w' : World} (h : err l = n ∧ decO l = zero_) (he : e_ = .returned (.tuple #[OA 0 0 false none 0 0 false 0 0, .int .i64 n])) (hu : Up w w') : DecN l w e_ w' := by
  refine ⟨_, by rw [he, h.1], ?_, hu⟩
  rw [h.2]
  exact ⟨none, 0, 0, rfl, rfl, (fun h => absurd rfl h), (fun ad e => by cases e)⟩
structure Dn (s : List UInt8) (pl : List Nat) (j : Nat) (o : Opz) : Prop where
  val : o = ((pl.take j).map (itm s)).foldl put none_
  noz : ∀ q ∈ pl.take j, NoZ (itm s q)
theorem Dn.next {s : List UInt8} {pl : List Nat} {j p : Nat} {o : Opz} (h : Dn s pl j o) (hp : pl[j]? = some p) (hz : NoZ (itm s p)) : Dn s pl (j + 1) (put o (itm s p)) := by
  obtain ⟨hj, he⟩ := List.getElem?_eq_some_iff.1 hp
  have e : pl.take (j + 1) = pl.take j ++ [p] := by rw [List.take_succ_eq_append_getElem hj, he]
  refine ⟨by rw [e, List.map_append, List.foldl_append, ← h.val]; rfl, ?_⟩
  rw [e]
  intro q hq
  rcases List.mem_append.1 hq with hq | hq
  · exact h.noz q hq
  · simp at hq; subst hq; exact hz
end Go.Proofs.Ytafckmbgefbonaa.op

namespace Go.Proofs.Ytafckmbgefbonaa.op
open Go.RowKit Go.Shelf Go.Lib Go.Proofs.Ytafckmbgefbonaa.sm Go.Proofs.Ytafckmbgefbonaa.nb Go.Proofs.Ytafckmbgefbonaa.om
set_option linter.unusedVariables false

def TV (l : List UInt8) (b v e : Nat) : Value := if err l = 0 then .tuple #[.string (tx (turnL b v e l)), .int .i64 0] else .tuple #[.string { data := #[] }, .int .i64 (err l : Nat)]
theorem TV_ok {l : List UInt8} {b v e : Nat} (h : err l = 0) : TV l b v e = .tuple #[.string (tx (turnL b v e l)), .int .i64 0] := if_pos h
theorem TV_no {l : List UInt8} {b v e n : Nat} (h : err l = n) (hn : n ≠ 0) : TV l b v e = .tuple #[.string { data := #[] }, .int .i64 n] := by
  unfold TV; rw [h]; exact if_neg hn
end Go.Proofs.Ytafckmbgefbonaa.op

namespace Go.Proofs.Ytafckmbgefbonaa.op
open Go.RowKit Go.Shelf Go.Lib Go.Proofs.Ytafckmbgefbonaa.sm Go.Proofs.Ytafckmbgefbonaa.nb Go.Proofs.Ytafckmbgefbonaa.om
set_option linter.unusedVariables false

def OkA (w : World) (m : Nat) (s : Int) (k : Bool) (b : List (Nat × Nat)) (t : Bool) (v e : Nat) (A : Option Addr) (n : Nat) : Prop :=
  Wf ⟨m, s, k, b, t, v, e⟩ ∧ (-9223372036854775808 ≤ s ∧ s ≤ 9223372036854775807) ∧ RdB w A b ∧ b.length = n ∧ n ≤ maxLen
theorem OkA.up {w w' : World} {m : Nat} {s : Int} {k : Bool} {b : List (Nat × Nat)} {t : Bool} {v e : Nat} {A : Option Addr} {n : Nat} (h : OkA w m s k b t v e A n) (hu : Up w w') : OkA w' m s k b t v e A n :=
  ⟨h.1, h.2.1, h.2.2.1.up hu, h.2.2.2⟩
def NoneC : Prop := ∀ w, Calls Try.prog 14 #[] w fun e_ w' => e_ = .returned (OA 0 (-1) false none 0 0 false 0 0) ∧ Up w w'
def MayC : Prop := ∀ m s k b t v e A n c w, OkA w m s k b t v e A n → Calls Try.prog 33 #[OA m s k A n c t v e] w fun e_ w' => e_ = .returned (.bool (mayb ⟨m, s, k, b, t, v, e⟩)) ∧ Up w w'
def SameC : Prop := ∀ m s k b t v e A n c m' s' k' b' t' v' e' A' n' c' w, OkA w m s k b t v e A n → OkA w m' s' k' b' t' v' e' A' n' →
  Calls Try.prog 32 #[OA m s k A n c t v e, OA m' s' k' A' n' c' t' v' e'] w fun e_ w' => e_ = .returned (.bool (same ⟨m, s, k, b, t, v, e⟩ ⟨m', s', k', b', t', v', e'⟩)) ∧ Up w w'
def EncC : Prop := ∀ m s k b t v e A n c w, OkA w m s k b t v e A n → Calls Try.prog 17 #[OA m s k A n c t v e] w fun e_ w' => e_ = .returned (EVo ⟨m, s, k, b, t, v, e⟩) ∧ Up w w'
def DecC : Prop := ∀ (s : ByteArray) w, s.size ≤ 1048576 → Calls Try.prog 22 #[.string s] w fun e_ w' => DecZ (L s) w e_ w'
def TurnC : Prop := ∀ (s : ByteArray) (b v e : Nat) w, s.size ≤ 1048576 → b < M32 → v < M32 → e < M32 → Calls Try.prog 24 #[.string s, .int .u32 (b : Nat), .int .u32 (v : Nat), .int .u32 (e : Nat)] w fun e_ w' => e_ = .returned (TV (L s) b v e) ∧ Up w w'

end Go.Proofs.Ytafckmbgefbonaa.op
