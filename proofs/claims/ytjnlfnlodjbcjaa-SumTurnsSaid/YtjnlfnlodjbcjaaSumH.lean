/- Package sum: a call with parts that stand in the call; what the document fixes. Condition: none. -/
import Derived.Test.YtjnlfnlodjbcjaaSumG
import Derived.Deep.RegionWith
namespace Go.Proofs.Ytjnlfnlodjbcjaa.su
open Go.RowKit Go.Shelf Go.Proofs.Ytjnlfnlodjbcjaa.sm
set_option linter.unusedVariables false

/-- a world above w0 -/
abbrev Up (w0 w : World) : Prop := Below w0.heap.size w0 w
theorem up_al {w0 w : World} (o : Obj) (h : Up w0 w) : Up w0 (w.alloc o) := h.alloc h.size _
theorem up_dr {w0 w : World} (h : Up w0 w) : Up w0 w.drew := h.drew
theorem up_drN {w0 w : World} (n : Nat) (h : Up w0 w) : Up w0 (w.drewN n) := below_dr h n
/-- what a call that makes memory leaves: v; a world above w0 in which whatever lay in w lies as it lay -/
def Says (w0 w : World) (v : Value) (e : Ending) (w' : World) : Prop :=
  e = .returned v ∧ Up w0 w' ∧ (∀ b o, b < w.heap.size → w'.cell? ⟨b, o, none⟩ = w.cell? ⟨b, o, none⟩) ∧ w.heap.size ≤ w'.heap.size
theorem says {w0 w : World} {v : Value} {f : FuncId} {args : Array Value} (h : Calls Try.prog f args w fun e w' => e = .returned v ∧ Below w.heap.size w w') (hu : Up w0 w) : Calls Try.prog f args w (Says w0 w v) :=
  h.mono fun _ w' ⟨h1, h2⟩ => ⟨h1, hu.trans (h2.mono hu.size), fun b o hb => h2.cell (p := ⟨b, o, none⟩) hb, h2.size⟩
theorem txt1 {w : World} {b : Nat} {s : ByteArray} (hb : b < w.heap.size) (h : w.cell? ⟨b, 0, none⟩ = some (.string s)) : Txt w (some ⟨b, 0, none⟩) [s] := fun _ =>
  ⟨b, 0, rfl, hb, fun j hj => by match j, hj with | 0, _ => exact h⟩
theorem txt2 {w : World} {b : Nat} {s t : ByteArray} (hb : b < w.heap.size) (h : w.cell? ⟨b, 0, none⟩ = some (.string s)) (h' : w.cell? ⟨b, 1, none⟩ = some (.string t)) : Txt w (some ⟨b, 0, none⟩) [s, t] := fun _ =>
  ⟨b, 0, rfl, hb, fun j hj => by match j, hj with | 0, _ => exact h | 1, _ => exact h'⟩
theorem txt3 {w : World} {b : Nat} {s t u : ByteArray} (hb : b < w.heap.size) (h : w.cell? ⟨b, 0, none⟩ = some (.string s)) (h' : w.cell? ⟨b, 1, none⟩ = some (.string t)) (h2 : w.cell? ⟨b, 2, none⟩ = some (.string u)) : Txt w (some ⟨b, 0, none⟩) [s, t, u] := fun _ =>
  ⟨b, 0, rfl, hb, fun j hj => by match j, hj with | 0, _ => exact h | 1, _ => exact h' | 2, _ => exact h2⟩
theorem cat1 (s : ByteArray) : cat [s] = L s := by simp [cat]
theorem cat2 (s t : ByteArray) : cat [s, t] = L s ++ L t := by simp [cat]
theorem cat3 (s t u : ByteArray) : cat [s, t, u] = L s ++ (L t ++ L u) := by simp [cat]
theorem cat_len1 (s : ByteArray) (h : s.size ≤ 4098) : (cat [s]).length ≤ 1099511627776 := by rw [cat1, L_len]; omega
theorem cat_len2 (s t : ByteArray) (h : s.size ≤ 4098) (h' : t.size ≤ 4098) : (cat [s, t]).length ≤ 1099511627776 := by rw [cat2, List.length_append, L_len, L_len]; omega
theorem cat_len3 (s t u : ByteArray) (h : s.size ≤ 4098) (h' : t.size ≤ 4098) (h2 : u.size ≤ 4098) : (cat [s, t, u]).length ≤ 1099511627776 := by rw [cat3, List.length_append, List.length_append, L_len, L_len, L_len]; omega
theorem of0 (w0 w : World) (A : Option Addr) (n : Nat) (hu : Up w0 w) : Calls Try.prog 8 #[.slice A 0 n] w (Says w0 w (.int .u16 65535)) :=
  says (ofC A 0 n [] rfl (by simp) (by simp [cat]) w (fun h => absurd rfl h)) hu
theorem of1 (s : ByteArray) (b : Nat) (w0 w : World) (h : w.cell? ⟨b, 0, none⟩ = some (.string s)) (hs : s.size ≤ 4098) (hu : Up w0 w) :
    Calls Try.prog 8 #[.slice (some ⟨b, 0, none⟩) 1 1] w (Says w0 w (.int .u16 (ck (wsum (L s))))) :=
  cat1 s ▸ says (ofC _ 1 1 [s] rfl (by simp) (cat_len1 s hs) w (txt1 (World.block_lt_of_cell? w _ h) h)) hu
theorem of2 (s t : ByteArray) (b : Nat) (w0 w : World) (h : w.cell? ⟨b, 0, none⟩ = some (.string s)) (h' : w.cell? ⟨b, 1, none⟩ = some (.string t)) (hs : s.size ≤ 4098) (ht : t.size ≤ 4098) (hu : Up w0 w) :
    Calls Try.prog 8 #[.slice (some ⟨b, 0, none⟩) 2 2] w (Says w0 w (.int .u16 (ck (wsum (L s ++ L t))))) :=
  cat2 s t ▸ says (ofC _ 2 2 [s, t] rfl (by simp) (cat_len2 s t hs ht) w (txt2 (World.block_lt_of_cell? w _ h) h h')) hu
theorem of3 (s t u : ByteArray) (b : Nat) (w0 w : World) (h : w.cell? ⟨b, 0, none⟩ = some (.string s)) (h' : w.cell? ⟨b, 1, none⟩ = some (.string t)) (h2 : w.cell? ⟨b, 2, none⟩ = some (.string u)) (hs : s.size ≤ 4098) (ht : t.size ≤ 4098) (hu' : u.size ≤ 4098) (hu : Up w0 w) :
    Calls Try.prog 8 #[.slice (some ⟨b, 0, none⟩) 3 3] w (Says w0 w (.int .u16 (ck (wsum (L s ++ (L t ++ L u)))))) :=
  cat3 s t u ▸ says (ofC _ 3 3 [s, t, u] rfl (by simp) (cat_len3 s t u hs ht hu') w (txt3 (World.block_lt_of_cell? w _ h) h h' h2)) hu
theorem right1 (s : ByteArray) (b : Nat) (w0 w : World) (h : w.cell? ⟨b, 0, none⟩ = some (.string s)) (hs : s.size ≤ 4098) (hu : Up w0 w) :
    Calls Try.prog 10 #[.slice (some ⟨b, 0, none⟩) 1 1] w (Says w0 w (.bool (ck (wsum (L s)) == 0))) :=
  cat1 s ▸ says (rightC _ 1 1 [s] rfl (by simp) (cat_len1 s hs) w (txt1 (World.block_lt_of_cell? w _ h) h)) hu
theorem right2 (s t : ByteArray) (b : Nat) (w0 w : World) (h : w.cell? ⟨b, 0, none⟩ = some (.string s)) (h' : w.cell? ⟨b, 1, none⟩ = some (.string t)) (hs : s.size ≤ 4098) (ht : t.size ≤ 4098) (hu : Up w0 w) :
    Calls Try.prog 10 #[.slice (some ⟨b, 0, none⟩) 2 2] w (Says w0 w (.bool (ck (wsum (L s ++ L t)) == 0))) :=
  cat2 s t ▸ says (rightC _ 2 2 [s, t] rfl (by simp) (cat_len2 s t hs ht) w (txt2 (World.block_lt_of_cell? w _ h) h h')) hu
theorem join2 (a b : Int) (w0 w : World) (ha : 0 ≤ a ∧ a ≤ 65535) (hb : 0 ≤ b ∧ b ≤ 65535) (hu : Up w0 w) :
    Calls Try.prog 11 #[.int .u16 a, .int .u16 b] w (Says w0 w (.int .u16 (ck (131070 - a - b)))) := says (joinC a b w ha hb) hu
theorem turn3 (a b c : Int) (w0 w : World) (ha : 0 ≤ a ∧ a ≤ 65535) (hb : 0 ≤ b ∧ b ≤ 65535) (hc : 0 ≤ c ∧ c ≤ 65535) (hu : Up w0 w) :
    Calls Try.prog 13 #[.int .u16 a, .int .u16 b, .int .u16 c] w (Says w0 w (.int .u16 (turn a b c))) := says (turnC a b c w ha hb hc) hu
theorem turns2 (c : Int) (x y : ByteArray) (n : Nat) (w0 w : World) (hc : 0 ≤ c ∧ c ≤ 65535) (hn : n = min x.size y.size) (hx : x.size ≤ 4098) (hy : y.size ≤ 4098) (hu : Up w0 w) :
    Calls Try.prog 15 #[.int .u16 c, .string x, .string y] w (Says w0 w (.int .u16 (turns c (L (x.extract 0 n)) (L (y.extract 0 n)) ((n + 1) / 2)))) := says (turnsC c x y n w hc hn (by omega) (by omega)) hu

theorem turnsLit (w0 w : World) (hu : Up w0 w) : Calls Try.prog 15 #[.int .u16 8717, .string ⟨#[0, 1]⟩, .string ⟨#[0, 2]⟩] w (Says w0 w (.int .u16 8716)) :=
  (by decide : turns 8717 [0, 1] [0, 2] 1 = 8716) ▸ turns2 8717 ⟨#[0, 1]⟩ ⟨#[0, 2]⟩ 2 w0 w (by omega) (by decide) (by decide) (by decide) hu
end Go.Proofs.Ytjnlfnlodjbcjaa.su
