/- B H A: contracts, part 2. Condition: as each says. -/
import Derived.Test.YtafckmbgefbonaaKBHA1
import Derived.Test.YtafckmbgefbonaaRows
import Derived.Shelf.Abstract
import Derived.WalkKit
import Derived.ProofKit
import Derived.WalkSmall
import Derived.Lib.Hide
import Derived.Lib.AppendIntMem
import Derived.OwnWalk
import Derived.BigQuiet
import Derived.IntWalk
import Derived.Deep.QuietTactic
import Derived.Deep.RegionHeld3
import Derived.Deep.RegionWith
import Derived.Deep.DeepCutAuto
import Derived.Laws.BitsAllLaws
import Derived.Laws.Bits64b
import Derived.Laws.Shifts
import Derived.Laws.ResultCell
import Derived.Laws.IdiomStrings
import Derived.Laws.BytesArg
import Derived.Outline
set_option linter.unusedVariables false
set_option linter.unusedSimpArgs false
namespace Go.Proofs.Ytafckmbgefbonaa.nb
open Go.RowKit Go.Shelf Go.Proofs.Ytafckmbgefbonaa.sm
set_option linter.unusedVariables false

theorem ret_int {k : IntKind} {a b : Int} (h : a = b) : Ending.returned (.int k a) = .returned (.int k b) := by rw [h]
theorem ret_bool {a b : Bool} (h : a = b) : Ending.returned (.bool a) = .returned (.bool b) := by rw [h]
abbrev L (s : ByteArray) : List UInt8 := s.data.toList
theorem L_len (s : ByteArray) : (L s).length = s.size := rfl
theorem L_app (a b : ByteArray) : L (a ++ b) = L a ++ L b := by
  show (a ++ b).data.toList = _
  simp
theorem ba_of {a : ByteArray} {l : List UInt8} (h : L a = l) : a = ⟨l.toArray⟩ := by
  subst h
  cases a
  simp
theorem ba_eq {a b : ByteArray} (h : L a = L b) : a = b := by rw [ba_of h]
def tx (l : List UInt8) : ByteArray := ⟨l.toArray⟩
theorem L_tx (l : List UInt8) : L (tx l) = l := by simp [tx]
theorem tx_L (a : ByteArray) : tx (L a) = a := ba_eq (L_tx _)
theorem tx_size (l : List UInt8) : (tx l).size = l.length := by rw [← L_len, L_tx]
theorem tx_app (l m : List UInt8) : tx l ++ tx m = tx (l ++ m) := ba_eq (by rw [L_app, L_tx, L_tx, L_tx])
theorem L_extract (a : ByteArray) (i j : Nat) : L (a.extract i j) = ((L a).drop i).take (j - i) := by simp [L]
theorem tx_extract (a : ByteArray) (i j : Nat) : a.extract i j = tx (((L a).drop i).take (j - i)) := ba_eq (by rw [L_extract, L_tx])
abbrev Up (w0 w : World) : Prop := Below w0.heap.size w0 w
theorem up_al {w0 w : World} (o : Obj) (h : Up w0 w) : Up w0 (w.alloc o) := h.alloc h.size _
theorem up_dr {w0 w : World} (h : Up w0 w) : Up w0 w.drew := h.drew
theorem up_drN {w0 w : World} (n : Nat) (h : Up w0 w) : Up w0 (w.drewN n) := below_drewN h n
theorem Up.on {w0 w w' : World} (h : Up w0 w) (h' : Up w w') : Up w0 w' := h.trans (h'.mono h.size)
theorem up_set {w0 w : World} {b o : Nat} {v : Value} (h : Up w0 w) (hb : w0.heap.size ≤ b) : Up w0 (w.setCell ⟨b, o, none⟩ v) := h.setCell (p := ⟨b, o, none⟩) hb _

/-! ### bytes that a call has gathered -/
abbrev BC (xs : List UInt8) : List Value := Lib.byteCells xs
def OwnB (w : World) (B : Nat) (v : Value) (xs : List UInt8) : Prop := w.ownsRow B 5 1 v xs.length (BC xs)
theorem OwnB.nil_ (w : World) (B : Nat) : OwnB w B (.slice none 0 0) [] := World.ownsRow_nil _ _ _ _
theorem kept_below {w w' : World} {B e size n : Nat} {v : Value} {xs : List Value} (h : w.ownsRow B e size v n xs) (hb : Below w.heap.size w w') : w'.ownsRow B e size v n xs := by
  refine ⟨h.1, ?_⟩
  rcases h.2 with hn | ⟨g, cap, cur, rfl, hB, hgg, rest⟩
  · exact .inl hn
  · exact .inr ⟨g, cap, cur, rfl, hB, (hb.block g (Array.getElem?_eq_some_iff.1 hgg).1).trans hgg, rest⟩
theorem OwnB.up {w w' : World} {B : Nat} {v : Value} {xs : List UInt8} (h : OwnB w B v xs) (hb : Up w w') : OwnB w' B v xs := kept_below h hb
theorem own_form {w : World} {B e size n : Nat} {v : Value} {xs : List Value} (h : w.ownsRow B e size v n xs) : (v = .slice none 0 0 ∧ n = 0) ∨ ∃ g cap, v = .slice (some ⟨g, 0, none⟩) n cap ∧ B ≤ g ∧ g < w.heap.size ∧ n ≤ cap ∧ cap ≤ maxLen := by
  rcases h.2 with hn | ⟨g, cap, cur, rfl, hB, hgg, h1, h2, _⟩
  · exact .inl hn
  · exact .inr ⟨g, cap, rfl, hB, (Array.getElem?_eq_some_iff.1 hgg).1, h1, h2⟩
theorem info5 : (Try.prog.info? 5).map (fun i => (i.zero, i.size, i.bytes)) = some (some (.int .u8 0), 1, 1) := by kernel_rfl
section
variable {ops : Array Oper} {rest : List Oper} {o : Oper} {a : Act} {Q : Exit → Act → World → Prop} {w : World} {B : Nat} {v : Value}
theorem app1 {ps : List UInt8} (s x : Operand) (g : Nat) (u : Int) (c : UInt8) (hu : u = (c.toNat : Int)) (hown : OwnB w B v ps) (hgd : o.guard = none) (ho : o.op = .call { callee := .builtin .append, args := #[s, x], argTypes := #[44, 44] })
    (hs : a.eval s = v) (hx : a.eval x = .slice (some ⟨g, 0, none⟩) 1 1) (hc : w.cell? ⟨g, 0, none⟩ = some (.int .u8 u)) (hn : ps.length < 1099511627776) (hB : B ≤ w.heap.size)
    (h : ∀ v' w', OwnB w' B v' (ps ++ [c]) → Below B w w' → wpList Try.prog ops Q rest (a.put o.dst v') w') : wpList Try.prog ops Q (o :: rest) a w := by
  subst hu
  obtain ⟨i0, hi, hz0, hz1, hz2⟩ := info_parts info5
  refine wpList_append_own w hgd s x 44 ho B 5 i0 (.int .u8 0) 1 1 Try.underlying44 hi hz0 hz1 hz2 rfl (by decide) v ps.length _ hs hown ⟨g, 0, none⟩ 1 1 [.int .u8 (c.toNat : Int)] hx rfl ?_ ?_ (by unfold maxLen; omega) (by omega) hB ?_
  · intro j u' hj
    match j, hj with
    | 0, hj => simp at hj; subst hj; exact hc
  · intro u' hu; simp at hu; subst hu; rfl
  · intro v' w' ho' hg _
    exact h v' w' (by unfold OwnB; rw [show BC (ps ++ [c]) = BC ps ++ [.int .u8 (c.toNat : Int)] by simp [BC, Lib.byteCells], List.length_append]; exact ho') ((Below.refl B w).grown hg hB (fun k hk => (hown.lt k hk).1))
end

def oct (n : Nat) : UInt8 := UInt8.ofNat n
theorem oct_nat {n : Nat} (h : n ≤ 255) : (oct n).toNat = n := by
  show (UInt8.ofNat n).toNat = n
  rw [UInt8.toNat_ofNat']; exact Nat.mod_eq_of_lt (by omega)
theorem oct_of (c : UInt8) : oct c.toNat = c := by show UInt8.ofNat c.toNat = c; simp
def q3 (i : Nat) : Nat := i / 16777216
def q2 (i : Nat) : Nat := i / 65536 % 256
def q1 (i : Nat) : Nat := i / 256 % 256
def q0 (i : Nat) : Nat := i % 256
theorem q_le (i : Nat) (h : i ≤ 4294967295) : q3 i ≤ 255 ∧ q2 i ≤ 255 ∧ q1 i ≤ 255 ∧ q0 i ≤ 255 := by unfold q3 q2 q1 q0; omega
def B32 (i : Nat) : List UInt8 := [oct (q3 i), oct (q2 i), oct (q1 i), oct (q0 i)]
def B16 (p : Nat) : List UInt8 := [oct (p / 256), oct (p % 256)]
def qd (l : List UInt8) (k : Nat) : Int := wd l k * 65536 + wd l (k + 2)
theorem qd_bd (l : List UInt8) (k : Nat) : 0 ≤ qd l k ∧ qd l k ≤ 4294967295 := by unfold qd; have := wd_bd l k; have := wd_bd l (k + 2); omega
theorem bt_at (s : ByteArray) (k : Nat) (h : k < s.size) : ((s[k]).toNat : Int) = bt (L s) k := by rw [bt_get _ _ h]; rfl

/-! ### bits -/
theorem or32 (x y : Nat) (hx : x < 4294967296) (hy : y < 4294967296) : bits .or .u32 (x : Int) (y : Int) = ((x ||| y : Nat) : Int) := by
  have h1 : (BitVec.ofInt 32 (x : Int)).toNat = x := by rw [BitVec.ofInt_natCast, BitVec.toNat_ofNat]; exact Nat.mod_eq_of_lt (by omega)
  have h2 : (BitVec.ofInt 32 (y : Int)).toNat = y := by rw [BitVec.ofInt_natCast, BitVec.toNat_ofNat]; exact Nat.mod_eq_of_lt (by omega)
  have h3 : x ||| y < 4294967296 := Nat.or_lt_two_pow (n := 32) (by omega) (by omega)
  show IntKind.u32.wrap ((BitVec.ofInt 32 (x : Int) ||| BitVec.ofInt 32 (y : Int)).toNat : Int) = _
  rw [BitVec.toNat_or, h1, h2, IntKind.wrap_u32]
  omega
theorem or16 (x y : Nat) (hx : x < 65536) (hy : y < 65536) : bits .or .u16 (x : Int) (y : Int) = ((x ||| y : Nat) : Int) := by
  have h1 : (BitVec.ofInt 16 (x : Int)).toNat = x := by rw [BitVec.ofInt_natCast, BitVec.toNat_ofNat]; exact Nat.mod_eq_of_lt (by omega)
  have h2 : (BitVec.ofInt 16 (y : Int)).toNat = y := by rw [BitVec.ofInt_natCast, BitVec.toNat_ofNat]; exact Nat.mod_eq_of_lt (by omega)
  have h3 : x ||| y < 65536 := Nat.or_lt_two_pow (n := 16) (by omega) (by omega)
  show IntKind.u16.wrap ((BitVec.ofInt 16 (x : Int) ||| BitVec.ofInt 16 (y : Int)).toNat : Int) = _
  rw [BitVec.toNat_or, h1, h2, IntKind.wrap_u16]
  omega
theorem or_add (a i y : Nat) (h : y < 2 ^ i) : a * 2 ^ i ||| y = a * 2 ^ i + y := by
  have := Nat.shiftLeft_add_eq_or_of_lt h a
  rw [Nat.shiftLeft_eq] at this
  exact this.symm
theorem c_lt (c : UInt8) : c.toNat ≤ 255 := by have := UInt8.toNat_lt c; omega

/-! ### texts out of bytes -/
theorem conv_at {w W : World} {B g cap : Nat} {xs : List UInt8} (h : OwnB w B (.slice (some ⟨g, 0, none⟩) xs.length cap) xs) (hW : ∀ a, W.cell? a = w.cell? a) :
    (convert 44 9 (.slice (some ⟨g, 0, none⟩) xs.length cap)).run Try.prog W = .ok (.string (tx xs)) W :=
  run_convert_bytes_back (P := Try.prog) W 44 9 5 ⟨g, 0, none⟩ cap xs Try.underlying44 Try.underlying5 Try.underlying9 (fun j hj => by rw [hW]; exact World.ownsRow.cells h (g := g) rfl j _ (by simp [BC, Lib.byteCells, hj]))
theorem conv_own {w : World} {B : Nat} {v : Value} {xs : List UInt8} (h : OwnB w B v xs) (n : Nat) (hn : xs.length = n) (h0 : 0 < n) :
    ∃ g cap, v = .slice (some ⟨g, 0, none⟩) n cap ∧ (∀ m, (convert 44 9 (.slice (some ⟨g, 0, none⟩) n cap)).run Try.prog (w.drewN m) = .ok (.string (tx xs)) (w.drewN m)) ∧ (convert 44 9 (.slice (some ⟨g, 0, none⟩) n cap)).run Try.prog w = .ok (.string (tx xs)) w
      ∧ (convert 44 9 (.slice (some ⟨g, 0, none⟩) n cap)).run Try.prog w.drew = .ok (.string (tx xs)) w.drew ∧ (convert 44 9 (.slice (some ⟨g, 0, none⟩) n cap)).run Try.prog w.drew.drew = .ok (.string (tx xs)) w.drew.drew := by
  subst hn
  rcases own_form h with ⟨_, he⟩ | ⟨g, cap, rfl, hB, hg, hc, hm⟩
  · omega
  · exact ⟨g, cap, rfl, fun m => conv_at h (fun a => World.cell?_drewN _ _ _), conv_at h (fun a => rfl), conv_at h (fun a => World.cell?_drew _ _), conv_at h (fun a => by rw [World.cell?_drew, World.cell?_drew])⟩

/-! ### values that lie in a block of their own -/
def Box (W : World) (b : Nat) (vs : List Value) : Prop := b < W.heap.size ∧ ∀ j v, vs[j]? = some v → W.cell? ⟨b, j, none⟩ = some v ∧ W.frozen? ⟨b, j, none⟩ = false
theorem Box.below {W W' : World} {b B : Nat} {vs : List Value} (h : Box W b vs) (hb : Below B W W') (hB : b < B) : Box W' b vs :=
  ⟨Nat.lt_of_lt_of_le h.1 hb.size, fun j v hv => ⟨(hb.cell (p := ⟨b, j, none⟩) hB).trans (h.2 j v hv).1, (hb.frozen (p := ⟨b, j, none⟩) hB).trans (h.2 j v hv).2⟩⟩
theorem Box.up {W W' : World} {b : Nat} {vs : List Value} (h : Box W b vs) (hb : Up W W') : Box W' b vs := h.below hb h.1
theorem Box.new (W : World) (vs : Array Value) (T : TypeId) : Box (W.alloc (.cells vs T)) W.heap.size vs.toList :=
  ⟨by simp, fun j v hv => ⟨by rw [World.cell?_alloc_new]; simpa using hv, by simp⟩⟩
theorem Box.drew {W : World} {b : Nat} {vs : List Value} (h : Box W b vs) : Box W.drew b vs := h.up (Below.refl _ _).drew
theorem Box.drewN {W : World} {b : Nat} {vs : List Value} (h : Box W b vs) (n : Nat) : Box (W.drewN n) b vs := h.up (below_drewN (Below.refl _ _) n)
theorem Box.alloc {W : World} {b : Nat} {vs : List Value} (h : Box W b vs) (o : Obj) : Box (W.alloc o) b vs := h.up (up_al o (Below.refl _ _))
theorem Box.at {W : World} {b : Nat} {vs : List Value} (h : Box W b vs) (j : Nat) {v : Value} (hv : vs[j]? = some v) : W.cell? ⟨b, j, none⟩ = some v := (h.2 j v hv).1
theorem Box.fr {W : World} {b : Nat} {vs : List Value} (h : Box W b vs) (j : Nat) {v : Value} (hv : vs[j]? = some v) : W.frozen? ⟨b, j, none⟩ = false := (h.2 j v hv).2
theorem Box.far {W : World} {b c o : Nat} {vs : List Value} (h : Box W b vs) (hc : c ≠ b) (v : Value) : Box (W.setCell ⟨c, o, none⟩ v) b vs :=
  ⟨by simpa using h.1, fun j x hx => ⟨by rw [World.cell?_setCell_other _ _ _ _ (fun e => hc (by cases e; rfl))]; exact (h.2 j x hx).1, by rw [World.frozen?_setCell]; exact (h.2 j x hx).2⟩⟩
theorem Box.set {W : World} {b : Nat} {vs : List Value} (h : Box W b vs) (k : Nat) (v : Value) : Box (W.setCell ⟨b, k, none⟩ v) b (vs.set k v) :=
  ⟨by simpa using h.1, fun j x hx => by
    refine ⟨?_, ?_⟩
    · by_cases hjk : j = k
      · subst hjk
        have hl : j < vs.length := by
          have := (List.getElem?_eq_some_iff.1 hx).1
          simpa using this
        have e : vs[j]? = some vs[j] := List.getElem?_eq_getElem hl
        rw [World.cell?_setCell_same' _ _ _ (by rw [(h.2 j _ e).1]; rfl)]
        simpa [List.getElem?_set, hl] using hx
      · rw [World.cell?_setCell_other _ _ _ _ (by intro e; cases e; exact hjk rfl)]
        rw [List.getElem?_set_ne (Ne.symm hjk)] at hx
        exact (h.2 j x hx).1
    · rw [World.frozen?_setCell]
      by_cases hl : j < vs.length
      · exact (h.2 j _ (List.getElem?_eq_getElem hl)).2
      · have := (List.getElem?_eq_some_iff.1 hx).1
        simp at this; omega⟩
end Go.Proofs.Ytafckmbgefbonaa.nb

namespace Go.Proofs.Ytafckmbgefbonaa.pm
open Go.Proofs.Ytafckmbgefbonaa.sm Go.Proofs.Ytafckmbgefbonaa.nb
set_option linter.unusedVariables false

def foldT (c : Int) (ps : List (Int × Int)) : Int := ps.foldl (fun c p => turn c p.1 p.2) c
def was (ps : List (Int × Int)) : Int := (ps.map (·.1)).sum
def now (ps : List (Int × Int)) : Int := (ps.map (·.2)).sum
abbrev Words (ps : List (Int × Int)) : Prop := ∀ p ∈ ps, (0 ≤ p.1 ∧ p.1 ≤ 65535) ∧ 0 ≤ p.2 ∧ p.2 ≤ 65535
theorem turn_mod (c a b : Int) (hc : 0 ≤ c ∧ c ≤ 65535) (ha : 0 ≤ a ∧ a ≤ 65535) (hb : 0 ≤ b ∧ b ≤ 65535) :
    (0 ≤ turn c a b ∧ turn c a b ≤ 65535) ∧ (turn c a b - (c + a - b)) % 65535 = 0 ∧ (c ≤ 65534 → turn c a b ≤ 65534) := by
  unfold turn ck ones
  split <;> omega
theorem foldT_mod : ∀ (ps : List (Int × Int)) (c : Int), (0 ≤ c ∧ c ≤ 65535) → Words ps →
    (0 ≤ foldT c ps ∧ foldT c ps ≤ 65535) ∧ (foldT c ps - (c + was ps - now ps)) % 65535 = 0 ∧ (c ≤ 65534 → foldT c ps ≤ 65534)
  | [], c, hc, _ => ⟨hc, by simp [foldT, was, now], fun h => h⟩
  | p :: t, c, hc, hw => by
    obtain ⟨h1, h2, h3⟩ := turn_mod c p.1 p.2 hc (hw p (by simp)).1 (hw p (by simp)).2
    obtain ⟨h4, h5, h6⟩ := foldT_mod t (turn c p.1 p.2) h1 (fun q hq => hw q (by simp [hq]))
    have e : foldT c (p :: t) = foldT (turn c p.1 p.2) t := rfl
    rw [e]
    refine ⟨h4, ?_, fun h => h6 (h3 h)⟩
    have ew : was (p :: t) = p.1 + was t := by simp [was]
    have en : now (p :: t) = p.2 + now t := by simp [now]
    rw [ew, en]
    omega
theorem foldT_app (c : Int) (ps qs : List (Int × Int)) : foldT c (ps ++ qs) = foldT (foldT c ps) qs := by unfold foldT; rw [List.foldl_append]
def wp (a b : List UInt8) (k : Nat) : List (Int × Int) := (List.range k).map fun i => (wd a (2 * i), wd b (2 * i))
theorem wp_words (a b : List UInt8) (k : Nat) : Words (wp a b k) := by
  intro p hp
  obtain ⟨i, _, rfl⟩ := List.mem_map.1 hp
  exact ⟨wd_bd _ _, wd_bd _ _⟩
theorem turns_fold (c : Int) (a b : List UInt8) : ∀ k, turns c a b k = foldT c (wp a b k)
  | 0 => rfl
  | k + 1 => by
    show turn (turns c a b k) _ _ = _
    rw [turns_fold c a b k]
    unfold wp
    rw [List.range_succ, List.map_append, foldT_app]; rfl
theorem wsum_wds (a : List UInt8) : ∀ k, a.length = 2 * k → ((List.range k).map fun i => wd a (2 * i)).sum = wsum a
  | 0, h => by
    have : a = [] := List.length_eq_zero_iff.1 (by omega)
    subst this; rfl
  | k + 1, h => by
    have e : (List.range k).map ((fun i => wd a (2 * i)) ∘ Nat.succ) = (List.range k).map fun i => wd (a.drop 2) (2 * i) := List.map_congr_left fun i _ => by
      show wd a (2 * (i + 1)) = wd (a.drop 2) (2 * i)
      rw [wd_drop, show 2 + 2 * i = 2 * (i + 1) by omega]
    rw [List.range_succ_eq_map, List.map_cons, List.map_map, List.sum_cons, wsum_cons a (by omega), e, wsum_wds (a.drop 2) k (by rw [List.length_drop]; omega)]
theorem was_wp (a b : List UInt8) (k : Nat) (ha : a.length = 2 * k) : was (wp a b k) = wsum a := by
  unfold was wp
  rw [List.map_map, ← wsum_wds a k ha]; rfl
theorem now_wp (a b : List UInt8) (k : Nat) (hb : b.length = 2 * k) : now (wp a b k) = wsum b := by
  unfold now wp
  rw [List.map_map, ← wsum_wds b k hb]; rfl
theorem still_right (S c : Int) (ps : List (Int × Int)) (hc : 0 ≤ c ∧ c ≤ 65535) (hw : Words ps) (h0 : 0 ≤ S + c + was ps) (h : ck (S + c + was ps) = 0) (hpos : 0 < S + foldT c ps + now ps) : ck (S + foldT c ps + now ps) = 0 := by
  obtain ⟨h1, h2, _⟩ := foldT_mod ps c hc hw
  have h3 : (S + c + was ps) % 65535 = 0 := by
    have := ones_mod _ h0
    unfold ck at h
    omega
  have h4 : (S + foldT c ps + now ps) % 65535 = 0 := by omega
  have h5 := ones_mod _ (Int.le_of_lt hpos)
  have h6 := ones_pos _ hpos
  have h7 := ones_bd _ (Int.le_of_lt hpos)
  unfold ck
  omega
theorem same_sum (S c : Int) (ps : List (Int × Int)) (hw : Words ps) (h0 : 0 < S + was ps) (h1 : 0 < S + now ps) (hc : c = ck (S + was ps)) : foldT c ps = ck (S + now ps) := by
  have b0 := ones_bd _ (Int.le_of_lt h0); have p0 := ones_pos _ h0; have m0 := ones_mod _ (Int.le_of_lt h0)
  have b1 := ones_bd _ (Int.le_of_lt h1); have p1 := ones_pos _ h1; have m1 := ones_mod _ (Int.le_of_lt h1)
  unfold ck at hc
  obtain ⟨h2, h3, h4⟩ := foldT_mod ps c (by omega) hw
  have h5 := h4 (by omega)
  unfold ck
  omega
end Go.Proofs.Ytafckmbgefbonaa.pm

namespace Go.Proofs.Ytafckmbgefbonaa.im
open Go.Proofs.Ytafckmbgefbonaa.sm Go.Proofs.Ytafckmbgefbonaa.nb
set_option linter.unusedVariables false

def dfb (d : Bool) : UInt8 := if d then 64 else 0
def hd (a b p t s i : Nat) (d : Bool) (n c : Nat) : List UInt8 :=
  [69, oct s, oct (n / 256), oct (n % 256), oct (i / 256), oct (i % 256), dfb d, 0, oct t, oct p, oct (c / 256), oct (c % 256),
   oct (q3 a), oct (q2 a), oct (q1 a), oct (q0 a), oct (q3 b), oct (q2 b), oct (q1 b), oct (q0 b)]
theorem hd_len (a b p t s i : Nat) (d : Bool) (n c : Nat) : (hd a b p t s i d n c).length = 20 := rfl
def Ok (a b p t s i : Nat) : Prop := a ≤ 4294967295 ∧ b ≤ 4294967295 ∧ p ≤ 255 ∧ t ≤ 255 ∧ s ≤ 255 ∧ i ≤ 65535
theorem hd_sum (a b p t s i : Nat) (d : Bool) (n c : Nat) (hc : c ≤ 65535) : wsum (hd a b p t s i d n c) = wsum (hd a b p t s i d n 0) + (c : Int) := by
  have h1 : (oct (c / 256)).toNat = c / 256 := oct_nat (by omega)
  have h2 : (oct (c % 256)).toNat = c % 256 := oct_nat (by omega)
  have h3 : (oct (0 / 256)).toNat = 0 := oct_nat (by omega)
  have h4 : (oct (0 % 256)).toNat = 0 := oct_nat (by omega)
  simp only [hd, wsum, h1, h2, h3, h4]
  omega
def cs (a b p t s i : Nat) (d : Bool) (n : Nat) : Nat := (ck (wsum (hd a b p t s i d n 0))).toNat
theorem cs_int (a b p t s i : Nat) (d : Bool) (n : Nat) : ((cs a b p t s i d n : Nat) : Int) = ck (wsum (hd a b p t s i d n 0)) := by
  have := ck_bd _ (wsum_bd (hd a b p t s i d n 0)).1
  unfold cs; omega
theorem cs_le (a b p t s i : Nat) (d : Bool) (n : Nat) : cs a b p t s i d n ≤ 65535 := by
  have := ck_bd _ (wsum_bd (hd a b p t s i d n 0)).1
  unfold cs; omega
def hc (a b p t s i : Nat) (d : Bool) (n : Nat) : List UInt8 := hd a b p t s i d n (cs a b p t s i d n)
theorem hc_len (a b p t s i : Nat) (d : Bool) (n : Nat) : (hc a b p t s i d n).length = 20 := rfl
theorem hc_right (a b p t s i : Nat) (d : Bool) (n : Nat) : ck (wsum (hc a b p t s i d n)) = 0 := by
  unfold hc
  rw [hd_sum _ _ _ _ _ _ _ _ _ (cs_le _ _ _ _ _ _ _ _), cs_int]
  exact ck_bears _ (wsum_bd _).1
def en (a b p t s i : Nat) (d : Bool) (l : List UInt8) : List UInt8 := hc a b p t s i d (20 + l.length) ++ l
theorem en_len (a b p t s i : Nat) (d : Bool) (l : List UInt8) : (en a b p t s i d l).length = 20 + l.length := by unfold en; rw [List.length_append, hc_len]

def dec (l : List UInt8) : Nat :=
  if l.length < 20 then 50 else if bt l 0 / 16 ≠ 4 then 51 else if bt l 0 % 16 ≠ 5 then 52 else if wd l 2 ≠ (l.length : Int) then 53
  else if ck (wsum (l.take 20)) ≠ 0 then 55 else if wd l 6 ≠ 0 ∧ wd l 6 ≠ 16384 then 54 else 0
theorem dec_50 {l : List UInt8} (h : l.length < 20) : dec l = 50 := by unfold dec; rw [if_pos h]
theorem dec_51 {l : List UInt8} (h : ¬ l.length < 20) (h1 : bt l 0 / 16 ≠ 4) : dec l = 51 := by unfold dec; rw [if_neg h, if_pos h1]
theorem dec_52 {l : List UInt8} (h : ¬ l.length < 20) (h1 : bt l 0 / 16 = 4) (h2 : bt l 0 % 16 ≠ 5) : dec l = 52 := by unfold dec; rw [if_neg h, if_neg (by simpa using h1), if_pos h2]
theorem dec_53 {l : List UInt8} (h : ¬ l.length < 20) (h1 : bt l 0 / 16 = 4) (h2 : bt l 0 % 16 = 5) (h3 : wd l 2 ≠ (l.length : Int)) : dec l = 53 := by
  unfold dec; rw [if_neg h, if_neg (by simpa using h1), if_neg (by simpa using h2), if_pos h3]
theorem dec_55 {l : List UInt8} (h : ¬ l.length < 20) (h1 : bt l 0 / 16 = 4) (h2 : bt l 0 % 16 = 5) (h3 : wd l 2 = (l.length : Int)) (h4 : ck (wsum (l.take 20)) ≠ 0) : dec l = 55 := by
  unfold dec; rw [if_neg h, if_neg (by simpa using h1), if_neg (by simpa using h2), if_neg (by simpa using h3), if_pos h4]
theorem dec_54 {l : List UInt8} (h : ¬ l.length < 20) (h1 : bt l 0 / 16 = 4) (h2 : bt l 0 % 16 = 5) (h3 : wd l 2 = (l.length : Int)) (h4 : ck (wsum (l.take 20)) = 0) (h5 : wd l 6 ≠ 0 ∧ wd l 6 ≠ 16384) : dec l = 54 := by
  unfold dec; rw [if_neg h, if_neg (by simpa using h1), if_neg (by simpa using h2), if_neg (by simpa using h3), if_neg (by simpa using h4), if_pos h5]
theorem dec_0 {l : List UInt8} (h : ¬ l.length < 20) (h1 : bt l 0 / 16 = 4) (h2 : bt l 0 % 16 = 5) (h3 : wd l 2 = (l.length : Int)) (h4 : ck (wsum (l.take 20)) = 0) (h5 : ¬ (wd l 6 ≠ 0 ∧ wd l 6 ≠ 16384)) : dec l = 0 := by
  unfold dec; rw [if_neg h, if_neg (by simpa using h1), if_neg (by simpa using h2), if_neg (by simpa using h3), if_neg (by simpa using h4), if_neg h5]
theorem bt_app {l m : List UInt8} {k : Nat} (h : k < l.length) : bt (l ++ m) k = bt l k := by
  unfold bt; simp [List.getD, List.getElem?_append_left h]
theorem wd_app {l m : List UInt8} {k : Nat} (h : k + 1 < l.length) : wd (l ++ m) k = wd l k := by
  unfold wd; rw [bt_app (by omega), bt_app h]
section
variable {a b p t s i : Nat} {d : Bool} {l : List UInt8}
theorem bt_nat (xs : List UInt8) (k n : Nat) (h : xs.getD k 0 = oct n) (hn : n ≤ 255) : bt xs k = (n : Int) := by
  unfold bt; rw [h, oct_nat hn]
theorem en_b0 : bt (en a b p t s i d l) 0 = 69 := rfl
theorem en_len2 (h : l.length ≤ 65515) : wd (en a b p t s i d l) 2 = ((en a b p t s i d l).length : Int) := by
  rw [en_len]
  have h1 : bt (en a b p t s i d l) 2 = (((20 + l.length) / 256 : Nat) : Int) := bt_nat _ _ _ rfl (by omega)
  have h2 : bt (en a b p t s i d l) 3 = (((20 + l.length) % 256 : Nat) : Int) := bt_nat _ _ _ rfl (by omega)
  show bt _ 2 * 256 + bt _ 3 = _
  rw [h1, h2]; omega
theorem en_take : (en a b p t s i d l).take 20 = hc a b p t s i d (20 + l.length) := by
  unfold en
  rw [List.take_append_of_le_length (by rw [hc_len]; omega), List.take_of_length_le (by rw [hc_len]; omega)]
theorem en_drop : (en a b p t s i d l).drop 20 = l := by
  unfold en
  rw [List.drop_append_of_le_length (by rw [hc_len]; omega), List.drop_of_length_le (by rw [hc_len]; omega), List.nil_append]
theorem en_6 : wd (en a b p t s i d l) 6 = if d then 16384 else 0 := by
  have h1 : bt (en a b p t s i d l) 6 = ((dfb d).toNat : Int) := rfl
  have h2 : bt (en a b p t s i d l) 7 = 0 := rfl
  show bt _ 6 * 256 + bt _ 7 = _
  rw [h1, h2]; cases d <;> decide
theorem en_dec (h : l.length ≤ 65515) : dec (en a b p t s i d l) = 0 := by
  refine dec_0 (by rw [en_len]; omega) (by rw [en_b0]; decide) (by rw [en_b0]; decide) (en_len2 h) ?_ ?_
  · rw [en_take]; exact hc_right _ _ _ _ _ _ _ _
  · rw [en_6]; cases d <;> simp
theorem en_proto (h : Ok a b p t s i) : bt (en a b p t s i d l) 9 = p := bt_nat _ _ _ rfl h.2.2.1
theorem en_src (h : Ok a b p t s i) : qd (en a b p t s i d l) 12 = a := by
  have hq := q_le a h.1
  have h1 : bt (en a b p t s i d l) 12 = (q3 a : Nat) := bt_nat _ _ _ rfl hq.1
  have h2 : bt (en a b p t s i d l) 13 = (q2 a : Nat) := bt_nat _ _ _ rfl hq.2.1
  have h3 : bt (en a b p t s i d l) 14 = (q1 a : Nat) := bt_nat _ _ _ rfl hq.2.2.1
  have h4 : bt (en a b p t s i d l) 15 = (q0 a : Nat) := bt_nat _ _ _ rfl hq.2.2.2
  show (bt _ 12 * 256 + bt _ 13) * 65536 + (bt _ 14 * 256 + bt _ 15) = _
  rw [h1, h2, h3, h4]; unfold q3 q2 q1 q0; omega
theorem en_dst (h : Ok a b p t s i) : qd (en a b p t s i d l) 16 = b := by
  have hq := q_le b h.2.1
  have h1 : bt (en a b p t s i d l) 16 = (q3 b : Nat) := bt_nat _ _ _ rfl hq.1
  have h2 : bt (en a b p t s i d l) 17 = (q2 b : Nat) := bt_nat _ _ _ rfl hq.2.1
  have h3 : bt (en a b p t s i d l) 18 = (q1 b : Nat) := bt_nat _ _ _ rfl hq.2.2.1
  have h4 : bt (en a b p t s i d l) 19 = (q0 b : Nat) := bt_nat _ _ _ rfl hq.2.2.2
  show (bt _ 16 * 256 + bt _ 17) * 65536 + (bt _ 18 * 256 + bt _ 19) = _
  rw [h1, h2, h3, h4]; unfold q3 q2 q1 q0; omega
end

end Go.Proofs.Ytafckmbgefbonaa.im

namespace Go.Proofs.Ytafckmbgefbonaa.cm
open Go.Proofs.Ytafckmbgefbonaa.sm Go.Proofs.Ytafckmbgefbonaa.nb
set_option linter.unusedVariables false

theorem bt_nat (xs : List UInt8) (k n : Nat) (h : xs.getD k 0 = oct n) (hn : n ≤ 255) : bt xs k = (n : Int) := by
  unfold bt; rw [h, oct_nat hn]
def Ok (p q sq ak fl wi ur : Nat) : Prop := p ≤ 65535 ∧ q ≤ 65535 ∧ sq ≤ 4294967295 ∧ ak ≤ 4294967295 ∧ fl ≤ 255 ∧ wi ≤ 65535 ∧ ur ≤ 65535
def May (fl n : Nat) : Prop := n % 4 = 0 ∧ n ≤ 40 ∧ fl < 64
def pre (p q sq ak fl wi n : Nat) : List UInt8 :=
  [oct (p / 256), oct (p % 256), oct (q / 256), oct (q % 256), oct (q3 sq), oct (q2 sq), oct (q1 sq), oct (q0 sq), oct (q3 ak), oct (q2 ak), oct (q1 ak), oct (q0 ak),
   oct ((20 + n) / 4 * 16), oct fl, oct (wi / 256), oct (wi % 256)]
theorem pre_len (p q sq ak fl wi n : Nat) : (pre p q sq ak fl wi n).length = 16 := rfl
def rw_ (p q sq ak fl wi ur : Nat) (o d : List UInt8) (c : Nat) : List UInt8 := pre p q sq ak fl wi o.length ++ (B16 c ++ (B16 ur ++ (o ++ d)))
theorem rw_len (p q sq ak fl wi ur : Nat) (o d : List UInt8) (c : Nat) : (rw_ p q sq ak fl wi ur o d c).length = 20 + o.length + d.length := by
  unfold rw_
  simp only [List.length_append, pre_len]
  show 16 + (2 + (2 + (o.length + d.length))) = _
  omega
def ts (x y : Nat) (l : List UInt8) : Int := wsum (B32 x ++ B32 y ++ [0, 6] ++ B16 l.length ++ l)
theorem wsum_B16 (n : Nat) (h : n ≤ 65535) (l : List UInt8) : wsum (B16 n ++ l) = (n : Int) + wsum l := by
  show ((oct (n / 256)).toNat : Int) * 256 + ((oct (n % 256)).toNat : Int) + wsum l = _
  rw [oct_nat (by omega), oct_nat (by omega)]; omega
theorem wsum_B32 (x : Nat) (h : x ≤ 4294967295) : wsum (B32 x) = ((x / 65536 : Nat) : Int) + ((x % 65536 : Nat) : Int) := by
  have hq := q_le x h
  show ((oct (q3 x)).toNat : Int) * 256 + ((oct (q2 x)).toNat : Int) + (((oct (q1 x)).toNat : Int) * 256 + ((oct (q0 x)).toNat : Int) + 0) = _
  rw [oct_nat hq.1, oct_nat hq.2.1, oct_nat hq.2.2.1, oct_nat hq.2.2.2]
  unfold q3 q2 q1 q0; omega
theorem ts_eq (x y : Nat) (l : List UInt8) (hx : x ≤ 4294967295) (hy : y ≤ 4294967295) (hl : l.length ≤ 65535) :
    ts x y l = ((x / 65536 : Nat) : Int) + ((x % 65536 : Nat) : Int) + ((y / 65536 : Nat) : Int) + ((y % 65536 : Nat) : Int) + 6 + (l.length : Int) + wsum l := by
  unfold ts
  rw [List.append_assoc, List.append_assoc, List.append_assoc, wsum_append _ _ (by simp [B32]), wsum_append _ _ (by simp [B32]), wsum_B32 x hx, wsum_B32 y hy]
  show _ + (_ + (((0 : UInt8).toNat : Int) * 256 + ((6 : UInt8).toNat : Int) + wsum (B16 l.length ++ l))) = _
  rw [wsum_B16 _ hl]
  have e0 : ((0 : UInt8).toNat : Int) = 0 := rfl
  have e6 : ((6 : UInt8).toNat : Int) = 6 := rfl
  rw [e0, e6]; omega
theorem rw_sum (p q sq ak fl wi ur : Nat) (o d : List UInt8) (c : Nat) (hc : c ≤ 65535) : wsum (rw_ p q sq ak fl wi ur o d c) = wsum (rw_ p q sq ak fl wi ur o d 0) + (c : Int) := by
  have e : ∀ c, c ≤ 65535 → wsum (rw_ p q sq ak fl wi ur o d c) = wsum (pre p q sq ak fl wi o.length) + ((c : Int) + wsum (B16 ur ++ (o ++ d))) := fun c hc => by
    unfold rw_; rw [wsum_append _ _ (by rw [pre_len]), wsum_B16 c hc]
  rw [e c hc, e 0 (by omega)]; omega
def cs (x y p q sq ak fl wi ur : Nat) (o d : List UInt8) : Nat := (ck (ts x y (rw_ p q sq ak fl wi ur o d 0))).toNat
theorem cs_int (x y p q sq ak fl wi ur : Nat) (o d : List UInt8) : ((cs x y p q sq ak fl wi ur o d : Nat) : Int) = ck (ts x y (rw_ p q sq ak fl wi ur o d 0)) := by
  have := ck_bd (ts x y (rw_ p q sq ak fl wi ur o d 0)) (wsum_bd _).1
  unfold cs; omega
theorem cs_le (x y p q sq ak fl wi ur : Nat) (o d : List UInt8) : cs x y p q sq ak fl wi ur o d ≤ 65535 := by
  have := ck_bd (ts x y (rw_ p q sq ak fl wi ur o d 0)) (wsum_bd _).1
  unfold cs; omega
def en (x y p q sq ak fl wi ur : Nat) (o d : List UInt8) : List UInt8 := rw_ p q sq ak fl wi ur o d (cs x y p q sq ak fl wi ur o d)
theorem en_len (x y p q sq ak fl wi ur : Nat) (o d : List UInt8) : (en x y p q sq ak fl wi ur o d).length = 20 + o.length + d.length := rw_len _ _ _ _ _ _ _ _ _ _

def hl (l : List UInt8) : Int := bt l 12 / 16 * 4
def dec (x y : Nat) (l : List UInt8) : Nat :=
  if l.length < 20 then 50 else if 65515 < l.length then 4 else if ck (ts x y l) ≠ 0 then 55 else if hl l < 20 ∨ (l.length : Int) < hl l then 60
  else if bt l 12 % 16 ≠ 0 ∨ 64 ≤ bt l 13 then 61 else 0
section
variable {x y : Nat} {l : List UInt8}
theorem dec_50 (h : l.length < 20) : dec x y l = 50 := by unfold dec; rw [if_pos h]
theorem dec_4 (h : ¬ l.length < 20) (h1 : 65515 < l.length) : dec x y l = 4 := by unfold dec; rw [if_neg h, if_pos h1]
theorem dec_55 (h : ¬ l.length < 20) (h1 : ¬ 65515 < l.length) (h2 : ck (ts x y l) ≠ 0) : dec x y l = 55 := by unfold dec; rw [if_neg h, if_neg h1, if_pos h2]
theorem dec_60 (h : ¬ l.length < 20) (h1 : ¬ 65515 < l.length) (h2 : ¬ ck (ts x y l) ≠ 0) (h3 : hl l < 20 ∨ (l.length : Int) < hl l) : dec x y l = 60 := by
  unfold dec; rw [if_neg h, if_neg h1, if_neg h2, if_pos h3]
theorem dec_61 (h : ¬ l.length < 20) (h1 : ¬ 65515 < l.length) (h2 : ¬ ck (ts x y l) ≠ 0) (h3 : ¬ (hl l < 20 ∨ (l.length : Int) < hl l)) (h4 : bt l 12 % 16 ≠ 0 ∨ 64 ≤ bt l 13) : dec x y l = 61 := by
  unfold dec; rw [if_neg h, if_neg h1, if_neg h2, if_neg h3, if_pos h4]
theorem dec_0 (h : ¬ l.length < 20) (h1 : ¬ 65515 < l.length) (h2 : ¬ ck (ts x y l) ≠ 0) (h3 : ¬ (hl l < 20 ∨ (l.length : Int) < hl l)) (h4 : ¬ (bt l 12 % 16 ≠ 0 ∨ 64 ≤ bt l 13)) : dec x y l = 0 := by
  unfold dec; rw [if_neg h, if_neg h1, if_neg h2, if_neg h3, if_neg h4]
theorem dec_is0 (h : dec x y l = 0) : ¬ l.length < 20 ∧ ¬ 65515 < l.length ∧ ck (ts x y l) = 0 ∧ ¬ (hl l < 20 ∨ (l.length : Int) < hl l) ∧ ¬ (bt l 12 % 16 ≠ 0 ∨ 64 ≤ bt l 13) := by
  unfold dec at h
  split at h
  · omega
  · split at h
    · omega
    · split at h
      · omega
      · split at h
        · omega
        · split at h
          · omega
          · rename_i h1 h2 h3 h4 h5
            exact ⟨h1, h2, Decidable.not_not.1 h3, h4, h5⟩
end

section
variable {x y p q sq ak fl wi ur : Nat} {o d : List UInt8}
theorem en_right (hx : x ≤ 4294967295) (hy : y ≤ 4294967295) (hz : 20 + o.length + d.length ≤ 65515) : ck (ts x y (en x y p q sq ak fl wi ur o d)) = 0 := by
  have hc := cs_le x y p q sq ak fl wi ur o d
  have e : ts x y (en x y p q sq ak fl wi ur o d) = ts x y (rw_ p q sq ak fl wi ur o d 0) + ((cs x y p q sq ak fl wi ur o d : Nat) : Int) := by
    rw [ts_eq x y _ hx hy (by rw [en_len]; omega), ts_eq x y _ hx hy (by rw [rw_len]; omega), en_len, rw_len]
    unfold en
    rw [rw_sum _ _ _ _ _ _ _ _ _ _ hc]; omega
  rw [e, cs_int]
  exact ck_bears _ (wsum_bd _).1
theorem en_12 (hm : May fl o.length) : bt (en x y p q sq ak fl wi ur o d) 12 = ((20 + o.length) / 4 * 16 : Nat) := by
  obtain ⟨h1, h2, h3⟩ := hm
  exact bt_nat _ _ _ rfl (by omega)
theorem en_hl (hm : May fl o.length) : hl (en x y p q sq ak fl wi ur o d) = ((20 + o.length : Nat) : Int) := by
  unfold hl
  rw [en_12 hm]
  obtain ⟨h1, h2, h3⟩ := hm
  omega
theorem en_13 (h : fl ≤ 255) : bt (en x y p q sq ak fl wi ur o d) 13 = (fl : Int) := bt_nat _ _ _ rfl h
theorem en_dec (hx : x ≤ 4294967295) (hy : y ≤ 4294967295) (hm : May fl o.length) (hz : 20 + o.length + d.length ≤ 65515) : dec x y (en x y p q sq ak fl wi ur o d) = 0 := by
  have h12 := en_12 (x := x) (y := y) (p := p) (q := q) (sq := sq) (ak := ak) (wi := wi) (ur := ur) (d := d) hm
  have h13 := en_13 (x := x) (y := y) (p := p) (q := q) (sq := sq) (ak := ak) (fl := fl) (wi := wi) (ur := ur) (o := o) (d := d) (by have := hm.2.2; omega)
  have hh := en_hl (x := x) (y := y) (p := p) (q := q) (sq := sq) (ak := ak) (wi := wi) (ur := ur) (d := d) hm
  refine dec_0 (by rw [en_len]; omega) (by rw [en_len]; omega) (by rw [en_right hx hy hz]; simp) ?_ ?_
  · rw [hh, en_len]; omega
  · rw [h12, h13]; have := hm.2.2; omega
theorem en_p (h : p ≤ 65535) : wd (en x y p q sq ak fl wi ur o d) 0 = p := by
  have h1 : bt (en x y p q sq ak fl wi ur o d) 0 = ((p / 256 : Nat) : Int) := bt_nat _ _ _ rfl (by omega)
  have h2 : bt (en x y p q sq ak fl wi ur o d) 1 = ((p % 256 : Nat) : Int) := bt_nat _ _ _ rfl (by omega)
  show bt _ 0 * 256 + bt _ 1 = _
  rw [h1, h2]; omega
theorem en_q (h : q ≤ 65535) : wd (en x y p q sq ak fl wi ur o d) 2 = q := by
  have h1 : bt (en x y p q sq ak fl wi ur o d) 2 = ((q / 256 : Nat) : Int) := bt_nat _ _ _ rfl (by omega)
  have h2 : bt (en x y p q sq ak fl wi ur o d) 3 = ((q % 256 : Nat) : Int) := bt_nat _ _ _ rfl (by omega)
  show bt _ 2 * 256 + bt _ 3 = _
  rw [h1, h2]; omega
theorem en_sq (h : sq ≤ 4294967295) : qd (en x y p q sq ak fl wi ur o d) 4 = sq := by
  have hq := q_le sq h
  have h1 : bt (en x y p q sq ak fl wi ur o d) 4 = (q3 sq : Nat) := bt_nat _ _ _ rfl hq.1
  have h2 : bt (en x y p q sq ak fl wi ur o d) 5 = (q2 sq : Nat) := bt_nat _ _ _ rfl hq.2.1
  have h3 : bt (en x y p q sq ak fl wi ur o d) 6 = (q1 sq : Nat) := bt_nat _ _ _ rfl hq.2.2.1
  have h4 : bt (en x y p q sq ak fl wi ur o d) 7 = (q0 sq : Nat) := bt_nat _ _ _ rfl hq.2.2.2
  show (bt _ 4 * 256 + bt _ 5) * 65536 + (bt _ 6 * 256 + bt _ 7) = _
  rw [h1, h2, h3, h4]; unfold q3 q2 q1 q0; omega
theorem en_ak (h : ak ≤ 4294967295) : qd (en x y p q sq ak fl wi ur o d) 8 = ak := by
  have hq := q_le ak h
  have h1 : bt (en x y p q sq ak fl wi ur o d) 8 = (q3 ak : Nat) := bt_nat _ _ _ rfl hq.1
  have h2 : bt (en x y p q sq ak fl wi ur o d) 9 = (q2 ak : Nat) := bt_nat _ _ _ rfl hq.2.1
  have h3 : bt (en x y p q sq ak fl wi ur o d) 10 = (q1 ak : Nat) := bt_nat _ _ _ rfl hq.2.2.1
  have h4 : bt (en x y p q sq ak fl wi ur o d) 11 = (q0 ak : Nat) := bt_nat _ _ _ rfl hq.2.2.2
  show (bt _ 8 * 256 + bt _ 9) * 65536 + (bt _ 10 * 256 + bt _ 11) = _
  rw [h1, h2, h3, h4]; unfold q3 q2 q1 q0; omega
theorem en_wi (h : wi ≤ 65535) : wd (en x y p q sq ak fl wi ur o d) 14 = wi := by
  have h1 : bt (en x y p q sq ak fl wi ur o d) 14 = ((wi / 256 : Nat) : Int) := bt_nat _ _ _ rfl (by omega)
  have h2 : bt (en x y p q sq ak fl wi ur o d) 15 = ((wi % 256 : Nat) : Int) := bt_nat _ _ _ rfl (by omega)
  show bt _ 14 * 256 + bt _ 15 = _
  rw [h1, h2]; omega
theorem en_20 : (en x y p q sq ak fl wi ur o d).drop 20 = o ++ d := rfl
theorem en_opts : ((en x y p q sq ak fl wi ur o d).drop 20).take o.length = o := by
  rw [en_20, List.take_append_of_le_length (Nat.le_refl _), List.take_length]
theorem en_data : (en x y p q sq ak fl wi ur o d).drop (20 + o.length) = d := by
  rw [← List.drop_drop, en_20, List.drop_append_of_le_length (Nat.le_refl _), List.drop_length, List.nil_append]
end

/-! ### what is turned -/
end Go.Proofs.Ytafckmbgefbonaa.cm

namespace Go.Proofs.Ytafckmbgefbonaa.cm
open Go.Proofs.Ytafckmbgefbonaa.sm Go.Proofs.Ytafckmbgefbonaa.nb
set_option linter.unusedVariables false

theorem hi_of (a b : UInt8) : oct ((a.toNat * 256 + b.toNat) / 256) = a := by
  have := UInt8.toNat_lt b
  rw [show (a.toNat * 256 + b.toNat) / 256 = a.toNat by omega, oct_of]
theorem lo_of (a b : UInt8) : oct ((a.toNat * 256 + b.toNat) % 256) = b := by
  have := UInt8.toNat_lt b
  rw [show (a.toNat * 256 + b.toNat) % 256 = b.toNat by omega, oct_of]
end Go.Proofs.Ytafckmbgefbonaa.cm

namespace Go.Proofs.Ytafckmbgefbonaa.om
open Go.Proofs.Ytafckmbgefbonaa.sm Go.Proofs.Ytafckmbgefbonaa.nb
set_option linter.unusedVariables false

structure Opz where
  mss : Nat
  sc : Int
  sk : Bool
  bl : List (Nat × Nat)
  tm : Bool
  va : Nat
  ec : Nat
abbrev M32 : Nat := 4294967296
def none_ : Opz := ⟨0, -1, false, [], false, 0, 0⟩
def zero_ : Opz := ⟨0, 0, false, [], false, 0, 0⟩
def Wf (o : Opz) : Prop := o.mss ≤ 65535 ∧ (∀ b ∈ o.bl, b.1 < M32 ∧ b.2 < M32) ∧ o.va < M32 ∧ o.ec < M32
def same (a b : Opz) : Bool := a.mss == b.mss && a.sc == b.sc && a.sk == b.sk && a.tm == b.tm && a.va == b.va && a.ec == b.ec && a.bl == b.bl
theorem same_iff (a b : Opz) : same a b = true ↔ a = b := by
  cases a; cases b
  simp [same]
  constructor
  · rintro ⟨⟨⟨⟨⟨⟨h1, h2⟩, h3⟩, h4⟩, h5⟩, h6⟩, h7⟩; exact ⟨h1, h2, h3, h7, h4, h5, h6⟩
  · rintro ⟨h1, h2, h3, h7, h4, h5, h6⟩; exact ⟨⟨⟨⟨⟨⟨h1, h2⟩, h3⟩, h4⟩, h5⟩, h6⟩, h7⟩

/-! ### bytes of options -/
def rMss (o : Opz) : List UInt8 := if o.mss = 0 then [] else 2 :: 4 :: B16 o.mss
def rSc (o : Opz) : List UInt8 := if 0 ≤ o.sc then [1, 3, 3, oct o.sc.toNat] else []
def rSk (o : Opz) : List UInt8 := if o.sk = true then [1, 1, 4, 2] else []
def rTm (o : Opz) : List UInt8 := if o.tm = true then 1 :: 1 :: 8 :: 10 :: (B32 o.va ++ B32 o.ec) else []
def flat : List (Nat × Nat) → List UInt8
  | [] => []
  | b :: t => B32 b.1 ++ (B32 b.2 ++ flat t)
def rBl (o : Opz) : List UInt8 := if o.bl = [] then [] else 1 :: 1 :: 5 :: oct (2 + 8 * o.bl.length) :: flat o.bl
def raw (o : Opz) : List UInt8 := rMss o ++ (rSc o ++ (rSk o ++ (rTm o ++ rBl o)))
theorem flat_len : ∀ l, (flat l).length = 8 * l.length
  | [] => rfl
  | b :: t => by simp [flat, B32, flat_len t]; omega
theorem flat_app : ∀ l m, flat (l ++ m) = flat l ++ flat m
  | [], m => rfl
  | b :: t, m => by simp [flat, flat_app t m]
theorem rMss_len (o : Opz) : (rMss o).length = if o.mss = 0 then 0 else 4 := by unfold rMss; split <;> rfl
theorem rSc_len (o : Opz) : (rSc o).length = if 0 ≤ o.sc then 4 else 0 := by unfold rSc; split <;> rfl
theorem rSk_len (o : Opz) : (rSk o).length = if o.sk = true then 4 else 0 := by unfold rSk; split <;> rfl
theorem rTm_len (o : Opz) : (rTm o).length = if o.tm = true then 12 else 0 := by unfold rTm; split <;> rfl
theorem rBl_len (o : Opz) : (rBl o).length = if o.bl = [] then 0 else 4 + 8 * o.bl.length := by
  unfold rBl; split
  · rfl
  · simp only [List.length_cons, flat_len]; omega
def rawLen (o : Opz) : Nat := (if o.mss = 0 then 0 else 4) + (if 0 ≤ o.sc then 4 else 0) + (if o.sk = true then 4 else 0) + (if o.tm = true then 12 else 0) + (if o.bl = [] then 0 else 4 + 8 * o.bl.length)
theorem raw_len (o : Opz) : (raw o).length = rawLen o := by
  unfold raw rawLen
  rw [List.length_append, List.length_append, List.length_append, List.length_append, rMss_len, rSc_len, rSk_len, rTm_len, rBl_len]
  omega
theorem rawLen_four (o : Opz) : rawLen o % 4 = 0 := by
  unfold rawLen
  (repeat' split) <;> omega
abbrev May (o : Opz) : Prop := -1 ≤ o.sc ∧ o.sc ≤ 14 ∧ o.bl.length ≤ 4 ∧ (o.tm = false → o.va = 0 ∧ o.ec = 0) ∧ rawLen o ≤ 40

/-! ### bytes read -/
abbrev Item := Nat × List UInt8
def lenOk (k n : Nat) : Bool := if k = 2 then n == 4 else if k = 3 then n == 3 else if k = 4 then n == 2 else if k = 5 then n == 10 || n == 18 || n == 26 || n == 34 else if k = 8 then n == 10 else decide (2 ≤ n)
def known (k : Nat) : Bool := decide (2 ≤ k) && decide (k ≤ 5) || k == 8
theorem lenOk_two {k n : Nat} (h : lenOk k n = true) : 2 ≤ n := by
  unfold lenOk at h
  (repeat' split at h) <;> simp at h <;> omega
def parse : List UInt8 → Option (List Item)
  | [] => some []
  | k :: t =>
    if k.toNat = 0 then some [] else if k.toNat = 1 then parse t else
    match t with
    | [] => none
    | n :: u => if lenOk k.toNat n.toNat = true ∧ n.toNat ≤ u.length + 2 then (parse (u.drop (n.toNat - 2))).map fun r => (k.toNat, u.take (n.toNat - 2)) :: r else none
termination_by l => l.length
decreasing_by
  all_goals (simp; try omega)
theorem parse_nil : parse [] = some [] := by rw [parse]
theorem parse_0 (k : UInt8) (t : List UInt8) (h : k.toNat = 0) : parse (k :: t) = some [] := by cases t <;> rw [parse, if_pos h]
theorem parse_1 (k : UInt8) (t : List UInt8) (h : k.toNat = 1) : parse (k :: t) = parse t := by cases t <;> (conv => lhs; rw [parse, if_neg (by omega), if_pos h])
theorem parse_one (k : UInt8) (h : k.toNat ≠ 0) (h1 : k.toNat ≠ 1) : parse [k] = none := by rw [parse, if_neg h, if_neg h1]
theorem parse_no (k n : UInt8) (u : List UInt8) (h : k.toNat ≠ 0) (h1 : k.toNat ≠ 1) (h2 : ¬ (lenOk k.toNat n.toNat = true ∧ n.toNat ≤ u.length + 2)) : parse (k :: n :: u) = none := by
  rw [parse, if_neg h, if_neg h1, if_neg h2]
theorem parse_yes (k n : UInt8) (u : List UInt8) (h : k.toNat ≠ 0) (h1 : k.toNat ≠ 1) (h2 : lenOk k.toNat n.toNat = true) (h3 : n.toNat ≤ u.length + 2) :
    parse (k :: n :: u) = (parse (u.drop (n.toNat - 2))).map fun r => (k.toNat, u.take (n.toNat - 2)) :: r := by
  rw [parse, if_neg h, if_neg h1, if_pos ⟨h2, h3⟩]
theorem parse_item (k n : UInt8) (p t : List UInt8) (h : 2 ≤ k.toNat) (h2 : lenOk k.toNat n.toNat = true) (h3 : n.toNat = p.length + 2) :
    parse (k :: n :: (p ++ t)) = (parse t).map fun r => (k.toNat, p) :: r := by
  rw [parse_yes k n _ (by omega) (by omega) h2 (by rw [List.length_append]; omega)]
  rw [h3, Nat.add_sub_cancel, List.drop_left, List.take_left]
abbrev Clash (x y : Item) : Prop := known x.1 = true → x.1 ≠ y.1
abbrev Fine (l : List Item) : Prop := l.Pairwise Clash ∧ ∀ x ∈ l, ¬ (x.1 = 2 ∧ wd x.2 0 = 0)
def blocks (p : List UInt8) : List (Nat × Nat) := (List.range (p.length / 8)).map fun i => ((qd p (8 * i)).toNat, (qd p (8 * i + 4)).toNat)
def put (o : Opz) (x : Item) : Opz :=
  if x.1 = 2 then { o with mss := (wd x.2 0).toNat } else if x.1 = 3 then { o with sc := min (bt x.2 0) 14 } else if x.1 = 4 then { o with sk := true }
  else if x.1 = 5 then { o with bl := o.bl ++ blocks x.2 } else if x.1 = 8 then { o with tm := true, va := (qd x.2 0).toNat, ec := (qd x.2 4).toNat } else o
def dec (l : List UInt8) : Option Opz :=
  match parse l with
  | none => none
  | some its => if Fine its then some (its.foldl put none_) else none
def err (l : List UInt8) : Nat := if 40 < l.length then 4 else if (dec l).isNone then 70 else 0
def decO (l : List UInt8) : Opz := if 40 < l.length then zero_ else (dec l).getD zero_
theorem dec_some {l : List UInt8} {its : List Item} (h : parse l = some its) (hf : Fine its) : dec l = some (its.foldl put none_) := by
  unfold dec; rw [h]; exact if_pos hf
theorem dec_bad {l : List UInt8} {its : List Item} (h : parse l = some its) (hf : ¬ Fine its) : dec l = none := by
  unfold dec; rw [h]; exact if_neg hf
theorem dec_none {l : List UInt8} (h : parse l = none) : dec l = none := by
  unfold dec; rw [h]
theorem dec_is {l : List UInt8} {o : Opz} (h : dec l = some o) : ∃ its, parse l = some its ∧ Fine its ∧ o = its.foldl put none_ := by
  unfold dec at h
  split at h
  · cases h
  · rename_i its hp
    split at h
    · rename_i hf; cases h; exact ⟨its, hp, hf, rfl⟩
    · cases h
theorem err_0 {l : List UInt8} {o : Opz} (h : dec l = some o) (hl : l.length ≤ 40) : err l = 0 ∧ decO l = o := by
  unfold err decO; rw [if_neg (Nat.not_lt.2 hl), if_neg (Nat.not_lt.2 hl), h]; exact ⟨rfl, rfl⟩
theorem err_70 {l : List UInt8} (h : dec l = none) (hl : l.length ≤ 40) : err l = 70 ∧ decO l = zero_ := by
  unfold err decO; rw [if_neg (Nat.not_lt.2 hl), if_neg (Nat.not_lt.2 hl), h]; exact ⟨rfl, rfl⟩
theorem err_4 {l : List UInt8} (hl : 40 < l.length) : err l = 4 ∧ decO l = zero_ := by
  unfold err decO; rw [if_pos hl, if_pos hl]; exact ⟨rfl, rfl⟩
theorem err_is0 {l : List UInt8} (h : err l = 0) : l.length ≤ 40 ∧ ∃ o, dec l = some o ∧ decO l = o := by
  by_cases hl : 40 < l.length
  · rw [(err_4 hl).1] at h; cases h
  · cases hd : dec l with
    | none => rw [(err_70 hd (by omega)).1] at h; cases h
    | some o => exact ⟨by omega, o, rfl, (err_0 hd (by omega)).2⟩

/-! ### what was written is read -/
def iMss (o : Opz) : List Item := if o.mss = 0 then [] else [(2, B16 o.mss)]
def iSc (o : Opz) : List Item := if 0 ≤ o.sc then [(3, [oct o.sc.toNat])] else []
def iSk (o : Opz) : List Item := if o.sk = true then [(4, [])] else []
def iTm (o : Opz) : List Item := if o.tm = true then [(8, B32 o.va ++ B32 o.ec)] else []
def iBl (o : Opz) : List Item := if o.bl = [] then [] else [(5, flat o.bl)]
def items (o : Opz) : List Item := iMss o ++ (iSc o ++ (iSk o ++ (iTm o ++ iBl o)))
theorem map_id_nil (x : Option (List Item)) : x.map (fun r => [] ++ r) = x := by cases x <;> rfl
theorem p_mss (o : Opz) (t : List UInt8) : parse (rMss o ++ t) = (parse t).map fun r => iMss o ++ r := by
  unfold rMss iMss; split
  · rw [map_id_nil]; rfl
  · exact parse_item 2 4 (B16 o.mss) t (by decide) rfl rfl
theorem p_sc (o : Opz) (h : o.sc ≤ 14) (t : List UInt8) : parse (rSc o ++ t) = (parse t).map fun r => iSc o ++ r := by
  unfold rSc iSc; split
  · show parse (1 :: 3 :: 3 :: ([oct o.sc.toNat] ++ t)) = _
    rw [parse_1 1 _ rfl, parse_item 3 3 _ t (by decide) rfl rfl]; rfl
  · rw [map_id_nil]; rfl
theorem p_sk (o : Opz) (t : List UInt8) : parse (rSk o ++ t) = (parse t).map fun r => iSk o ++ r := by
  unfold rSk iSk; split
  · show parse (1 :: 1 :: 4 :: 2 :: ([] ++ t)) = _
    rw [parse_1 1 _ rfl, parse_1 1 _ rfl, parse_item 4 2 _ t (by decide) rfl rfl]; rfl
  · rw [map_id_nil]; rfl
theorem p_tm (o : Opz) (t : List UInt8) : parse (rTm o ++ t) = (parse t).map fun r => iTm o ++ r := by
  unfold rTm iTm; split
  · show parse (1 :: 1 :: 8 :: 10 :: ((B32 o.va ++ B32 o.ec) ++ t)) = _
    rw [parse_1 1 _ rfl, parse_1 1 _ rfl, parse_item 8 10 _ t (by decide) rfl rfl]; rfl
  · rw [map_id_nil]; rfl
theorem p_bl (o : Opz) (h : o.bl.length ≤ 4) (t : List UInt8) : parse (rBl o ++ t) = (parse t).map fun r => iBl o ++ r := by
  unfold rBl iBl; split
  · rw [map_id_nil]; rfl
  · rename_i hb
    have hn : 0 < o.bl.length := List.length_pos_iff.2 hb
    have e : (oct (2 + 8 * o.bl.length)).toNat = 2 + 8 * o.bl.length := oct_nat (by omega)
    show parse (1 :: 1 :: 5 :: oct (2 + 8 * o.bl.length) :: (flat o.bl ++ t)) = _
    rw [parse_1 1 _ rfl, parse_1 1 _ rfl, parse_item 5 _ _ t (by decide) ?_ (by rw [e, flat_len]; omega)]; rfl
    rw [e]
    rcases (by omega : o.bl.length = 1 ∨ o.bl.length = 2 ∨ o.bl.length = 3 ∨ o.bl.length = 4) with h | h | h | h <;> rw [h] <;> rfl
theorem p_raw {o : Opz} (h : May o) (t : List UInt8) : parse (raw o ++ t) = (parse t).map fun r => items o ++ r := by
  obtain ⟨_, h1, h2, _, _⟩ := h
  unfold raw items
  simp only [List.append_assoc]
  rw [p_mss, p_sc o h1, p_sk, p_tm, p_bl o h2]
  cases parse t with
  | none => rfl
  | some r => simp
theorem nat_oct (n : Nat) (h : n ≤ 255) (t : List UInt8) : bt (oct n :: t) 0 = (n : Int) := by
  show ((oct n).toNat : Int) = _
  rw [oct_nat h]
theorem wd_B16 (n : Nat) (h : n ≤ 65535) (t : List UInt8) : wd (B16 n ++ t) 0 = (n : Int) := by
  show ((oct (n / 256)).toNat : Int) * 256 + ((oct (n % 256)).toNat : Int) = _
  rw [oct_nat (by omega), oct_nat (by omega)]; omega
theorem qd_B32 (n : Nat) (h : n < M32) (t : List UInt8) : qd (B32 n ++ t) 0 = (n : Int) := by
  have hq := q_le n (by unfold M32 at h; omega)
  show (((oct (q3 n)).toNat : Int) * 256 + ((oct (q2 n)).toNat : Int)) * 65536 + (((oct (q1 n)).toNat : Int) * 256 + ((oct (q0 n)).toNat : Int)) = _
  rw [oct_nat hq.1, oct_nat hq.2.1, oct_nat hq.2.2.1, oct_nat hq.2.2.2]
  unfold q3 q2 q1 q0; omega
theorem qd_drop (l : List UInt8) (j k : Nat) : qd (l.drop j) k = qd l (j + k) := by unfold qd; rw [wd_drop, wd_drop]; rfl
theorem qd_B32' (a n : Nat) (h : n < M32) (t : List UInt8) : qd (B32 a ++ (B32 n ++ t)) 4 = (n : Int) := by
  have e := qd_drop (B32 a ++ (B32 n ++ t)) 4 0
  rw [← e, show (B32 a ++ (B32 n ++ t)).drop 4 = B32 n ++ t from rfl, qd_B32 n h]
theorem blocks_cons (b : Nat × Nat) (t : List UInt8) (h : b.1 < M32 ∧ b.2 < M32) : blocks (B32 b.1 ++ (B32 b.2 ++ t)) = b :: blocks t := by
  unfold blocks
  have e : (B32 b.1 ++ (B32 b.2 ++ t)).length / 8 = t.length / 8 + 1 := by simp [B32]; omega
  rw [e, List.range_succ_eq_map, List.map_cons, List.map_map]
  have e0 : ((qd (B32 b.1 ++ (B32 b.2 ++ t)) (8 * 0)).toNat, (qd (B32 b.1 ++ (B32 b.2 ++ t)) (8 * 0 + 4)).toNat) = b := by
    rw [Nat.mul_zero, Nat.zero_add, qd_B32 _ h.1, qd_B32' _ _ h.2]; simp
  rw [e0]
  refine congrArg (List.cons b) (List.map_congr_left ?_)
  intro i _
  have f1 := qd_drop (B32 b.1 ++ (B32 b.2 ++ t)) 8 (8 * i)
  have f2 := qd_drop (B32 b.1 ++ (B32 b.2 ++ t)) 8 (8 * i + 4)
  rw [show (B32 b.1 ++ (B32 b.2 ++ t)).drop 8 = t from rfl] at f1 f2
  show ((qd _ (8 * (i + 1))).toNat, (qd _ (8 * (i + 1) + 4)).toNat) = _
  rw [f1, f2, show 8 * (i + 1) = 8 + 8 * i by omega, show 8 + 8 * i + 4 = 8 + (8 * i + 4) by omega]
theorem blocks_flat : ∀ l : List (Nat × Nat), (∀ b ∈ l, b.1 < M32 ∧ b.2 < M32) → blocks (flat l) = l
  | [], _ => rfl
  | b :: t, h => by
    show blocks (B32 b.1 ++ (B32 b.2 ++ flat t)) = _
    rw [blocks_cons b _ (h b (by simp)), blocks_flat t (fun x hx => h x (by simp [hx]))]
theorem put_items {o : Opz} (h : May o) (hw : Wf o) : (items o).foldl put none_ = o := by
  obtain ⟨m, s, k, b, t, v, e⟩ := o
  obtain ⟨h1, h2, h3, h4, h5⟩ := h
  obtain ⟨w1, w2, w3, w4⟩ := hw
  dsimp only at h1 h2 h3 h4 h5 w1 w2 w3 w4
  have a1 : (iMss ⟨m, s, k, b, t, v, e⟩).foldl put none_ = ⟨m, -1, false, [], false, 0, 0⟩ := by
    unfold iMss; split
    · rename_i h; dsimp only at h; subst h; rfl
    · have := wd_B16 m w1 []
      rw [List.append_nil] at this
      show put none_ (2, B16 m) = _
      unfold put; simp [this, none_]
  have a2 : (iSc ⟨m, s, k, b, t, v, e⟩).foldl put ⟨m, -1, false, [], false, 0, 0⟩ = ⟨m, s, false, [], false, 0, 0⟩ := by
    unfold iSc; split
    · rename_i h; dsimp only at h
      have := nat_oct s.toNat (by omega) []
      show put _ (3, [oct s.toNat]) = _
      unfold put; simp [this]; omega
    · rename_i h; dsimp only at h
      show (⟨m, -1, false, [], false, 0, 0⟩ : Opz) = _
      rw [show s = -1 by omega]
  have a3 : (iSk ⟨m, s, k, b, t, v, e⟩).foldl put ⟨m, s, false, [], false, 0, 0⟩ = ⟨m, s, k, [], false, 0, 0⟩ := by
    unfold iSk; cases k <;> rfl
  have a4 : (iTm ⟨m, s, k, b, t, v, e⟩).foldl put ⟨m, s, k, [], false, 0, 0⟩ = ⟨m, s, k, [], t, v, e⟩ := by
    unfold iTm; cases t
    · obtain ⟨rfl, rfl⟩ := h4 rfl; rfl
    · have f1 := qd_B32 v w3 (B32 e)
      have f2 := qd_B32' v e w4 []
      rw [List.append_nil] at f2
      show put _ (8, B32 v ++ B32 e) = _
      unfold put; simp [f1, f2]
  have a5 : (iBl ⟨m, s, k, b, t, v, e⟩).foldl put ⟨m, s, k, [], t, v, e⟩ = ⟨m, s, k, b, t, v, e⟩ := by
    unfold iBl; split
    · rename_i h; dsimp only at h; subst h; rfl
    · show put _ (5, flat b) = _
      unfold put; simp [blocks_flat b w2]
  unfold items
  rw [List.foldl_append, List.foldl_append, List.foldl_append, List.foldl_append, a1, a2, a3, a4, a5]
theorem fine_items {o : Opz} (hw : Wf o) : Fine (items o) := by
  obtain ⟨m, s, k, b, t, v, e⟩ := o
  have hm : m ≤ 65535 := hw.1
  have f := wd_B16 m hm []
  rw [List.append_nil] at f
  unfold items iMss iSc iSk iTm iBl
  refine ⟨?_, ?_⟩
  · (repeat' split) <;> simp [Clash]
  · intro x hx
    simp only [List.mem_append] at hx
    rcases hx with hx | hx | hx | hx | hx
    · split at hx
      · cases hx
      · rename_i h0
        simp at hx; subst hx
        rintro ⟨_, h⟩
        dsimp only at h h0
        rw [f] at h; omega
    all_goals
      split at hx
      all_goals (simp at hx; try subst hx)
      all_goals simp
theorem raw_dec {o : Opz} (h : May o) (hw : Wf o) : dec (raw o) = some o := by
  have hp := p_raw h []
  rw [List.append_nil, parse_nil] at hp
  simp only [Option.map_some, List.append_nil] at hp
  rw [dec_some hp (fine_items hw), put_items h hw]
end Go.Proofs.Ytafckmbgefbonaa.om

namespace Go.Proofs.Ytafckmbgefbonaa.su
open Go.RowKit Go.Proofs.Ytafckmbgefbonaa.sm Go.Proofs.Ytafckmbgefbonaa.nb
set_option linter.unusedVariables false

theorem nat_or8 (a b : Nat) (hb : b < 256) : a * 256 ||| b = a * 256 + b := by
  have := Nat.shiftLeft_add_eq_or_of_lt (i := 8) hb a
  rw [Nat.shiftLeft_eq] at this
  exact this.symm
theorem bits_or_u16 (a b : Nat) (ha : a ≤ 255) (hb : b ≤ 255) : bits .or .u16 ((a : Int) * 256) b = (a : Int) * 256 + b := by
  have h1 : (BitVec.ofInt 16 ((a * 256 : Nat) : Int)).toNat = a * 256 := by
    rw [BitVec.ofInt_natCast, BitVec.toNat_ofNat]; exact Nat.mod_eq_of_lt (by omega)
  have h2 : (BitVec.ofInt 16 (b : Int)).toNat = b := by
    rw [BitVec.ofInt_natCast, BitVec.toNat_ofNat]; exact Nat.mod_eq_of_lt (by omega)
  show IntKind.u16.wrap ((BitVec.ofInt 16 ((a : Int) * 256) ||| BitVec.ofInt 16 (b : Int)).toNat : Int) = _
  rw [show (a : Int) * 256 = ((a * 256 : Nat) : Int) by simp, BitVec.toNat_or, h1, h2, nat_or8 a b (by omega), IntKind.wrap_u16]
  omega

theorem word8 (a b : Int) (w : World) (ha : 0 ≤ a ∧ a ≤ 255) (hb : 0 ≤ b ∧ b ≤ 255) :
    Calls Try.prog 83 #[.int .u8 a, .int .u8 b] w fun e w' => e = .returned (.int .u16 (a * 256 + b)) ∧ w = w' := by
  obtain ⟨n, rfl⟩ := Int.eq_ofNat_of_zero_le ha.1
  obtain ⟨m, rfl⟩ := Int.eq_ofNat_of_zero_le hb.1
  have H := Lib.hid (bits_or_u16 n m (by omega) (by omega))
  go_enter Try.func83, Try.ntmps83
  go_wp2
  go_ret
  exact ⟨ret_int H.out, rfl⟩

def Quiet (v : Value) (w : World) (e : Ending) (w' : World) : Prop := e = .returned v ∧ ∃ n, w' = w.drewN n
theorem wordAt_in (s : ByteArray) (k : Nat) (w : World) (hs : s.size ≤ 1099511627776) (hk : k < s.size) :
    Calls Try.prog 84 #[.string s, .int .i64 k] w (Quiet (.int .u16 (wd (L s) k)) w) := by
  have b0 := bt_bd (L s) k
  have b1 := bt_bd (L s) (k + 1)
  have e0 := bt_at s k hk
  have E : wd (L s) k = bt (L s) k * 256 + bt (L s) (k + 1) := rfl
  by_cases h : k + 1 < s.size
  · have e1 := bt_at s (k + 1) h
    rw [← e0, ← e1] at E
    rw [← e0] at b0
    rw [← e1] at b1
    have HE := Lib.hid E; clear E e0 e1
    have q : (0 : Int) ≤ (k : Int) + 1 := by omega
    have q1 : IntKind.i64.wrap ((k : Int) + 1) = (k : Int) + 1 := IntWalk.i64_in _ (by omega)
    have q2 : ((k : Int) + 1).toNat = k + 1 := by omega
    go_enter Try.func84, Try.ntmps84
    go_wp2
    go_quiet ((go_at_call 83; exact Calls.quiet_of_same ((word8 _ _ _ b0 b1).mono fun _ _ ⟨h1, h2⟩ => ⟨h1, h2.symm⟩)))
    clear q1
    go_wp2
    go_ret
    exact ⟨ret_int HE.out.symm, _, rfl⟩
  · rw [bt_of_ge (L s) (k + 1) (by rw [L_len]; omega), ← e0] at E
    rw [← e0] at b0
    have HE := Lib.hid E; clear E e0
    go_enter Try.func84, Try.ntmps84
    have b00 : (0 : Int) ≤ 0 ∧ (0 : Int) ≤ 255 := ⟨by decide, by decide⟩
    go_wp2_with (go_at_call 83; refine (word8 _ _ _ b0 b00).mono ?_; rintro e w' ⟨rfl, rfl⟩)
    go_ret
    exact ⟨ret_int (by rw [HE.out, Int.add_zero]), 0, rfl⟩

end Go.Proofs.Ytafckmbgefbonaa.su
