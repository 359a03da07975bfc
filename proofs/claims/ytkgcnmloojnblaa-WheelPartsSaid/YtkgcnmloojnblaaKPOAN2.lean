/- P O A N: contracts, part 2. Condition: as each says. -/
import Derived.Test.YtkgcnmloojnblaaKPOAN1
import Derived.Maps.AppendAt
set_option linter.unusedVariables false
set_option linter.unusedSimpArgs false
namespace Go.Proofs.Ytkgcnmloojnblaa.wh
open Go.RowKit Go.Shelf Go.Lib Go.Proofs.Ytkgcnmloojnblaa.nb
set_option linter.unusedVariables false

abbrev Tm := ByteArray × Int
def d0 : Tm := (ByteArray.empty, 0)
def cells (xs : List Tm) : List Value := xs.flatMap fun x => [.string x.1, .int .i64 x.2]
theorem cells_cons (x : Tm) (r : List Tm) : cells (x :: r) = .string x.1 :: .int .i64 x.2 :: cells r := rfl
theorem cells_at : ∀ (xs : List Tm) (k : Nat), k < xs.length → (cells xs)[k * 2]? = some (.string (xs.getD k d0).1) ∧ (cells xs)[k * 2 + 1]? = some (.int .i64 (xs.getD k d0).2)
  | [], k, h => by simp at h
  | x :: r, 0, _ => ⟨rfl, rfl⟩
  | x :: r, k + 1, h => by
    have := cells_at r k (by simpa using h)
    rw [cells_cons, show (k + 1) * 2 = k * 2 + 1 + 1 by omega]
    simpa using this
def OwnT (w : World) (B : Nat) (v : Value) (xs : List Tm) : Prop := w.ownsRow B 45 2 v xs.length (cells xs)
theorem OwnT.nil_ (w : World) (B : Nat) : OwnT w B (.slice none 0 0) [] := World.ownsRow_nil _ _ _ _
theorem OwnT.up {w w' : World} {B : Nat} {v : Value} {xs : List Tm} (h : OwnT w B v xs) (hb : Up w w') : OwnT w' B v xs := kept_below h hb
theorem OwnT.only {F : Nat → Prop} {w w' : World} {B : Nat} {v : Value} {xs : List Tm} (h : OwnT w B v xs) (o : Only F w w') (hF : ∀ k, RowF v k → ¬ F k) : OwnT w' B v xs := own_only h o hF
theorem OwnT.form {w : World} {B : Nat} {v : Value} {xs : List Tm} (h : OwnT w B v xs) : (v = .slice none 0 0 ∧ xs = []) ∨ ∃ g cap, v = .slice (some ⟨g, 0, none⟩) xs.length cap ∧ B ≤ g ∧ g < w.heap.size ∧ xs.length ≤ cap ∧ cap ≤ maxLen ∧ ∀ j u, (cells xs)[j]? = some u → w.cell? ⟨g, j, none⟩ = some u := by
  rcases own_form h with ⟨rfl, hn⟩ | ⟨g, cap, rfl, hB, hg, h1, h2⟩
  · exact .inl ⟨rfl, List.eq_nil_of_length_eq_zero hn⟩
  · refine .inr ⟨g, cap, rfl, hB, hg, h1, h2, fun j u hj => ?_⟩
    have := World.ownsRow.cells h (g := g) rfl j u hj
    rwa [show (⟨g, 0, none⟩ : Addr).add j = ⟨g, j, none⟩ by unfold Addr.add; split <;> simp_all] at this
theorem OwnT.at_ {w : World} {B : Nat} {v : Value} {xs : List Tm} (h : OwnT w B v xs) {k : Nat} (hk : k < xs.length) : ∃ g cap s t, v = .slice (some ⟨g, 0, none⟩) xs.length cap ∧ w.cell? ⟨g, k * 2, none⟩ = some (.string s) ∧ w.cell? ⟨g, k * 2 + 1, none⟩ = some (.int .i64 t) ∧ Hid (xs[k]? = some (s, t)) := by
  rcases h.form with ⟨_, rfl⟩ | ⟨g, cap, rfl, _, _, _, _, hc⟩
  · exact absurd hk (Nat.not_lt_zero _)
  · obtain ⟨c1, c2⟩ := cells_at xs k hk
    refine ⟨g, cap, _, _, rfl, hc _ _ c1, hc _ _ c2, (show xs[k]? = _ from ?_)⟩
    rw [List.getD_eq_getElem?_getD, List.getElem?_eq_getElem hk]; rfl

section
variable {ops : Array Oper} {rest : List Oper} {o : Oper} {a : Act} {Q : Exit → Act → World → Prop} {w : World} {B : Nat} {v : Value}
end
end Go.Proofs.Ytkgcnmloojnblaa.wh

namespace Go.Proofs.Ytkgcnmloojnblaa.wh
open Go.RowKit Go.Shelf Go.Lib Go.Proofs.Ytkgcnmloojnblaa.nb
set_option linter.unusedVariables false

def eqK (a b : ByteArray) : Bool := a.toList == b.toList
theorem eqK_iff {a b : ByteArray} : eqK a b = true ↔ a = b := by
  unfold eqK
  rw [beq_iff_eq, ByteArray.toList_eq, ByteArray.toList_eq]
  exact ⟨fun h => ba_eq h, fun h => by rw [h]⟩
theorem OwnT.mono {w : World} {B B' : Nat} {v : Value} {xs : List Tm} (h : OwnT w B v xs) (hB : B' ≤ B) : OwnT w B' v xs := by
  refine ⟨h.1, ?_⟩
  rcases h.2 with hn | ⟨g, cap, cur, e, hb, rest⟩
  · exact .inl hn
  · exact .inr ⟨g, cap, cur, e, Nat.le_trans hB hb, rest⟩
def RW (w : World) (b : Nat) (now most : Int) (xs : List Tm) (F : Nat → Prop) : Prop :=
  ∃ v, Box w b [.int .i64 now, .int .i64 most, v] ∧ OwnT w (b + 1) v xs ∧ ∀ k, F k ↔ k = b ∨ RowF v k
theorem RW.lt {w : World} {b : Nat} {now most : Int} {xs : List Tm} {F : Nat → Prop} (h : RW w b now most xs F) : ∀ k, F k → b ≤ k ∧ k < w.heap.size := fun k hk => by
  obtain ⟨v, hB, hO, hF⟩ := h
  rcases (hF k).1 hk with rfl | hr
  · exact ⟨Nat.le_refl _, hB.1⟩
  · have := own_lt hO k hr; omega
theorem RW.only {w w' : World} {b : Nat} {now most : Int} {xs : List Tm} {F G : Nat → Prop} (h : RW w b now most xs F) (o : Only G w w') (hd : ∀ k, F k → ¬ G k) : RW w' b now most xs F := by
  obtain ⟨v, hB, hO, hF⟩ := h
  exact ⟨v, hB.only o (hd b ((hF b).2 (.inl rfl))), hO.only o (fun k hk => hd k ((hF k).2 (.inr hk))), hF⟩
theorem RW.up {w w' : World} {b : Nat} {now most : Int} {xs : List Tm} {F : Nat → Prop} (h : RW w b now most xs F) (u : Up w w') : RW w' b now most xs F :=
  h.only (Only.up (F := fun _ => False) u) (fun _ _ => id)

def findZ (xs : List Tm) (key : ByteArray) : Int := if xs.findIdx (fun x => eqK x.1 key) < xs.length then (xs.findIdx (fun x => eqK x.1 key) : Int) else -1
end Go.Proofs.Ytkgcnmloojnblaa.wh

namespace Go.Proofs.Ytkgcnmloojnblaa.wh
open Go.RowKit Go.Shelf Go.Lib Go.Proofs.Ytkgcnmloojnblaa.nb
set_option linter.unusedVariables false

theorem OwnT.slice {w : World} {B : Nat} {v : Value} {xs : List Tm} (h : OwnT w B v xs) : ∃ A n c, v = .slice A n c := by
  rcases h.form with ⟨rfl, _⟩ | ⟨g, cap, rfl, _⟩
  · exact ⟨_, _, _, rfl⟩
  · exact ⟨_, _, _, rfl⟩
end Go.Proofs.Ytkgcnmloojnblaa.wh

namespace Go.Proofs.Ytkgcnmloojnblaa.wh
open Go.RowKit Go.Shelf Go.Lib Go.Proofs.Ytkgcnmloojnblaa.nb
set_option linter.unusedVariables false

def tmAt (xs : List Tm) (j : Nat) : Int := (xs.getD j d0).2
theorem tmAt_of {xs : List Tm} {j : Nat} {s : ByteArray} {t : Int} (h : xs[j]? = some (s, t)) : tmAt xs j = t := by unfold tmAt; rw [List.getD_eq_getElem?_getD, h]; rfl
def stepZ (xs : List Tm) (now : Int) (z : Int) (j : Nat) : Int := if tmAt xs j ≤ now ∧ (z < 0 ∨ tmAt xs j < tmAt xs z.toNat) then (j : Int) else z
def preZ (xs : List Tm) (now : Int) (j : Nat) : Int := (List.range j).foldl (stepZ xs now) (-1)
def firstZ (xs : List Tm) (now : Int) : Int := preZ xs now xs.length
theorem preZ_succ (xs : List Tm) (now : Int) (j : Nat) : preZ xs now (j + 1) = stepZ xs now (preZ xs now j) j := by unfold preZ; rw [List.range_succ, List.foldl_append]; rfl
theorem preZ_bd (xs : List Tm) (now : Int) : ∀ j, -1 ≤ preZ xs now j ∧ preZ xs now j < j ∨ preZ xs now j = -1
  | 0 => .inr rfl
  | j + 1 => by
    rw [preZ_succ]; unfold stepZ
    split
    · exact .inl ⟨by omega, by omega⟩
    · rcases preZ_bd xs now j with h | h
      · exact .inl ⟨h.1, by omega⟩
      · exact .inr h

theorem preZ_cases (xs : List Tm) (now : Int) (j : Nat) : preZ xs now j = -1 ∨ ∃ m : Nat, preZ xs now j = m ∧ m < j := by
  rcases preZ_bd xs now j with h | h
  · by_cases h0 : preZ xs now j = -1
    · exact .inl h0
    · exact .inr ⟨(preZ xs now j).toNat, by omega, by omega⟩
  · exact .inl h
end Go.Proofs.Ytkgcnmloojnblaa.wh

namespace Go.Proofs.Ytkgcnmloojnblaa.wh
open Go.RowKit Go.Shelf Go.Lib Go.Proofs.Ytkgcnmloojnblaa.nb Go.Proofs.Ytkgcnmloojnblaa.ck
set_option linter.unusedVariables false

def setC (now most : Int) (xs : List Tm) (key : ByteArray) (t : Int) : Int := if mayB t = true ∧ now < t then (if 0 ≤ findZ xs key then 0 else if most ≤ (xs.length : Int) then 6 else 0) else 2
def setL (now most : Int) (xs : List Tm) (key : ByteArray) (t : Int) : List Tm := if mayB t = true ∧ now < t then (if 0 ≤ findZ xs key then xs.eraseIdx (findZ xs key).toNat ++ [(key, t)] else if most ≤ (xs.length : Int) then xs else xs ++ [(key, t)]) else xs
theorem findZ_bd (xs : List Tm) (key : ByteArray) : findZ xs key = -1 ∨ ∃ k : Nat, findZ xs key = k ∧ k < xs.length := by
  unfold findZ
  split
  · rename_i h; exact .inr ⟨_, rfl, h⟩
  · exact .inl rfl
end Go.Proofs.Ytkgcnmloojnblaa.wh

namespace Go.Proofs.Ytkgcnmloojnblaa.wh
open Go.RowKit Go.Shelf Go.Lib Go.Proofs.Ytkgcnmloojnblaa.nb Go.Proofs.Ytkgcnmloojnblaa.ck
set_option linter.unusedVariables false

def stopC (xs : List Tm) (key : ByteArray) : Int := if 0 ≤ findZ xs key then 1 else 0
def stopL (xs : List Tm) (key : ByteArray) : List Tm := if 0 ≤ findZ xs key then xs.eraseIdx (findZ xs key).toNat else xs
def atV (xs : List Tm) (key : ByteArray) : Int × Bool := if 0 ≤ findZ xs key then (tmAt xs (findZ xs key).toNat, true) else (0, false)
def nextV (xs : List Tm) : Int × Bool := if 0 ≤ firstZ xs 17592186044416 then (tmAt xs (firstZ xs 17592186044416).toNat, true) else (0, false)
theorem firstZ_bd (xs : List Tm) (t : Int) : firstZ xs t = -1 ∨ ∃ k : Nat, firstZ xs t = k ∧ k < xs.length := preZ_cases xs t _
end Go.Proofs.Ytkgcnmloojnblaa.wh

namespace Go.Proofs.Ytkgcnmloojnblaa.wh
open Go.RowKit Go.Shelf Go.Lib Go.Proofs.Ytkgcnmloojnblaa.nb Go.Proofs.Ytkgcnmloojnblaa.ck
set_option linter.unusedVariables false

def goN : Nat → Int → List Tm → List Tm × List Tm
  | 0, _, xs => ([], xs)
  | f + 1, t, xs => if firstZ xs t < 0 then ([], xs) else
    let r := goN f t (xs.eraseIdx (firstZ xs t).toNat)
    (xs.getD (firstZ xs t).toNat d0 :: r.1, r.2)
def told (t : Int) (xs : List Tm) : List Tm := (goN xs.length t xs).1
def stay (t : Int) (xs : List Tm) : List Tm := (goN xs.length t xs).2
theorem goN_no {xs : List Tm} {t : Int} (h : firstZ xs t = -1) : ∀ f, goN f t xs = ([], xs)
  | 0 => rfl
  | f + 1 => by unfold goN; rw [if_pos (by omega)]
theorem told_no {xs : List Tm} {t : Int} (h : firstZ xs t = -1) : told t xs = [] ∧ stay t xs = xs := by unfold told stay; rw [goN_no h]; exact ⟨rfl, rfl⟩
theorem told_one {xs : List Tm} {t : Int} {k : Nat} {x : Tm} (h : firstZ xs t = k) (hx : xs[k]? = some x) : told t xs = x :: told t (xs.eraseIdx k) ∧ stay t xs = stay t (xs.eraseIdx k) := by
  obtain ⟨hk, e⟩ := List.getElem?_eq_some_iff.1 hx
  have hl : (xs.eraseIdx k).length = xs.length - 1 := by rw [List.length_eraseIdx, if_pos hk]
  unfold told stay
  rw [hl]
  obtain ⟨f, hf⟩ : ∃ f, xs.length = f + 1 := ⟨xs.length - 1, by omega⟩
  rw [hf, Nat.add_sub_cancel]
  have : goN (f + 1) t xs = (x :: (goN f t (xs.eraseIdx k)).1, (goN f t (xs.eraseIdx k)).2) := by
    rw [goN, if_neg (by omega), h, Int.toNat_natCast, List.getD_eq_getElem?_getD, hx]; rfl
  rw [this]
  exact ⟨rfl, rfl⟩
def goC (now t : Int) : Int := if mayB t = true then (if t < now then 9 else 0) else 2
def lenV : Value → Nat
  | .slice _ n _ => n
  | _ => 0
end Go.Proofs.Ytkgcnmloojnblaa.wh

namespace Go.Proofs.Ytkgcnmloojnblaa.wh
open Go.RowKit Go.Shelf Go.Lib Go.Proofs.Ytkgcnmloojnblaa.nb Go.Proofs.Ytkgcnmloojnblaa.ck
set_option linter.unusedVariables false

theorem preZ_spec (xs : List Tm) (t : Int) : ∀ j, (preZ xs t j = -1 ∧ ∀ i, i < j → t < tmAt xs i) ∨ ∃ k : Nat, k < j ∧ preZ xs t j = k ∧ tmAt xs k ≤ t ∧ (∀ i, i < j → tmAt xs i ≤ t → tmAt xs k ≤ tmAt xs i) ∧ ∀ i, i < k → tmAt xs i ≤ t → tmAt xs k < tmAt xs i
  | 0 => .inl ⟨rfl, fun i hi => absurd hi (Nat.not_lt_zero _)⟩
  | j + 1 => by
    rw [preZ_succ]
    unfold stepZ
    rcases preZ_spec xs t j with ⟨hz, h⟩ | ⟨k, hk, hz, h1, h2, h3⟩
    · rw [hz]
      by_cases c : tmAt xs j ≤ t
      · rw [if_pos ⟨c, .inl (by omega)⟩]
        refine .inr ⟨j, by omega, rfl, c, fun i hi hd => ?_, fun i hi hd => ?_⟩
        · rcases Nat.lt_or_eq_of_le (Nat.lt_succ_iff.1 hi) with hi | rfl
          · have := h i hi; omega
          · exact Int.le_refl _
        · have := h i hi; omega
      · rw [if_neg (fun h => c h.1)]
        refine .inl ⟨rfl, fun i hi => ?_⟩
        rcases Nat.lt_or_eq_of_le (Nat.lt_succ_iff.1 hi) with hi | rfl
        · exact h i hi
        · omega
    · rw [hz, Int.toNat_natCast]
      by_cases c : tmAt xs j ≤ t ∧ tmAt xs j < tmAt xs k
      · rw [if_pos ⟨c.1, .inr c.2⟩]
        refine .inr ⟨j, by omega, rfl, c.1, fun i hi hd => ?_, fun i hi hd => ?_⟩
        · rcases Nat.lt_or_eq_of_le (Nat.lt_succ_iff.1 hi) with hi | rfl
          · have := h2 i hi hd; omega
          · exact Int.le_refl _
        · have := h2 i hi hd; omega
      · rw [if_neg (fun h => c ⟨h.1, by rcases h.2 with h | h; omega; exact h⟩)]
        refine .inr ⟨k, by omega, rfl, h1, fun i hi hd => ?_, h3⟩
        rcases Nat.lt_or_eq_of_le (Nat.lt_succ_iff.1 hi) with hi | rfl
        · exact h2 i hi hd
        · by_cases c2 : tmAt xs i < tmAt xs k
          · exact absurd ⟨hd, c2⟩ c
          · omega
theorem tmAt_get {xs : List Tm} {i : Nat} (h : i < xs.length) : tmAt xs i = (xs[i]).2 := by unfold tmAt; rw [List.getD_eq_getElem?_getD, List.getElem?_eq_getElem h]; rfl
theorem first_no {xs : List Tm} {t : Int} (h : firstZ xs t = -1) : ∀ x ∈ xs, t < x.2 := fun x hx => by
  obtain ⟨i, hi, rfl⟩ := List.mem_iff_getElem.1 hx
  rw [← tmAt_get hi]
  rcases preZ_spec xs t xs.length with ⟨_, h2⟩ | ⟨k, _, hz, _⟩
  · exact h2 i hi
  · have : firstZ xs t = k := hz
    omega
theorem first_at {xs : List Tm} {t : Int} {k : Nat} {x : Tm} (h : firstZ xs t = k) (hx : xs[k]? = some x) : x.2 ≤ t ∧ ∀ y ∈ xs, y.2 ≤ t → x.2 ≤ y.2 := by
  obtain ⟨hk, e⟩ := List.getElem?_eq_some_iff.1 hx
  subst e
  rcases preZ_spec xs t xs.length with ⟨h1, _⟩ | ⟨k', _, hz, h1, h2, _⟩
  · have : firstZ xs t = -1 := h1
    omega
  · have h3 : firstZ xs t = k' := hz
    obtain rfl : k = k' := by omega
    rw [tmAt_get hk] at h1 h2
    refine ⟨h1, fun y hy hd => ?_⟩
    obtain ⟨i, hi, rfl⟩ := List.mem_iff_getElem.1 hy
    have := h2 i hi (by rw [tmAt_get hi]; exact hd)
    rwa [tmAt_get hi] at this
theorem told_all : ∀ (n : Nat) (xs : List Tm) (t : Int), xs.length = n → (∀ x ∈ told t xs, x ∈ xs ∧ x.2 ≤ t) ∧ (told t xs).Pairwise (fun a b => a.2 ≤ b.2) ∧ stay t xs = xs.filter (fun x => decide (t < x.2)) ∧ (told t xs ++ stay t xs).Perm xs
  | n, xs, t, hn => by
    rcases firstZ_bd xs t with hz | ⟨k, hz, hk⟩
    · obtain ⟨e1, e2⟩ := told_no hz
      rw [e1, e2]
      refine ⟨(fun x hx => absurd hx List.not_mem_nil), List.Pairwise.nil, ?_, List.Perm.refl _⟩
      rw [List.filter_eq_self.2]
      intro x hx
      exact decide_eq_true (first_no hz x hx)
    · have hx := List.getElem?_eq_getElem hk
      obtain ⟨e1, e2⟩ := told_one hz hx
      obtain ⟨f1, f2⟩ := first_at hz hx
      have hl : (xs.eraseIdx k).length = n - 1 := by rw [List.length_eraseIdx, if_pos hk, hn]
      have hm : ∀ y ∈ xs.eraseIdx k, y ∈ xs := fun y hy => List.mem_of_mem_eraseIdx hy
      obtain ⟨i1, i2, i3, i4⟩ := told_all (n - 1) (xs.eraseIdx k) t hl
      rw [e1, e2]
      refine ⟨fun x hx' => ?_, ?_, ?_, ?_⟩
      · rcases List.mem_cons.1 hx' with rfl | h
        · exact ⟨List.getElem_mem hk, f1⟩
        · exact ⟨hm _ (i1 x h).1, (i1 x h).2⟩
      · refine List.Pairwise.cons (fun y hy => f2 y (hm _ (i1 y hy).1) (i1 y hy).2) i2
      · rw [i3, List.eraseIdx_eq_take_drop_succ, List.filter_append]
        conv => rhs; rw [← List.take_append_drop k xs, List.drop_eq_getElem_cons hk]
        rw [List.filter_append, List.filter_cons_of_neg]
        simpa using f1
      · refine List.Perm.trans (List.Perm.cons _ i4) ?_
        rw [List.eraseIdx_eq_take_drop_succ]
        conv => rhs; rw [← List.take_append_drop k xs, List.drop_eq_getElem_cons hk]
        exact List.perm_middle.symm
  termination_by n => n
  decreasing_by omega
end Go.Proofs.Ytkgcnmloojnblaa.wh

namespace Go.Proofs.Ytkgcnmloojnblaa.wh
open Go.RowKit Go.Shelf Go.Lib Go.Proofs.Ytkgcnmloojnblaa.nb Go.Proofs.Ytkgcnmloojnblaa.ck
set_option linter.unusedVariables false

theorem RW.new (w : World) (now most : Int) : RW (w.alloc (.cells #[.int .i64 now, .int .i64 most, .slice none 0 0] 32)) w.heap.size now most [] (fun k => k = w.heap.size) :=
  ⟨.slice none 0 0, Box.new w #[.int .i64 now, .int .i64 most, .slice none 0 0] 32, OwnT.nil_ _ _, fun k => ⟨.inl, fun h => h.elim id (fun e => by cases e)⟩⟩

structure St where
  d : Int
  k : ByteArray
  o : ByteArray
  t : Int
def s0 : St := ⟨0, ByteArray.empty, ByteArray.empty, 0⟩
def RdP (w : World) (A : Option Addr) (xs : List St) : Prop := xs ≠ [] → ∃ g off, A = some ⟨g, off, none⟩ ∧ g < w.heap.size ∧ ∀ k, k < xs.length →
  w.cell? ⟨g, off + k * 4, none⟩ = some (.int .i64 (xs.getD k s0).d) ∧ w.cell? ⟨g, off + k * 4 + 1, none⟩ = some (.string (xs.getD k s0).k) ∧ w.cell? ⟨g, off + k * 4 + 2, none⟩ = some (.string (xs.getD k s0).o) ∧ w.cell? ⟨g, off + k * 4 + 3, none⟩ = some (.int .i64 (xs.getD k s0).t)
theorem RdP.up {w w' : World} {A : Option Addr} {xs : List St} (h : RdP w A xs) (u : Up w w') : RdP w' A xs := fun hne => by
  obtain ⟨g, off, e, hg, hc⟩ := h hne
  refine ⟨g, off, e, Nat.lt_of_lt_of_le hg u.size, fun k hk => ?_⟩
  obtain ⟨c0, c1, c2, c3⟩ := hc k hk
  exact ⟨(u.cell (p := ⟨g, _, none⟩) hg).trans c0, (u.cell (p := ⟨g, _, none⟩) hg).trans c1, (u.cell (p := ⟨g, _, none⟩) hg).trans c2, (u.cell (p := ⟨g, _, none⟩) hg).trans c3⟩
theorem RdP.at_ {w : World} {A : Option Addr} {xs : List St} {k : Nat} (h : RdP w A xs) (hk : k < xs.length) : ∃ g off d s o t, A = some ⟨g, off, none⟩ ∧ g < w.heap.size ∧ w.cell? ⟨g, off + k * 4, none⟩ = some (.int .i64 d) ∧ w.cell? ⟨g, off + k * 4 + 1, none⟩ = some (.string s) ∧ w.cell? ⟨g, off + k * 4 + 2, none⟩ = some (.string o) ∧ w.cell? ⟨g, off + k * 4 + 3, none⟩ = some (.int .i64 t) ∧ Hid (xs[k]? = some ⟨d, s, o, t⟩) := by
  obtain ⟨g, off, e, hg, hc⟩ := h (fun h0 => by rw [h0] at hk; exact absurd hk (Nat.not_lt_zero _))
  obtain ⟨c0, c1, c2, c3⟩ := hc k hk
  refine ⟨g, off, _, _, _, _, e, hg, c0, c1, c2, c3, (show xs[k]? = _ from ?_)⟩
  rw [List.getD_eq_getElem?_getD, List.getElem?_eq_getElem hk]; rfl
end Go.Proofs.Ytkgcnmloojnblaa.wh

namespace Go.Proofs.Ytkgcnmloojnblaa.wh
open Go.RowKit Go.Shelf Go.Lib Go.Proofs.Ytkgcnmloojnblaa.nb Go.Proofs.Ytkgcnmloojnblaa.ck
set_option linter.unusedVariables false

theorem eraseIdx_len {xs : List Tm} {k : Nat} (hk : k < xs.length) : (xs.eraseIdx k).length + 1 = xs.length := by rw [List.length_eraseIdx, if_pos hk]; omega
theorem setL_len {now most : Int} {xs : List Tm} {key : ByteArray} {t : Int} (h : (xs.length : Int) ≤ most) : ((setL now most xs key t).length : Int) ≤ most := by
  unfold setL
  split
  · rcases findZ_bd xs key with hz | ⟨k, hz, hk⟩
    · rw [hz, if_neg (by omega)]
      split
      · exact h
      · rw [List.length_append]; simp; omega
    · rw [hz, if_pos (by omega), List.length_append, Int.toNat_natCast]
      have := eraseIdx_len hk
      simp; omega
  · exact h
theorem stay_len (t : Int) (xs : List Tm) : (stay t xs).length ≤ xs.length := by
  rw [(told_all _ xs t rfl).2.2.1]; exact List.length_filter_le _ _
def goT (now t : Int) (xs : List Tm) : List Tm := if goC now t = 0 then told t xs else []
def goS (now t : Int) (xs : List Tm) : List Tm := if goC now t = 0 then stay t xs else xs
def goW (now t : Int) : Int := if goC now t = 0 then t else now
theorem goS_len (now t : Int) (xs : List Tm) : (goS now t xs).length ≤ xs.length := by
  unfold goS
  split
  · exact stay_len _ _
  · exact Nat.le_refl _
def stopsC (xs : List Tm) : List ByteArray → Int
  | [] => 0
  | k :: r => stopC xs k + stopsC (stopL xs k) r
def stopsL (xs : List Tm) : List ByteArray → List Tm
  | [] => xs
  | k :: r => stopsL (stopL xs k) r
structure TL (kv : ByteArray → Value) (w : World) (A : Option Addr) (n : Nat) (xs : List Tm) (lo : Nat) (F : Nat → Prop) : Prop where
  len : n = xs.length
  row : 0 < n → ∃ g off, A = some ⟨g, off, none⟩ ∧ lo ≤ g ∧ g < w.heap.size ∧ ¬ F g ∧ ∀ k, k < n → w.cell? ⟨g, off + k * 2, none⟩ = some (kv (xs.getD k d0).1) ∧ w.cell? ⟨g, off + k * 2 + 1, none⟩ = some (.int .i64 (xs.getD k d0).2)
theorem TL.nil_ {kv : ByteArray → Value} {w : World} {A : Option Addr} {lo : Nat} {F : Nat → Prop} : TL kv w A 0 [] lo F := ⟨rfl, fun h => absurd h (Nat.lt_irrefl _)⟩
theorem TL.only {kv : ByteArray → Value} {w w' : World} {A : Option Addr} {n : Nat} {xs : List Tm} {lo : Nat} {F G H : Nat → Prop} (h : TL kv w A n xs lo F) (o : Only G w w') (hG : ∀ k, lo ≤ k → k < w.heap.size → ¬ F k → ¬ G k) (hH : ∀ k, lo ≤ k → k < w.heap.size → ¬ F k → ¬ H k) : TL kv w' A n xs lo H :=
  ⟨h.len, fun hn => by
    obtain ⟨g, off, e, h1, h2, h3, hc⟩ := h.row hn
    refine ⟨g, off, e, h1, Nat.lt_of_lt_of_le h2 o.size, hH g h1 h2 h3, fun k hk => ?_⟩
    obtain ⟨c1, c2⟩ := hc k hk
    exact ⟨(o.cell (p := ⟨g, _, none⟩) h2 (hG g h1 h2 h3)).trans c1, (o.cell (p := ⟨g, _, none⟩) h2 (hG g h1 h2 h3)).trans c2⟩⟩
theorem TL.at_ {kv : ByteArray → Value} {w : World} {A : Option Addr} {n : Nat} {xs : List Tm} {lo : Nat} {F : Nat → Prop} (h : TL kv w A n xs lo F) {k : Nat} (hk : k < n) :
    ∃ g off s t, A = some ⟨g, off, none⟩ ∧ w.cell? ⟨g, off + k * 2, none⟩ = some (kv s) ∧ w.cell? ⟨g, off + k * 2 + 1, none⟩ = some (.int .i64 t) ∧ Hid (xs[k]? = some (s, t)) := by
  obtain ⟨g, off, e, _, _, _, hc⟩ := h.row (by omega)
  obtain ⟨c1, c2⟩ := hc k hk
  refine ⟨g, off, _, _, e, c1, c2, (show xs[k]? = _ from ?_)⟩
  have : k < xs.length := by rw [← h.len]; exact hk
  rw [List.getD_eq_getElem?_getD, List.getElem?_eq_getElem this]; rfl

abbrev WP := World → Nat → Int → Int → List Tm → (Nat → Prop) → Prop
structure Wh (LW : WP) (kv : ByteArray → Value) (ok : ByteArray → Prop) (fNew fSet fGo : FuncId) : Prop where
  lt : ∀ {w b now most xs F}, LW w b now most xs F → ∀ k, F k → k < w.heap.size
  only : ∀ {w w' b now most xs F G}, LW w b now most xs F → Only G w w' → (∀ k, F k → ¬ G k) → LW w' b now most xs F
  new_f : ∀ (now most : Int) (w : World), I64 now → I64 most → ¬ (mayB now = true ∧ 0 ≤ most ∧ most ≤ 4096) → Calls Try.prog fNew #[.int .i64 now, .int .i64 most] w fun e w' => e = .returned (.tuple #[.pointer none, .int .i64 2]) ∧ Up w w'
  new_t : ∀ (now most : Int) (w : World), mayB now = true → 0 ≤ most → most ≤ 4096 → Calls Try.prog fNew #[.int .i64 now, .int .i64 most] w fun e w' => ∃ b F, e = .returned (.tuple #[.pointer (some ⟨b, 0, none⟩), .int .i64 0]) ∧ LW w' b now most [] F ∧ Up w w' ∧ ∀ k, F k → w.heap.size ≤ k
  set : ∀ {b now most xs F w} (key : ByteArray) (t : Int), LW w b now most xs F → ok key → I64 t → Calls Try.prog fSet #[.pointer (some ⟨b, 0, none⟩), kv key, .int .i64 t] w fun e w' => e = .returned (.int .i64 (setC now most xs key t)) ∧ ∃ F', LW w' b now most (setL now most xs key t) F' ∧ Only F w w' ∧ StepF F F' w
  go : ∀ {b now most xs F w} (t : Int), LW w b now most xs F → I64 t → Calls Try.prog fGo #[.pointer (some ⟨b, 0, none⟩), .int .i64 t] w fun e w' => ∃ A n c F', e = .returned (.tuple #[.slice A n c, .int .i64 (goC now t)]) ∧ LW w' b (goW now t) most (goS now t xs) F' ∧ Only F w w' ∧ StepF F F' w ∧ TL kv w' A n (goT now t xs) w.heap.size F'
def RdK (w : World) (A : Option Addr) (ks : List ByteArray) : Prop := ks ≠ [] → ∃ g off, A = some ⟨g, off, none⟩ ∧ g < w.heap.size ∧ ∀ k, k < ks.length → w.cell? ⟨g, off + k, none⟩ = some (.string (ks.getD k ByteArray.empty))
structure WhS (LW : WP) : Prop extends Wh LW (fun s => .string s) (fun _ => True) 9 10 14 where
  stop : ∀ {b now most xs F w} (A : Option Addr) (c : Nat) (ks : List ByteArray), LW w b now most xs F → RdK w A ks → (∀ g off, A = some ⟨g, off, none⟩ → ¬ F g) → ks.length ≤ 2 → Calls Try.prog 12 #[.pointer (some ⟨b, 0, none⟩), .slice A ks.length c] w fun e w' => e = .returned (.int .i64 (stopsC xs ks)) ∧ ∃ F', LW w' b now most (stopsL xs ks) F' ∧ Only F w w' ∧ StepF F F' w
  at_ : ∀ {b now most xs F w} (key : ByteArray), LW w b now most xs F → Calls Try.prog 16 #[.pointer (some ⟨b, 0, none⟩), .string key] w fun e w' => e = .returned (.tuple #[.int .i64 (atV xs key).1, .bool (atV xs key).2]) ∧ ∃ F', LW w' b now most xs F' ∧ Only F w w' ∧ StepF F F' w
  next : ∀ {b now most xs F w}, LW w b now most xs F → Calls Try.prog 18 #[.pointer (some ⟨b, 0, none⟩)] w fun e w' => e = .returned (.tuple #[.int .i64 (nextV xs).1, .bool (nextV xs).2]) ∧ ∃ F', LW w' b now most xs F' ∧ Only F w w' ∧ StepF F F' w
  len : ∀ {b now most xs F w}, LW w b now most xs F → Calls Try.prog 20 #[.pointer (some ⟨b, 0, none⟩)] w fun e w' => e = .returned (.int .i64 xs.length) ∧ Up w w'
  now_ : ∀ {b now most xs F w}, LW w b now most xs F → Calls Try.prog 21 #[.pointer (some ⟨b, 0, none⟩)] w fun e w' => e = .returned (.int .i64 now) ∧ Up w w'
  nilSet : ∀ (w : World) (key : ByteArray) (t : Int), Calls Try.prog 10 #[.pointer none, .string key, .int .i64 t] w fun e w' => e = .returned (.int .i64 1) ∧ Up w w'
  nilStop : ∀ (w : World) (A : Option Addr) (n c : Nat), Calls Try.prog 12 #[.pointer none, .slice A n c] w fun e w' => e = .returned (.int .i64 0) ∧ Up w w'
  nilGo : ∀ (w : World) (t : Int), Calls Try.prog 14 #[.pointer none, .int .i64 t] w fun e w' => ∃ A c, e = .returned (.tuple #[.slice A 0 c, .int .i64 1]) ∧ Up w w'
  nilAt : ∀ (w : World) (key : ByteArray), Calls Try.prog 16 #[.pointer none, .string key] w fun e w' => e = .returned (.tuple #[.int .i64 0, .bool false]) ∧ Up w w'
  nilNext : ∀ (w : World), Calls Try.prog 18 #[.pointer none] w fun e w' => e = .returned (.tuple #[.int .i64 0, .bool false]) ∧ Up w w'
  nilLen : ∀ (w : World), Calls Try.prog 20 #[.pointer none] w fun e w' => e = .returned (.int .i64 0) ∧ Up w w'
  nilNow : ∀ (w : World), Calls Try.prog 21 #[.pointer none] w fun e w' => e = .returned (.int .i64 0) ∧ Up w w'
end Go.Proofs.Ytkgcnmloojnblaa.wh

namespace Go.Proofs.Ytkgcnmloojnblaa.wh
open Go.RowKit Go.Shelf Go.Lib Go.Proofs.Ytkgcnmloojnblaa.nb Go.Proofs.Ytkgcnmloojnblaa.ck
set_option linter.unusedVariables false

structure Ob (P : WP) : Prop where
  lt : ∀ {w b now most xs F}, P w b now most xs F → ∀ k, F k → k < w.heap.size
  only : ∀ {w w' b now most xs F G}, P w b now most xs F → Only G w w' → (∀ k, F k → ¬ G k) → P w' b now most xs F
structure Two (P Q : WP) (wS : World) (Z : Nat → Prop) (w : World) (b c : Nat) (n1 : Int) (x1 : List Tm) (n2 : Int) (x2 : List Tm) (m : Int) (F G : Nat → Prop) : Prop where
  lw : P w b n1 m x1 F
  rw_ : Q w c n2 m x2 G
  fF : ∀ k, F k → Z k ∨ wS.heap.size ≤ k
  fG : ∀ k, G k → Z k ∨ wS.heap.size ≤ k
  ap : ∀ k, F k → ¬ G k
  on : Only Z wS w
  l1 : (x1.length : Int) ≤ m
  l2 : (x2.length : Int) ≤ m
  hm : m ≤ 4096
def TwoE (P Q : WP) (wS : World) (Z : Nat → Prop) (w : World) (b c : Nat) (n1 : Int) (x1 : List Tm) (n2 : Int) (x2 : List Tm) (m : Int) : Prop := ∃ F G, Two P Q wS Z w b c n1 x1 n2 x2 m F G
section
variable {P Q LW : WP} {wS w w' : World} {Z F G : Nat → Prop} {b c : Nat} {n1 n2 n1' n2' m : Int} {x1 x2 x1' x2' : List Tm}
theorem Two.same (hP : Ob P) (hQ : Ob Q) (T : Two P Q wS Z w b c n1 x1 n2 x2 m F G) (u : Up w w') : Two P Q wS Z w' b c n1 x1 n2 x2 m F G :=
  ⟨hP.only T.lw (Only.up (F := fun _ => False) u) (fun _ _ => id), hQ.only T.rw_ (Only.up (F := fun _ => False) u) (fun _ _ => id), T.fF, T.fG, T.ap, T.on.on u, T.l1, T.l2, T.hm⟩
theorem TwoE.same (hP : Ob P) (hQ : Ob Q) (T : TwoE P Q wS Z w b c n1 x1 n2 x2 m) (u : Up w w') : TwoE P Q wS Z w' b c n1 x1 n2 x2 m := by
  obtain ⟨F, G, T⟩ := T; exact ⟨F, G, T.same hP hQ u⟩
theorem TwoE.on (T : TwoE P Q wS Z w b c n1 x1 n2 x2 m) : Only Z wS w := by obtain ⟨F, G, T⟩ := T; exact T.on
theorem TwoE.cell (T : TwoE P Q wS Z w b c n1 x1 n2 x2 m) {p : Addr} {v : Value} (h : wS.cell? p = some v) (hz : ¬ Z p.block) : w.cell? p = some v := (T.on.cell (World.block_lt_of_cell? wS p h) hz).trans h
theorem TwoE.back {w1 : World} {Z1 : Nat → Prop} (T : TwoE P Q w1 Z1 w b c n1 x1 n2 x2 m) (u : Only Z wS w1) (h : ∀ k, Z1 k → Z k ∨ wS.heap.size ≤ k) : TwoE P Q wS Z w b c n1 x1 n2 x2 m := by
  obtain ⟨F, G, T⟩ := T
  exact ⟨F, G, T.lw, T.rw_, fun k hk => (T.fF k hk).elim (h k) (fun e => .inr (Nat.le_trans u.size e)), fun k hk => (T.fG k hk).elim (h k) (fun e => .inr (Nat.le_trans u.size e)), T.ap, u.trans T.on h, T.l1, T.l2, T.hm⟩
theorem TwoE.len2 (T : TwoE P Q wS Z w b c n1 x1 n2 x2 m) : x2.length ≤ 4096 := by obtain ⟨F, G, T⟩ := T; have := T.l2; have := T.hm; omega
/-! ### the calls -/
end
end Go.Proofs.Ytkgcnmloojnblaa.wh

namespace Go.Proofs.Ytkgcnmloojnblaa.wh
open Go.RowKit Go.Shelf Go.Lib Go.Proofs.Ytkgcnmloojnblaa.nb Go.Proofs.Ytkgcnmloojnblaa.ck
set_option linter.unusedVariables false

structure One (LW : WP) (wS : World) (Z : Nat → Prop) (w : World) (b : Nat) (n : Int) (x : List Tm) (m : Int) (F : Nat → Prop) : Prop where
  lw : LW w b n m x F
  fF : ∀ k, F k → Z k ∨ wS.heap.size ≤ k
  on : Only Z wS w
  l1 : (x.length : Int) ≤ m
  hm : m ≤ 4096
def OneE (LW : WP) (wS : World) (Z : Nat → Prop) (w : World) (b : Nat) (n : Int) (x : List Tm) (m : Int) : Prop := ∃ F, One LW wS Z w b n x m F
section
variable {LW : WP} {kv : ByteArray → Value} {ok : ByteArray → Prop} {fN fS fG : FuncId} {wS w w' : World} {Z F : Nat → Prop} {b : Nat} {n n' m : Int} {x x' : List Tm}
theorem One.step (T : One LW wS Z w b n x m F) {F' : Nat → Prop} (h : LW w' b n' m x' F') (o : Only F w w') (s : StepF F F' w) (hl : (x'.length : Int) ≤ m) : One LW wS Z w' b n' x' m F' :=
  ⟨h, fun k hk => (s k hk).elim (T.fF k) (fun e => .inr (Nat.le_trans T.on.size e)), T.on.trans o T.fF, hl, T.hm⟩
theorem OneE.same (W : Wh LW kv ok fN fS fG) (T : OneE LW wS Z w b n x m) (u : Up w w') : OneE LW wS Z w' b n x m := by
  obtain ⟨F, T⟩ := T
  exact ⟨F, W.only T.lw (Only.up (F := fun _ => False) u) (fun _ _ => id), T.fF, T.on.on u, T.l1, T.hm⟩
theorem OneE.on (T : OneE LW wS Z w b n x m) : Only Z wS w := by obtain ⟨F, T⟩ := T; exact T.on
theorem OneE.up (T : OneE LW wS (fun _ => False) w b n x m) : Up wS w := T.on.none_up (fun _ => id)
theorem OneE.cell (T : OneE LW wS Z w b n x m) {p : Addr} {v : Value} (h : wS.cell? p = some v) (hz : ¬ Z p.block) : w.cell? p = some v := (T.on.cell (World.block_lt_of_cell? wS p h) hz).trans h
theorem OneE.back {w1 : World} {Z1 : Nat → Prop} (T : OneE LW w1 Z1 w b n x m) (u : Only Z wS w1) (h : ∀ k, Z1 k → Z k ∨ wS.heap.size ≤ k) : OneE LW wS Z w b n x m := by
  obtain ⟨F, T⟩ := T
  exact ⟨F, T.lw, fun k hk => (T.fF k hk).elim (h k) (fun e => .inr (Nat.le_trans u.size e)), u.trans T.on h, T.l1, T.hm⟩
theorem oNew (W : Wh LW kv ok fN fS fG) (now m : Int) (w : World) (h0 : mayB now = true) (h1 : 0 ≤ m) (h2 : m ≤ 4096) : Calls Try.prog fN #[.int .i64 now, .int .i64 m] w fun e w' => ∃ b, e = .returned (.tuple #[.pointer (some ⟨b, 0, none⟩), .int .i64 0]) ∧ OneE LW w (fun _ => False) w' b now [] m := by
  refine (W.new_t now m w h0 h1 h2).mono ?_
  rintro e w' ⟨b, F, rfl, h, u, hF⟩
  exact ⟨b, rfl, F, h, fun k hk => .inr (hF k hk), Only.up u, by simpa using h1, h2⟩
theorem oSet (W : Wh LW kv ok fN fS fG) (T : OneE LW wS Z w b n x m) (key : ByteArray) (t : Int) (hk : ok key) (ht : I64 t) : Calls Try.prog fS #[.pointer (some ⟨b, 0, none⟩), kv key, .int .i64 t] w fun e w' => e = .returned (.int .i64 (setC n m x key t)) ∧ OneE LW wS Z w' b n (setL n m x key t) m := by
  obtain ⟨F, T⟩ := T
  refine (W.set key t T.lw hk ht).mono ?_
  rintro e w' ⟨rfl, F', h, o, s⟩
  exact ⟨rfl, F', T.step h o s (setL_len T.l1)⟩
theorem oGo (W : Wh LW kv ok fN fS fG) (T : OneE LW wS Z w b n x m) (t : Int) (ht : I64 t) : Calls Try.prog fG #[.pointer (some ⟨b, 0, none⟩), .int .i64 t] w fun e w' => ∃ A l cp Z1, e = .returned (.tuple #[.slice A l cp, .int .i64 (goC n t)]) ∧ OneE LW w' Z1 w' b (goW n t) (goS n t x) m ∧ (∀ k, Z1 k → Z k ∨ wS.heap.size ≤ k) ∧ Only Z wS w' ∧ TL kv w' A l (goT n t x) w.heap.size Z1 := by
  obtain ⟨F, T⟩ := T
  refine (W.go t T.lw ht).mono ?_
  rintro e w' ⟨A, l, cp, F', rfl, h, o, s, hT⟩
  have T1 := T.step h o s (by have := goS_len n t x; have := T.l1; omega)
  exact ⟨A, l, cp, F', rfl, ⟨F', T1.lw, fun k h => .inl h, Only.refl _ _, T1.l1, T1.hm⟩, T1.fF, T1.on, hT⟩
theorem oLen (W : WhS LW) (T : OneE LW wS Z w b n x m) : Calls Try.prog 20 #[.pointer (some ⟨b, 0, none⟩)] w fun e w' => e = .returned (.int .i64 x.length) ∧ Up w w' := by
  obtain ⟨F, T⟩ := T
  exact W.len T.lw
theorem oNow (W : WhS LW) (T : OneE LW wS Z w b n x m) : Calls Try.prog 21 #[.pointer (some ⟨b, 0, none⟩)] w fun e w' => e = .returned (.int .i64 n) ∧ Up w w' := by
  obtain ⟨F, T⟩ := T
  exact W.now_ T.lw
end

/-! ### the example -/
def kA : ByteArray := ⟨#[97]⟩
def kB : ByteArray := ⟨#[98]⟩
def kC : ByteArray := ⟨#[99]⟩
theorem eqK_dec (a b : ByteArray) : eqK a b = decide (a.data = b.data) := by
  cases h : eqK a b
  · refine (decide_eq_false fun e => ?_).symm
    have : a = b := by cases a; cases b; cases e; rfl
    rw [eqK_iff.2 this] at h; cases h
  · rw [eqK_iff.1 h, decide_eq_true rfl]
theorem ex1 : setC 0 10 [] kA 5 = 0 ∧ setL 0 10 [] kA 5 = [(kA, 5)] := by decide
theorem ex2 : setC 0 10 [(kA, 5)] kB 3 = 0 ∧ setL 0 10 [(kA, 5)] kB 3 = [(kA, 5), (kB, 3)] := by
  constructor <;> simp [setC, setL, findZ, eqK_dec, kA, kB, kC, mayB, List.findIdx, List.findIdx.go]
theorem ex3 : setC 0 10 [(kA, 5), (kB, 3)] kC 5 = 0 ∧ setL 0 10 [(kA, 5), (kB, 3)] kC 5 = [(kA, 5), (kB, 3), (kC, 5)] := by
  constructor <;> simp [setC, setL, findZ, eqK_dec, kA, kB, kC, mayB, List.findIdx, List.findIdx.go]
theorem ex4 : goC 0 4 = 0 ∧ goW 0 4 = 4 ∧ goT 0 4 [(kA, 5), (kB, 3), (kC, 5)] = [(kB, 3)] ∧ goS 0 4 [(kA, 5), (kB, 3), (kC, 5)] = [(kA, 5), (kC, 5)] := by
  refine ⟨rfl, rfl, rfl, rfl⟩
theorem ex5 : setC 4 10 [(kA, 5), (kC, 5)] kA 5 = 0 ∧ setL 4 10 [(kA, 5), (kC, 5)] kA 5 = [(kC, 5), (kA, 5)] := by
  constructor <;> simp [setC, setL, findZ, eqK_dec, kA, kB, kC, mayB, List.findIdx, List.findIdx.go]
theorem ex6 : goC 4 9 = 0 ∧ goW 4 9 = 9 ∧ goT 4 9 [(kC, 5), (kA, 5)] = [(kC, 5), (kA, 5)] ∧ goS 4 9 [(kC, 5), (kA, 5)] = [] := by
  refine ⟨rfl, rfl, rfl, rfl⟩
end Go.Proofs.Ytkgcnmloojnblaa.wh

namespace Go.Proofs.Ytkgcnmloojnblaa.wh
open Go.RowKit Go.Shelf Go.Lib Go.Proofs.Ytkgcnmloojnblaa.nb Go.Proofs.Ytkgcnmloojnblaa.ck
set_option linter.unusedVariables false

set_option maxHeartbeats 8000000 in
set_option maxRecDepth 100000 in
theorem worksC {LW : WP} (W : WhS LW) (w : World) : Calls Try.prog 8 #[] w fun e w' => e = .returned (.bool true) ∧ Up w w' := by
  have i3 : I64 3 := by constructor <;> omega
  have i4 : I64 4 := by constructor <;> omega
  have i5 : I64 5 := by constructor <;> omega
  have i9 : I64 9 := by constructor <;> omega
  have WW := Lib.hid W
  clear W
  go_enter Try.func8, Try.ntmps8
  go_wp2_with fail
  refine (oNew WW.out.toWh 0 10 _ rfl (by omega) (by omega)).mono ?_
  rintro e w1 ⟨b, rfl, T1⟩
  have H1 := Lib.hid T1
  clear T1
  go_wp2_with fail
  refine (oSet WW.out.toWh H1.out kA 5 trivial i5).mono ?_
  rintro e w2 ⟨rfl, T2⟩
  rw [ex1.2] at T2
  have H2 := Lib.hid T2
  clear T2
  go_wp2_with fail
  refine (oSet WW.out.toWh H2.out kB 3 trivial i3).mono ?_
  rintro e w3 ⟨rfl, T3⟩
  rw [ex2.2] at T3
  have H3 := Lib.hid T3
  clear T3
  go_wp2_with fail
  refine (oSet WW.out.toWh H3.out kC 5 trivial i5).mono ?_
  rintro e w4 ⟨rfl, T4⟩
  rw [ex3.2] at T4
  have H4 := Lib.hid T4
  clear T4
  go_wp2_with fail
  refine (oGo WW.out.toWh H4.out 4 i4).mono ?_
  rintro e w5 ⟨A, l, cp, Z, rfl, T5, hZ, hO, hT⟩
  rw [ex4.1]
  rw [ex4.2.1, ex4.2.2.2] at T5
  rw [ex4.2.2.1] at hT
  obtain rfl : l = 1 := hT.len
  have H5 := Lib.hid T5; have HT := Lib.hid hT; have HZ := Lib.hid hZ; have HO := Lib.hid hO
  clear T5 hT hZ hO
  go_wp2_with fail
  refine (oSet WW.out.toWh H5.out kA 5 trivial i5).mono ?_
  rintro e w6 ⟨rfl, T6⟩
  rw [ex5.2] at T6
  have H6 := Lib.hid T6
  clear T6
  go_wp2_with fail
  refine (oGo WW.out.toWh H6.out 9 i9).mono ?_
  rintro e w7 ⟨A2, l2, cp2, Z2, rfl, T7, hZ2, hO2, hT2⟩
  rw [ex6.1]
  rw [ex6.2.1, ex6.2.2.2] at T7
  rw [ex6.2.2.1] at hT2
  obtain rfl : l2 = 2 := hT2.len
  have H7 := Lib.hid T7
  have HU := Lib.hid (((T7.back hO2 hZ2).back HO.out HZ.out).up)
  have t1 := HT.out.only hO2 (fun _ _ _ h => h) (fun _ _ _ h => h)
  obtain ⟨g, off, s, t, rfl, a0, a1, ha⟩ := t1.at_ (k := 0) (by omega)
  obtain ⟨g2, off2, s0, t0, rfl, b0, b1, hb⟩ := hT2.at_ (k := 0) (by omega)
  obtain ⟨g3, off3, s1, t1', e3, d0, d1, hd⟩ := hT2.at_ (k := 1) (by omega)
  cases e3
  cases ha.out; cases hb.out; cases hd.out
  clear T7 hZ2 hO2 hT2 t1 ha hb hd
  have c0 : w7.cell? ⟨g, off, none⟩ = some (.string ⟨#[98]⟩) := a0
  have c1 : w7.cell? ⟨g, off + 1, none⟩ = some (.int .i64 3) := by rw [Nat.zero_mul, Nat.add_zero] at a1; exact a1
  have c2 : w7.cell? ⟨g2, off2, none⟩ = some (.string ⟨#[99]⟩) := b0
  have c3 : w7.cell? ⟨g2, off2 + 2, none⟩ = some (.string ⟨#[97]⟩) := d0
  clear a0 a1 b0 b1 d0 d1
  go_wp2_with (first | (go_at_call 20; refine (oLen WW.out H7.out).mono ?_; rintro e w8 ⟨rfl, u8⟩) | (go_at_call 21; refine (oNow WW.out (H7.out.same WW.out.toWh u8)).mono ?_; rintro e w9 ⟨rfl, u9⟩))
  go_ret
  exact ⟨rfl, (HU.out.on u8).on u9⟩
end Go.Proofs.Ytkgcnmloojnblaa.wh

namespace Go.Proofs.Ytkgcnmloojnblaa.wf
set_option linter.unusedVariables false

def level (now t : Nat) : Nat := Nat.log2 ((now ^^^ t) ||| 1) / 5
def slot (now t : Nat) : Nat := 32 * level now t + t / 32 ^ level now t % 32
def Lv (now t l : Nat) : Prop := now / 32 ^ (l + 1) = t / 32 ^ (l + 1) ∧ (l = 0 ∨ now / 32 ^ l ≠ t / 32 ^ l)
theorem p32 (k : Nat) : 32 ^ k = 2 ^ (5 * k) := by rw [Nat.pow_mul]
theorem div_xor (a b k : Nat) : (a ^^^ b) / 2 ^ k = (a / 2 ^ k) ^^^ (b / 2 ^ k) := by
  rw [← Nat.shiftRight_eq_div_pow, ← Nat.shiftRight_eq_div_pow, ← Nat.shiftRight_eq_div_pow, Nat.shiftRight_xor_distrib]
theorem xor_zero_eq {a b : Nat} (h : a ^^^ b = 0) : a = b := by
  have : a ^^^ (a ^^^ b) = b := by rw [← Nat.xor_assoc, Nat.xor_self, Nat.zero_xor]
  rw [h, Nat.xor_zero] at this; exact this
theorem lv_level (now t : Nat) : Lv now t (level now t) := by
  have h0 : ((now ^^^ t) ||| 1) ≠ 0 := by
    have := Nat.right_le_or (n := now ^^^ t) (m := 1); omega
  have hlo := Nat.log2_self_le h0
  have hhi : ((now ^^^ t) ||| 1) < 2 ^ (Nat.log2 ((now ^^^ t) ||| 1) + 1) := Nat.lt_log2_self
  unfold Lv level
  generalize hL : Nat.log2 ((now ^^^ t) ||| 1) = L at hlo hhi ⊢
  refine ⟨?_, ?_⟩
  · rw [p32]
    have h1 : (now ^^^ t) < 2 ^ (5 * (L / 5 + 1)) :=
      Nat.lt_of_le_of_lt Nat.left_le_or (Nat.lt_of_lt_of_le hhi (Nat.pow_le_pow_right (by decide) (by omega)))
    have h2 : (now ^^^ t) / 2 ^ (5 * (L / 5 + 1)) = 0 := Nat.div_eq_of_lt h1
    rw [div_xor] at h2
    exact xor_zero_eq h2
  · by_cases hl : L / 5 = 0
    · exact .inl hl
    · refine .inr fun he => ?_
      rw [p32] at he
      have h2 : (now ^^^ t) / 2 ^ (5 * (L / 5)) = 0 := by rw [div_xor, he, Nat.xor_self]
      have h3 : ((now ^^^ t) ||| 1) / 2 ^ (5 * (L / 5)) = 0 := by
        rw [← Nat.shiftRight_eq_div_pow, Nat.shiftRight_or_distrib, Nat.shiftRight_eq_div_pow, Nat.shiftRight_eq_div_pow, h2, Nat.zero_or]
        refine Nat.div_eq_of_lt ?_
        calc 1 < 2 ^ 1 := by decide
          _ ≤ 2 ^ (5 * (L / 5)) := Nat.pow_le_pow_right (by decide) (by omega)
      have h4 : 2 ^ (5 * (L / 5)) ≤ ((now ^^^ t) ||| 1) := Nat.le_trans (Nat.pow_le_pow_right (by decide) (by omega)) hlo
      have h5 := Nat.div_pos h4 (Nat.pow_pos (n := 5 * (L / 5)) (show 0 < 2 by decide))
      omega
theorem div_up {a b k l : Nat} (h : a / 32 ^ k = b / 32 ^ k) (hk : k ≤ l) : a / 32 ^ l = b / 32 ^ l := by
  obtain ⟨d, rfl⟩ := Nat.exists_eq_add_of_le hk
  rw [Nat.pow_add, ← Nat.div_div_eq_div_mul, ← Nat.div_div_eq_div_mul, h]
theorem lv_le {now t l k : Nat} (h : Lv now t l) (hk : now / 32 ^ (k + 1) = t / 32 ^ (k + 1)) : l ≤ k := by
  rcases Nat.lt_or_ge k l with hlt | hge
  · rcases h.2 with h0 | h0
    · omega
    · exact absurd (div_up hk (by omega)) h0
  · exact hge
theorem lv_one {now t l : Nat} (h : Lv now t l) : level now t = l := Nat.le_antisymm (lv_le (lv_level now t) h.1) (lv_le h (lv_level now t).1)
theorem div_mid {a b c k : Nat} (h1 : a ≤ b) (h2 : b ≤ c) (h : a / 32 ^ k = c / 32 ^ k) : a / 32 ^ k = b / 32 ^ k :=
  Nat.le_antisymm (Nat.div_le_div_right h1) (by rw [h]; exact Nat.div_le_div_right h2)
theorem dig (t l : Nat) : t / 32 ^ l = 32 * (t / 32 ^ (l + 1)) + t / 32 ^ l % 32 := by
  rw [Nat.pow_succ, ← Nat.div_div_eq_div_mul]; omega
theorem slot_lt (now t : Nat) : slot now t < 32 * (level now t + 1) := by unfold slot; have := Nat.mod_lt (t / 32 ^ level now t) (show 0 < 32 by decide); omega
theorem slot_ge (now t : Nat) : 32 * level now t ≤ slot now t := by unfold slot; omega
theorem slot_mono {now t u : Nat} (h1 : now ≤ t) (h2 : t ≤ u) : slot now t ≤ slot now u := by
  have hl : level now t ≤ level now u := lv_le (lv_level now t) (div_mid h1 h2 (lv_level now u).1)
  rcases Nat.lt_or_eq_of_le hl with h | h
  · have a := slot_lt now t; have b := slot_ge now u; omega
  · unfold slot
    rw [h]
    have e1 := (lv_level now u).1
    have e2 := div_mid h1 h2 e1
    have d1 := dig t (level now u); have d2 := dig u (level now u)
    have h3 : t / 32 ^ level now u ≤ u / 32 ^ level now u := Nat.div_le_div_right h2
    omega
theorem slot_stay {now n t : Nat} (h1 : now ≤ n) (h2 : n < t) (h : slot now n < slot now t) : slot n t = slot now t := by
  have hl : level now n ≤ level now t := lv_le (lv_level now n) (div_mid h1 (Nat.le_of_lt h2) (lv_level now t).1)
  have e := (lv_level now t).1
  have e2 := div_mid h1 (Nat.le_of_lt h2) e
  suffices hs : Lv n t (level now t) by
    have := lv_one hs
    unfold slot
    rw [this]
  refine ⟨by rw [← e2, e], ?_⟩
  rcases Nat.lt_or_eq_of_le hl with h3 | h3
  · refine .inr ?_
    have := div_up (lv_level now n).1 (show level now n + 1 ≤ level now t by omega)
    rw [← this]
    rcases (lv_level now t).2 with h0 | h0
    · omega
    · exact h0
  · refine .inr fun he => ?_
    unfold slot at h
    rw [h3, he] at h
    omega
theorem slot_bound {now t : Nat} (h1 : now ≤ 17592186044416) (h2 : t ≤ 17592186044416) : slot now t < 288 := by
  have : level now t ≤ 8 := lv_le (lv_level now t) (by rw [Nat.div_eq_of_lt, Nat.div_eq_of_lt] <;> (simp; omega))
  have := slot_lt now t
  omega
theorem level_bound {now t : Nat} (h1 : now ≤ 17592186044416) (h2 : t ≤ 17592186044416) : level now t ≤ 8 :=
  lv_le (lv_level now t) (by rw [Nat.div_eq_of_lt, Nat.div_eq_of_lt] <;> (simp; omega))
end Go.Proofs.Ytkgcnmloojnblaa.wf

namespace Go.Proofs.Ytkgcnmloojnblaa.wf
set_option linter.unusedVariables false

def upd {β : Type} (f : Nat → β) (k : Nat) (v : β) : Nat → β := fun j => if j = k then v else f j
theorem upd_same {β : Type} (f : Nat → β) (k : Nat) (v : β) : upd f k v k = v := by unfold upd; rw [if_pos rfl]
theorem upd_other {β : Type} {f : Nat → β} {k j : Nat} (v : β) (h : j ≠ k) : upd f k v j = f j := by unfold upd; rw [if_neg h]
structure Lks where
  fi : Nat → Option Nat
  la : Nat → Option Nat
  ah : Nat → Option Nat
  nx : Nat → Option Nat
def Lks.join (L : Lks) (s p : Nat) : Lks :=
  ⟨if L.la s = none then upd L.fi s (some p) else L.fi, upd L.la s (some p), upd L.ah p (L.la s), match L.la s with | none => L.nx | some q => upd L.nx q (some p)⟩
def Lks.leave (L : Lks) (s p : Nat) : Lks :=
  ⟨if L.ah p = none then upd L.fi s (L.nx p) else L.fi, if L.nx p = none then upd L.la s (L.ah p) else L.la,
   upd (match L.nx p with | none => L.ah | some q => upd L.ah q (L.ah p)) p none, upd (match L.ah p with | none => L.nx | some q => upd L.nx q (L.nx p)) p none⟩
structure LinkOk (S : Nat → List Nat) (L : Lks) : Prop where
  fi : ∀ s, L.fi s = (S s).head?
  la : ∀ s, L.la s = (S s).getLast?
  at_ : ∀ s A p B, S s = A ++ p :: B → L.ah p = A.getLast? ∧ L.nx p = B.head?
  out : ∀ p, (∀ s, p ∉ S s) → L.ah p = none ∧ L.nx p = none
  nodup : ∀ s, (S s).Nodup
  disj : ∀ s s' p, p ∈ S s → p ∈ S s' → s = s'
theorem nodup_mid {A B : List Nat} {p : Nat} (h : (A ++ p :: B).Nodup) : p ∉ A ∧ p ∉ B ∧ (A ++ B).Nodup := by
  obtain ⟨h1, h2, h3⟩ := List.nodup_append.1 h
  obtain ⟨h4, h5⟩ := List.nodup_cons.1 h2
  exact ⟨fun hA => h3 p hA p (List.mem_cons_self ..) rfl, h4, List.nodup_append.2 ⟨h1, h5, fun a ha b hb => h3 a ha b (List.mem_cons_of_mem _ hb)⟩⟩
theorem mid_mem {A B : List Nat} {p : Nat} {l : List Nat} (h : l = A ++ p :: B) : p ∈ l := by rw [h]; simp
theorem LinkOk.none_ : LinkOk (fun _ => []) ⟨fun _ => none, fun _ => none, fun _ => none, fun _ => none⟩ :=
  ⟨fun _ => rfl, fun _ => rfl, fun s A p B h => (by simp at h), fun _ _ => ⟨rfl, rfl⟩, fun _ => List.nodup_nil, fun s s' p h => (by cases h)⟩
section
variable {S : Nat → List Nat} {L : Lks} {s p : Nat}
theorem lastCat {α : Type} (l : List α) (y : α) : (l.concat y).getLast? = some y := by rw [List.concat_eq_append, List.getLast?_append]; rfl
theorem last_mem {l : List Nat} {q : Nat} (h : l.getLast? = some q) : q ∈ l := List.mem_of_getLast? h
theorem LinkOk.join (h : LinkOk S L) (s p : Nat) (hp : ∀ s', p ∉ S s') : LinkOk (upd S s (S s ++ [p])) (L.join s p) := by
  have hla := h.la s
  have hq : ∀ q, L.la s = some q → q ∈ S s := fun q e => last_mem (hla ▸ e)
  refine ⟨fun s' => ?_, fun s' => ?_, fun s' A x B e => ?_, fun x hx => ?_, fun s' => ?_, fun s1 s2 x h1 h2 => ?_⟩
  · unfold Lks.join
    by_cases c : s' = s
    · subst c
      rw [upd_same]
      show (if L.la s' = none then upd L.fi s' (some p) else L.fi) s' = _
      cases hl : S s' with
      | nil => rw [hla, hl, if_pos (by rfl), upd_same]; rfl
      | cons y r =>
        rw [hla, hl, if_neg (by simp), h.fi, hl]; rfl
    · rw [upd_other _ c]
      show (if L.la s = none then upd L.fi s (some p) else L.fi) s' = _
      split
      · rw [upd_other _ c, h.fi]
      · rw [h.fi]
  · unfold Lks.join
    by_cases c : s' = s
    · subst c; rw [upd_same]; show upd L.la s' (some p) s' = _; rw [upd_same, List.getLast?_concat]
    · rw [upd_other _ c]; show upd L.la s (some p) s' = _; rw [upd_other _ c, h.la]
  · by_cases c : s' = s
    · subst c
      rw [upd_same] at e
      rcases List.eq_nil_or_concat B with rfl | ⟨B', z, rfl⟩
      · obtain ⟨rfl, e2⟩ := List.append_inj' e rfl
        obtain rfl : p = x := (List.cons.inj e2).1
        refine ⟨by show upd L.ah p (L.la s') p = _; rw [upd_same, hla], ?_⟩
        show (match L.la s' with | none => L.nx | some q => upd L.nx q (some p)) p = none
        cases hl : L.la s' with
        | none => exact (h.out p hp).2
        | some q =>
          have : p ≠ q := fun e => hp s' (e ▸ hq q hl)
          simp only []
          rw [upd_other _ this]; exact (h.out p hp).2
      · rw [List.concat_eq_append, show A ++ x :: (B' ++ [z]) = (A ++ x :: B') ++ [z] by simp] at e
        obtain ⟨e1, e2⟩ := List.append_inj' e rfl
        obtain rfl : p = z := (List.cons.inj e2).1
        have hxS : x ∈ S s' := mid_mem e1
        have hxp : x ≠ p := fun e => hp s' (e ▸ hxS)
        obtain ⟨a1, a2⟩ := h.at_ s' A x B' e1
        refine ⟨by show upd L.ah p (L.la s') x = _; rw [upd_other _ hxp, a1], ?_⟩
        show (match L.la s' with | none => L.nx | some q => upd L.nx q (some p)) x = _
        have nd := nodup_mid (e1 ▸ h.nodup s')
        rcases List.eq_nil_or_concat B' with rfl | ⟨B2, y, rfl⟩
        · have : L.la s' = some x := by rw [hla, e1]; simp
          rw [this]; simp only []; rw [upd_same]; rfl
        · have : L.la s' = some y := by rw [hla, e1, show A ++ x :: (B2.concat y) = (A ++ x :: B2).concat y by simp, lastCat]
          rw [this]; simp only []
          have hxy : x ≠ y := fun e => nd.2.1 (by rw [e]; simp)
          rw [upd_other _ hxy, a2]
          simp
    · rw [upd_other _ c] at e
      have hxS : x ∈ S s' := mid_mem e
      have hxp : x ≠ p := fun e => hp s' (e ▸ hxS)
      obtain ⟨a1, a2⟩ := h.at_ s' A x B e
      refine ⟨by show upd L.ah p (L.la s) x = _; rw [upd_other _ hxp, a1], ?_⟩
      show (match L.la s with | none => L.nx | some q => upd L.nx q (some p)) x = _
      cases hl : L.la s with
      | none => exact a2
      | some q =>
        have : x ≠ q := fun e => c (h.disj s' s x hxS (e ▸ hq q hl))
        simp only []; rw [upd_other _ this, a2]
  · have hx2 : ∀ s', x ∉ S s' := fun s' hs => hx s' (by
      by_cases c : s' = s
      · subst c; rw [upd_same]; exact List.mem_append_left _ hs
      · rw [upd_other _ c]; exact hs)
    have hxp : x ≠ p := fun e => hx s (by rw [upd_same, e]; simp)
    obtain ⟨a1, a2⟩ := h.out x hx2
    refine ⟨by show upd L.ah p (L.la s) x = _; rw [upd_other _ hxp, a1], ?_⟩
    show (match L.la s with | none => L.nx | some q => upd L.nx q (some p)) x = _
    cases hl : L.la s with
    | none => exact a2
    | some q =>
      have : x ≠ q := fun e => hx2 s (e ▸ hq q hl)
      simp only []; rw [upd_other _ this, a2]
  · by_cases c : s' = s
    · subst c; rw [upd_same]; exact List.nodup_append.2 ⟨h.nodup s', by simp, fun a ha b hb e => hp s' (by rw [List.mem_singleton.1 hb] at e; rwa [e] at ha)⟩
    · rw [upd_other _ c]; exact h.nodup s'
  · have key : ∀ s1, x ∈ upd S s (S s ++ [p]) s1 → (x ∈ S s1) ∨ (x = p ∧ s1 = s) := fun s1 h1 => by
      by_cases c : s1 = s
      · subst c; rw [upd_same] at h1
        rcases List.mem_append.1 h1 with h1 | h1
        · exact .inl h1
        · exact .inr ⟨List.mem_singleton.1 h1, rfl⟩
      · rw [upd_other _ c] at h1; exact .inl h1
    rcases key s1 h1 with a | ⟨a, a'⟩ <;> rcases key s2 h2 with b | ⟨b, b'⟩
    · exact h.disj s1 s2 x a b
    · exact absurd (b ▸ a) (hp s1)
    · exact absurd (a ▸ b) (hp s2)
    · rw [a', b']
theorem LinkOk.leave (h : LinkOk S L) {A B : List Nat} (e : S s = A ++ p :: B) : LinkOk (upd S s (A ++ B)) (L.leave s p) := by
  obtain ⟨ea, ex⟩ := h.at_ s A p B e
  obtain ⟨pA, pB, nAB⟩ := nodup_mid (e ▸ h.nodup s)
  have hpS : p ∈ S s := mid_mem e
  have inA : ∀ q, q ∈ A → q ∈ S s := fun q hq => by rw [e]; simp [hq]
  have inB : ∀ q, q ∈ B → q ∈ S s := fun q hq => by rw [e]; simp [hq]
  have fiE : ∀ s', (L.leave s p).fi s' = if s' = s then (A ++ B).head? else L.fi s' := fun s' => by
    show (if L.ah p = none then upd L.fi s (L.nx p) else L.fi) s' = _
    rw [ea, ex]
    by_cases c : s' = s
    · subst c; rw [if_pos rfl]
      cases A with
      | nil => simp [upd_same]
      | cons y r => rw [if_neg (by simp), h.fi, e]; rfl
    · rw [if_neg c]; split
      · rw [upd_other _ c]
      · rfl
  have laE : ∀ s', (L.leave s p).la s' = if s' = s then (A ++ B).getLast? else L.la s' := fun s' => by
    show (if L.nx p = none then upd L.la s (L.ah p) else L.la) s' = _
    rw [ea, ex]
    by_cases c : s' = s
    · subst c; rw [if_pos rfl]
      cases B with
      | nil => simp [upd_same]
      | cons y r => rw [if_neg (by simp), h.la, e]; simp [List.getLast?_append]
    · rw [if_neg c]; split
      · rw [upd_other _ c]
      · rfl
  have ahE : ∀ x, x ≠ p → (L.leave s p).ah x = if B.head? = some x then A.getLast? else L.ah x := fun x hx => by
    show upd (match L.nx p with | none => L.ah | some q => upd L.ah q (L.ah p)) p none x = _
    rw [upd_other _ hx, ex, ea]
    cases hB : B.head? with
    | none => simp
    | some q =>
      simp only []
      by_cases c : x = q
      · subst c; rw [upd_same, if_pos rfl]
      · rw [upd_other _ c, if_neg (fun e => c (Option.some.inj e).symm)]
  have nxE : ∀ x, x ≠ p → (L.leave s p).nx x = if A.getLast? = some x then B.head? else L.nx x := fun x hx => by
    show upd (match L.ah p with | none => L.nx | some q => upd L.nx q (L.nx p)) p none x = _
    rw [upd_other _ hx, ex, ea]
    cases hA : A.getLast? with
    | none => simp
    | some q =>
      simp only []
      by_cases c : x = q
      · subst c; rw [upd_same, if_pos rfl]
      · rw [upd_other _ c, if_neg (fun e => c (Option.some.inj e).symm)]
  have pE : (L.leave s p).ah p = none ∧ (L.leave s p).nx p = none := ⟨upd_same .., upd_same ..⟩
  refine ⟨fun s' => ?_, fun s' => ?_, fun s' C x D e' => ?_, fun x hx => ?_, fun s' => ?_, fun s1 s2 x h1 h2 => ?_⟩
  · rw [fiE]
    by_cases c : s' = s
    · subst c; rw [if_pos rfl, upd_same]
    · rw [if_neg c, upd_other _ c, h.fi]
  · rw [laE]
    by_cases c : s' = s
    · subst c; rw [if_pos rfl, upd_same]
    · rw [if_neg c, upd_other _ c, h.la]
  · by_cases c : s' = s
    · subst c
      rw [upd_same] at e'
      have nd := nodup_mid (e' ▸ nAB)
      have hxAB : x ∈ A ++ B := mid_mem e'
      have hxp : x ≠ p := fun e => by subst e; rcases List.mem_append.1 hxAB with h | h; exact pA h; exact pB h
      rw [ahE x hxp, nxE x hxp]
      rcases List.append_eq_append_iff.1 e' with ⟨D0, e1, e2⟩ | ⟨D0, e1, e2⟩
      · -- C = A ++ D0, B = D0 ++ x :: D
        subst e1 e2
        obtain ⟨a1, a2⟩ := h.at_ s' (A ++ p :: D0) x D (by rw [e]; simp)
        have hxA : A.getLast? ≠ some x := fun h => nd.1 (by simp [last_mem h])
        rw [if_neg hxA, a2]
        refine ⟨?_, rfl⟩
        rcases List.eq_nil_or_concat D0 with rfl | ⟨D1, y, rfl⟩
        · simp
        · have : ((D1.concat y) ++ x :: D).head? ≠ some x := fun h => nd.1 (by
            have : x ∈ D1.concat y := by
              cases D1 with
              | nil => simp at h; simp [h]
              | cons z r => simp at h; simp [h]
            exact List.mem_append_right _ this)
          rw [if_neg this, a1]; simp [List.getLast?_append, List.getLast?_cons]
      · rcases D0 with _ | ⟨x', D'⟩
        · simp at e1 e2
          subst e1 e2
          obtain ⟨a1, a2⟩ := h.at_ s' (A ++ [p]) x D (by rw [e]; simp)
          have hxA : A.getLast? ≠ some x := fun h => nd.1 (by simp [last_mem h])
          rw [if_neg hxA, a2]
          simp
        · simp at e2
          obtain ⟨rfl, rfl⟩ := e2
          subst e1
          obtain ⟨a1, a2⟩ := h.at_ s' C x (D' ++ p :: B) (by rw [e]; simp)
          have hxB : B.head? ≠ some x := fun h => nd.2.1 (List.mem_append_right _ (List.mem_of_head? h))
          rw [if_neg hxB, a1]
          refine ⟨rfl, ?_⟩
          rcases List.eq_nil_or_concat D' with rfl | ⟨D2, y, rfl⟩
          · simp
          · have : (C ++ x :: (D2.concat y)).getLast? ≠ some x := fun h => nd.2.1 (by
              have : y = x := by rw [show C ++ x :: (D2.concat y) = (C ++ x :: D2).concat y by simp, lastCat] at h; exact Option.some.inj h
              rw [← this]; simp)
            rw [if_neg this, a2]
            cases D2 <;> simp
    · rw [upd_other _ c] at e'
      have hxS : x ∈ S s' := mid_mem e'
      have hxp : x ≠ p := fun e => c (h.disj s' s x hxS (e ▸ hpS))
      obtain ⟨a1, a2⟩ := h.at_ s' C x D e'
      rw [ahE x hxp, nxE x hxp, if_neg (fun h' => c (h.disj s' s x hxS (inB x (List.mem_of_head? h')))), if_neg (fun h' => c (h.disj s' s x hxS (inA x (last_mem h'))))]
      exact ⟨a1, a2⟩
  · by_cases hxp : x = p
    · subst hxp; exact pE
    · have hx2 : ∀ s', x ∉ S s' := fun s' hs => hx s' (by
        by_cases c : s' = s
        · subst c; rw [upd_same]; rw [e] at hs; simp [hxp] at hs; simpa using hs
        · rw [upd_other _ c]; exact hs)
      obtain ⟨a1, a2⟩ := h.out x hx2
      rw [ahE x hxp, nxE x hxp, if_neg (fun h' => hx2 s (inB x (List.mem_of_head? h'))), if_neg (fun h' => hx2 s (inA x (last_mem h')))]
      exact ⟨a1, a2⟩
  · by_cases c : s' = s
    · subst c; rw [upd_same]; exact nAB
    · rw [upd_other _ c]; exact h.nodup s'
  · have key : ∀ s1, x ∈ upd S s (A ++ B) s1 → x ∈ S s1 := fun s1 h1 => by
      by_cases c : s1 = s
      · subst c; rw [upd_same] at h1
        rcases List.mem_append.1 h1 with h1 | h1
        · exact inA x h1
        · exact inB x h1
      · rw [upd_other _ c] at h1; exact h1
    exact h.disj s1 s2 x (key s1 h1) (key s2 h2)
end
end Go.Proofs.Ytkgcnmloojnblaa.wf

namespace Go.Proofs.Ytkgcnmloojnblaa.wf
open Go.RowKit Go.Proofs.Ytkgcnmloojnblaa.nb
set_option linter.unusedVariables false

structure BoxF (w : World) (b n : Nat) (f : Nat → Value) : Prop where
  lt : b < w.heap.size
  at_ : ∀ j, j < n → w.cell? ⟨b, j, none⟩ = some (f j)
  fr : ∀ j, j < n → w.frozen? ⟨b, j, none⟩ = false
section
variable {w w' : World} {b n : Nat} {f g : Nat → Value}
theorem BoxF.only {F : Nat → Prop} (h : BoxF w b n f) (o : Only F w w') (hF : ¬ F b) : BoxF w' b n f :=
  ⟨Nat.lt_of_lt_of_le h.lt o.size, fun j hj => (o.cell (p := ⟨b, j, none⟩) h.lt hF).trans (h.at_ j hj), fun j hj => (o.frozen (p := ⟨b, j, none⟩) h.lt hF).trans (h.fr j hj)⟩
theorem BoxF.up (h : BoxF w b n f) (u : Up w w') : BoxF w' b n f := h.only (Only.up (F := fun _ => False) u) id
theorem BoxF.set (h : BoxF w b n f) (k : Nat) (v : Value) : BoxF (w.setCell ⟨b, k, none⟩ v) b n (upd f k v) := by
  refine ⟨by simpa [World.setCell] using h.lt, fun j hj => ?_, fun j hj => ?_⟩
  · have c := h.at_ j hj
    unfold upd
    by_cases e : j = k
    · subst e; simp [go_sem, c]
    · have e' : ¬ k = j := fun h => e h.symm
      simp [go_sem, c, e, e']
  · have c := h.fr j hj
    simp [go_sem, c]
theorem BoxF.far (h : BoxF w b n f) {c o : Nat} (hc : c ≠ b) (v : Value) : BoxF (w.setCell ⟨c, o, none⟩ v) b n f :=
  h.only (F := fun k => k = c) ((Only.refl (fun k => k = c) w).set (p := ⟨c, o, none⟩) (.inl rfl) v) (fun e => hc e.symm)
theorem BoxF.congr (h : BoxF w b n f) (e : ∀ j, j < n → f j = g j) : BoxF w b n g := ⟨h.lt, fun j hj => (h.at_ j hj).trans (by rw [e j hj]), h.fr⟩
end
end Go.Proofs.Ytkgcnmloojnblaa.wf
