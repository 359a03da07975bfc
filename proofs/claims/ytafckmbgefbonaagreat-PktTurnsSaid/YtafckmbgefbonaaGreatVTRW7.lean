/- T R W: contracts, part 7. Condition: as each says. -/
import Derived.Test.YtafckmbgefbonaaGreatVTRW6
import Derived.Deep.OwnRows
import Derived.Deep.Onto
import Derived.Below
set_option linter.unusedVariables false
set_option linter.unusedSimpArgs false
set_option maxRecDepth 100000
set_option maxHeartbeats 8000000
namespace Go.Proofs.YtafckmbgefbonaaGreat.op
open RowKit Shelf Lib sm nb om

/-! ### a row of numbers that a call has gathered -/
abbrev icells (ps : List Nat) : List Value := ps.map fun p => Value.int .i64 (p : Nat)
def OwnI (w : World) (B : Nat) (v : Value) (ps : List Nat) : Prop := w.ownsRow B 3 1 v ps.length (icells ps)
def RdI (w : World) (A : Option Addr) (ps : List Nat) : Prop := ps ≠ [] → ∃ b off, A = some ⟨b, off, none⟩ ∧ b < w.heap.size ∧ ∀ k, k < ps.length → w.cell? ⟨b, off + k, none⟩ = some (.int .i64 ((ps.getD k 0 : Nat) : Int))
theorem OwnI.nil_ (w : World) (B : Nat) : OwnI w B (.slice none 0 0) [] := World.ownsRow_nil _ _ _ _
theorem OwnI.up {w w' : World} {B : Nat} {v : Value} {ps : List Nat} (h : OwnI w B v ps) (hb : Below w.heap.size w w') : OwnI w' B v ps := kept_below h hb
theorem OwnI.rd {w : World} {B : Nat} {v : Value} {ps : List Nat} (h : OwnI w B v ps) : ∃ A c, v = .slice A ps.length c ∧ RdI w A ps := by
 rcases own_form h with ⟨rfl, hn⟩ | ⟨g, cap, rfl, hB, hg, _⟩
 ·exact ⟨none, 0, by rw [hn], fun hne => absurd (List.eq_nil_of_length_eq_zero hn) hne⟩
 ·refine ⟨_, cap, rfl, fun _ => ⟨g, 0, rfl, hg, fun k hk => ?_⟩⟩
  rw [Nat.zero_add, World.ownsRow.cellAt h k (by omega)]
  simp [icells, List.getD, hk]
theorem RdI.below {w w' : World} {A : Option Addr} {ps : List Nat} (h : RdI w A ps) {B : Nat} (hb : Below B w w') (hB : w.heap.size ≤ B) : RdI w' A ps := fun hn => by
 obtain ⟨b, off, rfl, hlt, hc⟩ := h hn
 exact ⟨b, off, rfl, Nat.lt_of_lt_of_le hlt hb.size, fun k hk => (hb.cell (p := ⟨b, _, none⟩) (Nat.lt_of_lt_of_le hlt hB)).trans (hc k hk)⟩
theorem RdI.up {w w' : World} {A : Option Addr} {ps : List Nat} (h : RdI w A ps) (hb : Up w w') : RdI w' A ps := h.below hb (Nat.le_refl _)
theorem RdI.at_ {w : World} {A : Option Addr} {ps : List Nat} (h : RdI w A ps) {k : Nat} (hk : k < ps.length) : ∃ b off, A = some ⟨b, off, none⟩ ∧ b < w.heap.size ∧ ∃ x : Nat, w.cell? ⟨b, off + k, none⟩ = some (.int .i64 (x : Nat)) ∧ Hid (ps[k]? = some x) := by
 obtain ⟨b, off, e, hl, hc⟩ := h (by intro h; subst h; simp at hk)
 exact ⟨b, off, e, hl, _, hc k hk, (show ps[k]? = _ by simp [List.getD, List.getElem?_eq_getElem hk])⟩
theorem infoI : (Tryz.prog.info? 3).map (fun i => (i.zero, i.size, i.bytes)) = some (some (.int .i64 0), 1, 8) := by kernel_rfl
section
variable {ops : Array Oper} {rest : List Oper} {o : Oper} {a : Act} {Q : Exit → Act → World → Prop} {w : World} {B : Nat} {v : Value}
theorem appI {ps : List Nat} (s x : Operand) (g : Nat) (u : Nat) (hown : OwnI w B v ps) (hgd : o.guard = none) (ho : o.op = .call { callee := .builtin .append, args := #[s, x], argTypes := #[125, 125] })
  (hs : a.eval s = v) (hx : a.eval x = .slice (some ⟨g, 0, none⟩) 1 1) (hc : w.cell? ⟨g, 0, none⟩ = some (.int .i64 u)) (hn : ps.length < 1099511627776) (hB : B ≤ w.heap.size)
  (h : ∀ v' w', OwnI w' B v' (ps ++ [u]) → Below B w w' → wpList Tryz.prog ops Q rest (a.put o.dst v') w') : wpList Tryz.prog ops Q (o :: rest) a w := by
 obtain ⟨i0, hi, hz0, hz1, hz2⟩ := info_parts infoI
 refine wpList_append_own w hgd s x 125 ho B 3 i0 (.int .i64 0) 1 8 Tryz.underlying125 hi hz0 hz1 hz2 rfl (by decide) v ps.length _ hs hown ⟨g, 0, none⟩ 1 1 [.int .i64 u] hx rfl ?_ ?_ (by unfold maxLen; omega) (by omega) hB ?_
 ·intro j u' hj
  match j, hj with
  | 0, hj => simp at hj; subst hj; exact hc
 ·intro u' hu; simp at hu; subst hu; rfl
 ·intro v' w' ho' hg _
  exact h v' w' (by unfold OwnI; simpa [icells] using ho') ((Below.refl B w).grown hg hB (fun k hk => (hown.lt k hk).1))
end
/-! ### which kinds were met -/
def Met (w : World) (g : Nat) (f : Nat → Bool) : Prop := g < w.heap.size ∧ ∀ k, k < 256 → w.cell? ⟨g, k, none⟩ = some (.bool (f k)) ∧ w.frozen? ⟨g, k, none⟩ = false
theorem Met.below {w w' : World} {g B : Nat} {f : Nat → Bool} (h : Met w g f) (hb : Below B w w') (hB : g < B) : Met w' g f :=
 ⟨Nat.lt_of_lt_of_le h.1 hb.size, fun k hk => ⟨(hb.cell (p := ⟨g, k, none⟩) hB).trans (h.2 k hk).1, (hb.frozen (p := ⟨g, k, none⟩) hB).trans (h.2 k hk).2⟩⟩
theorem Met.set {w : World} {g : Nat} {f : Nat → Bool} (h : Met w g f) (k : Nat) (hk : k < 256) : Met (w.setCell ⟨g, k, none⟩ (.bool true)) g (fun j => if j = k then true else f j) :=
 ⟨by simpa using h.1, fun j hj => by
  refine ⟨?_, by rw [World.frozen?_setCell]; exact (h.2 j hj).2⟩
  by_cases e : j = k
  ·subst e
   rw [World.cell?_setCell_same' _ _ _ (by rw [(h.2 j hj).1]; rfl)]
   simp
  ·rw [World.cell?_setCell_other _ _ _ _ (by intro h; cases h; exact e rfl), (h.2 j hj).1]
   simp [e]⟩
theorem made_at (k : Nat) (hk : k < 256) : (madeCells #[Value.bool false] 256)[k]? = some (.bool false) := by
 simp [madeCells, hk, Nat.mod_one]
theorem Met.new (w : World) : Met (w.alloc (.cells (madeCells #[Value.bool false] 256) 4)) w.heap.size (fun _ => false) :=
 ⟨by simp, fun k hk => ⟨by rw [World.cell?_alloc_new]; exact made_at k hk, by simp⟩⟩
theorem infoBool : (Tryz.prog.info? 4).map (fun i => (i.zero, i.size, i.bytes)) = some (some (.bool false), 1, 1) := by kernel_rfl
def Knd (s : List UInt8) (pl : List Nat) (f : Nat → Bool) : Prop := ∀ k, f k = true ↔ ∃ q ∈ pl, nb s q = k
theorem Knd.next {s : List UInt8} {pl : List Nat} {f : Nat → Bool} (h : Knd s pl f) (p : Nat) : Knd s (pl ++ [p]) (fun j => if j = nb s p then true else f j) := by
 intro k
 by_cases e : k = nb s p
 ·subst e; simp
 ·simp only [if_neg e, h k, List.mem_append, List.mem_singleton]
  constructor
  ·rintro ⟨q, hq, hk⟩; exact ⟨q, .inl hq, hk⟩
  ·rintro ⟨q, hq | rfl, hk⟩
   ·exact ⟨q, hq, hk⟩
   ·exact absurd hk.symm e
theorem at_nb (s : ByteArray) (p : Nat) (h : p < s.size) : (s[p]).toNat = nb (L s) p := by
 have := bt_at s p h; rw [nb_bt] at this; omega
def PlZ (s : ByteArray) (w : World) (e : Ending) (w' : World) : Prop :=
 Up w w' ∧ ((∃ v pl, e = .returned (.tuple #[v, .bool true]) ∧ OwnI w' w.heap.size v pl ∧ om.Good (L s) pl ∧ pl.length ≤ s.size) ∨ (e = .returned (.tuple #[.slice none 0 0, .bool false]) ∧ dec (L s) = none))
theorem refPlaces (s : ByteArray) (w : World) (hs : s.size ≤ 1048576) :
  Calls Tryz.prog 77 #[.string s] w fun e w' => PlZ s w e w' := by
 have hmk : ∀ W, (Instr.makeSlice 158 (.int .i64 256) (.int .i64 256)).run Tryz.prog W = .ok (.slice (some ⟨W.heap.size, 0, none⟩) 256 256) (W.alloc (.cells (madeCells #[Value.bool false] 256) 4)) :=
  fun W => run_make_row' 158 4 (.bool false) 1 Tryz.underlying158 infoBool rfl .i64 .i64 256 (by decide) (by decide) W
 have HS := Lib.hid hs; clear hs
 go_enter Tryz.func77, Tryz.ntmps77
 go_wp2_with fail
 have hM0 := Met.new w
 have hu0 : Up w (w.alloc (.cells (madeCells #[Value.bool false] 256) 4)) := up_al _ bR
 have hz0 : w.heap.size + 1 ≤ (w.alloc (.cells (madeCells #[Value.bool false] 256) 4)).heap.size := by simp
 generalize (w.alloc (.cells (madeCells #[Value.bool false] 256) 4)) = w0 at hM0 hu0 hz0 ⊢
 clear hmk
 go_loopw [4, 6] (fun l i wr => ∃ (pl : List Nat) (p : Nat) (f : Nat → Bool), i = .int .i64 p ∧ p ≤ s.size ∧ OwnI wr (w.heap.size + 1) l pl ∧ pl.length ≤ p ∧ Met wr w.heap.size f ∧ om.Run (L s) pl p ∧ Knd (L s) pl f ∧ Up w wr ∧ w.heap.size + 1 ≤ wr.heap.size) (fun _ i _ => s.size - (intOf i).toNat)
 case atStart => exact ⟨[], 0, fun _ => false, rfl, Nat.zero_le _, OwnI.nil_ _ _, Nat.le_refl _, hM0, om.Run.start _, fun k => by simp, hu0, hz0⟩
 case round =>
  obtain ⟨pl, p, f, rfl, hp, hO, hpl, hM, hR, hK, hU, hZ⟩ := hrel
  have hs := HS.out
  have hW := Lib.hid (show OwnI wr w.heap.size _ pl from World.ownsRow.mono hO (Nat.le_succ _))
  by_cases hlt : p < s.size
  case neg =>
   have HG := Lib.hid (hR.fin (by rw [L_len]; omega))
   have i0 : ¬ (p : Int) < (s.size : Int) := by omega
   clear hR
   go_wp2_with fail
   go_ret2
   exact ⟨hU, .inl ⟨_, pl, rfl, hW.out, HG.out, by omega⟩⟩
  have i0 : (p : Int) < (s.size : Int) := by omega
  have HA := Lib.hid (at_nb s p hlt)
  have hk0 := nb_le (L s) p
  obtain ⟨k, hk⟩ : ∃ k, k = nb (L s) p := ⟨_, rfl⟩
  have hak : (s[p]'hlt).toNat = k := by rw [HA.out, hk]
  rw [← hk] at hk0
  by_cases h0 : k = 0
  ·have HG := Lib.hid (hR.stop (by rw [L_len]; exact hlt) (by omega))
   clear hR hk
   go_wp2_with fail
   go_ret2
   exact ⟨hU, .inl ⟨_, pl, rfl, hW.out, HG.out, by omega⟩⟩
  have j0 : ¬ (k : Int) = 0 := by omega
  by_cases h1 : k = 1
  ·have HG := Lib.hid (hR.pad (by rw [L_len]; exact hlt) (by omega))
   clear hR hk
   go_wp2_with fail
   go_roundw
   case rel => exact ⟨pl, p + 1, f, by go_num, by omega, hO, by omega, hM, HG.out, hK, hU, hZ⟩
   case measure => simp [intOf]; omega
  have j1 : ¬ (k : Int) = 1 := by omega
  by_cases h2 : s.size ≤ p + 1
  ·have HB := Lib.hid (hR.bad1 (by rw [L_len]; exact hlt) (by omega) (by rw [L_len]; exact h2))
   have j2 : (s.size : Int) ≤ (p : Int) + 1 := by omega
   clear hR hk
   go_wp2_with fail
   go_ret2
   exact ⟨hU, .inr ⟨rfl, HB.out⟩⟩
  have hlt1 : p + 1 < s.size := by omega
  have i1 : (p : Int) + 1 < (s.size : Int) := by omega
  have j2 : ¬ (s.size : Int) ≤ (p : Int) + 1 := by omega
  have HA1 := Lib.hid (at_nb s (p + 1) hlt1)
  have hn0 := nb_le (L s) (p + 1)
  obtain ⟨n, hn⟩ : ∃ n, n = nb (L s) (p + 1) := ⟨_, rfl⟩
  have han : (s[p + 1]'hlt1).toNat = n := by rw [HA1.out, hn]
  rw [← hn] at hn0
  by_cases h3 : lenOk k n = true
  case neg =>
   have HB := Lib.hid (hR.bad2 (by rw [L_len]; exact hlt1) (by omega) (by rintro ⟨h, _⟩; exact h3 (by rw [hk, hn]; exact h)))
   have h3' : lenOk k n = false := by simpa using h3
   have H3 := Lib.hid h3'
   clear hR hk hn h3 h3'
   go_wp2_with fail
   refine (refRight k n _ hk0 hn0).mono ?_
   rintro e_ w1 ⟨rfl, rfl⟩
   rw [H3.out]
   go_wp2_with fail
   go_ret2
   exact ⟨hU, .inr ⟨rfl, HB.out⟩⟩
  have H3 := Lib.hid h3
  by_cases h4 : p + n ≤ s.size
  case neg =>
   have HB := Lib.hid (hR.bad2 (by rw [L_len]; exact hlt1) (by omega) (by rintro ⟨_, h⟩; rw [L_len, ← hn] at h; exact h4 h))
   have j4 : (s.size : Int) < (p : Int) + (n : Int) := by omega
   clear hR hk hn h3
   go_wp2_with fail
   refine (refRight k n _ hk0 hn0).mono ?_
   rintro e_ w1 ⟨rfl, rfl⟩
   rw [H3.out]
   go_wp2_with fail
   go_ret2
   exact ⟨hU, .inr ⟨rfl, HB.out⟩⟩
  have j4 : ¬ (s.size : Int) < (p : Int) + (n : Int) := by omega
  have hAt : om.At (L s) p := ⟨by omega, by rw [← hk, ← hn]; exact h3, by rw [← hn, L_len]; exact h4⟩
  have hn2 := lenOk_two h3
  obtain ⟨mc, mf⟩ := hM.2 k (by omega)
  by_cases h5 : f k = true
  case pos =>
   rw [h5] at mc
   by_cases h6 : known k = true
   case pos =>
    obtain ⟨q, hq, hqk⟩ := (hK k).1 h5
    have HB := Lib.hid (hR.bad3 hAt hq (by rw [← hk]; exact h6) (by rw [hqk, hk]))
    have H6 := Lib.hid h6
    clear hR hk hn h3 hAt hq hqk h6 h5
    go_wp2_with fail
    refine (refRight k n _ hk0 hn0).mono ?_
    rintro e_ w1 ⟨rfl, rfl⟩
    rw [H3.out]
    go_wp2_with fail
    refine (refKnown k _ hk0).mono ?_
    rintro e_ w1 ⟨rfl, rfl⟩
    rw [H6.out]
    go_wp2_with fail
    go_ret2
    exact ⟨hU, .inr ⟨rfl, HB.out⟩⟩
   have H6 : Hid (known k = false) := by unfold Hid; simpa using h6
   have HG := Lib.hid (hR.next hAt (fun q hq hkn => absurd (by rw [hk]; exact hkn) h6))
   have HGn : Hid (om.Run (L s) (pl ++ [p]) (p + n)) := by unfold Hid; rw [hn]; exact HG.out
   have HKn : Hid (Knd (L s) (pl ++ [p]) (fun j => if j = k then true else f j)) := by unfold Hid; rw [hk]; exact hK.next p
   clear HG
   clear hR hk hn h3 hAt h6 h5
   go_wp2_with fail
   refine (refRight k n _ hk0 hn0).mono ?_
   rintro e_ w1 ⟨rfl, rfl⟩
   rw [H3.out]
   go_wp2_with fail
   refine (refKnown k _ hk0).mono ?_
   rintro e_ w1 ⟨rfl, rfl⟩
   rw [H6.out]
   go_upto_region 12 with fail
   have hU1 := up_set (o := k) (v := .bool true) hU (Nat.le_refl w.heap.size)
   have hM1 := hM.set k (by omega)
   have hO1 : OwnI (wr.setCell ⟨w.heap.size, k, none⟩ (.bool true)) (w.heap.size + 1) _ pl := RowKit.ownsRow_setCell_below hO (a := ⟨w.heap.size, k, none⟩) (Nat.lt_succ_self _) _
   have hZ1 : w.heap.size + 1 ≤ (wr.setCell ⟨w.heap.size, k, none⟩ (.bool true)).heap.size := by simpa using hZ
   clear hU hM hO hZ mc mf hW
   generalize (wr.setCell ⟨w.heap.size, k, none⟩ (.bool true)) = w2 at hU1 hM1 hO1 hZ1 ⊢
   go_wp2_with (at_builtin; refine appI (.tmp 63) (.tmp 65) _ p (hO1.up (up_al _ bR)) rfl rfl rfl rfl (by go_simp) (by omega) (by simp; omega) ?_; intro v1 w3 hO2 hb)
   have hU2 := (up_al (.cells #[.int .i64 (p : Int)] 3) hU1).trans (hb.mono (Nat.le_succ _))
   have hM2 := (hM1.below (up_al (.cells #[.int .i64 (p : Int)] 3) (Below.refl w2.heap.size w2)) hM1.1).below hb (Nat.lt_succ_self _)
   have hZ2 : w.heap.size + 1 ≤ w3.heap.size := Nat.le_trans hZ1 (Nat.le_trans (by simp) hb.size)
   go_roundw
   case rel => exact ⟨pl ++ [p], p + n, _, by go_num, h4, hO2, by simp; omega, hM2, HGn.out, HKn.out, hU2, hZ2⟩
   case measure => simp [intOf]; omega
  case neg =>
   have h5' : f k = false := by simpa using h5
   rw [h5'] at mc
   have HG := Lib.hid (hR.next hAt (fun q hq hkn he => h5 ((hK k).2 ⟨q, hq, by rw [he, hk]⟩)))
   have HGn : Hid (om.Run (L s) (pl ++ [p]) (p + n)) := by unfold Hid; rw [hn]; exact HG.out
   have HKn : Hid (Knd (L s) (pl ++ [p]) (fun j => if j = k then true else f j)) := by unfold Hid; rw [hk]; exact hK.next p
   clear HG
   clear hR hk hn h3 hAt h5 h5'
   go_wp2_with fail
   refine (refRight k n _ hk0 hn0).mono ?_
   rintro e_ w1 ⟨rfl, rfl⟩
   rw [H3.out]
   go_upto_region 12 with fail
   have hU1 := up_set (o := k) (v := .bool true) hU (Nat.le_refl w.heap.size)
   have hM1 := hM.set k (by omega)
   have hO1 : OwnI (wr.setCell ⟨w.heap.size, k, none⟩ (.bool true)) (w.heap.size + 1) _ pl := RowKit.ownsRow_setCell_below hO (a := ⟨w.heap.size, k, none⟩) (Nat.lt_succ_self _) _
   have hZ1 : w.heap.size + 1 ≤ (wr.setCell ⟨w.heap.size, k, none⟩ (.bool true)).heap.size := by simpa using hZ
   clear hU hM hO hZ mc mf hW
   generalize (wr.setCell ⟨w.heap.size, k, none⟩ (.bool true)) = w2 at hU1 hM1 hO1 hZ1 ⊢
   go_wp2_with (at_builtin; refine appI (.tmp 63) (.tmp 65) _ p (hO1.up (up_al _ bR)) rfl rfl rfl rfl (by go_simp) (by omega) (by simp; omega) ?_; intro v1 w3 hO2 hb)
   have hU2 := (up_al (.cells #[.int .i64 (p : Int)] 3) hU1).trans (hb.mono (Nat.le_succ _))
   have hM2 := (hM1.below (up_al (.cells #[.int .i64 (p : Int)] 3) (Below.refl w2.heap.size w2)) hM1.1).below hb (Nat.lt_succ_self _)
   have hZ2 : w.heap.size + 1 ≤ w3.heap.size := Nat.le_trans hZ1 (Nat.le_trans (by simp) hb.size)
   go_roundw
   case rel => exact ⟨pl ++ [p], p + n, _, by go_num, h4, hO2, by simp; omega, hM2, HGn.out, HKn.out, hU2, hZ2⟩
   case measure => simp [intOf]; omega
end Go.Proofs.YtafckmbgefbonaaGreat.op
