/- A: contracts, part 5. Condition: as each says. -/
import Derived.Test.YtkgcnmloojnblaaKPA1
import Derived.Test.YtkgcnmloojnblaaKPOAN10
import Derived.Test.YtkgcnmloojnblaaKA3
set_option linter.unusedVariables false
set_option linter.unusedSimpArgs false
namespace Go.Proofs.Ytkgcnmloojnblaa.wh
open Go.RowKit Go.Shelf Go.Lib Go.Proofs.Ytkgcnmloojnblaa.nb Go.Proofs.Ytkgcnmloojnblaa.ck
set_option linter.unusedVariables false

/-! ### a number as a key -/
def enc (n : Nat) : ByteArray := ⟨(List.replicate n (0 : UInt8)).toArray⟩
theorem enc_size (n : Nat) : (enc n).size = n := by simp [enc, ByteArray.size]
theorem enc_inj {a b : Nat} (h : enc a = enc b) : a = b := by rw [← enc_size a, h, enc_size]
def kvU (b : ByteArray) : Value := .int .u64 (b.size : Int)
def okU (b : ByteArray) : Prop := b = enc b.size ∧ b.size < 18446744073709551616
theorem okU_enc {n : Nat} (h : n < 18446744073709551616) : okU (enc n) := ⟨by rw [enc_size], by rw [enc_size]; exact h⟩
theorem kvU_enc (n : Nat) : kvU (enc n) = .int .u64 (n : Int) := by unfold kvU; rw [enc_size]

/-! ### the timers that are set -/
def tmsF : Nat → List Int → List Tm
  | _, [] => []
  | i, a :: r => (enc i, a + 1) :: tmsF (i + 1) r
theorem tmsF_app : ∀ (l r : List Int) (i : Nat), tmsF i (l ++ r) = tmsF i l ++ tmsF (i + l.length) r
  | [], r, i => rfl
  | a :: l, r, i => by
    rw [List.cons_append, tmsF, tmsF_app l r (i + 1), List.length_cons, tmsF, List.cons_append]
    rw [show i + 1 + l.length = i + (l.length + 1) by omega]
theorem tmsF_len : ∀ (l : List Int) (i : Nat), (tmsF i l).length = l.length
  | [], i => rfl
  | a :: l, i => by rw [tmsF, List.length_cons, tmsF_len l, List.length_cons]
theorem tmsF_mem : ∀ (l : List Int) (i : Nat) (p : Tm), p ∈ tmsF i l → (∃ j, i ≤ j ∧ j < i + l.length ∧ p.1 = enc j) ∧ ∃ a ∈ l, p.2 = a + 1
  | [], i, p, h => by cases h
  | a :: l, i, p, h => by
    rcases List.mem_cons.1 h with rfl | h
    · exact ⟨⟨i, Nat.le_refl _, by simp, rfl⟩, a, List.mem_cons_self .., rfl⟩
    · obtain ⟨⟨j, h1, h2, h3⟩, a', h4, h5⟩ := tmsF_mem l (i + 1) p h
      exact ⟨⟨j, by omega, by rw [List.length_cons]; omega, h3⟩, a', List.mem_cons_of_mem _ h4, h5⟩
def tms (l : List Int) : List Tm := tmsF 0 l
theorem tms_snoc {l : List Int} {i : Nat} {a : Int} (h : l[i]? = some a) : tms (l.take (i + 1)) = tms (l.take i) ++ [(enc i, a + 1)] := by
  obtain ⟨hi, e⟩ := List.getElem?_eq_some_iff.1 h
  unfold tms
  rw [List.take_succ_eq_append_getElem hi, tmsF_app, e]
  have : (l.take i).length = i := by rw [List.length_take]; omega
  rw [this, Nat.zero_add]; rfl
theorem set_tms {l : List Int} {i : Nat} {a : Int} (h : l[i]? = some a) (ha : 0 ≤ a ∧ a ≤ 4294967295) (hi : i < 4096) : setC 0 4096 (tms (l.take i)) (enc i) (a + 1) = 0 ∧ setL 0 4096 (tms (l.take i)) (enc i) (a + 1) = tms (l.take (i + 1)) := by
  have hl : (tms (l.take i)).length = i := by
    obtain ⟨hi', _⟩ := List.getElem?_eq_some_iff.1 h
    unfold tms
    rw [tmsF_len, List.length_take]; omega
  have hz : findZ (tms (l.take i)) (enc i) = -1 := by
    rcases findZ_spec (tms (l.take i)) (enc i) with ⟨hz, _⟩ | ⟨k, t, _, _, hx⟩
    · exact hz
    · obtain ⟨⟨j, _, h2, h3⟩, _⟩ := tmsF_mem _ _ _ (List.mem_of_getElem? hx)
      rw [List.length_take] at h2
      have := enc_inj h3
      omega
  have h0 : mayB (a + 1) = true ∧ 0 < a + 1 := ⟨mayB_t ⟨by omega, by omega⟩, by omega⟩
  unfold setC setL
  rw [if_pos h0, if_pos h0, hz, if_neg (by omega), if_neg (by omega), hl, if_neg (by omega), if_neg (by omega), tms_snoc h]
  exact ⟨rfl, rfl⟩

/-! ### time that goes in parts -/
theorem firstZ_on {x : List Tm} {t u : Int} {k : Nat} (h : firstZ x t = k) (hu : t ≤ u) : firstZ x u = k := by
  rcases preZ_spec x t x.length with ⟨hz, _⟩ | ⟨k1, hk1, hz, a1, a2, a3⟩
  · have : firstZ x t = -1 := hz
    omega
  · have e1 : firstZ x t = k1 := hz
    obtain rfl : k = k1 := by omega
    rcases preZ_spec x u x.length with ⟨hz2, b⟩ | ⟨k2, hk2, hz2, b1, b2, b3⟩
    · have := b k hk1; omega
    · have e2 : firstZ x u = k2 := hz2
      rw [e2]
      have c1 := b2 k hk1 (by omega)
      have c2 := a2 k2 hk2 (by omega)
      rcases Nat.lt_trichotomy k k2 with h | h | h
      · have := b3 k h (by omega); omega
      · rw [h]
      · have := a3 k2 h (by omega); omega
theorem told_split : ∀ (n : Nat) (x : List Tm) (t u : Int), x.length = n → t ≤ u → told u x = told t x ++ told u (stay t x) ∧ stay u (stay t x) = stay u x
  | n, x, t, u, hn, hu => by
    rcases firstZ_bd x t with hz | ⟨k, hz, hk⟩
    · obtain ⟨e1, e2⟩ := told_no hz
      rw [e1, e2]
      exact ⟨rfl, rfl⟩
    · have hx := List.getElem?_eq_getElem hk
      obtain ⟨e1, e2⟩ := told_one hz hx
      obtain ⟨f1, f2⟩ := told_one (firstZ_on hz hu) hx
      have hl : (x.eraseIdx k).length = n - 1 := by rw [List.length_eraseIdx, if_pos hk, hn]
      obtain ⟨i1, i2⟩ := told_split (n - 1) (x.eraseIdx k) t u hl hu
      rw [e1, e2, f1, f2, i1, i2, List.cons_append]
      exact ⟨rfl, rfl⟩
  termination_by n => n
  decreasing_by omega
theorem told_again (t : Int) (x : List Tm) : told t (stay t x) = [] := by
  have h := (told_split _ x t t rfl (Int.le_refl _)).1
  have h2 := congrArg List.length h
  rw [List.length_append] at h2
  exact List.eq_nil_of_length_eq_zero (by omega)
theorem told_len {t : Int} {x : List Tm} (h : ∀ p ∈ x, p.2 ≤ t) : (told t x).length = x.length := by
  obtain ⟨_, _, h3, h4⟩ := told_all _ x t rfl
  have : stay t x = [] := by
    rw [h3]
    exact List.filter_eq_nil_iff.2 (fun p hp => by have := h p hp; simp; omega)
  have h5 := h4.length_eq
  rw [this, List.append_nil] at h5
  exact h5
theorem goC_ok {now t : Int} (h0 : 0 ≤ t ∧ t ≤ 17592186044416) (h1 : now ≤ t) : goC now t = 0 := by unfold goC; rw [mayB_t h0, if_pos rfl, if_neg (by omega)]
theorem go_ok {now t : Int} (x : List Tm) (h0 : 0 ≤ t ∧ t ≤ 17592186044416) (h1 : now ≤ t) : goC now t = 0 ∧ goW now t = t ∧ goT now t x = told t x ∧ goS now t x = stay t x := by
  unfold goW goT goS
  rw [goC_ok h0 h1]
  exact ⟨rfl, rfl, rfl, rfl⟩

/-! ### a row of numbers of the call's own -/
def OwnU (w : World) (B : Nat) (v : Value) (gs : List Int) : Prop := w.ownsRow B 58 1 v gs.length (gs.map (.int .u64 ·))
theorem infoU : (Try.prog.info? 58).map (fun i => (i.zero, i.size, i.bytes)) = some (some (.int .u64 0), 1, 8) := by kernel_rfl
section
variable {ops : Array Oper} {rest : List Oper} {o : Oper} {a : Act} {Q : Exit → Act → World → Prop} {w : World} {B : Nat} {v : Value}
theorem OwnU.at_ {gs : List Int} (h : OwnU w B v gs) {k : Nat} (hk : k < gs.length) : ∃ g cap z, v = .slice (some ⟨g, 0, none⟩) gs.length cap ∧ w.cell? ⟨g, k, none⟩ = some (.int .u64 z) ∧ Hid (gs[k]? = some z) := by
  rcases own_form h with ⟨rfl, hn⟩ | ⟨g, cap, rfl, hB, hg, h1, h2⟩
  · exact absurd hk (by omega)
  · have := World.ownsRow.cells h (g := g) rfl k (.int .u64 (gs[k])) (by rw [List.getElem?_map, List.getElem?_eq_getElem hk]; rfl)
    rw [show (⟨g, 0, none⟩ : Addr).add k = ⟨g, k, none⟩ by unfold Addr.add; split <;> simp_all] at this
    exact ⟨g, cap, _, rfl, this, List.getElem?_eq_getElem hk⟩
theorem OwnU.slice {gs : List Int} (h : OwnU w B v gs) : ∃ A c, v = .slice A gs.length c := by
  rcases own_form h with ⟨rfl, hn⟩ | ⟨g, cap, rfl, _⟩
  · exact ⟨none, 0, by rw [hn]⟩
  · exact ⟨_, _, rfl⟩
theorem OwnU.up {w' : World} {gs : List Int} (h : OwnU w B v gs) (u : Up w w') : OwnU w' B v gs := own_only h (Only.up (F := fun _ => False) u) (fun _ _ => id)
theorem appU {gs : List Int} (s x : Operand) (g : Nat) (z : Int) (hown : OwnU w B v gs) (hgd : o.guard = none) (ho : o.op = .call { callee := .builtin .append, args := #[s, x], argTypes := #[64, 64] })
    (hs : a.eval s = v) (hx : a.eval x = .slice (some ⟨g, 0, none⟩) 1 1) (hc : w.cell? ⟨g, 0, none⟩ = some (.int .u64 z)) (hn : gs.length < 1099511627776) (hB : B ≤ w.heap.size)
    (h : ∀ v' w', OwnU w' B v' (gs ++ [z]) → Only (RowF v) w w' → (∀ k, RowF v' k → RowF v k ∨ w.heap.size ≤ k) → wpList Try.prog ops Q rest (a.put o.dst v') w') : wpList Try.prog ops Q (o :: rest) a w := by
  obtain ⟨i0, hi, hz0, hz1, hz2⟩ := info_parts infoU
  refine wpList_append_own_at (w := w) hgd s x 64 ho B 58 i0 (.int .u64 0) 1 8 Try.underlying64 hi hz0 hz1 hz2 rfl (by decide) v gs.length _ hs hown ⟨g, 0, none⟩ 1 1 [.int .u64 z] hx rfl ?_ (fun u hu => by simp at hu; subst hu; rfl) (by unfold maxLen; omega) (by omega) hB ?_
  · intro j u' hj
    match j, hj with
    | 0, hj => cases hj; exact hc
  · intro v' w' ho' hg _ hat
    have hO : OwnU w' B v' (gs ++ [z]) := by unfold OwnU; rw [List.map_append, List.length_append]; exact ho'
    refine h v' w' hO ((Only.refl _ _).grown hg fun k hk => .inl hk) fun k hk => ?_
    rcases hat with e | e
    · exact .inl (e.symm.trans hk)
    · have : some k = some w.heap.size := hk.symm.trans e
      cases this
      exact .inr (Nat.le_refl _)
end

/-! ### a wheel beside a row -/
structure Gt (LW : WP) (wS : World) (Z : Nat → Prop) (w : World) (b : Nat) (nw : Int) (x : List Tm) (v : Value) (gs : List Int) (F : Nat → Prop) : Prop where
  one : One LW wS Z w b nw x 4096 F
  own : OwnU w wS.heap.size v gs
  ap : ∀ k, RowF v k → ¬ F k
def GtE (LW : WP) (wS : World) (Z : Nat → Prop) (w : World) (b : Nat) (nw : Int) (x : List Tm) (v : Value) (gs : List Int) : Prop := ∃ F, Gt LW wS Z w b nw x v gs F
section
variable {LW : WP} {ok : ByteArray → Prop} {fN fS fG : FuncId} {wS w w' : World} {Z F : Nat → Prop} {b : Nat} {nw : Int} {x : List Tm} {v : Value} {gs : List Int}
theorem GtE.same (W : Wh LW kvU ok fN fS fG) (T : GtE LW wS Z w b nw x v gs) (u : Up w w') : GtE LW wS Z w' b nw x v gs := by
  obtain ⟨F, T⟩ := T
  exact ⟨F, ⟨W.only T.one.lw (Only.up (F := fun _ => False) u) (fun _ _ => id), T.one.fF, T.one.on.on u, T.one.l1, T.one.hm⟩, own_only T.own (Only.up (F := fun _ => False) u) (fun _ _ => id), T.ap⟩
theorem GtE.on (T : GtE LW wS Z w b nw x v gs) : Only Z wS w := by obtain ⟨F, T⟩ := T; exact T.one.on
theorem GtE.slice (T : GtE LW wS Z w b nw x v gs) : ∃ A c, v = .slice A gs.length c := by obtain ⟨F, T⟩ := T; exact T.own.slice
theorem GtE.own (T : GtE LW wS Z w b nw x v gs) : OwnU w wS.heap.size v gs := by obtain ⟨F, T⟩ := T; exact T.own
theorem gGo (W : Wh LW kvU ok fN fS fG) (T : GtE LW wS Z w b nw x v gs) (t : Int) (ht : I64 t) : Calls Try.prog fG #[.pointer (some ⟨b, 0, none⟩), .int .i64 t] w fun e w' => ∃ A l cp, e = .returned (.tuple #[.slice A l cp, .int .i64 (goC nw t)]) ∧ GtE LW wS Z w' b (goW nw t) (goS nw t x) v gs ∧ TL kvU w' A l (goT nw t x) w.heap.size (fun k => k < w.heap.size) ∧ w.heap.size ≤ w'.heap.size ∧ (∀ k, RowF v k → k < w.heap.size) := by
  obtain ⟨F, T⟩ := T
  refine (W.go t T.one.lw ht).mono ?_
  rintro e w' ⟨A, l, cp, F', rfl, h, o, s, hT⟩
  have hlt : ∀ k, RowF v k → k < w.heap.size := fun k hk => (own_lt T.own k hk).2
  refine ⟨A, l, cp, rfl, ⟨F', T.one.step h o s (by have := goS_len nw t x; have := T.one.l1; omega), own_only T.own o T.ap, fun k hk hf => (s k hf).elim (T.ap k hk) (fun e => by have := hlt k hk; omega)⟩, ⟨hT.len, fun hn => ?_⟩, o.size, hlt⟩
  obtain ⟨g, off, e, h1, h2, h3, h4⟩ := hT.row hn
  exact ⟨g, off, e, h1, h2, by omega, h4⟩
theorem GtE.app (W : Wh LW kvU ok fN fS fG) (T : GtE LW wS Z w b nw x v gs) {w1 : World} (u : Up w w1) {v' : Value} {gs' : List Int} (h : OwnU w' wS.heap.size v' gs') (o : Only (RowF v) w1 w') (hs : ∀ k, RowF v' k → RowF v k ∨ w1.heap.size ≤ k) : GtE LW wS Z w' b nw x v' gs' := by
  obtain ⟨F, T⟩ := T
  have l1 : LW w1 b nw 4096 x F := W.only T.one.lw (Only.up (F := fun _ => False) u) (fun _ _ => id)
  refine ⟨F, ⟨W.only l1 o (fun k hf hk => T.ap k hk hf), T.one.fF, (T.one.on.on u).trans o (fun k hk => .inr (own_lt T.own k hk).1), T.one.l1, T.one.hm⟩, h, fun k hk hf => (hs k hk).elim (fun e => T.ap k e hf) (fun e => by have := W.lt T.one.lw k hf; have := u.size; omega)⟩
end
end Go.Proofs.Ytkgcnmloojnblaa.wh

namespace Go.Proofs.Ytkgcnmloojnblaa.wh
open Go.RowKit Go.Shelf Go.Lib Go.Proofs.Ytkgcnmloojnblaa.nb Go.Proofs.Ytkgcnmloojnblaa.ck
set_option linter.unusedVariables false

section
variable {LU : WP} {ok : ByteArray → Prop} {fN fS fG : FuncId} {wS w w' : World} {Z : Nat → Prop} {b c : Nat} {n1 n2 m : Int} {x1 x2 : List Tm}
theorem TwoE.second (W : Wh LU kvU ok fN fS fG) (T : OneE LU wS (fun _ => False) w b n1 x1 m) : Calls Try.prog fN #[.int .i64 0, .int .i64 4096] w fun e w' => ∃ c, e = .returned (.tuple #[.pointer (some ⟨c, 0, none⟩), .int .i64 0]) ∧ TwoE LU LU wS (fun _ => False) w' b c n1 x1 0 [] 4096 ∨ m ≠ 4096 := by
  by_cases hm : m = 4096
  · subst hm
    refine (W.new_t 0 4096 w rfl (by omega) (by omega)).mono ?_
    rintro e w' ⟨c, G, rfl, h, u, hG⟩
    obtain ⟨F, T⟩ := T
    exact ⟨c, .inl ⟨rfl, F, G, W.only T.lw (Only.up (F := fun _ => False) u) (fun _ _ => id), h, T.fF, fun k hk => .inr (Nat.le_trans T.on.size (hG k hk)), fun k hf hg => by have := W.lt T.lw k hf; have := hG k hg; omega, T.on.on u, T.l1, by show ((0 : Nat) : Int) ≤ 4096; omega, T.hm⟩⟩
  · exact (W.new_t 0 4096 w rfl (by omega) (by omega)).mono fun e w' h => ⟨0, .inr hm⟩
theorem uSetX (W : Wh LU kvU ok fN fS fG) (T : TwoE LU LU wS Z w b c n1 x1 n2 x2 m) (key : ByteArray) (v : Value) (hv : kvU key = v) (hk : ok key) (t : Int) (ht : I64 t) : Calls Try.prog fS #[.pointer (some ⟨b, 0, none⟩), v, .int .i64 t] w fun e w' => e = .returned (.int .i64 (setC n1 m x1 key t)) ∧ TwoE LU LU wS Z w' b c n1 (setL n1 m x1 key t) n2 x2 m := by
  subst hv
  obtain ⟨F, G, T⟩ := T
  refine (W.set key t T.lw hk ht).mono ?_
  rintro e w' ⟨rfl, F', h, o, s⟩
  exact ⟨rfl, F', G, T.stepL (obW W) (obW W) h o s (setL_len T.l1)⟩
theorem uSetY (W : Wh LU kvU ok fN fS fG) (T : TwoE LU LU wS Z w b c n1 x1 n2 x2 m) (key : ByteArray) (v : Value) (hv : kvU key = v) (hk : ok key) (t : Int) (ht : I64 t) : Calls Try.prog fS #[.pointer (some ⟨c, 0, none⟩), v, .int .i64 t] w fun e w' => e = .returned (.int .i64 (setC n2 m x2 key t)) ∧ TwoE LU LU wS Z w' b c n1 x1 n2 (setL n2 m x2 key t) m := by
  subst hv
  obtain ⟨F, G, T⟩ := T
  refine (W.set key t T.rw_ hk ht).mono ?_
  rintro e w' ⟨rfl, G', h, o, s⟩
  exact ⟨rfl, F, G', T.stepR (obW W) (obW W) h o s (setL_len T.l2)⟩
theorem uGoX (W : Wh LU kvU ok fN fS fG) (T : TwoE LU LU wS (fun _ => False) w b c n1 x1 n2 x2 4096) (t : Int) (ht : I64 t) : Calls Try.prog fG #[.pointer (some ⟨b, 0, none⟩), .int .i64 t] w fun e w' => ∃ A l cp Z1, e = .returned (.tuple #[.slice A l cp, .int .i64 (goC n1 t)]) ∧ GtE LU w' Z1 w' c n2 x2 (.slice none 0 0) [] ∧ (∀ k, Z1 k → wS.heap.size ≤ k) ∧ Up wS w' ∧ TL kvU w' A l (goT n1 t x1) 0 Z1 := by
  obtain ⟨F, G, T⟩ := T
  refine (W.go t T.lw ht).mono ?_
  rintro e w' ⟨A, l, cp, F', rfl, h, o, s, hT⟩
  have T1 := T.stepL (obW W) (obW W) h o s (by have := goS_len n1 t x1; have := T.l1; omega)
  refine ⟨A, l, cp, G, rfl, ⟨G, ⟨T1.rw_, fun k h => .inl h, Only.refl _ _, T1.l2, T1.hm⟩, World.ownsRow_nil _ _ _ _, fun k e => by cases e⟩, fun k hk => (T1.fG k hk).elim (fun e => e.elim) id, T1.on.none_up (fun _ => id), hT.len, fun hn => ?_⟩
  obtain ⟨g, off, e, h1, h2, h3, h4⟩ := hT.row hn
  exact ⟨g, off, e, Nat.zero_le _, h2, fun hg => by have := W.lt T.rw_ g hg; omega, h4⟩
end
def endV (xs : List Int) : Int := xs.foldl (fun e a => max e (a + 1)) 0
theorem endV_succ {xs : List Int} {k : Nat} {x : Int} (h : xs[k]? = some x) : endV (xs.take (k + 1)) = max (endV (xs.take k)) (x + 1) := by
  obtain ⟨hk, e⟩ := List.getElem?_eq_some_iff.1 h
  unfold endV
  rw [List.take_succ_eq_append_getElem hk, List.foldl_append, e]; rfl
theorem endV_fold : ∀ (xs : List Int) (e : Int), (∀ x ∈ xs, 0 ≤ x ∧ x ≤ 4294967295) → 0 ≤ e → e ≤ 4294967296 → e ≤ xs.foldl (fun e a => max e (a + 1)) e ∧ xs.foldl (fun e a => max e (a + 1)) e ≤ 4294967296 ∧ ∀ x ∈ xs, x + 1 ≤ xs.foldl (fun e a => max e (a + 1)) e
  | [], e, _, h0, h1 => ⟨Int.le_refl _, h1, fun x hx => by cases hx⟩
  | y :: r, e, h, h0, h1 => by
    have hy := h y (List.mem_cons_self ..)
    obtain ⟨a1, a2, a3⟩ := endV_fold r (max e (y + 1)) (fun x hx => h x (List.mem_cons_of_mem _ hx)) (by omega) (by omega)
    refine ⟨by rw [List.foldl_cons]; omega, by rw [List.foldl_cons]; exact a2, fun x hx => ?_⟩
    rw [List.foldl_cons]
    rcases List.mem_cons.1 hx with rfl | hx
    · omega
    · exact a3 x hx
theorem endV_bd {xs : List Int} (h : ∀ x ∈ xs, 0 ≤ x ∧ x ≤ 4294967295) : 0 ≤ endV xs ∧ endV xs ≤ 4294967296 ∧ ∀ x ∈ xs, x + 1 ≤ endV xs := endV_fold xs 0 h (by omega) (by omega)

set_option maxHeartbeats 8000000 in
set_option maxRecDepth 100000 in
theorem lawParts {LW LU : WP} (W : WhS LW) (U : Wh LU kvU okU 22 23 24) (A : Option Addr) (n c : Nat) (xs : List Int) (A' : Option Addr) (n' c' : Nat) (ps : List Int) (w : World) (hr : RdG .u32 w A xs) (hn : xs.length = n) (hm : n ≤ maxLen) (hx : ∀ x ∈ xs, 0 ≤ x ∧ x ≤ 4294967295)
    (hr' : RdG .u16 w A' ps) (hn' : ps.length = n') (hm' : n' ≤ maxLen) (hx' : ∀ x ∈ ps, 0 ≤ x ∧ x ≤ 65535) :
    Calls Try.prog 5 #[.slice A n c, .slice A' n' c'] w fun e w' => e = .returned (.bool true) ∧ Up w w' := by
  have WW := Lib.hid W; have UU := Lib.hid U
  have HR := Lib.hid hr; have HN := Lib.hid hn; have HX := Lib.hid hx
  have HR' := Lib.hid hr'; have HN' := Lib.hid hn'; have HX' := Lib.hid hx'
  have hm2 : n ≤ 9223372036854775807 := by unfold maxLen at hm; omega
  have hm2' : n' ≤ 9223372036854775807 := by unfold maxLen at hm'; omega
  clear W U hr hn hx hr' hn' hx' hm hm'
  by_cases l1 : n ≤ 200
  case neg =>
    go_enter Try.func5, Try.ntmps5
    go_wp2_with (go_at_call 8; refine (worksC WW.out _).mono ?_; rintro e w2 ⟨rfl, u2⟩)
    go_ret
    exact ⟨rfl, u2⟩
  by_cases l2 : n' ≤ 200
  case neg =>
    go_enter Try.func5, Try.ntmps5
    go_wp2_with (go_at_call 8; refine (worksC WW.out _).mono ?_; rintro e w2 ⟨rfl, u2⟩)
    go_ret
    exact ⟨rfl, u2⟩
  clear hm2 hm2'
  go_enter Try.func5, Try.ntmps5
  go_wp2_with fail
  refine (oNew UU.out 0 4096 _ rfl (by omega) (by omega)).mono ?_
  rintro e w1 ⟨b, rfl, T1⟩
  have H1 := Lib.hid T1
  clear T1
  go_wp2_with fail
  refine (TwoE.second UU.out H1.out).mono ?_
  rintro e w2 ⟨d, T2 | T2⟩
  case inr => exact absurd rfl T2
  obtain ⟨rfl, T2⟩ := T2
  have H2 := Lib.hid T2
  clear T2 H1
  go_wp2_with fail
  go_loopw [9, 10] (fun en i wr => ∃ j : Nat, j ≤ n ∧ i = .int .i64 j ∧ en = .int .i64 (endV (xs.take j)) ∧ TwoE LU LU w (fun _ => False) wr b d 0 (tms (xs.take j)) 0 (tms (xs.take j)) 4096) (fun _ i _ => n - (intOf i).toNat)
  case atStart => exact ⟨0, Nat.zero_le _, rfl, rfl, H2.out⟩
  case round =>
    obtain ⟨j, hj, rfl, rfl, hT⟩ := hrel
    have H3 := Lib.hid hT
    clear H2 hT
    have hE := endV_bd (xs := xs.take j) (fun x hx => HX.out x (List.mem_of_mem_take hx))
    by_cases hlt : j < n
    · obtain ⟨g, off, a, e, c1, hx⟩ := (HR.out.up (H3.out.on.none_up (fun _ => id))).at_ (j := j) (by rw [HN.out]; exact hlt)
      subst e
      have ha := HX.out a (List.mem_of_getElem? hx.out)
      have hs := set_tms hx.out ha (by omega)
      have EE := Lib.hid (endV_succ hx.out)
      have S1 := Lib.hid hs.1; have S2 := Lib.hid hs.2
      have hk := Lib.hid (okU_enc (n := j) (by omega))
      have it : I64 (a + 1) := ⟨by omega, by omega⟩
      obtain ⟨e1, e2, _⟩ := hE
      clear hs hx
      generalize endV (xs.take j) = en at *
      go_wp2_with fail
      refine (uSetX UU.out H3.out (enc j) _ (kvU_enc j) hk.out (a + 1) it).mono ?_
      rintro e w3 ⟨rfl, t3⟩
      rw [S1.out]
      rw [S2.out] at t3
      have H4 := Lib.hid t3
      clear t3 H3
      go_wp2_with fail
      refine (uSetY UU.out H4.out (enc j) _ (kvU_enc j) hk.out (a + 1) it).mono ?_
      rintro e w4 ⟨rfl, t4⟩
      rw [S1.out]
      rw [S2.out] at t4
      have H5 := Lib.hid t4
      clear t4 H4
      by_cases hen : en < a + 1
      · have EE2 := Lib.hid (EE.out.trans (show max en (a + 1) = a + 1 by omega))
        go_wp2
        go_roundw
        case rel => exact ⟨j + 1, by omega, by go_num, by rw [EE2.out], H5.out⟩
        case measure => simp [RowKit.intOf]; omega
      · have EE2 := Lib.hid (EE.out.trans (show max en (a + 1) = en by omega))
        go_wp2
        go_roundw
        case rel => exact ⟨j + 1, by omega, by go_num, by rw [EE2.out], H5.out⟩
        case measure => simp [RowKit.intOf]; omega
    · obtain rfl : j = n := by omega
      have htk : xs.take j = xs := List.take_of_length_le (by rw [HN.out]; exact Nat.le_refl _)
      rw [htk] at hE H3 ⊢
      obtain ⟨e1, e2, e3⟩ := hE
      have hgo := go_ok (tms xs) (now := 0) (t := endV xs) ⟨by omega, by omega⟩ e1
      have ie : I64 (endV xs) := ⟨by omega, by omega⟩
      have hlen : (told (endV xs) (tms xs)).length = j := by
        rw [told_len]
        · unfold tms; rw [tmsF_len, HN.out]
        · intro p hp
          obtain ⟨_, a, ha, he⟩ := tmsF_mem _ _ _ hp
          rw [he]; exact e3 a ha
      have G1 := Lib.hid hgo.1; have G2 := Lib.hid hgo.2.1; have G3 := Lib.hid hgo.2.2.1; have G4 := Lib.hid hgo.2.2.2
      have HL := Lib.hid hlen
      clear hgo hlen e3 htk
      generalize endV xs = en at *
      go_wp2_with fail
      refine (uGoX UU.out H3.out en ie).mono ?_
      rintro e w6 ⟨A1, m1, cp1, Z1, rfl, t6, hz1, hu6, hl6⟩
      rw [G1.out]
      rw [G3.out] at hl6
      have hm1 : m1 = j := hl6.len.trans HL.out
      subst hm1
      have T6 := Lib.hid t6; have L6 := Lib.hid hl6; have U6 := Lib.hid hu6; have Z6 := Lib.hid hz1
      clear t6 hl6 hu6 hz1 H3 G1 G2 G3 G4
      generalize hxs : tms xs = tx at *
      clear hxs
      go_wp2_with fail
      go_loopw [13, 14, 15] (fun got nv i wr => ∃ (q : Nat) (t : Int) (acc ys : List Tm), q ≤ n' + 1 ∧ i = .int .i64 q ∧ nv = .int .i64 t ∧ 0 ≤ t ∧ t ≤ en ∧ GtE LU w6 Z1 wr d t ys got (acc.map (fun p : Tm => (p.1.size : Int))) ∧ acc ++ told en ys = told en tx ∧ (q = n' + 1 → told en ys = [])) (fun _ _ i _ => n' + 1 - (intOf i).toNat)
      case atStart => exact ⟨0, 0, [], tx, by omega, rfl, rfl, Int.le_refl _, e1, T6.out, rfl, fun h => by omega⟩
      case round =>
        obtain ⟨q, t, acc, ys, hq, rfl, rfl, ht0, ht1, hT, hacc, hfin⟩ := hrel
        have T7 := Lib.hid hT; have AC := Lib.hid hacc; have FI := Lib.hid hfin
        have hal := congrArg List.length hacc
        rw [List.length_append, HL.out] at hal
        obtain ⟨RA, rc, rfl⟩ := hT.slice
        obtain ⟨gn, hgn⟩ : ∃ gn, gn = (acc.map (fun p : Tm => (p.1.size : Int))).length := ⟨_, rfl⟩
        have hgn2 : gn = acc.length := by rw [hgn, List.length_map]
        rw [← hgn] at T7 ⊢
        rw [← hgn2] at hal
        have GN := Lib.hid hgn; have GN2 := Lib.hid hgn2; have HAL := Lib.hid hal
        clear T6 hT hacc hfin hgn hgn2 hal
        by_cases hqn : q ≤ n'
        · go_upto_if 97 with fail
          go_cut [14] (fun v wc => ∃ t2, v = .int .i64 t2 ∧ t ≤ t2 ∧ t2 ≤ en ∧ (q = n' → t2 = en) ∧ Up wr wc)
          case first =>
            by_cases hq2 : q < n'
            · obtain ⟨g, off, p, e, c1, hx⟩ := (HR'.out.up (T7.out.on.to_up U6.out Z6.out)).at_ (j := q) (by rw [HN'.out]; exact hq2)
              subst e
              have hp := HX'.out p (List.mem_of_getElem? hx.out)
              clear hx
              by_cases hmin : en < t + p * 100
              · go_wp2
                go_meet
                exact ⟨en, rfl, ht1, Int.le_refl _, fun h => by omega, Below.refl _ _⟩
              · go_wp2
                go_meet
                exact ⟨t + p * 100, rfl, by omega, by omega, fun h => by omega, Below.refl _ _⟩
            · go_wp2
              go_meet
              exact ⟨en, rfl, ht1, Int.le_refl _, fun _ => rfl, Below.refl _ _⟩
          case rest =>
            obtain ⟨t2, rfl, h3, h4, h5, uc⟩ := hcut
            have T8 := Lib.hid (T7.out.same UU.out uc)
            have hgo := go_ok ys (now := t) (t := t2) ⟨by omega, by omega⟩ h3
            have G1 := Lib.hid hgo.1; have G2 := Lib.hid hgo.2.1; have G3 := Lib.hid hgo.2.2.1; have G4 := Lib.hid hgo.2.2.2
            have SP := Lib.hid (told_split _ ys t2 en rfl h4)
            clear hgo T7
            go_wp2_with fail
            refine (gGo UU.out T8.out t2 ⟨by omega, by omega⟩).mono ?_
            rintro e w7 ⟨A2, m2, cp2, rfl, t9, hl9, hsz, hlt⟩
            rw [G1.out]
            rw [G2.out, G4.out] at t9
            rw [G3.out] at hl9
            have T9 := Lib.hid t9
            have L9 := Lib.hid (hl9.only (H := fun k => k < wc.heap.size ∨ w7.heap.size ≤ k) (Only.refl (fun _ => False) w7) (fun _ _ _ _ => id) (fun k h1 h2 h3 h4 => h4.elim h3 (fun e => by omega)))
            have hm2 := hl9.len
            have hal2 := congrArg List.length SP.out.1
            rw [List.length_append, ← hm2] at hal2
            have hm200 : gn + m2 ≤ 200 := by have := HAL.out; omega
            have RF := Lib.hid (show ∀ k, RowF (.slice RA gn rc) k → k < wc.heap.size ∨ w7.heap.size ≤ k from fun k hk => .inl (hlt k hk))
            have HM := Lib.hid hm2
            clear t9 hl9 G1 G2 G3 G4 T8 hm2 hal2 hlt
            go_wp2_with fail
            go_loopw [13, 18] (fun got i wq => ∃ s : Nat, s ≤ m2 ∧ i = .int .i64 s ∧ GtE LU w6 Z1 wq d t2 (stay t2 ys) got ((acc ++ (told t2 ys).take s).map (fun p : Tm => (p.1.size : Int))) ∧ TL kvU wq A2 m2 (told t2 ys) wc.heap.size (fun k => k < wc.heap.size ∨ w7.heap.size ≤ k) ∧ (∀ k, RowF got k → k < wc.heap.size ∨ w7.heap.size ≤ k) ∧ w7.heap.size ≤ wq.heap.size) (fun _ i _ => m2 - (intOf i).toNat)
            case atStart => exact ⟨0, Nat.zero_le _, rfl, by rw [List.take_zero, List.append_nil]; exact T9.out, L9.out, RF.out, Nat.le_refl _⟩
            case round =>
              obtain ⟨s, hs, rfl, hT, hl, hrf, hsz2⟩ := hrel
              have T10 := Lib.hid hT; have L10 := Lib.hid hl; have RF2 := Lib.hid hrf
              obtain ⟨RA2, rc2, rfl⟩ := hT.slice
              obtain ⟨gm, hgm⟩ : ∃ gm, gm = ((acc ++ (told t2 ys).take s).map (fun p : Tm => (p.1.size : Int))).length := ⟨_, rfl⟩
              have hgm2 : gm = gn + s := by rw [hgm, List.length_map, List.length_append, List.length_take, ← HM.out, ← GN2.out]; omega
              rw [← hgm] at RF2 T10 ⊢
              have GM := Lib.hid hgm; have GM2 := Lib.hid hgm2
              clear T9 L9 RF hT hl hrf hgm hgm2
              by_cases hs2 : s < m2
              · obtain ⟨g, off, s1, v1, e, a0, a1, ha⟩ := L10.out.at_ hs2
                subst e
                have a0' : wr.cell? ⟨g, off + s * 2, none⟩ = some (.int .u64 (s1.size : Int)) := a0
                have hl7 := L10.out.row (by omega)
                obtain ⟨gg, oo, ee, hg1, hg2, hg3, _⟩ := hl7
                cases ee
                have HA := Lib.hid ha.out
                have ow := own_only T10.out.own (Only.up (F := fun _ => False) (up_al (.cells #[.int .u64 (s1.size : Int)] 58) (Below.refl _ wr))) (fun _ _ => id)
                clear a0 a1 ha
                go_wp2_with (first
                  | (at_builtin; refine appU (.tmp 123) (.tmp 129) wr.heap.size (s1.size : Int) ow rfl rfl rfl rfl ((Box.new wr #[.int .u64 (s1.size : Int)] 58).at 0 rfl) (by rw [← GM.out]; have := GM2.out; omega) (by have := T10.out.on.size; simp; omega) ?_; intro v2 w8 hO8 ho8 hs8)
                  | fail)
                have T11 := Lib.hid (T10.out.app UU.out (up_al _ (Below.refl _ wr)) hO8 ho8 hs8)
                have L11 := Lib.hid ((L10.out.only (Only.up (F := fun _ => False) (up_al (.cells #[.int .u64 (s1.size : Int)] 58) (Below.refl _ wr))) (fun _ _ _ _ => id) (fun _ _ _ h => h)).only ho8 (fun k h1 h2 h3 h4 => h3 (RF2.out k h4)) (fun _ _ _ h => h))
                have RF11 := Lib.hid (show ∀ k, RowF v2 k → k < wc.heap.size ∨ w7.heap.size ≤ k from fun k hk => (hs8 k hk).elim (RF2.out k) (fun e => .inr (Nat.le_trans hsz2 (Nat.le_trans (by simp) e))))
                have SZ11 := Lib.hid (show w7.heap.size ≤ w8.heap.size from Nat.le_trans hsz2 (Nat.le_trans (by simp) ho8.size))
                have htk : (told t2 ys).take (s + 1) = (told t2 ys).take s ++ [(s1, v1)] := by
                  obtain ⟨h1, h2⟩ := List.getElem?_eq_some_iff.1 HA.out
                  rw [List.take_succ_eq_append_getElem h1, h2]
                have E11 := Lib.hid (show ((acc ++ (told t2 ys).take (s + 1)).map (fun p : Tm => (p.1.size : Int))) = ((acc ++ (told t2 ys).take s).map (fun p : Tm => (p.1.size : Int))) ++ [(s1.size : Int)] by rw [htk, ← List.append_assoc, List.map_append (l₂ := [(s1, v1)])]; rfl)
                clear hO8 ho8 hs8 ow htk
                go_wp2
                go_roundw
                case rel => exact ⟨s + 1, by omega, by go_num, by rw [E11.out]; exact T11.out, L11.out, RF11.out, SZ11.out⟩
                case measure => simp [RowKit.intOf]; omega
              · obtain rfl : s = m2 := by omega
                have htk : (told t2 ys).take s = told t2 ys := List.take_of_length_le (by rw [← HM.out]; exact Nat.le_refl _)
                rw [htk] at T10
                go_wp2
                go_roundw
                case rel => exact ⟨q + 1, t2, acc ++ told t2 ys, stay t2 ys, by omega, by go_num, rfl, by omega, h4, T10.out, by rw [List.append_assoc, ← SP.out.1]; exact AC.out, fun h => by rw [h5 (by omega)]; exact told_again _ _⟩
                case measure => simp [RowKit.intOf]; omega
        · obtain rfl : q = n' + 1 := by omega
          have hnil := FI.out rfl
          have hacc := AC.out
          rw [hnil, List.append_nil] at hacc
          have hgm : gn = m1 := by have := HAL.out; rw [hnil] at this; simpa using this
          subst hgm
          have ow := Lib.hid T7.out.own
          have la := Lib.hid (L6.out.only T7.out.on (fun _ _ _ h => h) (fun _ _ _ h => h))
          have UW := Lib.hid (T7.out.on.to_up U6.out Z6.out)
          have AC2 := Lib.hid hacc
          clear hnil hacc T7 L6 FI AC HAL
          go_wp2_with fail
          go_loopw [19] (fun i wq => ∃ s : Nat, s ≤ gn ∧ i = .int .i64 s ∧ Up wr wq) (fun i _ => gn - (intOf i).toNat)
          case atStart => exact ⟨0, Nat.zero_le _, rfl, Below.refl _ _⟩
          case round =>
            obtain ⟨s, hs, rfl, hu⟩ := hrel
            by_cases hs2 : s < gn
            · obtain ⟨g1, cp2, z, e1, a0, ha⟩ := (OwnU.up ow.out hu).at_ (k := s) (by rw [← GN.out]; exact hs2)
              obtain ⟨g2, off2, s2, v2, e2, b0, b1, hb⟩ := (la.out.only (Only.up (F := fun _ => False) hu) (fun _ _ _ _ => id) (fun _ _ _ h => h)).at_ hs2
              rw [← GN.out] at e1
              cases e1
              subst e2
              have hz : z = (s2.size : Int) := by
                have h1 := ha.out
                rw [AC2.out, List.getElem?_map, hb.out] at h1
                exact (Option.some.inj h1).symm
              subst hz
              have b0' : wr.cell? ⟨g2, off2 + s * 2, none⟩ = some (.int .u64 (s2.size : Int)) := b0
              clear ha hb b0 b1
              go_upto_region 38 with fail
              go_quiet (fail)
              go_wp2
              go_roundw
              case rel => exact ⟨s + 1, by omega, by go_num, up_drN _ hu⟩
              case measure => simp [RowKit.intOf]; omega
            · obtain rfl : s = gn := by omega
              go_wp2_with (go_at_call 8; refine (worksC WW.out _).mono ?_; rintro e w9 ⟨rfl, u9⟩)
              go_ret
              exact ⟨rfl, (UW.out.on hu).on u9⟩
end Go.Proofs.Ytkgcnmloojnblaa.wh
