/- O: contracts, part 3. Condition: as each says. -/
import Derived.Test.YtkgcnmloojnblaaKO2
import Derived.Maps.OwnSet
import Derived.Maps.RangeWalk
set_option linter.unusedVariables false
set_option linter.unusedSimpArgs false
namespace Go.Proofs.Ytkgcnmloojnblaa.wh
open Go.RowKit Go.Shelf Go.Lib Go.Proofs.Ytkgcnmloojnblaa.nb Go.Proofs.Ytkgcnmloojnblaa.ck
set_option linter.unusedVariables false

def Ow (w : World) (mb n : Nat) (D : DataW Unit) : Prop := w.ownsMap Try.prog 9 (plainElem Try.prog 2) mb n D
theorem Ow.only {w w' : World} {mb n : Nat} {D : DataW Unit} {G : Nat → Prop} (h : Ow w mb n D) (o : Only G w w') (hG : ¬ G mb) : Ow w' mb n D := by
  obtain ⟨es, clock, hb, rest⟩ := h
  exact ⟨es, clock, (o.block mb (Array.getElem?_eq_some_iff.1 hb).1 hG).trans hb, rest⟩
theorem grown_up {w w' : World} (h : w.grownBy w' none) : Up w w' := ⟨h.os, h.tape, h.output, h.size, fun k hk => h.block k hk (by simp)⟩
theorem grown_up_new {a c d : World} {r : Nat} (hu : Up a c) (hg : c.grownBy d (some r)) (hr : a.heap.size ≤ r) : Up a d := ⟨hg.os.trans hu.os, hg.tape.trans hu.tape, hg.output.trans hu.output, Nat.le_trans hu.size hg.size, fun k hk => (hg.block k (Nat.lt_of_lt_of_le hk hu.size) (fun e => by have : k = r := Option.some.inj e; omega)).trans (hu.block k hk)⟩
structure MW (LW : WP) (wS : World) (Z : Nat → Prop) (w : World) (b : Nat) (nw : Int) (x : List Tm) (mb n : Nat) (D : DataW Unit) (F : Nat → Prop) : Prop where
  one : One LW wS Z w b nw x 4096 F
  nf : ¬ F mb
  zm : Z mb ∨ wS.heap.size ≤ mb
  ow : Ow w mb n D
def MWE (LW : WP) (wS : World) (Z : Nat → Prop) (w : World) (b : Nat) (nw : Int) (x : List Tm) (mb n : Nat) (D : DataW Unit) : Prop := ∃ F, MW LW wS Z w b nw x mb n D F
section
variable {LW : WP} {wS w w' : World} {Z F : Nat → Prop} {b mb n n' : Nat} {nw nw' : Int} {x x' : List Tm} {D D' : DataW Unit}
theorem MW.step (T : MW LW wS Z w b nw x mb n D F) {F' : Nat → Prop} (h : LW w' b nw' 4096 x' F') (o : Only F w w') (s : StepF F F' w) (hl : (x'.length : Int) ≤ 4096) : MW LW wS Z w' b nw' x' mb n D F' :=
  ⟨T.one.step h o s hl, fun h => (s mb h).elim T.nf (fun e => by have := World.ownsMap.lt T.ow; omega), T.zm, T.ow.only o T.nf⟩
theorem MWE.same (W : WhS LW) (T : MWE LW wS Z w b nw x mb n D) (u : Up w w') : MWE LW wS Z w' b nw x mb n D := by
  obtain ⟨F, T⟩ := T
  exact ⟨F, ⟨W.only T.one.lw (Only.up (F := fun _ => False) u) (fun _ _ => id), T.one.fF, T.one.on.on u, T.one.l1, T.one.hm⟩, T.nf, T.zm, T.ow.only (Only.up (F := fun _ => False) u) id⟩
theorem MWE.map (W : WhS LW) (T : MWE LW wS Z w b nw x mb n D) (h : Ow w' mb n' D') (o : w.grownBy w' (some mb)) : MWE LW wS Z w' b nw x mb n' D' := by
  obtain ⟨F, T⟩ := T
  have o1 : Only (fun k => k = mb) w w' := (Only.refl _ w).grown o (fun k e => .inl (by cases e; rfl))
  exact ⟨F, ⟨W.only T.one.lw o1 (fun k hk e => T.nf (e ▸ hk)), T.one.fF, T.one.on.trans o1 (fun k e => by cases e; exact T.zm), T.one.l1, T.one.hm⟩, T.nf, T.zm, h⟩
theorem MWE.ow (T : MWE LW wS Z w b nw x mb n D) : Ow w mb n D := by obtain ⟨F, T⟩ := T; exact T.ow
theorem MWE.mono (T : MWE LW wS Z w b nw x mb n D) (h : n ≤ n') : MWE LW wS Z w b nw x mb n' D := by obtain ⟨F, T⟩ := T; exact ⟨F, T.one, T.nf, T.zm, World.ownsMap.mono T.ow h⟩
theorem MWE.on (T : MWE LW wS Z w b nw x mb n D) : Only Z wS w := by obtain ⟨F, T⟩ := T; exact T.one.on
theorem MWE.up (T : MWE LW wS (fun _ => False) w b nw x mb n D) : Up wS w := T.on.none_up (fun _ => id)
theorem MWE.cell (T : MWE LW wS Z w b nw x mb n D) {p : Addr} {v : Value} (h : wS.cell? p = some v) (hz : ¬ Z p.block) : w.cell? p = some v := (T.on.cell (World.block_lt_of_cell? wS p h) hz).trans h
theorem MWE.rebase (W : WhS LW) (T : MWE LW wS Z w b nw x mb n D) {w1 : World} (u : Up w w1) : ∃ Z1, MWE LW w1 Z1 w1 b nw x mb n D ∧ ∀ k, Z1 k → k < w.heap.size ∧ (Z k ∨ wS.heap.size ≤ k) := by
  obtain ⟨F, T⟩ := T
  refine ⟨fun k => F k ∨ k = mb, ⟨F, ⟨W.only T.one.lw (Only.up (F := fun _ => False) u) (fun _ _ => id), fun k h => .inl (.inl h), Only.refl _ _, T.one.l1, T.one.hm⟩, T.nf, .inl (.inr rfl), T.ow.only (Only.up (F := fun _ => False) u) id⟩, fun k hk => ?_⟩
  rcases hk with h | rfl
  · exact ⟨W.lt T.one.lw k h, T.one.fF k h⟩
  · exact ⟨World.ownsMap.lt T.ow, T.zm⟩
theorem MWE.back {w1 : World} {Z1 : Nat → Prop} (T : MWE LW w1 Z1 w b nw x mb n D) (u : Only Z wS w1) (h : ∀ k, Z1 k → Z k ∨ wS.heap.size ≤ k) : MWE LW wS Z w b nw x mb n D := by
  obtain ⟨F, T⟩ := T
  exact ⟨F, ⟨T.one.lw, fun k hk => (T.one.fF k hk).elim (h k) (fun e => .inr (Nat.le_trans u.size e)), u.trans T.one.on h, T.one.l1, T.one.hm⟩, T.nf, T.zm.elim (h mb) (fun e => .inr (Nat.le_trans u.size e)), T.ow⟩
theorem mSet (W : WhS LW) (T : MWE LW wS Z w b nw x mb n D) (key : ByteArray) (t : Int) (ht : I64 t) : Calls Try.prog 10 #[.pointer (some ⟨b, 0, none⟩), .string key, .int .i64 t] w fun e w' => e = .returned (.int .i64 (setC nw 4096 x key t)) ∧ MWE LW wS Z w' b nw (setL nw 4096 x key t) mb n D := by
  obtain ⟨F, T⟩ := T
  refine (W.set key t T.one.lw trivial ht).mono ?_
  rintro e w' ⟨rfl, F', h, o, s⟩
  exact ⟨rfl, F', T.step h o s (setL_len T.one.l1)⟩
theorem mStop (W : WhS LW) {w0 : World} (T : MWE LW wS Z w0 b nw x mb n D) (u : Up w0 w) (A : Option Addr) (cp : Nat) (ks : List ByteArray) (hr : RdK w A ks) (hg : ∀ g off, A = some ⟨g, off, none⟩ → w0.heap.size ≤ g) (hk : ks.length ≤ 2) : Calls Try.prog 12 #[.pointer (some ⟨b, 0, none⟩), .slice A ks.length cp] w fun e w' => e = .returned (.int .i64 (stopsC x ks)) ∧ MWE LW wS Z w' b nw (stopsL x ks) mb n D := by
  obtain ⟨F, T0⟩ := T
  have T : MW LW wS Z w b nw x mb n D F := ⟨⟨W.only T0.one.lw (Only.up (F := fun _ => False) u) (fun _ _ => id), T0.one.fF, T0.one.on.on u, T0.one.l1, T0.one.hm⟩, T0.nf, T0.zm, T0.ow.only (Only.up (F := fun _ => False) u) id⟩
  refine (W.stop A cp ks T.one.lw hr (fun g off e hf => by have := W.lt T0.one.lw g hf; have := hg g off e; omega) hk).mono ?_
  rintro e w' ⟨rfl, F', h, o, s⟩
  exact ⟨rfl, F', T.step h o s (by have := stopsL_len ks x; have := T.one.l1; omega)⟩
theorem mGo (W : WhS LW) (T : MWE LW wS Z w b nw x mb n D) (t : Int) (ht : I64 t) : Calls Try.prog 14 #[.pointer (some ⟨b, 0, none⟩), .int .i64 t] w fun e w' => ∃ A l cp Z1, e = .returned (.tuple #[.slice A l cp, .int .i64 (goC nw t)]) ∧ MWE LW w' Z1 w' b (goW nw t) (goS nw t x) mb n D ∧ (∀ k, Z1 k → Z k ∨ wS.heap.size ≤ k) ∧ Only Z wS w' ∧ TL (fun s => .string s) w' A l (goT nw t x) 0 Z1 := by
  obtain ⟨F, T⟩ := T
  refine (W.go t T.one.lw ht).mono ?_
  rintro e w' ⟨A, l, cp, F', rfl, h, o, s, hT⟩
  have T1 := T.step h o s (by have := goS_len nw t x; have := T.one.l1; omega)
  refine ⟨A, l, cp, fun k => F' k ∨ k = mb, rfl, ⟨F', ⟨T1.one.lw, fun k h => .inl (.inl h), Only.refl _ _, T1.one.l1, T1.one.hm⟩, T1.nf, .inl (.inr rfl), T1.ow⟩, fun k hk => hk.elim (T1.one.fF k) (fun e => e ▸ T1.zm), T1.one.on, hT.len, fun hn => ?_⟩
  obtain ⟨g, off, e, h1, h2, h3, h4⟩ := hT.row hn
  exact ⟨g, off, e, Nat.zero_le _, h2, fun hz => hz.elim h3 (fun hg => by have := World.ownsMap.lt T.ow; omega), h4⟩
theorem mLen (W : WhS LW) (T : MWE LW wS Z w b nw x mb n D) : Calls Try.prog 20 #[.pointer (some ⟨b, 0, none⟩)] w fun e w' => e = .returned (.int .i64 x.length) ∧ Up w w' := by
  obtain ⟨F, T⟩ := T
  exact W.len T.one.lw
theorem MWE.new (W : WhS LW) {w1 : World} (T : OneE LW w (fun _ => False) w1 b nw [] 4096) : MWE LW w (fun _ => False) (w1.alloc (.map #[] 0)) b nw [] w1.heap.size 0 (.map []) := by
  obtain ⟨F, T⟩ := T
  have u : Up w1 (w1.alloc (.map #[] 0)) := up_al _ (Below.refl _ _)
  exact ⟨F, ⟨W.only T.lw (Only.up (F := fun _ => False) u) (fun _ _ => id), T.fF, T.on.on u, T.l1, T.hm⟩, fun h => by have := W.lt T.lw _ h; omega, .inr T.on.size, World.ownsMap_made _ _ _ _⟩
end
theorem lawK : Go.Maps.Keyed Try.prog 9 := Go.Maps.string_keyed Try.underlying9
theorem zeroI (w : World) : (zeroValue 2).run Try.prog w = .ok (.int .i64 0) w := by kernel_rfl
theorem keyK {s : ByteArray} (h : s.size ≤ maxLen) : keyOf Try.prog 9 (.string s) = some (Ks s) := Go.WideMaps.keyOf_string_mk Try.underlying9 h
theorem keyK_inv {key : Value} {kl : Lit} (h : keyOf Try.prog 9 key = some kl) : ∃ s : ByteArray, key = .string s ∧ kl = Ks s := by
  have hk : Try.prog.underlying 9 = some .string := Try.underlying9
  cases key <;> simp [keyOf, hk, mapKey] at h
  exact ⟨_, rfl, h.2.symm⟩
theorem elV {v : Int} (h : I64 v) : plainElem (H := Unit) Try.prog 2 (.int .i64 v) = some (Vi v, []) := plainElem_int Try.underlying2 (by
  simp [Lit.wf, IntKind.min, IntKind.max, IntKind.signed, IntKind.bits]; unfold I64 at h; omega)
end Go.Proofs.Ytkgcnmloojnblaa.wh
