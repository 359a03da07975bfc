/- Package opt: which options bytes are. Condition: at most 2^20 bytes. -/
import Derived.Test.YtdlcglkeinlimaaOptLE
namespace Go.Proofs.Ytdlcglkeinlimaa.op
open Go.RowKit Go.Shelf Go.Lib Go.Proofs.Ytdlcglkeinlimaa.sm Go.Proofs.Ytdlcglkeinlimaa.nb Go.Proofs.Ytdlcglkeinlimaa.om
set_option linter.unusedVariables false

theorem noneC : NoneC := fun w => by
  go_enter Try.func17, Try.ntmps17
  go_upto_region 1 with fail
  have hB := Box.new w #[.int .u16 0, .int .i64 0, .bool false, .slice none 0 0, .bool false, .int .u32 0, .int .u32 0] 26
  have hu : Up w (w.alloc (.cells #[.int .u16 0, .int .i64 0, .bool false, .slice none 0 0, .bool false, .int .u32 0, .int .u32 0] 26)) := up_al _ (Below.refl _ _)
  generalize (w.alloc (.cells #[.int .u16 0, .int .i64 0, .bool false, .slice none 0 0, .bool false, .int .u32 0, .int .u32 0] 26)) = w0 at hB hu ⊢
  obtain ⟨k0, k1, k2, k3, k4, k5, k6, f0, f1, f2, f3, f4, f5, f6⟩ := Box.c7 hB
  go_wp2
  have hBB := put7 hB (.int .u16 0) (.int .i64 (-1)) (.bool false) (.slice none 0 0) (.bool false) (.int .u32 0) (.int .u32 0)
  have huu := ups7 (b := w.heap.size) hu (Nat.le_refl _) (.int .u16 0) (.int .i64 (-1)) (.bool false) (.slice none 0 0) (.bool false) (.int .u32 0) (.int .u32 0)
  generalize World.setCell _ ⟨w.heap.size, 6, none⟩ _ = W3 at hBB huu ⊢
  clear k0 k1 k2 k3 k4 k5 k6 f0 f1 f2 f3 f4 f5 f6 hB hu
  obtain ⟨k0, k1, k2, k3, k4, k5, k6⟩ := Box.e7 hBB
  (try simp only [Exit.inBlock, Exit.then])
  refine bodyPost_ret (v := OA 0 (-1) false none 0 0 false 0 0) ?_ rfl ⟨rfl, huu⟩
  rw [results_cell1 rfl]; go_simp

/-! ### what a turn of a block that is no cells leaves -/
/-- each cell lies as it lay -/
def CK (W W' : World) : Prop := W.heap.size ≤ W'.heap.size ∧ ∀ p v, W.cell? p = some v → W'.cell? p = some v ∧ W'.frozen? p = W.frozen? p
theorem CK.of {W W' : World} {row : Option Nat} (hg : W.grownBy W' row) (hr : ∀ r, row = some r → ∃ o : Obj, W.heap[r]? = some o ∧ o.isCells = false) : CK W W' :=
  ⟨hg.size, fun p v h => ⟨cell_kept h hg hr, frozen_kept h hg hr⟩⟩
theorem Box.ck {W W' : World} {b : Nat} {vs : List Value} (h : Box W b vs) (k : CK W W') : Box W' b vs :=
  ⟨Nat.lt_of_lt_of_le h.1 k.1, fun j v hv => by obtain ⟨h1, h2⟩ := h.2 j v hv; obtain ⟨h3, h4⟩ := k.2 _ _ h1; exact ⟨h3, h4.trans h2⟩⟩
theorem RdB.ck {W W' : World} {A : Option Addr} {xs : List (Nat × Nat)} (h : RdB W A xs) (k : CK W W') : RdB W' A xs := fun hn => by
  obtain ⟨b, off, rfl, hlt, hc⟩ := h hn
  exact ⟨b, off, rfl, Nat.lt_of_lt_of_le hlt k.1, fun j hj => ⟨(k.2 _ _ (hc j hj).1).1, (k.2 _ _ (hc j hj).2).1⟩⟩
theorem OB.ck {W W' : World} {b : Nat} {o : Opz} {A : Option Addr} {n c : Nat} (h : OB W b o A n c) (k : CK W W') : OB W' b o A n c := ⟨Box.ck h.box k, h.len, h.rd.ck k, h.far, h.nil_⟩
theorem OB.up {W W' : World} {b : Nat} {o : Opz} {A : Option Addr} {n c : Nat} (h : OB W b o A n c) (k : Up W W') : OB W' b o A n c := ⟨h.box.up k, h.len, h.rd.up k, h.far, h.nil_⟩
/-- what stands between two rounds -/
structure Mid (l : List UInt8) (w0 : World) (bO b2 b3 : Nat) (pl : List Nat) (W : World) : Prop where
  ok : OkL l pl
  ob : ∃ A n c, OB W bO (fo l pl) A n c
  r2 : Box W b2 [.int .u16 0, .int .i64 0, .bool false, .slice none 0 0, .bool false, .int .u32 0, .int .u32 0]
  r3 : Box W b3 [.int .i64 0]
  up : Up w0 W
theorem Mid.upon {l : List UInt8} {w0 : World} {bO b2 b3 : Nat} {pl : List Nat} {W W' : World} (h : Mid l w0 bO b2 b3 pl W) (k : Up W W') : Mid l w0 bO b2 b3 pl W' := by
  obtain ⟨A, n, c, ho⟩ := h.ob
  exact ⟨h.ok, ⟨A, n, c, OB.up ho k⟩, h.r2.up k, h.r3.up k, h.up.on k⟩
/-- how a round says that bytes are none of options' -/
structure Bad (l : List UInt8) (w0 : World) (b2 b3 : Nat) (pl : List Nat) (W : World) : Prop where
  bad : ∃ q p, pl = q ++ [p] ∧ OkL l q ∧ (fitb l p = false ∨ amg (fo l q) (nb l p) = true)
  r2 : Box W b2 [.int .u16 0, .int .i64 0, .bool false, .slice none 0 0, .bool false, .int .u32 0, .int .u32 0]
  r3 : Box W b3 [.int .i64 70]
  up : Up w0 W
theorem mid_own {Q : Nat → Prop} (l : List UInt8) (w0 : World) (bO b2 b3 B : Nat) (hB : w0.heap.size ≤ B) : OwnFrom B (fun (pre : List (At_ Q)) W => Mid l w0 bO b2 b3 (ps pre) W) := fun s W W' row h hg hr => by
  have k := CK.of hg (fun r e => (hr r e).2)
  obtain ⟨A, n, c, ho⟩ := h.ob
  exact ⟨h.ok, ⟨A, n, c, OB.ck ho k⟩, Box.ck h.r2 k, Box.ck h.r3 k, h.up.grown hg h.up.size (fun j e => Nat.le_trans hB (hr j e).1)⟩
theorem bad_own {Q : Nat → Prop} (l : List UInt8) (w0 : World) (b2 b3 B : Nat) (c : Code) (hB : w0.heap.size ≤ B) : OwnFrom B (fun (pre : List (At_ Q)) W => c = .ret ∧ Bad l w0 b2 b3 (ps pre) W) := fun s W W' row h hg hr => by
  have k := CK.of hg (fun r e => (hr r e).2)
  exact ⟨h.1, h.2.bad, Box.ck h.2.r2 k, Box.ck h.2.r3 k, h.2.up.grown hg h.2.up.size (fun j e => Nat.le_trans hB (hr j e).1)⟩
theorem box_own {β : Type} (P : Prop) (b : Nat) (vs : List Value) (B : Nat) : OwnFrom B (fun (_ : β) W => Box W b vs) := fun s W W' row h hg hr => Box.ck h (CK.of hg (fun r e => (hr r e).2))

theorem kf_up {B : Nat} {W W' : World} (h : Up W W') : KeepsFrom B W W' := ⟨h.size, fun k o _ hk _ => (h.block k (Array.getElem?_eq_some_iff.1 hk).1).trans hk⟩
theorem kf7 (W : World) (b B : Nat) (y0 y1 y2 y3 y4 y5 y6 : Value) : KeepsFrom B W (((((((W.setCell ⟨b, 0, none⟩ y0).setCell ⟨b, 1, none⟩ y1).setCell ⟨b, 2, none⟩ y2).setCell ⟨b, 3, none⟩ y3).setCell ⟨b, 4, none⟩ y4).setCell ⟨b, 5, none⟩ y5).setCell ⟨b, 6, none⟩ y6) :=
  ((((((((KeepsOthers.setCell W _ _).from B).trans ((KeepsOthers.setCell _ _ _).from B)).trans ((KeepsOthers.setCell _ _ _).from B)).trans ((KeepsOthers.setCell _ _ _).from B)).trans ((KeepsOthers.setCell _ _ _).from B)).trans ((KeepsOthers.setCell _ _ _).from B)).trans ((KeepsOthers.setCell _ _ _).from B))
theorem grown7 (W : World) (b : Nat) (y0 y1 y2 y3 y4 y5 y6 : Value) : W.grownBy (((((((W.setCell ⟨b, 0, none⟩ y0).setCell ⟨b, 1, none⟩ y1).setCell ⟨b, 2, none⟩ y2).setCell ⟨b, 3, none⟩ y3).setCell ⟨b, 4, none⟩ y4).setCell ⟨b, 5, none⟩ y5).setCell ⟨b, 6, none⟩ y6) (some b) :=
  grown_trans (grown_trans (grown_trans (grown_trans (grown_trans (grown_trans (grown_set W b 0 y0) (grown_set _ b 1 y1)) (grown_set _ b 2 y2)) (grown_set _ b 3 y3)) (grown_set _ b 4 y4)) (grown_set _ b 5 y5)) (grown_set _ b 6 y6)
theorem ck_put {W : World} {D : Nat} {o : Obj} (o' : Obj) (h : W.heap[D]? = some o) (ho : o.isCells = false) : CK W (W.putObj D o') := CK.of (grownBy_putObj' W D o') (fun r e => by cases e; exact ⟨_, h, ho⟩)
theorem results_cell_cell {fn : Func} {p q : Tmp} {ty ty' : TypeId} (h : fn.results = #[.cell p ty, .cell q ty']) (tmps : Array Value) (P : Program) (w : World) :
    (results fn tmps).run P w = ((asAddr (tmps.getD p undef)).run P w).andThen fun a w₁ => ((loadVar ty a).run P w₁).andThen fun x w₂ => ((asAddr (tmps.getD q undef)).run P w₂).andThen fun b w₃ => ((loadVar ty' b).run P w₃).andThen fun y w₄ => .ok (.tuple #[x, y]) w₄ := by
  simp only [results, h]
  simp [Sem.run_bind, Result.andThen]
set_option maxHeartbeats 4000000 in
set_option maxRecDepth 100000 in
theorem decode_long (s : ByteArray) (w : World) (hs : s.size ≤ 1048576) (hl : 40 < s.size) :
    Calls Try.prog 11 #[.string s] w fun e_ w' => DecZ (L s) w e_ w' := by
  have i0 : (40 : Int) < (s.size : Int) := by omega
  have HD := Lib.hid (err_4 (l := L s) (by rw [L_len]; exact hl))
  go_enter Try.func11, Try.ntmps11
  go_upto_region 1 with fail
  have hA := (Box.new w #[.int .u16 0, .int .i64 0, .bool false, .slice none 0 0, .bool false, .int .u32 0, .int .u32 0] 26).alloc (.cells #[.int .i64 0] 29)
  have hB := Box.new (w.alloc (.cells #[.int .u16 0, .int .i64 0, .bool false, .slice none 0 0, .bool false, .int .u32 0, .int .u32 0] 26)) #[.int .i64 0] 29
  rw [show (w.alloc (.cells #[.int .u16 0, .int .i64 0, .bool false, .slice none 0 0, .bool false, .int .u32 0, .int .u32 0] 26)).heap.size = w.heap.size + 1 by simp] at hB
  have hu : Up w ((w.alloc (.cells #[.int .u16 0, .int .i64 0, .bool false, .slice none 0 0, .bool false, .int .u32 0, .int .u32 0] 26)).alloc (.cells #[.int .i64 0] 29)) := up_al _ (up_al _ (Below.refl _ _))
  generalize ((w.alloc (.cells #[.int .u16 0, .int .i64 0, .bool false, .slice none 0 0, .bool false, .int .u32 0, .int .u32 0] 26)).alloc (.cells #[.int .i64 0] 29)) = w0 at hA hB hu ⊢
  obtain ⟨n0, hn0⟩ : ∃ n0, n0 = w.heap.size := ⟨_, rfl⟩
  have hle0 : w.heap.size ≤ n0 := by omega
  have hle1 : w.heap.size ≤ n0 + 1 := by omega
  rw [← hn0] at hA hB ⊢
  clear hn0
  have hne : n0 ≠ n0 + 1 := by omega
  obtain ⟨k0, k1, k2, k3, k4, k5, k6, f0, f1, f2, f3, f4, f5, f6⟩ := Box.c7 hA
  have c0 := hB.at 0 rfl
  have d0 := hB.fr 0 rfl
  go_wp2
  have hAA := (put7 hA (.int .u16 0) (.int .i64 0) (.bool false) (.slice none 0 0) (.bool false) (.int .u32 0) (.int .u32 0)).far hne.symm (o := 0) (.int .i64 4)
  have hBB := (far7 hB hne (.int .u16 0) (.int .i64 0) (.bool false) (.slice none 0 0) (.bool false) (.int .u32 0) (.int .u32 0)).set 0 (.int .i64 4)
  have huu := up_set (b := n0 + 1) (o := 0) (v := .int .i64 4) (ups7 (b := n0) hu hle0 (.int .u16 0) (.int .i64 0) (.bool false) (.slice none 0 0) (.bool false) (.int .u32 0) (.int .u32 0)) hle1
  generalize World.setCell _ ⟨n0 + 1, 0, none⟩ _ = W3 at hAA hBB huu ⊢
  clear k0 k1 k2 k3 k4 k5 k6 f0 f1 f2 f3 f4 f5 f6 c0 d0 hA hB hu
  obtain ⟨k0, k1, k2, k3, k4, k5, k6⟩ := Box.e7 hAA
  have c0 := hBB.at 0 rfl
  (try simp only [Exit.inBlock, Exit.then])
  refine bodyPost_ret (v := .tuple #[OA 0 0 false none 0 0 false 0 0, .int .i64 4]) ?_ rfl (DecZ.bad HD.out rfl huu)
  rw [results_cell_cell rfl]; go_simp
attribute [local go_sem] Oper.semAt_some
set_option maxHeartbeats 4000000 in
set_option maxRecDepth 100000 in
theorem decode_short (s : ByteArray) (w : World) (hl : s.size ≤ 40) :
    Calls Try.prog 11 #[.string s] w fun e_ w' => DecZ (L s) w e_ w' := by
  have i0 : ¬ (40 : Int) < (s.size : Int) := by omega
  have H4 := Lib.hid (show (L s).length ≤ 40 by rw [L_len]; omega)
  refine (callsIn_wide (n := 4)).1 ?_
  refine callsIn_of_wp_marks Try.func11 rfl trivial ?_ rfl
  simp only [Try.ntmps11, List.size_toArray, List.length_cons, List.length_nil, Nat.reduceAdd, Nat.reduceSub, Array.replicate_succ, Array.replicate_zero, List.push_toArray, List.append_toArray, List.nil_append, List.cons_append]
  gi_upto_region 1 with fail
  have hA := (Box.new w #[.int .u16 0, .int .i64 0, .bool false, .slice none 0 0, .bool false, .int .u32 0, .int .u32 0] 26).alloc (.cells #[.int .i64 0] 29)
  have hB := Box.new (w.alloc (.cells #[.int .u16 0, .int .i64 0, .bool false, .slice none 0 0, .bool false, .int .u32 0, .int .u32 0] 26)) #[.int .i64 0] 29
  rw [show (w.alloc (.cells #[.int .u16 0, .int .i64 0, .bool false, .slice none 0 0, .bool false, .int .u32 0, .int .u32 0] 26)).heap.size = w.heap.size + 1 by simp] at hB
  have hu : Up w ((w.alloc (.cells #[.int .u16 0, .int .i64 0, .bool false, .slice none 0 0, .bool false, .int .u32 0, .int .u32 0] 26)).alloc (.cells #[.int .i64 0] 29)) := up_al _ (up_al _ (Below.refl _ _))
  generalize ((w.alloc (.cells #[.int .u16 0, .int .i64 0, .bool false, .slice none 0 0, .bool false, .int .u32 0, .int .u32 0] 26)).alloc (.cells #[.int .i64 0] 29)) = w0 at hA hB hu ⊢
  obtain ⟨n0, hn0⟩ : ∃ n0, n0 = w.heap.size := ⟨_, rfl⟩
  have hle0 : w.heap.size ≤ n0 := by omega
  have hle1 : w.heap.size ≤ n0 + 1 := by omega
  rw [← hn0] at hA hB ⊢
  clear hn0
  have hne : n0 ≠ n0 + 1 := by omega
  gi_wp2_with fail
  refine ⟨trivial, ?_⟩
  refine (callsIn_wide.2 (noneC w0)).mono ?_
  rintro e_ w1 ⟨rfl, hv1⟩
  have hA1 := hA.up hv1
  have hB1 := hB.up hv1
  have hu1 := hu.on hv1
  clear hA hB hu hv1
  gi_upto_region 4 with fail
  have hO2 := Box.new w1 #[.int .u16 0, .int .i64 (-1), .bool false, .slice none 0 0, .bool false, .int .u32 0, .int .u32 0] 26
  have hA2 := hA1.alloc (.cells #[.int .u16 0, .int .i64 (-1), .bool false, .slice none 0 0, .bool false, .int .u32 0, .int .u32 0] 26)
  have hB2 := hB1.alloc (.cells #[.int .u16 0, .int .i64 (-1), .bool false, .slice none 0 0, .bool false, .int .u32 0, .int .u32 0] 26)
  have hu2 : Up w (w1.alloc (.cells #[.int .u16 0, .int .i64 (-1), .bool false, .slice none 0 0, .bool false, .int .u32 0, .int .u32 0] 26)) := up_al _ hu1
  have hlt1 := hB1.1
  generalize (w1.alloc (.cells #[.int .u16 0, .int .i64 (-1), .bool false, .slice none 0 0, .bool false, .int .u32 0, .int .u32 0] 26)) = w2 at hO2 hA2 hB2 hu2 ⊢
  have hle2 : w.heap.size ≤ w1.heap.size := hu1.size
  have hn1 : n0 + 1 < w1.heap.size := hlt1
  generalize w1.heap.size = n2 at hO2 hle2 hn1 ⊢
  clear hA1 hB1 hu1 hlt1
  gi_wp2_with fail
  refine ⟨trivial, ?_⟩
  refine (callsIn_wide.2 (optionsC s w2)).mono ?_
  rintro e_ w3 ⟨rfl, rfl⟩
  have hS3 := Box.new w2 #[.string s] 9
  have hO3 := hO2.alloc (.cells #[.string s] 9)
  have hA3 := hA2.alloc (.cells #[.string s] 9)
  have hB3 := hB2.alloc (.cells #[.string s] 9)
  have hu3 : Up w (w2.alloc (.cells #[.string s] 9)) := up_al _ hu2
  have hz3 : (w2.alloc (.cells #[.string s] 9)).heap.size = w2.heap.size + 1 := by simp
  have hlt3 := hO2.1
  generalize (w2.alloc (.cells #[.string s] 9)) = w3 at hS3 hO3 hA3 hB3 hu3 hz3 ⊢
  generalize w2.heap.size = n3 at hS3 hz3 hlt3 ⊢
  clear hO2 hA2 hB2 hu2
  have hX3 : n2 < w3.heap.size := by omega
  have hS3' : n3 < w3.heap.size := by omega
  have hne3 : n3 ≠ n2 := by omega
  have hle3 : w.heap.size ≤ w3.heap.size := hu3.size
  gi_wp2
  refine wpIn_rangeFunc_ownH rfl (by omega) (gf := 39) (lb := #[.pointer (some ⟨n3, 0, none⟩)]) rfl trivial (enters_of Try.func39 (by kernel_rfl) rfl)
    (optionsTells (fun p => p < s.size ∧ 2 ≤ nb (L s) p) n2 n3 s (by omega) (fun _ p _ h1 h2 => ⟨h1, h2⟩) w3 hS3' hX3 hne3 (hS3.at 0 rfl)) Kx.t (fun W l o o' _ h ho _ => Kx.b W l o o' h ho) (Below.refl _ _) (fun _ => rfl)
    (fun pre W => Mid (L s) w n2 n0 (n0 + 1) (ps pre) W)
    (fun c pre W => c = .ret ∧ Bad (L s) w n0 (n0 + 1) (ps pre) W)
    (mid_own _ _ _ _ _ _ hle3) (fun c => bad_own _ _ _ _ _ c hle3)
    ⟨OkL.nil_ _, ⟨none, 0, 0, hO3, rfl, (fun h => absurd rfl h), (fun ad h => by cases h), (fun _ => ⟨rfl, rfl⟩)⟩, hA3, hB3, hu3⟩
    (fun x a' W => ∃ Bx, n2 < Bx ∧ Box W Bx [.int .u8 (nb (L s) x.1 : Nat), .int .i64 (osz (L s) x.1 : Nat), .int .i64 ((x.1 + 2 : Nat) : Int), .string (tx (osay (L s) x.1))] ∧
      a' = { tmps := #[.string s, undef, .pointer (some ⟨n0, 0, none⟩), .pointer (some ⟨n0 + 1, 0, none⟩), .pointer (some ⟨n2, 0, none⟩), .pointer (some ⟨Bx, 0, none⟩), .string s, .int .i64 s.size, .bool false, undef, OA 0 (-1) false none 0 0 false 0 0, .string s, .func (.func 39) #[] #[.pointer (some ⟨n3, 0, none⟩)], pv (L s) x.1, undef, undef, undef, undef, undef, undef, undef, undef, undef, undef, undef, undef], defers := [] })
    (fun x a' s' W W' row h hg hr => by obtain ⟨Bx, h1, h2, h3⟩ := h; exact ⟨Bx, h1, Box.ck h2 (CK.of hg (fun r e => (hr r e).2)), h3⟩) ?assign ?body ?done ?stop
  case assign =>
    intro l pre x W K hM hK
    have hn2 : n2 < W.heap.size := by obtain ⟨A, n, c, ho⟩ := hM.ob; exact ho.box.1
    gi_wp2
    exact hK _ _ ((KeepsOthers.alloc _ _).from _) (Kx.up (up_al _ (Below.refl _ _))) (hM.upon (up_al _ (Below.refl _ _))) ⟨W.heap.size, hn2, Box.new _ _ _, rfl⟩
  case body =>
    rintro l pre x a' W hl ⟨r, hr⟩ hM ⟨Bx, hBx, hX, rfl⟩ hlen
    obtain ⟨p, hpl, hp2⟩ := x
    dsimp only at hX ⊢
    have hzb := osz_le (L s) p
    have hKb := nb_le (L s) p
    have hYS : (tx (osay (L s) p)).size = osz (L s) p - 2 := by rw [tx_size, osay_len]
    have HE : (lenOk (nb (L s) p) (osz (L s) p) && nzb (nb (L s) p) (L (tx (osay (L s) p)))) = fitb (L s) p := by rw [L_tx]; rfl
    have HF := Lib.hid (fun w => fitsC (nb (L s) p) hKb (osz (L s) p) (p + 2) (tx (osay (L s) p)) w hzb hYS)
    rw [HE] at HF
    obtain ⟨A, n, c, ho⟩ := hM.ob
    have HA := Lib.hid (fun w => amongC (nb (L s) p) hKb (osz (L s) p) (p + 2) (tx (osay (L s) p)) (fo (L s) (ps pre)).mss (fo (L s) (ps pre)).sc (fo (L s) (ps pre)).sk (fo (L s) (ps pre)).tm (fo (L s) (ps pre)).va (fo (L s) (ps pre)).ec A n c (fo (L s) (ps pre)).bl w ho.len)
    have HAE : amg ⟨(fo (L s) (ps pre)).mss, (fo (L s) (ps pre)).sc, (fo (L s) (ps pre)).sk, (fo (L s) (ps pre)).bl, (fo (L s) (ps pre)).tm, (fo (L s) (ps pre)).va, (fo (L s) (ps pre)).ec⟩ (nb (L s) p) = amg (fo (L s) (ps pre)) (nb (L s) p) := rfl
    rw [HAE] at HA
    have HR := Lib.hid (fun b o A n c w hO hf h5 => readC (nb (L s) p) (osz (L s) p) (p + 2) (tx (osay (L s) p)) b o A n c w hO hKb (by rw [HE]; exact hf) hYS h5)
    obtain ⟨K, hK⟩ : ∃ K, nb (L s) p = K := ⟨_, rfl⟩
    obtain ⟨Z, hZ⟩ : ∃ Z, osz (L s) p = Z := ⟨_, rfl⟩
    obtain ⟨Y, hY⟩ : ∃ Y, tx (osay (L s) p) = Y := ⟨_, rfl⟩
    have HPV : pv (L s) p = PV K Z (p + 2) Y := by unfold pv; rw [hK, hZ, hY]
    rw [HPV]
    rw [hK, hZ, hY] at HF HA HR hX
    have HY := Lib.hid hY
    have HK := Lib.hid hK
    clear HPV HAE HE hYS hKb hzb hY hZ hK
    have hx0 := hX.at 0 rfl; have hx1 := hX.at 1 rfl; have hx2 := hX.at 2 rfl; have hx3 := hX.at 3 rfl
    cases hf : fitb (L s) p with
    | false =>
      rw [hf] at HF
      gi_wp2_with fail
      refine ⟨trivial, ?_⟩
      refine (CallsIn.inRound l (callsIn_wide.2 (HF.out W))).mono ?_
      rintro e_ W1 ⟨rfl, hv1⟩
      have hM1 := hM.upon hv1
      have hA4 := hM1.r2
      have hB4 := hM1.r3
      have hu4 := hM1.up
      clear hx0 hx1 hx2 hx3
      obtain ⟨k0, k1, k2, k3, k4, k5, k6, f0, f1, f2, f3, f4, f5, f6⟩ := Box.c7 hA4
      have c0 := hB4.at 0 rfl
      have d0 := hB4.fr 0 rfl
      gi_wp2
      refine ⟨trivial, ?_⟩
      gi_wp2
      have hAA := (put7 hA4 (.int .u16 0) (.int .i64 0) (.bool false) (.slice none 0 0) (.bool false) (.int .u32 0) (.int .u32 0)).far hne.symm (o := 0) (.int .i64 70)
      have hBB := (far7 hB4 hne (.int .u16 0) (.int .i64 0) (.bool false) (.slice none 0 0) (.bool false) (.int .u32 0) (.int .u32 0)).set 0 (.int .i64 70)
      have huu := up_set (b := n0 + 1) (o := 0) (v := .int .i64 70) (ups7 (b := n0) hu4 hle0 (.int .u16 0) (.int .i64 0) (.bool false) (.slice none 0 0) (.bool false) (.int .u32 0) (.int .u32 0)) hle1
      have hkk := (kf7 W1 n0 w3.heap.size (.int .u16 0) (.int .i64 0) (.bool false) (.slice none 0 0) (.bool false) (.int .u32 0) (.int .u32 0)).trans ((KeepsOthers.setCell _ ⟨n0 + 1, 0, none⟩ (.int .i64 70)).from w3.heap.size)
      exact ⟨(kf_up hv1).trans hkk, rfl, ⟨⟨ps pre, p, by simp [ps], hM.ok, .inl hf⟩, hAA, hBB, huu⟩⟩
    | true =>
      rw [hf] at HF
      gi_wp2_with fail
      refine ⟨trivial, ?_⟩
      refine (CallsIn.inRound l (callsIn_wide.2 (HF.out W))).mono ?_
      rintro e_ W1 ⟨rfl, hv1⟩
      have hM1 := hM.upon hv1
      have ho1 := OB.up ho hv1
      have hX1 := hX.up hv1
      clear hx0 hx1 hx2 hx3
      have hx0 := hX1.at 0 rfl; have hx1 := hX1.at 1 rfl; have hx2 := hX1.at 2 rfl; have hx3 := hX1.at 3 rfl
      obtain ⟨m0, m1, m2, m3, m4, m5, m6⟩ := Box.e7 ho1.box
      gi_wp2_with fail
      refine ⟨trivial, ?_⟩
      refine (CallsIn.inRound l (callsIn_wide.2 (HA.out W1))).mono ?_
      rintro e_ W2 ⟨rfl, hv2⟩
      have hM2 := hM1.upon hv2
      have ho2 := OB.up ho1 hv2
      have hX2 := hX1.up hv2
      clear m0 m1 m2 m3 m4 m5 m6
      cases ha : amg (fo (L s) (ps pre)) K with
      | true =>
        have hA4 := hM2.r2
        have hB4 := hM2.r3
        have hu4 := hM2.up
        clear hx0 hx1 hx2 hx3
        obtain ⟨k0, k1, k2, k3, k4, k5, k6, f0, f1, f2, f3, f4, f5, f6⟩ := Box.c7 hA4
        have c0 := hB4.at 0 rfl
        have d0 := hB4.fr 0 rfl
        gi_wp2
        have hAA := (put7 hA4 (.int .u16 0) (.int .i64 0) (.bool false) (.slice none 0 0) (.bool false) (.int .u32 0) (.int .u32 0)).far hne.symm (o := 0) (.int .i64 70)
        have hBB := (far7 hB4 hne (.int .u16 0) (.int .i64 0) (.bool false) (.slice none 0 0) (.bool false) (.int .u32 0) (.int .u32 0)).set 0 (.int .i64 70)
        have huu := up_set (b := n0 + 1) (o := 0) (v := .int .i64 70) (ups7 (b := n0) hu4 hle0 (.int .u16 0) (.int .i64 0) (.bool false) (.slice none 0 0) (.bool false) (.int .u32 0) (.int .u32 0)) hle1
        have hkk := (kf7 W2 n0 w3.heap.size (.int .u16 0) (.int .i64 0) (.bool false) (.slice none 0 0) (.bool false) (.int .u32 0) (.int .u32 0)).trans ((KeepsOthers.setCell _ ⟨n0 + 1, 0, none⟩ (.int .i64 70)).from w3.heap.size)
        exact ⟨((kf_up hv1).trans (kf_up hv2)).trans hkk, rfl, ⟨⟨ps pre, p, by simp [ps], hM.ok, .inr (by rw [HK.out]; exact ha)⟩, hAA, hBB, huu⟩⟩
      | false =>
        clear hx0 hx1 hx2 hx3
        have hx0 := hX2.at 0 rfl; have hx1 := hX2.at 1 rfl; have hx2 := hX2.at 2 rfl; have hx3 := hX2.at 3 rfl
        have h5 : K = 5 → (fo (L s) (ps pre)).bl = [] := fun e => by
          subst e
          have : decide ((fo (L s) (ps pre)).bl ≠ []) = false := ha
          simpa using this
        have hfit := fit_at hf hp2
        have HP := Lib.hid (show put (fo (L s) (ps pre)) (K, L Y) = fo (L s) (ps pre ++ [p]) by
          rw [fo_snoc, ← HY.out, L_tx, hfit.2.2.1]; unfold itm; rw [HK.out])
        have HRR := Lib.hid (HR.out n2 _ A n c W2 ho2 hf h5)
        rw [HP.out] at HRR
        gi_wp2_with fail
        refine ⟨trivial, ?_⟩
        refine (CallsIn.inRound l (callsIn_wide.2 HRR.out)).mono ?_
        rintro e_ W3 ⟨⟨r', rfl⟩, hg3, A3, n4, c3, ho3⟩
        gi_wp2
        have hn02 : n0 ≠ n2 := by omega
        have hn12 : n0 + 1 ≠ n2 := by omega
        have hup := up_grown hM2.up hg3 hle2
        have hkf : KeepsFrom w3.heap.size W2 W3 := KeepsFrom.of_grownBy hg3 (fun j e => by cases e; exact hX3)
        refine ⟨((kf_up hv1).trans (kf_up hv2)).trans hkf, ((Kx.up hv1).t (Kx.up hv2)).t (Kx.of hg3), ?_⟩
        have hps : ps (pre ++ [⟨p, hpl, hp2⟩]) = ps pre ++ [p] := by simp [ps]
        show Mid _ _ _ _ _ (ps (pre ++ [⟨p, hpl, hp2⟩])) _
        rw [hps]
        exact ⟨hM.ok.snoc hp2 hf (by rw [HK.out]; exact amg_f hM.ok ha), ⟨A3, n4, c3, ho3⟩, Box.grown hM2.r2 hg3 hn02, Box.grown hM2.r3 hg3 hn12, hup⟩
  case done =>
    rintro D ys W hD hT hM hK
    have hT' : OTold (L s) (ps ys) := hT
    have hdec := Lib.hid (err_0 (dec_told hT' hM.ok) H4.out)
    obtain ⟨A, n, c, ho⟩ := hM.ob
    have hlen := ho.len; have hrd := ho.rd; have hfar := ho.far
    have hO4 := ho.box
    have hA4 := hM.r2
    have hB4 := hM.r3
    have hu4 := hM.up
    obtain ⟨o, hoo⟩ : ∃ o, fo (L s) (ps ys) = o := ⟨_, rfl⟩
    rw [hoo] at hO4 hdec hlen hrd
    clear ho hM hT hT' hoo
    obtain ⟨k0, k1, k2, k3, k4, k5, k6, f0, f1, f2, f3, f4, f5, f6⟩ := Box.c7 hA4
    obtain ⟨m0, m1, m2, m3, m4, m5, m6⟩ := Box.e7 hO4
    have c0 := hB4.at 0 rfl
    have d0 := hB4.fr 0 rfl
    gi_wp2
    have hAA := (put7 hA4 (.int .u16 (o.mss : Nat)) (.int .i64 o.sc) (.bool o.sk) (.slice A n c) (.bool o.tm) (.int .u32 (o.va : Nat)) (.int .u32 (o.ec : Nat))).far hne.symm (o := 0) (.int .i64 0)
    have hBB := (far7 hB4 hne (.int .u16 (o.mss : Nat)) (.int .i64 o.sc) (.bool o.sk) (.slice A n c) (.bool o.tm) (.int .u32 (o.va : Nat)) (.int .u32 (o.ec : Nat))).set 0 (.int .i64 0)
    have huu := up_set (b := n0 + 1) (o := 0) (v := .int .i64 0) (ups7 (b := n0) hu4 hle0 (.int .u16 (o.mss : Nat)) (.int .i64 o.sc) (.bool o.sk) (.slice A n c) (.bool o.tm) (.int .u32 (o.va : Nat)) (.int .u32 (o.ec : Nat))) hle1
    have hkk := (kf7 W n0 w3.heap.size (.int .u16 (o.mss : Nat)) (.int .i64 o.sc) (.bool o.sk) (.slice A n c) (.bool o.tm) (.int .u32 (o.va : Nat)) (.int .u32 (o.ec : Nat))).trans ((KeepsOthers.setCell _ ⟨n0 + 1, 0, none⟩ (.int .i64 0)).from w3.heap.size)
    have hrr := (hrd.grown (grown7 W n0 (.int .u16 (o.mss : Nat)) (.int .i64 o.sc) (.bool o.sk) (.slice A n c) (.bool o.tm) (.int .u32 (o.va : Nat)) (.int .u32 (o.ec : Nat))) (fun ad e => by have := hfar ad e; omega)).grown (grown_set _ (n0 + 1) 0 (.int .i64 0)) (fun ad e => by have := hfar ad e; omega)
    have hK9 := hkk.same D _ hD hK rfl
    clear k0 k1 k2 k3 k4 k5 k6 f0 f1 f2 f3 f4 f5 f6 m0 m1 m2 m3 m4 m5 m6 c0 d0 hkk hA4 hB4 hO4 hK hrd hu4
    generalize World.setCell _ ⟨n0 + 1, 0, none⟩ _ = W9 at hAA hBB huu hrr hK9 ⊢
    have hck := ck_put (.deferred none) hK9 rfl
    refine ⟨by simp, .inl ⟨_, _, rfl, run_takeDeferred hK9, ?_⟩⟩
    have hu9 := huu.trans (belowK_b (w := w) (Nat.le_refl _) W9 D _ (.deferred none) (by omega) hK9 rfl rfl)
    have hAA := Box.ck hAA hck
    have hBB := Box.ck hBB hck
    have hrr := RdB.ck hrr hck
    generalize W9.putObj D (.deferred none) = W10 at hAA hBB hrr hu9 ⊢
    obtain ⟨k0, k1, k2, k3, k4, k5, k6⟩ := Box.e7 hAA
    have c0 := hBB.at 0 rfl
    refine ⟨.tuple #[OA o.mss o.sc o.sk A n c o.tm o.va o.ec, .int .i64 0], ?_, ?_⟩
    · rw [results_cell_cell rfl]; go_simp
    · refine ⟨_, by rw [hdec.out.1]; rfl, ?_, hu9⟩
      rw [hdec.out.2]
      exact ⟨A, n, c, rfl, hlen, hrr⟩
  case stop =>
    rintro D c pre W hD hP ⟨rfl, hB⟩ hK
    have hP' : OPart (L s) (ps pre) := hP
    obtain ⟨q, p, hpq, hok, hbd⟩ := hB.bad
    rw [hpq] at hP'
    have HD := Lib.hid (err_70 (dec_part hP' hok hbd) H4.out)
    gi_wp2
    have hck := ck_put (.deferred none) hK rfl
    refine ⟨by simp, .inl ⟨_, _, rfl, run_takeDeferred hK, ?_⟩⟩
    have hu9 := hB.up.trans (belowK_b (w := w) (Nat.le_refl _) W D _ (.deferred none) (by omega) hK rfl rfl)
    have hAA := Box.ck hB.r2 hck
    have hBB := Box.ck hB.r3 hck
    generalize W.putObj D (.deferred none) = W10 at hAA hBB hu9 ⊢
    obtain ⟨k0, k1, k2, k3, k4, k5, k6⟩ := Box.e7 hAA
    have c0 := hBB.at 0 rfl
    refine ⟨.tuple #[OA 0 0 false none 0 0 false 0 0, .int .i64 70], ?_, DecZ.bad HD.out rfl hu9⟩
    rw [results_cell_cell rfl]; go_simp
theorem decC : DecC := fun s w hs => by
  by_cases h : 40 < s.size
  · exact decode_long s w hs h
  · exact decode_short s w (by omega)
end Go.Proofs.Ytdlcglkeinlimaa.op
