/- B H A: contracts, part 15. Condition: as each says. -/
import Derived.Test.YtafckmbgefbonaaKBHA14
set_option linter.unusedVariables false
set_option linter.unusedSimpArgs false
namespace Go.Proofs.Ytafckmbgefbonaa.op
open Go.RowKit Go.Shelf Go.Lib Go.Proofs.Ytafckmbgefbonaa.sm Go.Proofs.Ytafckmbgefbonaa.nb Go.Proofs.Ytafckmbgefbonaa.om
set_option linter.unusedVariables false

section
variable {ops : Array Oper} {rest : List Oper} {o : Oper} {a : Act} {Q : Exit → Act → World → Prop} {w : World} {B : Nat} {v : Value}
theorem appL {ps : List UInt8} (s x : Operand) (g : Nat) (cs : List UInt8) (n : Nat) (hl : cs.length = n) (hown : OwnB w B v ps) (hgd : o.guard = none) (ho : o.op = .call { callee := .builtin .append, args := #[s, x], argTypes := #[44, 44] })
    (hs : a.eval s = v) (hx : a.eval x = .slice (some ⟨g, 0, none⟩) n n) (hc : ∀ j u, (BC cs)[j]? = some u → w.cell? ⟨g, j, none⟩ = some u) (hn : ps.length < 1099511627776) (hm : n < 1099511627776) (hB : B ≤ w.heap.size)
    (h : ∀ v' w', OwnB w' B v' (ps ++ cs) → Below B w w' → wpList Try.prog ops Q rest (a.put o.dst v') w') : wpList Try.prog ops Q (o :: rest) a w := by
  obtain ⟨i0, hi, hz0, hz1, hz2⟩ := info_parts info5
  refine wpList_append_own w hgd s x 44 ho B 5 i0 (.int .u8 0) 1 1 Try.underlying44 hi hz0 hz1 hz2 rfl (by decide) v ps.length _ hs hown ⟨g, 0, none⟩ n n (BC cs) hx (by simp [BC, Lib.byteCells, hl]) ?_ ?_ (by unfold maxLen; omega) (by omega) hB ?_
  · intro j u' hj
    rw [show (⟨g, 0, none⟩ : Addr).add j = ⟨g, j, none⟩ by unfold Addr.add; split <;> simp_all]
    exact hc j u' hj
  · intro u' hu; simp [BC, Lib.byteCells] at hu; obtain ⟨c, _, rfl⟩ := hu; rfl
  · intro v' w' ho' hg _
    exact h v' w' (by unfold OwnB; rw [show BC (ps ++ cs) = BC ps ++ BC cs by simp [BC, Lib.byteCells], List.length_append, hl]; exact ho') ((Below.refl B w).grown hg hB (fun k hk => (hown.lt k hk).1))
end
theorem OwnB.below {w w' : World} {B : Nat} {v : Value} {xs : List UInt8} (h : OwnB w B v xs) (hb : Up w w') : OwnB w' B v xs := kept_below h hb
theorem OwnB.not_at {w : World} {B X : Nat} {v : Value} {xs : List UInt8} {cs : Array Value} {T : TypeId} {fr : Nat × Nat} (h : OwnB w B v xs) (hX : w.heap[X]? = some (.cells cs T fr)) (hT : T ≠ 5) : some X ≠ v.ownBlock := by
  rcases h.2 with ⟨rfl, _⟩ | ⟨g, cap, cur, rfl, _, hg, _⟩
  · simp [Value.ownBlock]
  · intro e
    obtain rfl : X = g := by simpa [Value.ownBlock] using e
    rw [hX] at hg
    cases hg
    exact hT rfl
theorem kept_al {w : World} {X : Nat} {o o' : Obj} (h : w.heap[X]? = some o) : (w.alloc o').heap[X]? = some o := (Below.heap_alloc w o' X (Array.getElem?_eq_some_iff.1 h).1).trans h
theorem app1k {ops : Array Oper} {rest : List Oper} {o : Oper} {a : Act} {Q : Exit → Act → World → Prop} {w : World} {B : Nat} {v : Value} {ps : List UInt8} {X : Nat} {cs : Array Value} {T : TypeId} {fr : Nat × Nat} (hX : w.heap[X]? = some (.cells cs T fr)) (hT : T ≠ 5) (s x : Operand) (g : Nat) (u : Int) (c : UInt8) (hu : u = (c.toNat : Int)) (hown : OwnB w B v ps) (hgd : o.guard = none) (ho : o.op = .call { callee := .builtin .append, args := #[s, x], argTypes := #[44, 44] })
    (hs : a.eval s = v) (hx : a.eval x = .slice (some ⟨g, 0, none⟩) 1 1) (hc : w.cell? ⟨g, 0, none⟩ = some (.int .u8 u)) (hn : ps.length < 1099511627776) (hB : B ≤ w.heap.size)
    (h : ∀ v' w', OwnB w' B v' (ps ++ [c]) → Below B w w' → w'.heap[X]? = some (.cells cs T fr) → wpList Try.prog ops Q rest (a.put o.dst v') w') : wpList Try.prog ops Q (o :: rest) a w := by
  subst hu
  obtain ⟨i0, hi, hz0, hz1, hz2⟩ := info_parts info5
  refine wpList_append_own w hgd s x 44 ho B 5 i0 (.int .u8 0) 1 1 Try.underlying44 hi hz0 hz1 hz2 rfl (by decide) v ps.length _ hs hown ⟨g, 0, none⟩ 1 1 [.int .u8 (c.toNat : Int)] hx rfl ?_ ?_ (by unfold maxLen; omega) (by omega) hB ?_
  · intro j u' hj
    match j, hj with
    | 0, hj => simp at hj; subst hj; exact hc
  · intro u' hu; simp at hu; subst hu; rfl
  · intro v' w' ho' hg _
    exact h v' w' (by unfold OwnB; rw [show BC (ps ++ [c]) = BC ps ++ [.int .u8 (c.toNat : Int)] by simp [BC, Lib.byteCells], List.length_append]; exact ho') ((Below.refl B w).grown hg hB (fun k hk => (hown.lt k hk).1)) ((hg.block X (Array.getElem?_eq_some_iff.1 hX).1 (OwnB.not_at hown hX hT)).trans hX)
theorem two_cells {w : World} {X : Nat} {x y : Value} {T : TypeId} (h : w.heap[X]? = some (.cells #[x, y] T (0, 0))) : w.cell? ⟨X, 0, none⟩ = some x ∧ w.cell? ⟨X, 1, none⟩ = some y := by
  simp [World.cell?, h]
theorem OwnB.mono {w : World} {B B' : Nat} {v : Value} {xs : List UInt8} (h : OwnB w B v xs) (hB : B' ≤ B) : OwnB w B' v xs :=
  ⟨h.1, h.2.imp id fun ⟨g, cap, cur, h1, h2, h3⟩ => ⟨g, cap, cur, h1, Nat.le_trans hB h2, h3⟩⟩
set_option maxHeartbeats 1000000 in
set_option maxRecDepth 100000 in
theorem lay32k (X : Nat) (cs : Array Value) (fr : Nat × Nat) (B : Nat) (v : Value) (xs : List UInt8) (n : Nat) (w : World) (hn : n ≤ 4294967295) (hown : OwnB w B v xs) (hx : xs.length ≤ 1024) (hB : B ≤ w.heap.size) (hXw : w.heap[X]? = some (.cells cs 109 fr)) :
    Calls Try.prog 54 #[v, .int .u32 n] w fun e w' => (∃ v', e = .returned v' ∧ OwnB w' B v' (xs ++ B32 n)) ∧ Below B w w' ∧ w'.heap[X]? = some (.cells cs 109 fr) := by
  have hq := q_le n hn
  have n3 : (n : Int) / 16777216 = ((oct (q3 n)).toNat : Int) := by rw [oct_nat hq.1]; unfold q3; omega
  have n2 : ((n : Int) / 65536) % 256 = ((oct (q2 n)).toNat : Int) := by rw [oct_nat hq.2.1]; unfold q2; omega
  have n1 : ((n : Int) / 256) % 256 = ((oct (q1 n)).toNat : Int) := by rw [oct_nat hq.2.2.1]; unfold q1; omega
  have n0 : (n : Int) % 256 = ((oct (q0 n)).toNat : Int) := by rw [oct_nat hq.2.2.2]; unfold q0; omega
  have N3 := Lib.hid n3
  have N2 := Lib.hid n2
  have N1 := Lib.hid n1
  have N0 := Lib.hid n0
  clear n3 n2 n1 n0 hq
  go_enter Try.func54, Try.ntmps54
  go_wp2_with (go_at_call 48; refine (size32 w).mono ?_; rintro e w' ⟨rfl, rfl⟩)
  go_loopw [0, 5] (fun s l wr => ∃ k : Nat, k ≤ 4 ∧ l = .int .i64 (3 - (k : Int)) ∧ OwnB wr B s (xs ++ (B32 n).take k) ∧ Below B w wr ∧ wr.heap[X]? = some (.cells cs 109 fr)) (fun _ l _ => ((RowKit.intOf l) + 1).toNat)
  case atStart => exact ⟨0, by omega, rfl, by simpa using hown, Below.refl _ _, hXw⟩
  case round =>
    obtain ⟨k, hk, rfl, ho, hb, hXr⟩ := hrel
    clear hXw
    have hB1 := Nat.le_trans hB hb.size
    rcases (by omega : k = 0 ∨ k = 1 ∨ k = 2 ∨ k = 3 ∨ k = 4) with rfl | rfl | rfl | rfl | rfl
    · go_wp2_with (at_builtin; refine app1k (kept_al hXr) (by decide) (.tmp 12) (.tmp 18) _ _ (oct (q3 n)) N3.out (ho.up ((Below.refl _ _).alloc (Nat.le_refl _) _)) rfl rfl rfl rfl (by go_simp) (by simp; omega) (by simp; omega) ?_; intro v1 w1 hown1 hb1 hX1; have hb2 := (hb.alloc hB1 _).trans hb1)
      go_roundw
      case rel => exact ⟨1, by omega, by go_num, by simpa [B32] using hown1, hb2, hX1⟩
      case measure => simp [RowKit.intOf]
    · go_wp2_with (at_builtin; refine app1k (kept_al hXr) (by decide) (.tmp 12) (.tmp 18) _ _ (oct (q2 n)) N2.out (ho.up ((Below.refl _ _).alloc (Nat.le_refl _) _)) rfl rfl rfl rfl (by go_simp) (by simp [B32]; omega) (by simp; omega) ?_; intro v1 w1 hown1 hb1 hX1; have hb2 := (hb.alloc hB1 _).trans hb1)
      go_roundw
      case rel => exact ⟨2, by omega, by go_num, by simpa [B32] using hown1, hb2, hX1⟩
      case measure => simp [RowKit.intOf]
    · go_wp2_with (at_builtin; refine app1k (kept_al hXr) (by decide) (.tmp 12) (.tmp 18) _ _ (oct (q1 n)) N1.out (ho.up ((Below.refl _ _).alloc (Nat.le_refl _) _)) rfl rfl rfl rfl (by go_simp) (by simp [B32]; omega) (by simp; omega) ?_; intro v1 w1 hown1 hb1 hX1; have hb2 := (hb.alloc hB1 _).trans hb1)
      go_roundw
      case rel => exact ⟨3, by omega, by go_num, by simpa [B32] using hown1, hb2, hX1⟩
      case measure => simp [RowKit.intOf]
    · go_wp2_with (at_builtin; refine app1k (kept_al hXr) (by decide) (.tmp 12) (.tmp 18) _ _ (oct (q0 n)) N0.out (ho.up ((Below.refl _ _).alloc (Nat.le_refl _) _)) rfl rfl rfl rfl (by go_simp) (by simp [B32]; omega) (by simp; omega) ?_; intro v1 w1 hown1 hb1 hX1; have hb2 := (hb.alloc hB1 _).trans hb1)
      go_roundw
      case rel => exact ⟨4, by omega, by go_num, by simpa [B32] using hown1, hb2, hX1⟩
      case measure => simp [RowKit.intOf]
    · go_wp2
      go_ret
      exact ⟨⟨_, rfl, by simpa [B32] using ho⟩, hb, hXr⟩

set_option maxHeartbeats 4000000 in
set_option maxRecDepth 100000 in
theorem laidC (m : Nat) (s : Int) (k t : Bool) (v e : Nat) (A : Option Addr) (n c : Nat) (b : List (Nat × Nat)) (w : World) (hw : Wf ⟨m, s, k, b, t, v, e⟩) (hs1 : -1 ≤ s) (hs : s ≤ 14) (hn : b.length = n) (hb4 : n ≤ 4) (hr : RdB w A b) :
    Calls Try.prog 34 #[OA m s k A n c t v e] w fun e_ w' => (∃ v', e_ = .returned v' ∧ OwnB w' w.heap.size v' (raw ⟨m, s, k, b, t, v, e⟩)) ∧ Up w w' := by
  obtain ⟨hm, hbl, hv, he⟩ := hw
  dsimp only at hm hbl hv he
  obtain ⟨a1, h1⟩ : ∃ a, a = rMss ⟨m, s, k, b, t, v, e⟩ := ⟨_, rfl⟩
  obtain ⟨a2, h2⟩ : ∃ a, a = rSc ⟨m, s, k, b, t, v, e⟩ := ⟨_, rfl⟩
  obtain ⟨a3, h3⟩ : ∃ a, a = rSk ⟨m, s, k, b, t, v, e⟩ := ⟨_, rfl⟩
  obtain ⟨a4, h4⟩ : ∃ a, a = rTm ⟨m, s, k, b, t, v, e⟩ := ⟨_, rfl⟩
  obtain ⟨a5, h5⟩ : ∃ a, a = rBl ⟨m, s, k, b, t, v, e⟩ := ⟨_, rfl⟩
  have l1 : a1.length ≤ 4 := by rw [h1, rMss_len]; split <;> omega
  have l2 : a2.length ≤ 4 := by rw [h2, rSc_len]; split <;> omega
  have l3 : a3.length ≤ 4 := by rw [h3, rSk_len]; split <;> omega
  have l4 : a4.length ≤ 12 := by rw [h4, rTm_len]; split <;> omega
  have HR : Hid (a1 ++ (a2 ++ (a3 ++ (a4 ++ a5))) = raw ⟨m, s, k, b, t, v, e⟩) := by unfold Hid raw; rw [h1, h2, h3, h4, h5]
  have H1 := Lib.hid h1; have H2 := Lib.hid h2; have H3 := Lib.hid h3; have H4 := Lib.hid h4; have H5 := Lib.hid h5
  have HB := Lib.hid hbl
  clear h1 h2 h3 h4 h5 hbl
  go_enter Try.func34, Try.ntmps34
  go_upto_region 1 with fail
  have U0 : Up w (w.alloc (.cells #[.int .u16 m, .int .i64 s, .bool k, .slice A n c, .bool t, .int .u32 v, .int .u32 e] 28)) := up_al _ (Below.refl _ _)
  have A0 := Box.new w #[.int .u16 m, .int .i64 s, .bool k, .slice A n c, .bool t, .int .u32 v, .int .u32 e] 28
  generalize (w.alloc (.cells #[.int .u16 m, .int .i64 s, .bool k, .slice A n c, .bool t, .int .u32 v, .int .u32 e] 28)) = w0 at U0 A0 ⊢
  have hBw : w.heap.size ≤ w0.heap.size := U0.size
  have hr0 := hr.up U0
  clear hr
  obtain ⟨B, hBe⟩ : ∃ B, w.heap.size = B := ⟨_, rfl⟩
  obtain ⟨n0, hn0⟩ : ∃ n0, n0 = w.heap.size := ⟨_, rfl⟩
  rw [← hn0] at A0 ⊢
  obtain ⟨D, hD⟩ : ∃ D, D = w0.heap.size := ⟨_, rfl⟩
  have hzw0 : D ≤ w0.heap.size := Nat.le_of_eq hD
  have hD1 : n0 < D := by rw [hD]; exact A0.1
  have hD2 : w.heap.size ≤ D := by omega
  clear hn0
  obtain ⟨k0, k1, k2, k3, k4, k5, k6⟩ := Box.e7 A0
  go_upto_region 2 with fail
  go_upto_if 8 with fail
  go_cut [3] (fun x wc => OwnB wc D x a1 ∧ Below D w0 wc)
  case first =>
    by_cases c0 : m = 0
    · subst c0
      go_wp2_with fail
      go_meet
      exact ⟨by rw [H1.out]; exact OwnB.nil_ _ _, Below.refl _ _⟩
    · have i0 : ¬ (m : Int) = 0 := by omega
      go_wp2_with (at_builtin; refine appL (.tmp 9) (.tmp 10) _ [2, 4] 2 rfl ((OwnB.nil_ w0 D).up (up_al _ (Below.refl _ _))) rfl rfl rfl rfl (fun j u hj => (Box.new _ _ _).at j hj) (by decide) (by decide) (by rw [World.size_alloc]; omega) ?_; intro v1 w1 hO1 hb10; have hb1 := ((Below.refl D w0).alloc hzw0 _).trans hb10; have A1 := A0.below hb1 hD1; have hzw1 : D ≤ w1.heap.size := Nat.le_trans hzw0 hb1.size; clear k0 k1 k2 k3 k4 k5 k6; obtain ⟨k0, k1, k2, k3, k4, k5, k6⟩ := Box.e7 A1)
      refine (lay16 D _ _ m w1 (by omega) hO1 (by decide) hzw1).mono ?_
      rintro e_ w2 ⟨⟨v2, rfl, hO2⟩, hb2⟩
      go_wp2
      go_meet
      exact ⟨by rw [H1.out, show rMss ⟨m, s, k, b, t, v, e⟩ = 2 :: 4 :: B16 m from if_neg c0]; exact hO2, hb1.trans hb2⟩
  case rest =>
  obtain ⟨O1, U1⟩ := hcut
  have A1 := A0.below U1 hD1
  have hzwc : D ≤ wc.heap.size := Nat.le_trans hzw0 U1.size
  clear k0 k1 k2 k3 k4 k5 k6
  obtain ⟨k0, k1, k2, k3, k4, k5, k6⟩ := Box.e7 A1
  go_upto_if 18 with fail
  go_cut [3] (fun x w3 => OwnB w3 D x (a1 ++ a2) ∧ Below D w0 w3)
  case first =>
    by_cases c0 : s = -1
    · subst c0
      have HQ := Lib.hid (show rSc ⟨m, -1, k, b, t, v, e⟩ = [] from if_neg (show ¬ (0 : Int) ≤ -1 by decide))
      go_wp2_with fail
      go_meet
      exact ⟨by rw [H2.out, HQ.out, List.append_nil]; exact O1, U1⟩
    · obtain ⟨q, rfl⟩ := Int.eq_ofNat_of_zero_le (show 0 ≤ s by omega)
      have i0 : ¬ (q : Int) = -1 := by omega
      have q8 : IntKind.u8.wrap (q : Int) = (q : Int) := by rw [IntKind.wrap_u8]; omega
      go_wp2_with (at_builtin; refine appL (.tmp 19) (.tmp 20) _ [1, 3, 3] 3 rfl (O1.up (up_al _ (Below.refl _ _))) rfl rfl rfl rfl (fun j u hj => (Box.new _ _ _).at j hj) (by omega) (by decide) (by rw [World.size_alloc]; omega) ?_; intro v4 w4 hO4 hb40; have hb4 := ((Below.refl D wc).alloc hzwc _).trans hb40; have A4 := A1.below hb4 hD1; have hzw4 : D ≤ w4.heap.size := Nat.le_trans hzwc hb4.size; clear k0 k1 k2 k3 k4 k5 k6; obtain ⟨k0, k1, k2, k3, k4, k5, k6⟩ := Box.e7 A4)
      refine (lay8 D _ _ q w4 (by omega) hO4 (by rw [List.length_append]; simp; omega) hzw4).mono ?_
      rintro e_ w5 ⟨⟨v5, rfl, hO5⟩, hb5⟩
      go_wp2
      go_meet
      exact ⟨by rw [H2.out, show rSc ⟨m, (q : Nat), k, b, t, v, e⟩ = [1, 3, 3] ++ [oct q] from if_pos (show (0 : Int) ≤ (q : Int) by omega), ← List.append_assoc]; exact hO5, U1.trans (hb4.trans hb5)⟩
  case rest =>
  obtain ⟨O3, U3⟩ := hcut
  clear k0 k1 k2 k3 k4 k5 k6 A1 U1 O1 hzwc
  have A3 := A0.below U3 hD1
  have hzwc : D ≤ wc.heap.size := Nat.le_trans hzw0 U3.size
  obtain ⟨k0, k1, k2, k3, k4, k5, k6⟩ := Box.e7 A3
  go_upto_if 28 with fail
  go_cut [3] (fun x w6 => OwnB w6 D x (a1 ++ a2 ++ a3) ∧ Below D w0 w6)
  case first =>
    cases k
    · go_wp2_with fail
      go_meet
      exact ⟨by rw [H3.out, show rSk ⟨m, s, false, b, t, v, e⟩ = [] from rfl, List.append_nil]; exact O3, U3⟩
    · go_wp2_with (at_builtin; refine appL (.tmp 29) (.tmp 30) _ [1, 1, 4, 2] 4 rfl (O3.up (up_al _ (Below.refl _ _))) rfl rfl rfl rfl (fun j u hj => (Box.new _ _ _).at j hj) (by rw [List.length_append]; omega) (by decide) (by rw [World.size_alloc]; omega) ?_; intro v7 w7 hO7 hb70; have hb7 := ((Below.refl D wc).alloc hzwc _).trans hb70; have A7 := A3.below hb7 hD1; have hzw7 : D ≤ w7.heap.size := Nat.le_trans hzwc hb7.size; clear k0 k1 k2 k3 k4 k5 k6; obtain ⟨k0, k1, k2, k3, k4, k5, k6⟩ := Box.e7 A7)
      go_meet
      exact ⟨by rw [H3.out]; exact hO7, U3.trans hb7⟩
  case rest =>
  obtain ⟨O4, U4⟩ := hcut
  clear k0 k1 k2 k3 k4 k5 k6 A3 U3 O3 hzwc
  have A4 := A0.below U4 hD1
  have hzwc : D ≤ wc.heap.size := Nat.le_trans hzw0 U4.size
  obtain ⟨k0, k1, k2, k3, k4, k5, k6⟩ := Box.e7 A4
  go_upto_if 33 with fail
  go_cut [3] (fun x w8 => OwnB w8 D x (a1 ++ a2 ++ a3 ++ a4) ∧ Below D w0 w8)
  case first =>
    cases t
    · go_wp2_with fail
      go_meet
      exact ⟨by rw [H4.out, show rTm ⟨m, s, k, b, false, v, e⟩ = [] from rfl, List.append_nil]; exact O4, U4⟩
    · go_wp2_with (at_builtin; refine appL (.tmp 34) (.tmp 35) _ [1, 1, 8, 10] 4 rfl (O4.up (up_al _ (Below.refl _ _))) rfl rfl rfl rfl (fun j u hj => (Box.new _ _ _).at j hj) (by rw [List.length_append, List.length_append]; omega) (by decide) (by rw [World.size_alloc]; omega) ?_; intro v9 w9 hO9 hb90; have hb9 := ((Below.refl D wc).alloc hzwc _).trans hb90; have A9 := A4.below hb9 hD1; have hzw9 : D ≤ w9.heap.size := Nat.le_trans hzwc hb9.size; clear k0 k1 k2 k3 k4 k5 k6; obtain ⟨k0, k1, k2, k3, k4, k5, k6⟩ := Box.e7 A9)
      have hv' : v ≤ 4294967295 := by unfold M32 at hv; omega
      have he' : e ≤ 4294967295 := by unfold M32 at he; omega
      go_upto_region 12 with fail
      go_region_law (go_simp; go_at_call 54; refine (lay32 D _ _ _ _ (by first | exact hv' | exact he') (by first | exact hOA | exact hO9.up (up_dr (Below.refl _ _))) (by simp only [List.length_append, B32, List.length_cons, List.length_nil]; omega) (by first | exact hzA | exact hzw9)).mono ?_; rintro e_ wA ⟨⟨vA, rfl, hOA⟩, hbX⟩; have hbA : Below D w9 wA := (by first | exact hbA.trans hbX | exact (Below.refl D w9).drew.trans hbX); have hzA : D ≤ wA.heap.size := Nat.le_trans hzw9 hbA.size; have AA := A9.below hbA hD1; obtain ⟨k0, k1, k2, k3, k4, k5, k6⟩ := Box.e7 AA)
      all_goals
        go_wp2
        go_meet
        exact ⟨by rw [H4.out, show rTm ⟨m, s, k, b, true, v, e⟩ = [1, 1, 8, 10] ++ (B32 v ++ B32 e) from rfl]; simpa only [List.append_assoc] using hOA, U4.trans (hb9.trans hbA)⟩
  case rest =>
  obtain ⟨O5, U5⟩ := hcut
  clear k0 k1 k2 k3 k4 k5 k6 A4 U4 O4 hzwc
  have A5 := A0.below U5 hD1
  have hzwc : D ≤ wc.heap.size := Nat.le_trans hzw0 U5.size
  obtain ⟨k0, k1, k2, k3, k4, k5, k6⟩ := Box.e7 A5
  obtain ⟨hd, hhd⟩ : ∃ hd : List UInt8, hd = if n = 0 then [] else [1, 1, 5] ++ [oct (2 + 8 * n)] := ⟨_, rfl⟩
  have lhd : hd.length ≤ 4 := by rw [hhd]; split <;> simp
  have HF : Hid (a1 ++ a2 ++ a3 ++ a4 ++ hd ++ flat b = raw ⟨m, s, k, b, t, v, e⟩) := by
    unfold Hid
    rw [← HR.out, H5.out, hhd]
    unfold rBl
    dsimp only
    by_cases c0 : n = 0
    · have hb0 : b = [] := List.eq_nil_of_length_eq_zero (by omega)
      subst hb0
      rw [if_pos c0, if_pos rfl]
      simp [flat]
    · rw [if_neg c0, if_neg (by intro h; subst h; exact c0 hn.symm), hn]
      simp only [List.append_assoc, List.cons_append, List.nil_append]
  have HH := Lib.hid hhd
  clear hhd
  go_upto_if 47 with fail
  go_cut [3] (fun x w8 => OwnB w8 D x (a1 ++ a2 ++ a3 ++ a4 ++ hd) ∧ Below D w0 w8)
  case first =>
    by_cases c0 : n = 0
    · have i0 : ¬ (0 : Int) < (n : Int) := by omega
      have C0 := Lib.hid c0
      clear c0
      go_wp2_with fail
      go_meet
      exact ⟨by rw [HH.out, if_pos C0.out, List.append_nil]; exact O5, U5⟩
    · have i0 : (0 : Int) < (n : Int) := by omega
      have q1 : IntKind.i64.wrap (8 * (n : Int)) = 8 * (n : Int) := IntWalk.i64_in _ (by omega)
      have q2 : IntKind.i64.wrap (2 + 8 * (n : Int)) = 2 + 8 * (n : Int) := IntWalk.i64_in _ (by omega)
      obtain ⟨q, hq⟩ : ∃ q : Nat, q = 2 + 8 * n := ⟨_, rfl⟩
      have q3 : IntKind.u8.wrap (2 + 8 * (n : Int)) = (q : Int) := by rw [IntKind.wrap_u8]; omega
      have hq255 : q ≤ 255 := by omega
      have HQ := Lib.hid hq
      clear hq
      go_wp2_with (at_builtin; refine appL (.tmp 48) (.tmp 49) _ [1, 1, 5] 3 rfl (O5.up (up_al _ (Below.refl _ _))) rfl rfl rfl rfl (fun j u hj => (Box.new _ _ _).at j hj) (by rw [List.length_append, List.length_append, List.length_append]; omega) (by decide) (by rw [World.size_alloc]; omega) ?_; intro v10 w10 hO10 hb100; have hb10 := ((Below.refl D wc).alloc hzwc _).trans hb100; have A10 := A5.below hb10 hD1; have hzw10 : D ≤ w10.heap.size := Nat.le_trans hzwc hb10.size; clear k0 k1 k2 k3 k4 k5 k6; obtain ⟨k0, k1, k2, k3, k4, k5, k6⟩ := Box.e7 A10)
      refine (lay8 D _ _ q w10 hq255 hO10 (by rw [List.length_append, List.length_append, List.length_append, List.length_append]; simp only [List.length_cons, List.length_nil]; omega) hzw10).mono ?_
      rintro e_ w11 ⟨⟨v11, rfl, hO11⟩, hb11⟩
      go_wp2
      go_meet
      exact ⟨by rw [HH.out, if_neg c0, ← HQ.out, ← List.append_assoc]; exact hO11, U5.trans (hb10.trans hb11)⟩
  case rest =>
  obtain ⟨O6, U6⟩ := hcut
  clear k0 k1 k2 k3 k4 k5 k6 A5 U5 O5 hzwc
  have A6 := A0.below U6 hD1
  have hzwc : D ≤ wc.heap.size := Nat.le_trans hzw0 U6.size
  obtain ⟨k0, k1, k2, k3, k4, k5, k6⟩ := Box.e7 A6
  have hP : (a1 ++ a2 ++ a3 ++ a4 ++ hd).length ≤ 28 := by simp only [List.length_append]; omega
  generalize a1 ++ a2 ++ a3 ++ a4 ++ hd = P at HF hP O6
  have hr6 := (hr0.below U6 (by omega))
  have HN := Lib.hid hn
  clear l1 l2 l3 l4 lhd HR H1 H2 H3 H4 H5 HH A0
  go_wp2_with fail
  go_loopw [3, 62] (fun x i wr => ∃ j : Nat, j ≤ n ∧ i = .int .i64 j ∧ OwnB wr D x (P ++ flat (b.take j)) ∧ Below D w0 wr) (fun _ i _ => n - (RowKit.intOf i).toNat)
  case atStart => exact ⟨0, Nat.zero_le _, rfl, by show OwnB _ _ _ (P ++ []); rw [List.append_nil]; exact O6, U6⟩
  case round =>
    obtain ⟨j, hj, rfl, hO, hb⟩ := hrel
    have hzr : D ≤ wr.heap.size := Nat.le_trans hzw0 hb.size
    by_cases hlt : j < n
    · obtain ⟨g, off, hA, hg, x1, x2, c1, c2, hx⟩ := (hr0.below hb (by omega)).at_ (k := j) (by rw [HN.out]; exact hlt)
      subst hA
      have hxm := HB.out (x1, x2) (List.mem_of_getElem? hx.out)
      have hx1 : x1 ≤ 4294967295 := by have := hxm.1; unfold M32 at this; dsimp only at this; omega
      have hx2 : x2 ≤ 4294967295 := by have := hxm.2; unfold M32 at this; dsimp only at this; omega
      have HT := Lib.hid (flat_take b j x1 x2 hx.out)
      have lX : P.length + (flat (b.take j)).length ≤ 60 := by rw [flat_len, List.length_take]; omega
      generalize flat (b.take j) = FJ at hO HT lX
      clear hxm
      go_upto_region 19 with fail
      have hO8 := hO.up (up_al (.cells #[.int .u32 x1, .int .u32 x2] 109) (Below.refl _ _))
      have hX8 := World.alloc_heap_new wr (.cells #[.int .u32 x1, .int .u32 x2] 109)
      have hb8 := hb.alloc hzr (.cells #[.int .u32 x1, .int .u32 x2] 109)
      have hz8 : D ≤ (wr.alloc (.cells #[.int .u32 x1, .int .u32 x2] 109)).heap.size := by rw [World.size_alloc]; omega
      generalize (wr.alloc (.cells #[.int .u32 x1, .int .u32 x2] 109)) = w8 at hO8 hX8 hb8 hz8 ⊢
      generalize wr.heap.size = nx at hX8 ⊢
      obtain ⟨y0, y1⟩ := two_cells hX8
      go_region_law (go_simp; go_at_call 54; refine (lay32k nx #[.int .u32 x1, .int .u32 x2] (0, 0) D _ _ _ _ (by first | exact hx1 | exact hx2) (by first | exact hOA | exact hO8.up (up_dr (Below.refl _ _))) (by simp only [List.length_append, B32, List.length_cons, List.length_nil]; omega) (by first | exact hzA | exact hz8) (by first | exact hXA | exact hX8)).mono ?_; rintro e_ wA ⟨⟨vA, rfl, hOA⟩, hbX, hXA⟩; have hbA : Below D w8 wA := (by first | exact hbA.trans hbX | exact (Below.refl D w8).drew.trans hbX); have hzA : D ≤ wA.heap.size := Nat.le_trans hz8 hbA.size; obtain ⟨y0, y1⟩ := two_cells hXA)
      all_goals
        go_wp2
        go_roundw
        case rel => exact ⟨j + 1, by omega, by go_num, by rw [HT.out]; simpa only [List.append_assoc] using hOA, hb8.trans hbA⟩
        case measure => simp [RowKit.intOf]; omega
    · obtain rfl : j = n := by omega
      have HT : Hid (P ++ flat (b.take j) = raw ⟨m, s, k, b, t, v, e⟩) := by unfold Hid; rw [List.take_of_length_le (by omega)]; exact HF.out
      go_wp2_with fail
      go_ret
      refine ⟨⟨_, rfl, ?_⟩, U0.on (hb.mono (by omega))⟩
      rw [← HT.out]
      exact hO.mono hD2
end Go.Proofs.Ytafckmbgefbonaa.op

namespace Go.Proofs.Ytafckmbgefbonaa.op
open Go.RowKit Go.Shelf Go.Lib Go.Proofs.Ytafckmbgefbonaa.sm Go.Proofs.Ytafckmbgefbonaa.nb Go.Proofs.Ytafckmbgefbonaa.om
set_option linter.unusedVariables false

theorem own_slice {w : World} {B n : Nat} {v : Value} {xs : List UInt8} (h : OwnB w B v xs) (hn : xs.length = n) : ∃ A c, v = .slice A n c := by
  subst hn
  rcases own_form h with ⟨rfl, h0⟩ | ⟨g, cap, rfl, _⟩
  · exact ⟨none, 0, by rw [h0]⟩
  · exact ⟨_, _, rfl⟩
theorem conv_nil (w : World) : (convert 44 9 (.slice none 0 0)).run Try.prog w = .ok (.string (tx [])) w := by kernel_rfl
theorem conv_any {w : World} {B : Nat} {v : Value} {xs : List UInt8} (h : OwnB w B v xs) : (convert 44 9 v).run Try.prog w = .ok (.string (tx xs)) w := by
  rcases own_form h with ⟨rfl, h0⟩ | ⟨g, cap, rfl, _⟩
  · have : xs = [] := List.eq_nil_of_length_eq_zero h0
    subst this
    exact conv_nil w
  · exact conv_at h (fun a => rfl)
set_option maxHeartbeats 4000000 in
set_option maxRecDepth 100000 in
theorem lmay0 (m : Nat) (s : Int) (k t : Bool) (v e : Nat) (A : Option Addr) (n c : Nat) (b : List (Nat × Nat)) (w : World) (hw : Wf ⟨m, s, k, b, t, v, e⟩) (hn : b.length = n) (hr : RdB w A b) (c0 : s < -1) :
    Calls Try.prog 33 #[OA m s k A n c t v e] w fun e_ w' => e_ = .returned (.bool (mayb ⟨m, s, k, b, t, v, e⟩)) ∧ Up w w' := by
  have HE := Lib.hid (mayb_f (o := ⟨m, s, k, b, t, v, e⟩) (by intro h; have := h.1; dsimp only at this; omega))

  go_enter Try.func33, Try.ntmps33
  go_upto_region 1 with fail
  have U0 : Up w (w.alloc (.cells #[.int .u16 m, .int .i64 s, .bool k, .slice A n c, .bool t, .int .u32 v, .int .u32 e] 28)) := up_al _ (Below.refl _ _)
  have A0 := Box.new w #[.int .u16 m, .int .i64 s, .bool k, .slice A n c, .bool t, .int .u32 v, .int .u32 e] 28
  generalize (w.alloc (.cells #[.int .u16 m, .int .i64 s, .bool k, .slice A n c, .bool t, .int .u32 v, .int .u32 e] 28)) = w0 at U0 A0 ⊢
  generalize w.heap.size = n0 at A0 ⊢
  obtain ⟨k0, k1, k2, k3, k4, k5, k6⟩ := Box.e7 A0
  go_wp2_with fail
  go_ret
  exact ⟨ret_bool HE.out.symm, U0⟩
set_option maxHeartbeats 4000000 in
set_option maxRecDepth 100000 in
theorem lmay1 (m : Nat) (s : Int) (k t : Bool) (v e : Nat) (A : Option Addr) (n c : Nat) (b : List (Nat × Nat)) (w : World) (hw : Wf ⟨m, s, k, b, t, v, e⟩) (hn : b.length = n) (hr : RdB w A b) (c0 : ¬ s < -1) (c1 : 14 < s) :
    Calls Try.prog 33 #[OA m s k A n c t v e] w fun e_ w' => e_ = .returned (.bool (mayb ⟨m, s, k, b, t, v, e⟩)) ∧ Up w w' := by
  have HE := Lib.hid (mayb_f (o := ⟨m, s, k, b, t, v, e⟩) (by intro h; have := h.2.1; dsimp only at this; omega))

  go_enter Try.func33, Try.ntmps33
  go_upto_region 1 with fail
  have U0 : Up w (w.alloc (.cells #[.int .u16 m, .int .i64 s, .bool k, .slice A n c, .bool t, .int .u32 v, .int .u32 e] 28)) := up_al _ (Below.refl _ _)
  have A0 := Box.new w #[.int .u16 m, .int .i64 s, .bool k, .slice A n c, .bool t, .int .u32 v, .int .u32 e] 28
  generalize (w.alloc (.cells #[.int .u16 m, .int .i64 s, .bool k, .slice A n c, .bool t, .int .u32 v, .int .u32 e] 28)) = w0 at U0 A0 ⊢
  generalize w.heap.size = n0 at A0 ⊢
  obtain ⟨k0, k1, k2, k3, k4, k5, k6⟩ := Box.e7 A0
  go_wp2_with fail
  go_ret
  exact ⟨ret_bool HE.out.symm, U0⟩
set_option maxHeartbeats 4000000 in
set_option maxRecDepth 100000 in
theorem lmay2 (m : Nat) (s : Int) (k t : Bool) (v e : Nat) (A : Option Addr) (n c : Nat) (b : List (Nat × Nat)) (w : World) (hw : Wf ⟨m, s, k, b, t, v, e⟩) (hn : b.length = n) (hr : RdB w A b) (c0 : ¬ s < -1) (c1 : ¬ 14 < s) (c2 : 4 < n) :
    Calls Try.prog 33 #[OA m s k A n c t v e] w fun e_ w' => e_ = .returned (.bool (mayb ⟨m, s, k, b, t, v, e⟩)) ∧ Up w w' := by
  have HE := Lib.hid (mayb_f (o := ⟨m, s, k, b, t, v, e⟩) (by intro h; have := h.2.2.1; dsimp only at this; omega))

  go_enter Try.func33, Try.ntmps33
  go_upto_region 1 with fail
  have U0 : Up w (w.alloc (.cells #[.int .u16 m, .int .i64 s, .bool k, .slice A n c, .bool t, .int .u32 v, .int .u32 e] 28)) := up_al _ (Below.refl _ _)
  have A0 := Box.new w #[.int .u16 m, .int .i64 s, .bool k, .slice A n c, .bool t, .int .u32 v, .int .u32 e] 28
  generalize (w.alloc (.cells #[.int .u16 m, .int .i64 s, .bool k, .slice A n c, .bool t, .int .u32 v, .int .u32 e] 28)) = w0 at U0 A0 ⊢
  generalize w.heap.size = n0 at A0 ⊢
  obtain ⟨k0, k1, k2, k3, k4, k5, k6⟩ := Box.e7 A0
  go_wp2_with fail
  go_ret
  exact ⟨ret_bool HE.out.symm, U0⟩
set_option maxHeartbeats 4000000 in
set_option maxRecDepth 100000 in
theorem lmay3 (m : Nat) (s : Int) (k t : Bool) (v e : Nat) (A : Option Addr) (n c : Nat) (b : List (Nat × Nat)) (w : World) (hw : Wf ⟨m, s, k, b, t, v, e⟩) (hn : b.length = n) (hr : RdB w A b) (c0 : ¬ s < -1) (c1 : ¬ 14 < s) (c2 : ¬ 4 < n) (c3 : t = false) (c4 : ¬ (v : Int) = 0) :
    Calls Try.prog 33 #[OA m s k A n c t v e] w fun e_ w' => e_ = .returned (.bool (mayb ⟨m, s, k, b, t, v, e⟩)) ∧ Up w w' := by
  have HE := Lib.hid (mayb_f (o := ⟨m, s, k, b, t, v, e⟩) (by intro h; have := (h.2.2.2.1 c3).1; dsimp only at this; omega))
  have i2 : ¬ (4 : Int) < (n : Int) := by omega
  subst c3
  go_enter Try.func33, Try.ntmps33
  go_upto_region 1 with fail
  have U0 : Up w (w.alloc (.cells #[.int .u16 m, .int .i64 s, .bool k, .slice A n c, .bool false, .int .u32 v, .int .u32 e] 28)) := up_al _ (Below.refl _ _)
  have A0 := Box.new w #[.int .u16 m, .int .i64 s, .bool k, .slice A n c, .bool false, .int .u32 v, .int .u32 e] 28
  generalize (w.alloc (.cells #[.int .u16 m, .int .i64 s, .bool k, .slice A n c, .bool false, .int .u32 v, .int .u32 e] 28)) = w0 at U0 A0 ⊢
  generalize w.heap.size = n0 at A0 ⊢
  obtain ⟨k0, k1, k2, k3, k4, k5, k6⟩ := Box.e7 A0
  go_wp2_with fail
  go_ret
  exact ⟨ret_bool HE.out.symm, U0⟩
set_option maxHeartbeats 4000000 in
set_option maxRecDepth 100000 in
theorem lmay4 (m : Nat) (s : Int) (k t : Bool) (v e : Nat) (A : Option Addr) (n c : Nat) (b : List (Nat × Nat)) (w : World) (hw : Wf ⟨m, s, k, b, t, v, e⟩) (hn : b.length = n) (hr : RdB w A b) (c0 : ¬ s < -1) (c1 : ¬ 14 < s) (c2 : ¬ 4 < n) (c3 : t = false) (c4 : v = 0) (c5 : ¬ (e : Int) = 0) :
    Calls Try.prog 33 #[OA m s k A n c t v e] w fun e_ w' => e_ = .returned (.bool (mayb ⟨m, s, k, b, t, v, e⟩)) ∧ Up w w' := by
  have HE := Lib.hid (mayb_f (o := ⟨m, s, k, b, t, v, e⟩) (by intro h; have := (h.2.2.2.1 c3).2; dsimp only at this; omega))
  have i2 : ¬ (4 : Int) < (n : Int) := by omega
  subst c3; subst c4
  go_enter Try.func33, Try.ntmps33
  go_upto_region 1 with fail
  have U0 : Up w (w.alloc (.cells #[.int .u16 m, .int .i64 s, .bool k, .slice A n c, .bool false, .int .u32 0, .int .u32 e] 28)) := up_al _ (Below.refl _ _)
  have A0 := Box.new w #[.int .u16 m, .int .i64 s, .bool k, .slice A n c, .bool false, .int .u32 0, .int .u32 e] 28
  generalize (w.alloc (.cells #[.int .u16 m, .int .i64 s, .bool k, .slice A n c, .bool false, .int .u32 0, .int .u32 e] 28)) = w0 at U0 A0 ⊢
  generalize w.heap.size = n0 at A0 ⊢
  obtain ⟨k0, k1, k2, k3, k4, k5, k6⟩ := Box.e7 A0
  go_wp2_with fail
  go_ret
  exact ⟨ret_bool HE.out.symm, U0⟩
set_option maxHeartbeats 4000000 in
set_option maxRecDepth 100000 in
theorem lmay5 (m : Nat) (s : Int) (k t : Bool) (v e : Nat) (A : Option Addr) (n c : Nat) (b : List (Nat × Nat)) (w : World) (hw : Wf ⟨m, s, k, b, t, v, e⟩) (hn : b.length = n) (hr : RdB w A b) (c0 : ¬ s < -1) (c1 : ¬ 14 < s) (c2 : ¬ 4 < n) (c3 : t = false → v = 0 ∧ e = 0) :
    Calls Try.prog 33 #[OA m s k A n c t v e] w fun e_ w' => e_ = .returned (.bool (mayb ⟨m, s, k, b, t, v, e⟩)) ∧ Up w w' := by
  obtain ⟨q, hq⟩ : ∃ q, (raw ⟨m, s, k, b, t, v, e⟩).length = q := ⟨_, rfl⟩
  have HE : Hid (decide ((q : Int) ≤ 40) = mayb ⟨m, s, k, b, t, v, e⟩) := by
    unfold Hid
    have hz : q = rawLen ⟨m, s, k, b, t, v, e⟩ := by rw [← hq, raw_len]
    refine decide_eq_decide.2 ⟨fun h => ⟨?_, ?_, ?_, c3, ?_⟩, fun h => ?_⟩
    · show -1 ≤ s; omega
    · show s ≤ 14; omega
    · show b.length ≤ 4; omega
    · omega
    · have := h.2.2.2.2; omega
  have HR := Lib.hid (fun w hr => laidC m s k t v e A n c b w hw (by omega) (by omega) hn (by omega) hr)
  have HS := Lib.hid hq; clear hq
  have i2 : ¬ (4 : Int) < (n : Int) := by omega
  have hd3 : t = false → (v : Int) = 0 ∧ (e : Int) = 0 := fun h => ⟨by have := (c3 h).1; omega, by have := (c3 h).2; omega⟩
  cases t
  case false =>
    obtain ⟨rfl, rfl⟩ := c3 rfl
    clear c3 hd3
    go_enter Try.func33, Try.ntmps33
    go_upto_region 1 with fail
    have U0 : Up w (w.alloc (.cells #[.int .u16 m, .int .i64 s, .bool k, .slice A n c, .bool false, .int .u32 0, .int .u32 0] 28)) := up_al _ (Below.refl _ _)
    have A0 := Box.new w #[.int .u16 m, .int .i64 s, .bool k, .slice A n c, .bool false, .int .u32 0, .int .u32 0] 28
    generalize (w.alloc (.cells #[.int .u16 m, .int .i64 s, .bool k, .slice A n c, .bool false, .int .u32 0, .int .u32 0] 28)) = w0 at U0 A0 ⊢
    generalize w.heap.size = n0 at A0 ⊢
    obtain ⟨k0, k1, k2, k3, k4, k5, k6⟩ := Box.e7 A0
    go_wp2_with fail
    refine (HR.out w0 (hr.up U0)).mono ?_
    rintro e_ w1 ⟨⟨v1, rfl, hO1⟩, hv⟩
    obtain ⟨A1, c1, rfl⟩ := own_slice hO1 HS.out
    clear hO1
    go_wp2
    go_ret
    exact ⟨ret_bool HE.out, U0.on hv⟩
  case true =>
    clear c3 hd3
    go_enter Try.func33, Try.ntmps33
    go_upto_region 1 with fail
    have U0 : Up w (w.alloc (.cells #[.int .u16 m, .int .i64 s, .bool k, .slice A n c, .bool true, .int .u32 v, .int .u32 e] 28)) := up_al _ (Below.refl _ _)
    have A0 := Box.new w #[.int .u16 m, .int .i64 s, .bool k, .slice A n c, .bool true, .int .u32 v, .int .u32 e] 28
    generalize (w.alloc (.cells #[.int .u16 m, .int .i64 s, .bool k, .slice A n c, .bool true, .int .u32 v, .int .u32 e] 28)) = w0 at U0 A0 ⊢
    generalize w.heap.size = n0 at A0 ⊢
    obtain ⟨k0, k1, k2, k3, k4, k5, k6⟩ := Box.e7 A0
    go_wp2_with fail
    refine (HR.out w0 (hr.up U0)).mono ?_
    rintro e_ w1 ⟨⟨v1, rfl, hO1⟩, hv⟩
    obtain ⟨A1, c1, rfl⟩ := own_slice hO1 HS.out
    clear hO1
    go_wp2
    go_ret
    exact ⟨ret_bool HE.out, U0.on hv⟩
theorem lMay (m : Nat) (s : Int) (k t : Bool) (v e : Nat) (A : Option Addr) (n c : Nat) (b : List (Nat × Nat)) (w : World) (hw : Wf ⟨m, s, k, b, t, v, e⟩) (hn : b.length = n) (hr : RdB w A b) :
    Calls Try.prog 33 #[OA m s k A n c t v e] w fun e_ w' => e_ = .returned (.bool (mayb ⟨m, s, k, b, t, v, e⟩)) ∧ Up w w' := by
  by_cases c0 : s < -1
  · exact lmay0 m s k t v e A n c b w hw hn hr c0
  by_cases c1 : 14 < s
  · exact lmay1 m s k t v e A n c b w hw hn hr c0 c1
  by_cases c2 : 4 < n
  · exact lmay2 m s k t v e A n c b w hw hn hr c0 c1 c2
  by_cases c3 : t = false
  · by_cases c4 : v = 0
    · by_cases c5 : e = 0
      · exact lmay5 m s k t v e A n c b w hw hn hr c0 c1 c2 (fun _ => ⟨c4, c5⟩)
      · exact lmay4 m s k t v e A n c b w hw hn hr c0 c1 c2 c3 c4 (by omega)
    · exact lmay3 m s k t v e A n c b w hw hn hr c0 c1 c2 c3 (by omega)
  · exact lmay5 m s k t v e A n c b w hw hn hr c0 c1 c2 (fun h => absurd h c3)
set_option maxHeartbeats 4000000 in
set_option maxRecDepth 100000 in
theorem lEncode (m : Nat) (s : Int) (k t : Bool) (v e : Nat) (A : Option Addr) (n c : Nat) (b : List (Nat × Nat)) (w : World) (hw : Wf ⟨m, s, k, b, t, v, e⟩) (hn : b.length = n) (hr : RdB w A b) :
    Calls Try.prog 17 #[OA m s k A n c t v e] w fun e_ w' => e_ = .returned (EVo ⟨m, s, k, b, t, v, e⟩) ∧ Up w w' := by
  have HM := Lib.hid (fun w hr => lMay m s k t v e A n c b w hw hn hr)
  by_cases h : May ⟨m, s, k, b, t, v, e⟩
  · have HE := Lib.hid (EVo_ok h)
    have HD := Lib.hid (mayb_t h)
    have HR := Lib.hid (fun w hr => laidC m s k t v e A n c b w hw h.1 h.2.1 hn (by have := h.2.2.1; dsimp only at this; omega) hr)
    clear h
    go_enter Try.func17, Try.ntmps17
    go_upto_region 1 with fail
    have U0 : Up w (w.alloc (.cells #[.int .u16 m, .int .i64 s, .bool k, .slice A n c, .bool t, .int .u32 v, .int .u32 e] 28)) := up_al _ (Below.refl _ _)
    have A0 := Box.new w #[.int .u16 m, .int .i64 s, .bool k, .slice A n c, .bool t, .int .u32 v, .int .u32 e] 28
    generalize (w.alloc (.cells #[.int .u16 m, .int .i64 s, .bool k, .slice A n c, .bool t, .int .u32 v, .int .u32 e] 28)) = w0 at U0 A0 ⊢
    generalize w.heap.size = n0 at A0 ⊢
    obtain ⟨k0, k1, k2, k3, k4, k5, k6⟩ := Box.e7 A0
    go_wp2_with fail
    refine (HM.out w0 (hr.up U0)).mono ?_
    rintro e_ w1 ⟨rfl, hv⟩
    rw [HD.out]
    have U1 := U0.on hv
    have A1 := A0.up hv
    clear k0 k1 k2 k3 k4 k5 k6
    obtain ⟨k0, k1, k2, k3, k4, k5, k6⟩ := Box.e7 A1
    go_wp2_with fail
    refine (HR.out w1 (hr.up U1)).mono ?_
    rintro e_ w2 ⟨⟨v2, rfl, hO2⟩, hv2⟩
    have hcv := conv_any hO2
    clear hO2
    obtain ⟨X, hX⟩ : ∃ X, tx (raw ⟨m, s, k, b, t, v, e⟩) = X := ⟨_, rfl⟩
    rw [hX] at hcv HE
    clear hX
    go_wp2
    go_ret2
    exact ⟨by rw [HE.out]; rfl, U1.on hv2⟩
  · have HE := Lib.hid (EVo_no h)
    have HD := Lib.hid (mayb_f h)
    clear h
    go_enter Try.func17, Try.ntmps17
    go_upto_region 1 with fail
    have U0 : Up w (w.alloc (.cells #[.int .u16 m, .int .i64 s, .bool k, .slice A n c, .bool t, .int .u32 v, .int .u32 e] 28)) := up_al _ (Below.refl _ _)
    have A0 := Box.new w #[.int .u16 m, .int .i64 s, .bool k, .slice A n c, .bool t, .int .u32 v, .int .u32 e] 28
    generalize (w.alloc (.cells #[.int .u16 m, .int .i64 s, .bool k, .slice A n c, .bool t, .int .u32 v, .int .u32 e] 28)) = w0 at U0 A0 ⊢
    generalize w.heap.size = n0 at A0 ⊢
    obtain ⟨k0, k1, k2, k3, k4, k5, k6⟩ := Box.e7 A0
    go_wp2_with fail
    refine (HM.out w0 (hr.up U0)).mono ?_
    rintro e_ w1 ⟨rfl, hv⟩
    rw [HD.out]
    go_wp2
    go_ret2
    exact ⟨by rw [HE.out]; rfl, U0.on hv⟩
theorem mayC : MayC := fun m s k b t v e A n c w h => lMay m s k t v e A n c b w h.1 h.2.2.2.1 h.2.2.1
theorem encC : EncC := fun m s k b t v e A n c w h => lEncode m s k t v e A n c b w h.1 h.2.2.2.1 h.2.2.1
end Go.Proofs.Ytafckmbgefbonaa.op

namespace Go.Proofs.Ytafckmbgefbonaa.op
open Go.RowKit Go.Shelf Go.Lib Go.Proofs.Ytafckmbgefbonaa.sm Go.Proofs.Ytafckmbgefbonaa.nb Go.Proofs.Ytafckmbgefbonaa.om
set_option linter.unusedVariables false

theorem take_same {xs ys : List (Nat × Nat)} {j : Nat} {x1 x2 y1 y2 : Nat} (h : xs.take j = ys.take j) (hx : xs[j]? = some (x1, x2)) (hy : ys[j]? = some (y1, y2)) (h1 : x1 = y1) (h2 : x2 = y2) : xs.take (j + 1) = ys.take (j + 1) := by
  obtain ⟨hj, he⟩ := List.getElem?_eq_some_iff.1 hx
  obtain ⟨hj', he'⟩ := List.getElem?_eq_some_iff.1 hy
  rw [List.take_succ_eq_append_getElem hj, List.take_succ_eq_append_getElem hj', h, he, he', h1, h2]
theorem unlike_at {xs ys : List (Nat × Nat)} {j : Nat} {x1 x2 y1 y2 : Nat} (hx : xs[j]? = some (x1, x2)) (hy : ys[j]? = some (y1, y2)) (h : ¬ (x1 = y1 ∧ x2 = y2)) : (xs == ys) = false := by
  rw [beq_eq_false_iff_ne]
  intro e
  subst e
  rw [hx] at hy
  simp at hy
  exact h hy
set_option maxHeartbeats 4000000 in
set_option maxRecDepth 100000 in
theorem equalC (xs ys : List (Nat × Nat)) (A A' : Option Addr) (n n' c c' : Nat) (w : World) (hx : RdB w A xs) (hy : RdB w A' ys) (hn : xs.length = n) (hn' : ys.length = n') (hb : n ≤ maxLen) (hb' : n' ≤ maxLen) :
    Calls Try.prog 59 #[.slice A n c, .slice A' n' c'] w fun e w' => e = .returned (.bool (xs == ys)) ∧ Up w w' := by
  unfold maxLen at hb hb'
  by_cases hnn : n = n'
  case neg =>
    have HE := Lib.hid (show (xs == ys) = false by rw [beq_eq_false_iff_ne]; intro e; subst e; exact hnn (by omega))
    have i0 : ¬ (n : Int) = (n' : Int) := by omega
    go_enter Try.func59, Try.ntmps59
    go_wp2
    go_ret
    exact ⟨ret_bool HE.out.symm, Below.refl _ _⟩
  case pos =>
    subst hnn
    have HX := Lib.hid hn
    have HY := Lib.hid hn'
    have RX := Lib.hid hx
    have RY := Lib.hid hy
    clear hn hn' hx hy
    go_enter Try.func59, Try.ntmps59
    go_wp2_with fail
    go_loopw [13] (fun i wr => ∃ j : Nat, j ≤ n ∧ i = .int .i64 j ∧ Hid (xs.take j = ys.take j) ∧ Up w wr) (fun i _ => n - (RowKit.intOf i).toNat)
    case atStart => exact ⟨0, Nat.zero_le _, rfl, rfl, Below.refl _ _⟩
    case round =>
      obtain ⟨j, hj, rfl, hs, hu⟩ := hrel
      by_cases hlt : j < n
      · obtain ⟨g, off, hA, hg, x1, x2, c1, c2, hx⟩ := (RX.out.up hu).at_ (k := j) (by rw [HX.out]; exact hlt)
        obtain ⟨g', off', hA', hg', y1, y2, d1, d2, hy⟩ := (RY.out.up hu).at_ (k := j) (by rw [HY.out]; exact hlt)
        subst hA
        subst hA'
        have i0 : (j : Int) < (n : Int) := by omega
        by_cases h1 : x1 = y1
        · subst h1
          by_cases h2 : x2 = y2
          · subst h2
            have HT := Lib.hid (take_same hs.out hx.out hy.out rfl rfl)
            clear hs
            go_wp2_with fail
            go_region
            all_goals
              go_wp2
              go_roundw
              case rel => exact ⟨j + 1, by omega, by go_num, HT, by first | exact up_dr hu | exact hu⟩
              case measure => simp [RowKit.intOf]; omega
          · have HE := Lib.hid (unlike_at hx.out hy.out (fun h => h2 h.2))
            have i2 : ¬ (x2 : Int) = (y2 : Int) := by omega
            clear hs
            go_wp2_with fail
            go_region
            all_goals
              go_wp2
              go_ret
              exact ⟨ret_bool HE.out.symm, by first | exact up_dr hu | exact hu⟩
        · have HE := Lib.hid (unlike_at hx.out hy.out (fun h => h1 h.1))
          have i2 : ¬ (x1 : Int) = (y1 : Int) := by omega
          clear hs
          go_wp2_with fail
          go_region
          all_goals
            go_wp2
            go_ret
            exact ⟨ret_bool HE.out.symm, by first | exact up_dr hu | exact hu⟩
      · obtain rfl : j = n := by omega
        have HE := Lib.hid (show (xs == ys) = true by
          rw [beq_iff_eq]
          have := hs.out
          rwa [List.take_of_length_le (by rw [HX.out]; exact Nat.le_refl _), List.take_of_length_le (by rw [HY.out]; exact Nat.le_refl _)] at this)
        go_wp2
        go_ret
        exact ⟨ret_bool HE.out.symm, hu⟩
set_option maxHeartbeats 4000000 in
set_option maxRecDepth 100000 in
theorem lsame0 (m : Nat) (s : Int) (k t : Bool) (v e : Nat) (A A' : Option Addr) (n n' c c' : Nat) (m' : Nat) (s' : Int) (k' : Bool) (t' : Bool) (v' : Nat) (e' : Nat) (w : World) (h : ¬ (m : Int) = m') :
    Calls Try.prog 32 #[OA m s k A n c t v e, OA m' s' k' A' n' c' t' v' e'] w fun e_ w' => e_ = .returned (.bool false) ∧ Up w w' := by
  go_enter Try.func32, Try.ntmps32
  go_upto_region 1 with fail
  have U0 : Up w ((w.alloc (.cells #[.int .u16 m, .int .i64 s, .bool k, .slice A n c, .bool t, .int .u32 v, .int .u32 e] 28)).alloc (.cells #[.int .u16 m', .int .i64 s', .bool k', .slice A' n' c', .bool t', .int .u32 v', .int .u32 e'] 28)) := up_al _ (up_al _ (Below.refl _ _))
  have A0 := (Box.new w #[.int .u16 m, .int .i64 s, .bool k, .slice A n c, .bool t, .int .u32 v, .int .u32 e] 28).alloc (.cells #[.int .u16 m', .int .i64 s', .bool k', .slice A' n' c', .bool t', .int .u32 v', .int .u32 e'] 28)
  have B0 := Box.new (w.alloc (.cells #[.int .u16 m, .int .i64 s, .bool k, .slice A n c, .bool t, .int .u32 v, .int .u32 e] 28)) #[.int .u16 m', .int .i64 s', .bool k', .slice A' n' c', .bool t', .int .u32 v', .int .u32 e'] 28
  rw [show (w.alloc (.cells #[.int .u16 m, .int .i64 s, .bool k, .slice A n c, .bool t, .int .u32 v, .int .u32 e] 28)).heap.size = w.heap.size + 1 by simp] at B0
  generalize ((w.alloc (.cells #[.int .u16 m, .int .i64 s, .bool k, .slice A n c, .bool t, .int .u32 v, .int .u32 e] 28)).alloc (.cells #[.int .u16 m', .int .i64 s', .bool k', .slice A' n' c', .bool t', .int .u32 v', .int .u32 e'] 28)) = w0 at U0 A0 B0 ⊢
  generalize w.heap.size = n0 at A0 B0 ⊢
  obtain ⟨k0, k1, k2, k3, k4, k5, k6⟩ := Box.e7 A0
  obtain ⟨m0, m1, m2, m3, m4, m5, m6⟩ := Box.e7 B0
  go_wp2
  go_ret
  exact ⟨rfl, U0⟩
set_option maxHeartbeats 4000000 in
set_option maxRecDepth 100000 in
theorem lsame1 (m : Nat) (s : Int) (k t : Bool) (v e : Nat) (A A' : Option Addr) (n n' c c' : Nat) (s' : Int) (k' : Bool) (t' : Bool) (v' : Nat) (e' : Nat) (w : World) (h : ¬ s = s') :
    Calls Try.prog 32 #[OA m s k A n c t v e, OA m s' k' A' n' c' t' v' e'] w fun e_ w' => e_ = .returned (.bool false) ∧ Up w w' := by
  go_enter Try.func32, Try.ntmps32
  go_upto_region 1 with fail
  have U0 : Up w ((w.alloc (.cells #[.int .u16 m, .int .i64 s, .bool k, .slice A n c, .bool t, .int .u32 v, .int .u32 e] 28)).alloc (.cells #[.int .u16 m, .int .i64 s', .bool k', .slice A' n' c', .bool t', .int .u32 v', .int .u32 e'] 28)) := up_al _ (up_al _ (Below.refl _ _))
  have A0 := (Box.new w #[.int .u16 m, .int .i64 s, .bool k, .slice A n c, .bool t, .int .u32 v, .int .u32 e] 28).alloc (.cells #[.int .u16 m, .int .i64 s', .bool k', .slice A' n' c', .bool t', .int .u32 v', .int .u32 e'] 28)
  have B0 := Box.new (w.alloc (.cells #[.int .u16 m, .int .i64 s, .bool k, .slice A n c, .bool t, .int .u32 v, .int .u32 e] 28)) #[.int .u16 m, .int .i64 s', .bool k', .slice A' n' c', .bool t', .int .u32 v', .int .u32 e'] 28
  rw [show (w.alloc (.cells #[.int .u16 m, .int .i64 s, .bool k, .slice A n c, .bool t, .int .u32 v, .int .u32 e] 28)).heap.size = w.heap.size + 1 by simp] at B0
  generalize ((w.alloc (.cells #[.int .u16 m, .int .i64 s, .bool k, .slice A n c, .bool t, .int .u32 v, .int .u32 e] 28)).alloc (.cells #[.int .u16 m, .int .i64 s', .bool k', .slice A' n' c', .bool t', .int .u32 v', .int .u32 e'] 28)) = w0 at U0 A0 B0 ⊢
  generalize w.heap.size = n0 at A0 B0 ⊢
  obtain ⟨k0, k1, k2, k3, k4, k5, k6⟩ := Box.e7 A0
  obtain ⟨m0, m1, m2, m3, m4, m5, m6⟩ := Box.e7 B0
  go_wp2
  go_ret
  exact ⟨rfl, U0⟩
set_option maxHeartbeats 4000000 in
set_option maxRecDepth 100000 in
theorem lsame2 (m : Nat) (s : Int) (k t : Bool) (v e : Nat) (A A' : Option Addr) (n n' c c' : Nat) (k' : Bool) (t' : Bool) (v' : Nat) (e' : Nat) (w : World) (h : k ≠ k') :
    Calls Try.prog 32 #[OA m s k A n c t v e, OA m s k' A' n' c' t' v' e'] w fun e_ w' => e_ = .returned (.bool false) ∧ Up w w' := by
  have hk : (k == k') = false := by simpa using h
  go_enter Try.func32, Try.ntmps32
  go_upto_region 1 with fail
  have U0 : Up w ((w.alloc (.cells #[.int .u16 m, .int .i64 s, .bool k, .slice A n c, .bool t, .int .u32 v, .int .u32 e] 28)).alloc (.cells #[.int .u16 m, .int .i64 s, .bool k', .slice A' n' c', .bool t', .int .u32 v', .int .u32 e'] 28)) := up_al _ (up_al _ (Below.refl _ _))
  have A0 := (Box.new w #[.int .u16 m, .int .i64 s, .bool k, .slice A n c, .bool t, .int .u32 v, .int .u32 e] 28).alloc (.cells #[.int .u16 m, .int .i64 s, .bool k', .slice A' n' c', .bool t', .int .u32 v', .int .u32 e'] 28)
  have B0 := Box.new (w.alloc (.cells #[.int .u16 m, .int .i64 s, .bool k, .slice A n c, .bool t, .int .u32 v, .int .u32 e] 28)) #[.int .u16 m, .int .i64 s, .bool k', .slice A' n' c', .bool t', .int .u32 v', .int .u32 e'] 28
  rw [show (w.alloc (.cells #[.int .u16 m, .int .i64 s, .bool k, .slice A n c, .bool t, .int .u32 v, .int .u32 e] 28)).heap.size = w.heap.size + 1 by simp] at B0
  generalize ((w.alloc (.cells #[.int .u16 m, .int .i64 s, .bool k, .slice A n c, .bool t, .int .u32 v, .int .u32 e] 28)).alloc (.cells #[.int .u16 m, .int .i64 s, .bool k', .slice A' n' c', .bool t', .int .u32 v', .int .u32 e'] 28)) = w0 at U0 A0 B0 ⊢
  generalize w.heap.size = n0 at A0 B0 ⊢
  obtain ⟨k0, k1, k2, k3, k4, k5, k6⟩ := Box.e7 A0
  obtain ⟨m0, m1, m2, m3, m4, m5, m6⟩ := Box.e7 B0
  go_wp2
  go_ret
  exact ⟨rfl, U0⟩
set_option maxHeartbeats 4000000 in
set_option maxRecDepth 100000 in
theorem lsame3 (m : Nat) (s : Int) (k t : Bool) (v e : Nat) (A A' : Option Addr) (n n' c c' : Nat) (t' : Bool) (v' : Nat) (e' : Nat) (w : World) (hE : ∀ w', Up w w' → Calls Try.prog 59 #[.slice A n c, .slice A' n' c'] w' fun e_ w'' => e_ = .returned (.bool false) ∧ Up w' w'') :
    Calls Try.prog 32 #[OA m s k A n c t v e, OA m s k A' n' c' t' v' e'] w fun e_ w' => e_ = .returned (.bool false) ∧ Up w w' := by
  have HE := Lib.hid hE
  clear hE
  go_enter Try.func32, Try.ntmps32
  go_upto_region 1 with fail
  have U0 : Up w ((w.alloc (.cells #[.int .u16 m, .int .i64 s, .bool k, .slice A n c, .bool t, .int .u32 v, .int .u32 e] 28)).alloc (.cells #[.int .u16 m, .int .i64 s, .bool k, .slice A' n' c', .bool t', .int .u32 v', .int .u32 e'] 28)) := up_al _ (up_al _ (Below.refl _ _))
  have A0 := (Box.new w #[.int .u16 m, .int .i64 s, .bool k, .slice A n c, .bool t, .int .u32 v, .int .u32 e] 28).alloc (.cells #[.int .u16 m, .int .i64 s, .bool k, .slice A' n' c', .bool t', .int .u32 v', .int .u32 e'] 28)
  have B0 := Box.new (w.alloc (.cells #[.int .u16 m, .int .i64 s, .bool k, .slice A n c, .bool t, .int .u32 v, .int .u32 e] 28)) #[.int .u16 m, .int .i64 s, .bool k, .slice A' n' c', .bool t', .int .u32 v', .int .u32 e'] 28
  rw [show (w.alloc (.cells #[.int .u16 m, .int .i64 s, .bool k, .slice A n c, .bool t, .int .u32 v, .int .u32 e] 28)).heap.size = w.heap.size + 1 by simp] at B0
  generalize ((w.alloc (.cells #[.int .u16 m, .int .i64 s, .bool k, .slice A n c, .bool t, .int .u32 v, .int .u32 e] 28)).alloc (.cells #[.int .u16 m, .int .i64 s, .bool k, .slice A' n' c', .bool t', .int .u32 v', .int .u32 e'] 28)) = w0 at U0 A0 B0 ⊢
  generalize w.heap.size = n0 at A0 B0 ⊢
  obtain ⟨k0, k1, k2, k3, k4, k5, k6⟩ := Box.e7 A0
  obtain ⟨m0, m1, m2, m3, m4, m5, m6⟩ := Box.e7 B0
  go_wp2_with fail
  refine (HE.out w0 U0).mono ?_
  rintro e_ w1 ⟨rfl, hv⟩
  have A1 := A0.up hv
  have B1 := B0.up hv
  clear k0 k1 k2 k3 k4 k5 k6 m0 m1 m2 m3 m4 m5 m6
  obtain ⟨k0, k1, k2, k3, k4, k5, k6⟩ := Box.e7 A1
  obtain ⟨m0, m1, m2, m3, m4, m5, m6⟩ := Box.e7 B1
  go_wp2
  go_ret
  exact ⟨rfl, U0.on hv⟩
set_option maxHeartbeats 4000000 in
set_option maxRecDepth 100000 in
theorem lsame4 (m : Nat) (s : Int) (k t : Bool) (v e : Nat) (A A' : Option Addr) (n n' c c' : Nat) (t' : Bool) (v' : Nat) (e' : Nat) (w : World) (hE : ∀ w', Up w w' → Calls Try.prog 59 #[.slice A n c, .slice A' n' c'] w' fun e_ w'' => e_ = .returned (.bool true) ∧ Up w' w'') (h : t ≠ t') :
    Calls Try.prog 32 #[OA m s k A n c t v e, OA m s k A' n' c' t' v' e'] w fun e_ w' => e_ = .returned (.bool false) ∧ Up w w' := by
  have HE := Lib.hid hE
  clear hE
  have ht : (t == t') = false := by simpa using h
  go_enter Try.func32, Try.ntmps32
  go_upto_region 1 with fail
  have U0 : Up w ((w.alloc (.cells #[.int .u16 m, .int .i64 s, .bool k, .slice A n c, .bool t, .int .u32 v, .int .u32 e] 28)).alloc (.cells #[.int .u16 m, .int .i64 s, .bool k, .slice A' n' c', .bool t', .int .u32 v', .int .u32 e'] 28)) := up_al _ (up_al _ (Below.refl _ _))
  have A0 := (Box.new w #[.int .u16 m, .int .i64 s, .bool k, .slice A n c, .bool t, .int .u32 v, .int .u32 e] 28).alloc (.cells #[.int .u16 m, .int .i64 s, .bool k, .slice A' n' c', .bool t', .int .u32 v', .int .u32 e'] 28)
  have B0 := Box.new (w.alloc (.cells #[.int .u16 m, .int .i64 s, .bool k, .slice A n c, .bool t, .int .u32 v, .int .u32 e] 28)) #[.int .u16 m, .int .i64 s, .bool k, .slice A' n' c', .bool t', .int .u32 v', .int .u32 e'] 28
  rw [show (w.alloc (.cells #[.int .u16 m, .int .i64 s, .bool k, .slice A n c, .bool t, .int .u32 v, .int .u32 e] 28)).heap.size = w.heap.size + 1 by simp] at B0
  generalize ((w.alloc (.cells #[.int .u16 m, .int .i64 s, .bool k, .slice A n c, .bool t, .int .u32 v, .int .u32 e] 28)).alloc (.cells #[.int .u16 m, .int .i64 s, .bool k, .slice A' n' c', .bool t', .int .u32 v', .int .u32 e'] 28)) = w0 at U0 A0 B0 ⊢
  generalize w.heap.size = n0 at A0 B0 ⊢
  obtain ⟨k0, k1, k2, k3, k4, k5, k6⟩ := Box.e7 A0
  obtain ⟨m0, m1, m2, m3, m4, m5, m6⟩ := Box.e7 B0
  go_wp2_with fail
  refine (HE.out w0 U0).mono ?_
  rintro e_ w1 ⟨rfl, hv⟩
  have A1 := A0.up hv
  have B1 := B0.up hv
  clear k0 k1 k2 k3 k4 k5 k6 m0 m1 m2 m3 m4 m5 m6
  obtain ⟨k0, k1, k2, k3, k4, k5, k6⟩ := Box.e7 A1
  obtain ⟨m0, m1, m2, m3, m4, m5, m6⟩ := Box.e7 B1
  go_wp2
  go_ret
  exact ⟨rfl, U0.on hv⟩
set_option maxHeartbeats 4000000 in
set_option maxRecDepth 100000 in
theorem lsame5 (m : Nat) (s : Int) (k t : Bool) (v e : Nat) (A A' : Option Addr) (n n' c c' : Nat) (v' : Nat) (e' : Nat) (w : World) (hE : ∀ w', Up w w' → Calls Try.prog 59 #[.slice A n c, .slice A' n' c'] w' fun e_ w'' => e_ = .returned (.bool true) ∧ Up w' w'') (h : ¬ (v : Int) = v') :
    Calls Try.prog 32 #[OA m s k A n c t v e, OA m s k A' n' c' t v' e'] w fun e_ w' => e_ = .returned (.bool false) ∧ Up w w' := by
  have HE := Lib.hid hE
  clear hE
  go_enter Try.func32, Try.ntmps32
  go_upto_region 1 with fail
  have U0 : Up w ((w.alloc (.cells #[.int .u16 m, .int .i64 s, .bool k, .slice A n c, .bool t, .int .u32 v, .int .u32 e] 28)).alloc (.cells #[.int .u16 m, .int .i64 s, .bool k, .slice A' n' c', .bool t, .int .u32 v', .int .u32 e'] 28)) := up_al _ (up_al _ (Below.refl _ _))
  have A0 := (Box.new w #[.int .u16 m, .int .i64 s, .bool k, .slice A n c, .bool t, .int .u32 v, .int .u32 e] 28).alloc (.cells #[.int .u16 m, .int .i64 s, .bool k, .slice A' n' c', .bool t, .int .u32 v', .int .u32 e'] 28)
  have B0 := Box.new (w.alloc (.cells #[.int .u16 m, .int .i64 s, .bool k, .slice A n c, .bool t, .int .u32 v, .int .u32 e] 28)) #[.int .u16 m, .int .i64 s, .bool k, .slice A' n' c', .bool t, .int .u32 v', .int .u32 e'] 28
  rw [show (w.alloc (.cells #[.int .u16 m, .int .i64 s, .bool k, .slice A n c, .bool t, .int .u32 v, .int .u32 e] 28)).heap.size = w.heap.size + 1 by simp] at B0
  generalize ((w.alloc (.cells #[.int .u16 m, .int .i64 s, .bool k, .slice A n c, .bool t, .int .u32 v, .int .u32 e] 28)).alloc (.cells #[.int .u16 m, .int .i64 s, .bool k, .slice A' n' c', .bool t, .int .u32 v', .int .u32 e'] 28)) = w0 at U0 A0 B0 ⊢
  generalize w.heap.size = n0 at A0 B0 ⊢
  obtain ⟨k0, k1, k2, k3, k4, k5, k6⟩ := Box.e7 A0
  obtain ⟨m0, m1, m2, m3, m4, m5, m6⟩ := Box.e7 B0
  go_wp2_with fail
  refine (HE.out w0 U0).mono ?_
  rintro e_ w1 ⟨rfl, hv⟩
  have A1 := A0.up hv
  have B1 := B0.up hv
  clear k0 k1 k2 k3 k4 k5 k6 m0 m1 m2 m3 m4 m5 m6
  obtain ⟨k0, k1, k2, k3, k4, k5, k6⟩ := Box.e7 A1
  obtain ⟨m0, m1, m2, m3, m4, m5, m6⟩ := Box.e7 B1
  go_wp2
  go_ret
  exact ⟨rfl, U0.on hv⟩
set_option maxHeartbeats 4000000 in
set_option maxRecDepth 100000 in
theorem lsame6 (m : Nat) (s : Int) (k t : Bool) (v e : Nat) (A A' : Option Addr) (n n' c c' : Nat) (e' : Nat) (w : World) (hE : ∀ w', Up w w' → Calls Try.prog 59 #[.slice A n c, .slice A' n' c'] w' fun e_ w'' => e_ = .returned (.bool true) ∧ Up w' w'') (h : ¬ (e : Int) = e') :
    Calls Try.prog 32 #[OA m s k A n c t v e, OA m s k A' n' c' t v e'] w fun e_ w' => e_ = .returned (.bool false) ∧ Up w w' := by
  have HE := Lib.hid hE
  clear hE
  go_enter Try.func32, Try.ntmps32
  go_upto_region 1 with fail
  have U0 : Up w ((w.alloc (.cells #[.int .u16 m, .int .i64 s, .bool k, .slice A n c, .bool t, .int .u32 v, .int .u32 e] 28)).alloc (.cells #[.int .u16 m, .int .i64 s, .bool k, .slice A' n' c', .bool t, .int .u32 v, .int .u32 e'] 28)) := up_al _ (up_al _ (Below.refl _ _))
  have A0 := (Box.new w #[.int .u16 m, .int .i64 s, .bool k, .slice A n c, .bool t, .int .u32 v, .int .u32 e] 28).alloc (.cells #[.int .u16 m, .int .i64 s, .bool k, .slice A' n' c', .bool t, .int .u32 v, .int .u32 e'] 28)
  have B0 := Box.new (w.alloc (.cells #[.int .u16 m, .int .i64 s, .bool k, .slice A n c, .bool t, .int .u32 v, .int .u32 e] 28)) #[.int .u16 m, .int .i64 s, .bool k, .slice A' n' c', .bool t, .int .u32 v, .int .u32 e'] 28
  rw [show (w.alloc (.cells #[.int .u16 m, .int .i64 s, .bool k, .slice A n c, .bool t, .int .u32 v, .int .u32 e] 28)).heap.size = w.heap.size + 1 by simp] at B0
  generalize ((w.alloc (.cells #[.int .u16 m, .int .i64 s, .bool k, .slice A n c, .bool t, .int .u32 v, .int .u32 e] 28)).alloc (.cells #[.int .u16 m, .int .i64 s, .bool k, .slice A' n' c', .bool t, .int .u32 v, .int .u32 e'] 28)) = w0 at U0 A0 B0 ⊢
  generalize w.heap.size = n0 at A0 B0 ⊢
  obtain ⟨k0, k1, k2, k3, k4, k5, k6⟩ := Box.e7 A0
  obtain ⟨m0, m1, m2, m3, m4, m5, m6⟩ := Box.e7 B0
  go_wp2_with fail
  refine (HE.out w0 U0).mono ?_
  rintro e_ w1 ⟨rfl, hv⟩
  have A1 := A0.up hv
  have B1 := B0.up hv
  clear k0 k1 k2 k3 k4 k5 k6 m0 m1 m2 m3 m4 m5 m6
  obtain ⟨k0, k1, k2, k3, k4, k5, k6⟩ := Box.e7 A1
  obtain ⟨m0, m1, m2, m3, m4, m5, m6⟩ := Box.e7 B1
  go_wp2
  go_ret
  exact ⟨ret_bool (by rw [beq_eq_false_iff_ne]; exact h), U0.on hv⟩
set_option maxHeartbeats 4000000 in
set_option maxRecDepth 100000 in
theorem lsame7 (m : Nat) (s : Int) (k t : Bool) (v e : Nat) (A A' : Option Addr) (n n' c c' : Nat)  (w : World) (hE : ∀ w', Up w w' → Calls Try.prog 59 #[.slice A n c, .slice A' n' c'] w' fun e_ w'' => e_ = .returned (.bool true) ∧ Up w' w'') :
    Calls Try.prog 32 #[OA m s k A n c t v e, OA m s k A' n' c' t v e] w fun e_ w' => e_ = .returned (.bool true) ∧ Up w w' := by
  have HE := Lib.hid hE
  clear hE
  go_enter Try.func32, Try.ntmps32
  go_upto_region 1 with fail
  have U0 : Up w ((w.alloc (.cells #[.int .u16 m, .int .i64 s, .bool k, .slice A n c, .bool t, .int .u32 v, .int .u32 e] 28)).alloc (.cells #[.int .u16 m, .int .i64 s, .bool k, .slice A' n' c', .bool t, .int .u32 v, .int .u32 e] 28)) := up_al _ (up_al _ (Below.refl _ _))
  have A0 := (Box.new w #[.int .u16 m, .int .i64 s, .bool k, .slice A n c, .bool t, .int .u32 v, .int .u32 e] 28).alloc (.cells #[.int .u16 m, .int .i64 s, .bool k, .slice A' n' c', .bool t, .int .u32 v, .int .u32 e] 28)
  have B0 := Box.new (w.alloc (.cells #[.int .u16 m, .int .i64 s, .bool k, .slice A n c, .bool t, .int .u32 v, .int .u32 e] 28)) #[.int .u16 m, .int .i64 s, .bool k, .slice A' n' c', .bool t, .int .u32 v, .int .u32 e] 28
  rw [show (w.alloc (.cells #[.int .u16 m, .int .i64 s, .bool k, .slice A n c, .bool t, .int .u32 v, .int .u32 e] 28)).heap.size = w.heap.size + 1 by simp] at B0
  generalize ((w.alloc (.cells #[.int .u16 m, .int .i64 s, .bool k, .slice A n c, .bool t, .int .u32 v, .int .u32 e] 28)).alloc (.cells #[.int .u16 m, .int .i64 s, .bool k, .slice A' n' c', .bool t, .int .u32 v, .int .u32 e] 28)) = w0 at U0 A0 B0 ⊢
  generalize w.heap.size = n0 at A0 B0 ⊢
  obtain ⟨k0, k1, k2, k3, k4, k5, k6⟩ := Box.e7 A0
  obtain ⟨m0, m1, m2, m3, m4, m5, m6⟩ := Box.e7 B0
  go_wp2_with fail
  refine (HE.out w0 U0).mono ?_
  rintro e_ w1 ⟨rfl, hv⟩
  have A1 := A0.up hv
  have B1 := B0.up hv
  clear k0 k1 k2 k3 k4 k5 k6 m0 m1 m2 m3 m4 m5 m6
  obtain ⟨k0, k1, k2, k3, k4, k5, k6⟩ := Box.e7 A1
  obtain ⟨m0, m1, m2, m3, m4, m5, m6⟩ := Box.e7 B1
  go_wp2
  go_ret
  exact ⟨rfl, U0.on hv⟩
theorem sameC : SameC := fun m s k b t v e A n c m' s' k' b' t' v' e' A' n' c' w h h' => by
  have HQ : ∀ w', Up w w' → Calls Try.prog 59 #[.slice A n c, .slice A' n' c'] w' fun e_ w'' => e_ = .returned (.bool (b == b')) ∧ Up w' w'' :=
    fun w' hu => equalC b b' A A' n n' c c' w' (h.2.2.1.up hu) (h'.2.2.1.up hu) h.2.2.2.1 h'.2.2.2.1 h.2.2.2.2 h'.2.2.2.2
  by_cases e1 : m = m'
  case neg =>
    rw [show same ⟨m, s, k, b, t, v, e⟩ ⟨m', s', k', b', t', v', e'⟩ = false by simp [same, e1]]
    exact lsame0 _ _ _ _ _ _ _ _ _ _ _ _ _ _ _ _ _ _ w (by omega)
  subst e1
  by_cases e2 : s = s'
  case neg =>
    rw [show same ⟨m, s, k, b, t, v, e⟩ ⟨m, s', k', b', t', v', e'⟩ = false by simp [same, e2]]
    exact lsame1 _ _ _ _ _ _ _ _ _ _ _ _ _ _ _ _ _ w e2
  subst e2
  by_cases e3 : k = k'
  case neg =>
    rw [show same ⟨m, s, k, b, t, v, e⟩ ⟨m, s, k', b', t', v', e'⟩ = false by simp [same, e3]]
    exact lsame2 _ _ _ _ _ _ _ _ _ _ _ _ _ _ _ _ w e3
  subst e3
  by_cases e4 : (b == b') = true
  case neg =>
    have e4' : (b == b') = false := by simpa using e4
    rw [show same ⟨m, s, k, b, t, v, e⟩ ⟨m, s, k, b', t', v', e'⟩ = false by simp only [same, e4', Bool.and_false]]
    rw [e4'] at HQ
    exact lsame3 _ _ _ _ _ _ _ _ _ _ _ _ _ _ _ w HQ
  rw [e4] at HQ
  by_cases e5 : t = t'
  case neg =>
    rw [show same ⟨m, s, k, b, t, v, e⟩ ⟨m, s, k, b', t', v', e'⟩ = false by simp [same, e5]]
    exact lsame4 _ _ _ _ _ _ _ _ _ _ _ _ _ _ _ w HQ e5
  subst e5
  by_cases e6 : v = v'
  case neg =>
    rw [show same ⟨m, s, k, b, t, v, e⟩ ⟨m, s, k, b', t, v', e'⟩ = false by simp [same, e6]]
    exact lsame5 _ _ _ _ _ _ _ _ _ _ _ _ _ _ w HQ (by omega)
  subst e6
  by_cases e7 : e = e'
  case neg =>
    rw [show same ⟨m, s, k, b, t, v, e⟩ ⟨m, s, k, b', t, v, e'⟩ = false by simp [same, e7]]
    exact lsame6 _ _ _ _ _ _ _ _ _ _ _ _ _ w HQ (by omega)
  subst e7
  rw [show same ⟨m, s, k, b, t, v, e⟩ ⟨m, s, k, b', t, v, e⟩ = true by simp only [same, e4, beq_self_eq_true, Bool.and_true]]
  exact lsame7 _ _ _ _ _ _ _ _ _ _ _ _ w HQ
end Go.Proofs.Ytafckmbgefbonaa.op
