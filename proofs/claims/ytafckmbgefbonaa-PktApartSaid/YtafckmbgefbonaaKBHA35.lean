/- B H A: contracts, part 35. Condition: as each says. -/
import Derived.Test.YtafckmbgefbonaaKBHA16
import Derived.Test.YtafckmbgefbonaaKBHA27
import Derived.Test.YtafckmbgefbonaaKBHA34
import Derived.BigRegion
set_option linter.unusedVariables false
set_option linter.unusedSimpArgs false
namespace Go.Proofs.Ytafckmbgefbonaa.pk
open Go.RowKit Go.Shelf Go.Lib Go.Proofs.Ytafckmbgefbonaa.sm Go.Proofs.Ytafckmbgefbonaa.nb Go.Proofs.Ytafckmbgefbonaa.pm
set_option linter.unusedVariables false

theorem ownK_at {w : World} {B g n c : Nat} {xs : List (Nat × Nat)} (h : op.OwnK w B (.slice (some ⟨g, 0, none⟩) n c) xs) (hn : xs.length = n) {k : Nat} (hk : k < n) :
    w.cell? ⟨g, k * 2, none⟩ = some (.int .u32 ((xs.getD k (0, 0)).1 : Nat)) ∧ w.cell? ⟨g, k * 2 + 1, none⟩ = some (.int .u32 ((xs.getD k (0, 0)).2 : Nat)) ∧ w.frozen? ⟨g, k * 2, none⟩ = false ∧ w.frozen? ⟨g, k * 2 + 1, none⟩ = false := by
  subst hn
  refine ⟨?_, ?_, World.ownsRow.frozenAt h _, World.ownsRow.frozenAt h _⟩
  · rw [World.ownsRow.cellAt h (k * 2) (by omega)]; exact (op.cells_at xs k hk).1
  · rw [World.ownsRow.cellAt h (k * 2 + 1) (by omega)]; exact (op.cells_at xs k hk).2
theorem cells_set1 : ∀ (xs : List (Nat × Nat)) (k X : Nat), k < xs.length → (op.cells xs).set (k * 2) (.int .u32 (X : Nat)) = op.cells (xs.set k (X, (xs.getD k (0, 0)).2))
  | [], k, X, h => by simp at h
  | x :: r, 0, X, _ => rfl
  | x :: r, k + 1, X, h => by
    have := cells_set1 r k X (by simpa using h)
    rw [op.cells_cons, show (k + 1) * 2 = k * 2 + 1 + 1 by omega, List.set_cons_succ, List.set_cons_succ, this]
    rfl
theorem cells_set2 : ∀ (xs : List (Nat × Nat)) (k X : Nat), k < xs.length → (op.cells xs).set (k * 2 + 1) (.int .u32 (X : Nat)) = op.cells (xs.set k ((xs.getD k (0, 0)).1, X))
  | [], k, X, h => by simp at h
  | x :: r, 0, X, _ => rfl
  | x :: r, k + 1, X, h => by
    have := cells_set2 r k X (by simpa using h)
    rw [op.cells_cons, show (k + 1) * 2 + 1 = k * 2 + 1 + 1 + 1 by omega, List.set_cons_succ, List.set_cons_succ, this]
    rfl
theorem ownK_put1 {w : World} {B g n c : Nat} {xs : List (Nat × Nat)} (h : op.OwnK w B (.slice (some ⟨g, 0, none⟩) n c) xs) (hn : xs.length = n) {k : Nat} (hk : k < n) (X : Nat) :
    op.OwnK (w.setCell ⟨g, k * 2, none⟩ (.int .u32 X)) B (.slice (some ⟨g, 0, none⟩) n c) (xs.set k (X, (xs.getD k (0, 0)).2)) := by
  subst hn
  have := (World.ownsRow.stored h (k * 2) (.int .u32 X)).1
  rw [cells_set1 xs k X hk] at this
  unfold op.OwnK
  rw [List.length_set]
  exact this
theorem ownK_put2 {w : World} {B g n c : Nat} {xs : List (Nat × Nat)} (h : op.OwnK w B (.slice (some ⟨g, 0, none⟩) n c) xs) (hn : xs.length = n) {k : Nat} (hk : k < n) (X : Nat) :
    op.OwnK (w.setCell ⟨g, k * 2 + 1, none⟩ (.int .u32 X)) B (.slice (some ⟨g, 0, none⟩) n c) (xs.set k ((xs.getD k (0, 0)).1, X)) := by
  subst hn
  have := (World.ownsRow.stored h (k * 2 + 1) (.int .u32 X)).1
  rw [cells_set2 xs k X hk] at this
  unfold op.OwnK
  rw [List.length_set]
  exact this
def mix (z1 : Nat) (bl : List (Nat × Nat)) (j : Nat) : List (Nat × Nat) := (bl.map fun x => (om.addM x.1 z1, om.addM x.2 z1)).take j ++ bl.drop j
theorem mix_len (z1 : Nat) (bl : List (Nat × Nat)) (j : Nat) : (mix z1 bl j).length = bl.length := by unfold mix; simp; omega
theorem mix_0 (z1 : Nat) (bl : List (Nat × Nat)) : mix z1 bl 0 = bl := by unfold mix; simp
theorem mix_all (z1 : Nat) (bl : List (Nat × Nat)) : mix z1 bl bl.length = bl.map fun x => (om.addM x.1 z1, om.addM x.2 z1) := by unfold mix; simp [List.take_of_length_le]
theorem mix_at (z1 : Nat) (bl : List (Nat × Nat)) (j : Nat) (h : j < bl.length) : (mix z1 bl j)[j]? = some bl[j] := by
  unfold mix
  rw [List.getElem?_append_right (by simp; omega)]
  simp [show min j bl.length = j by omega]
theorem mix_next (z1 : Nat) (bl : List (Nat × Nat)) (j : Nat) (h : j < bl.length) (x : Nat × Nat) (hx : (mix z1 bl j)[j]? = some x) :
    mix z1 bl (j + 1) = ((mix z1 bl j).set j (om.addM x.1 z1, x.2)).set j (om.addM x.1 z1, om.addM x.2 z1) := by
  rw [mix_at z1 bl j h] at hx
  cases hx
  rw [List.set_set]
  unfold mix
  rw [List.set_append_right _ _ (by simp; omega), List.take_succ_eq_append_getElem (by simpa using h), List.getElem_map, List.append_assoc]
  congr 1
  rw [show j - (List.take j (bl.map fun x => (om.addM x.1 z1, om.addM x.2 z1))).length = 0 by simp; omega]
  rw [List.drop_eq_getElem_cons h]
  rfl
def TagB (W : World) (A : Option Addr) : Prop := ∀ ad, A = some ad → ∃ cs fz, W.heap[ad.block]? = some (.cells cs 109 fz)
theorem TagB.up {W W' : World} {A : Option Addr} (h : TagB W A) (u : Up W W') : TagB W' A := fun ad e => by
  obtain ⟨cs, fz, hb⟩ := h ad e
  exact ⟨cs, fz, (u.block _ (Array.getElem?_eq_some_iff.1 hb).1).trans hb⟩
theorem TagB.set {W : World} {A : Option Addr} (h : TagB W A) {b : Nat} (hf : ∀ ad, A = some ad → ad.block ≠ b) (j : Nat) (v : Value) : TagB (W.setCell ⟨b, j, none⟩ v) A := fun ad e => by
  obtain ⟨cs, fz, hb⟩ := h ad e
  exact ⟨cs, fz, (Below.heap_setCell W ⟨b, j, none⟩ v ad.block (fun e1 => hf ad e (by first | exact e1 | exact e1.symm))).trans hb⟩
theorem ownK_tag {W : World} {B n c : Nat} {A : Option Addr} {xs : List (Nat × Nat)} (h : op.OwnK W B (.slice A n c) xs) : TagB W A := fun ad e => by
  rcases h.2 with ⟨hz, _⟩ | ⟨g, cap, cur, hz, _, hb, _⟩
  · cases hz; cases e
  · cases hz; cases e; exact ⟨cur, _, hb⟩
def OptT (B : Nat) (w : World) (x : Value) (o : om.Opz) : Prop := ∃ A n c, x = op.OA o.mss o.sc o.sk A n c o.tm o.va o.ec ∧ o.bl.length = n ∧ op.RdB w A o.bl ∧ (∀ ad, A = some ad → B ≤ ad.block) ∧ TagB w A
theorem own7 {W : World} {B b : Nat} {v : Value} {xs : List (Nat × Nat)} (h : op.OwnK W B v xs) (hb : b < B) (y0 y1 y2 y3 y4 y5 y6 : Value) : op.OwnK (((((((W.setCell ⟨b, 0, none⟩ y0).setCell ⟨b, 1, none⟩ y1).setCell ⟨b, 2, none⟩ y2).setCell ⟨b, 3, none⟩ y3).setCell ⟨b, 4, none⟩ y4).setCell ⟨b, 5, none⟩ y5).setCell ⟨b, 6, none⟩ y6) B v xs := (op.OwnK.grownB (op.OwnK.grownB (op.OwnK.grownB (op.OwnK.grownB (op.OwnK.grownB (op.OwnK.grownB (op.OwnK.grownB h hb 0 y0) hb 1 y1) hb 2 y2) hb 3 y3) hb 4 y4) hb 5 y5) hb 6 y6)
set_option maxHeartbeats 8000000 in
set_option maxRecDepth 100000 in
theorem turnedOpts_f (m : Nat) (s : Int) (k : Bool) (A : Option Addr) (n c : Nat) (v e : Nat) (bl : List (Nat × Nat)) (a1 p1 b1 q1 y1 z1 v1 e1 : Nat) (up dn : Int) (w : World)
    (hv : v ≤ 4294967295) (he : e ≤ 4294967295) (hb : ∀ x ∈ bl, x.1 < om.M32 ∧ x.2 < om.M32) (hn : bl.length = n) (hn2 : n ≤ 1048576) (hr : op.RdB w A bl) (hz1 : z1 ≤ 4294967295) (hv1 : v1 ≤ 4294967295) (he1 : e1 ≤ 4294967295) :
    Calls Try.prog 30 #[op.OA m s k A n c false v e, SHV a1 p1 b1 q1 y1 z1 v1 e1 up dn] w fun e_ w' => ∃ X, e_ = .returned X ∧ OptT w.heap.size w' X (om.tOp z1 v1 e1 ⟨m, s, k, bl, false, v, e⟩) ∧ Up w w' := by
  have HR := Lib.hid hr
  have HM0 := Lib.hid (mix_0 z1 bl)
  have HMA := Lib.hid (mix_all z1 bl)
  rw [hn] at HMA
  have HML := Lib.hid (fun j => (mix_len z1 bl j).trans hn)
  have HMT := Lib.hid (fun j (h : j < n) => (⟨bl[j], mix_at z1 bl j (by omega), hb _ (List.getElem_mem _)⟩ : ∃ x, (mix z1 bl j)[j]? = some x ∧ x.1 < om.M32 ∧ x.2 < om.M32))
  have HMN := Lib.hid (fun j (h : j < n) x hx => mix_next z1 bl j (by omega) x hx)
  have HCl := Lib.hid (fun w (hr : op.RdB w A bl) => op.cloneB A n c bl w hn hr hn2)
  clear hr hb
  go_enter Try.func30, Try.ntmps30
  go_upto_region 1 with fail
  have hA := Box.new w #[.int .u16 m, .int .i64 s, .bool k, .slice A n c, .bool false, .int .u32 v, .int .u32 e] 28
  have hu := up_al (w := w) (.cells #[.int .u16 m, .int .i64 s, .bool k, .slice A n c, .bool false, .int .u32 v, .int .u32 e] 28) (Below.refl _ _)
  have hs0 : (w.alloc (.cells #[.int .u16 m, .int .i64 s, .bool k, .slice A n c, .bool false, .int .u32 v, .int .u32 e] 28)).heap.size = w.heap.size + 1 := World.size_alloc ..
  generalize (w.alloc (.cells #[.int .u16 m, .int .i64 s, .bool k, .slice A n c, .bool false, .int .u32 v, .int .u32 e] 28)) = w0 at hA hu hs0 ⊢
  obtain ⟨n0, hn0⟩ : ∃ n0, n0 = w.heap.size := ⟨_, rfl⟩
  have hle : w.heap.size ≤ n0 := by omega
  rw [← hn0] at hA hs0 ⊢
  clear hn0
  have hB := Box.new w0 #[.int .u32 a1, .int .u16 p1, .int .u32 b1, .int .u16 q1, .int .u32 y1, .int .u32 z1, .int .u32 v1, .int .u32 e1, .int .i64 up, .int .i64 dn] 32
  rw [hs0] at hB
  have hA1 := hA.alloc (.cells #[.int .u32 a1, .int .u16 p1, .int .u32 b1, .int .u16 q1, .int .u32 y1, .int .u32 z1, .int .u32 v1, .int .u32 e1, .int .i64 up, .int .i64 dn] 32)
  have hu1 := up_al (.cells #[.int .u32 a1, .int .u16 p1, .int .u32 b1, .int .u16 q1, .int .u32 y1, .int .u32 z1, .int .u32 v1, .int .u32 e1, .int .i64 up, .int .i64 dn] 32) hu
  have hs1 : (w0.alloc (.cells #[.int .u32 a1, .int .u16 p1, .int .u32 b1, .int .u16 q1, .int .u32 y1, .int .u32 z1, .int .u32 v1, .int .u32 e1, .int .i64 up, .int .i64 dn] 32)).heap.size = n0 + 1 + 1 := by rw [← hs0]; exact World.size_alloc ..
  generalize (w0.alloc (.cells #[.int .u32 a1, .int .u16 p1, .int .u32 b1, .int .u16 q1, .int .u32 y1, .int .u32 z1, .int .u32 v1, .int .u32 e1, .int .i64 up, .int .i64 dn] 32)) = w1 at hA1 hB hu1 hs1 ⊢
  clear hA hu hs0 w0
  have hC := Box.new w1 #[.int .u16 0, .int .i64 0, .bool false, .slice none 0 0, .bool false, .int .u32 0, .int .u32 0] 28
  rw [hs1] at hC
  have hA2 := hA1.alloc (.cells #[.int .u16 0, .int .i64 0, .bool false, .slice none 0 0, .bool false, .int .u32 0, .int .u32 0] 28)
  have hB2 := hB.alloc (.cells #[.int .u16 0, .int .i64 0, .bool false, .slice none 0 0, .bool false, .int .u32 0, .int .u32 0] 28)
  have hu2 := up_al (.cells #[.int .u16 0, .int .i64 0, .bool false, .slice none 0 0, .bool false, .int .u32 0, .int .u32 0] 28) hu1
  generalize (w1.alloc (.cells #[.int .u16 0, .int .i64 0, .bool false, .slice none 0 0, .bool false, .int .u32 0, .int .u32 0] 28)) = w2 at hA2 hB2 hC hu2 ⊢
  clear hA1 hB hu1 hs1 w1
  have hr2 := HR.out.up hu2
  have hlt := hC.1
  have k0 := hA2.at 0 rfl; have k1 := hA2.at 1 rfl; have k2 := hA2.at 2 rfl; have k3 := hA2.at 3 rfl; have k4 := hA2.at 4 rfl; have k5 := hA2.at 5 rfl; have k6 := hA2.at 6 rfl
  go_wp2_with fail
  refine (HCl.out w2 hr2).mono ?_
  rintro e_ w3 ⟨vv, rfl, A', c', rfl, hO, hv3⟩
  rw [hn] at hO ⊢
  clear HCl hr2 k0 k1 k2 k3 k4 k5 k6
  have hA3 := hA2.up hv3; have hB3 := hB2.up hv3; have hC3 := hC.up hv3; have hu3 := hu2.on hv3
  generalize w2.heap.size = B at hO hlt
  clear hA2 hB2 hC hu2 hv3 w2
  have k0 := hA3.at 0 rfl; have k1 := hA3.at 1 rfl; have k2 := hA3.at 2 rfl; have k3 := hA3.at 3 rfl; have k4 := hA3.at 4 rfl; have k5 := hA3.at 5 rfl; have k6 := hA3.at 6 rfl; have r0 := hA3.fr 0 rfl; have r1 := hA3.fr 1 rfl; have r2 := hA3.fr 2 rfl; have r3 := hA3.fr 3 rfl; have r4 := hA3.fr 4 rfl; have r5 := hA3.fr 5 rfl; have r6 := hA3.fr 6 rfl
  go_upto_region 2 with fail
  clear k0 k1 k2 k3 k4 k5 k6 r0 r1 r2 r3 r4 r5 r6
  have hA4 : Box (w3.setCell ⟨n0, 3, none⟩ (.slice A' n c')) n0 [.int .u16 m, .int .i64 s, .bool k, .slice A' n c', .bool false, .int .u32 v, .int .u32 e] := hA3.set 3 _
  have hB4 := hB3.far (show n0 ≠ n0 + 1 by omega) (o := 3) (.slice A' n c')
  have hC4 := hC3.far (show n0 ≠ n0 + 1 + 1 by omega) (o := 3) (.slice A' n c')
  have hO4 := op.OwnK.grownB hO (show n0 < B by omega) 3 (.slice A' n c')
  have hu4 := up_set (o := 3) (v := .slice A' n c') hu3 hle
  generalize World.setCell _ ⟨n0, 3, none⟩ _ = w4 at hA4 hB4 hC4 hO4 hu4 ⊢
  clear hA3 hB3 hC3 hO hu3 w3
  have k0 := hA4.at 0 rfl; have k1 := hA4.at 1 rfl; have k2 := hA4.at 2 rfl; have k3 := hA4.at 3 rfl; have k4 := hA4.at 4 rfl; have k5 := hA4.at 5 rfl; have k6 := hA4.at 6 rfl
  go_upto_region 3 with fail
  rw [← HM0.out] at hO4
  go_loopw [5, 13] (fun l5 iv wr => ∃ j : Nat, j ≤ n ∧ iv = .int .i64 j ∧ op.OwnK wr B (.slice A' n c') (mix z1 bl j) ∧ Box wr n0 [.int .u16 m, .int .i64 s, .bool k, .slice A' n c', .bool false, .int .u32 v, .int .u32 e] ∧ Box wr (n0 + 1) [.int .u32 a1, .int .u16 p1, .int .u32 b1, .int .u16 q1, .int .u32 y1, .int .u32 z1, .int .u32 v1, .int .u32 e1, .int .i64 up, .int .i64 dn] ∧ Box wr (n0 + 1 + 1) [.int .u16 0, .int .i64 0, .bool false, .slice none 0 0, .bool false, .int .u32 0, .int .u32 0] ∧ Up w wr) (fun _ iv _ => n - (RowKit.intOf iv).toNat)
  case atStart => exact ⟨0, Nat.zero_le _, rfl, hO4, hA4, hB4, hC4, hu4⟩
  case round =>
    obtain ⟨j, hj, rfl, hO5, hA5, hB5, hC5, hur⟩ := hrel
    clear hA4 hB4 hC4 hu4 hO4 k0 k1 k2 k3 k4 k5 k6
    by_cases hlt' : j < n
    · obtain ⟨x, hx, hx1, hx2⟩ := HMT.out j hlt'
      have hN := HMN.out j hlt' x hx
      obtain ⟨x1, x2⟩ := x
      dsimp only at hx1 hx2 hN
      have hml := HML.out j
      have hml2 := HML.out (j + 1)
      have hgd : (mix z1 bl j).getD j (0, 0) = (x1, x2) := by rw [List.getD, hx]; rfl
      obtain ⟨X1, hX1⟩ : ∃ X, X = om.addM x1 z1 := ⟨_, rfl⟩
      obtain ⟨X2, hX2⟩ : ∃ X, X = om.addM x2 z1 := ⟨_, rfl⟩
      have W1 : IntKind.u32.wrap ((x1 : Int) + (z1 : Int)) = (X1 : Int) := by rw [hX1]; exact wrap32 _ _ (by unfold om.M32 at hx1; omega) hz1
      have W1' : ((x1 : Int) + (z1 : Int)) % 4294967296 = (X1 : Int) := by rw [hX1]; exact mod32 _ _
      have W2 : IntKind.u32.wrap ((x2 : Int) + (z1 : Int)) = (X2 : Int) := by rw [hX2]; exact wrap32 _ _ (by unfold om.M32 at hx2; omega) hz1
      have W2' : ((x2 : Int) + (z1 : Int)) % 4294967296 = (X2 : Int) := by rw [hX2]; exact mod32 _ _
      rw [← hX1, ← hX2] at hN
      have HN := Lib.hid hN
      clear hN hX1 hX2
      obtain ⟨g, hg, hBg⟩ : ∃ g, A' = some ⟨g, 0, none⟩ ∧ B ≤ g := by
        rcases own_form hO5 with ⟨hz, h0⟩ | ⟨g, cap, hz, hBg, _⟩
        · rw [hml] at h0; omega
        · cases hz; exact ⟨g, rfl, hBg⟩
      subst hg
      have hne : g ≠ n0 := by omega
      have hne1 : g ≠ n0 + 1 := by omega
      have hne2 : g ≠ n0 + 1 + 1 := by omega
      have P1 := Lib.hid (ownK_put1 hO5 hml hlt' X1)
      obtain ⟨c1, c2, d1, d2⟩ := ownK_at hO5 hml hlt'
      rw [hgd] at c1 c2 P1
      dsimp only at c1 c2 P1
      have k3 := hA5.at 3 rfl
      have l5 := hB5.at 5 rfl
      have i1 : (j : Int) < (n : Int) := by omega
      go_upto_region 5 with fail
      go_region
      have hO6 := World.ownsRow.drew P1.out
      have hA6 := (hA5.far hne (o := j * 2) (.int .u32 X1)).drew
      have hB6 := (hB5.far hne1 (o := j * 2) (.int .u32 X1)).drew
      have hC6 := (hC5.far hne2 (o := j * 2) (.int .u32 X1)).drew
      have hu6 := up_dr (up_set (o := j * 2) (v := .int .u32 X1) hur (show w.heap.size ≤ g by omega))
      generalize (wr.setCell ⟨g, j * 2, none⟩ (.int .u32 X1)).drew = w6 at hO6 hA6 hB6 hC6 hu6 ⊢
      clear c1 c2 d1 d2 k3 l5 P1 hO5 hA5 hB5 hC5 hur W1 W1'
      have hml6 : ((mix z1 bl j).set j (X1, x2)).length = n := by rw [List.length_set]; exact hml
      have hgd6 : ((mix z1 bl j).set j (X1, x2)).getD j (0, 0) = (X1, x2) := by
        rw [List.getD, List.getElem?_set_self (by rw [hml]; exact hlt')]; rfl
      have hO6' : op.OwnK w6 B (.slice (some ⟨g, 0, none⟩) n c') ((mix z1 bl j).set j (X1, x2)) := hO6
      have P2 := Lib.hid (ownK_put2 hO6' hml6 hlt' X2)
      obtain ⟨c1, c2, d1, d2⟩ := ownK_at hO6' hml6 hlt'
      rw [hgd6] at c1 c2 P2
      dsimp only at c1 c2 P2
      rw [← HN.out] at P2
      clear hO6 hO6' HN hgd hgd6 hx hml hml6 hx1 hx2
      have k3 := hA6.at 3 rfl
      have l5 := hB6.at 5 rfl
      go_upto_region 6 with fail
      go_region
      have hO7 := World.ownsRow.drew P2.out
      have hA7 := (hA6.far hne (o := j * 2 + 1) (.int .u32 X2)).drew
      have hB7 := (hB6.far hne1 (o := j * 2 + 1) (.int .u32 X2)).drew
      have hC7 := (hC6.far hne2 (o := j * 2 + 1) (.int .u32 X2)).drew
      have hu7 := up_dr (up_set (o := j * 2 + 1) (v := .int .u32 X2) hu6 (show w.heap.size ≤ g by omega))
      generalize (w6.setCell ⟨g, j * 2 + 1, none⟩ (.int .u32 X2)).drew = w7 at hO7 hA7 hB7 hC7 hu7 ⊢
      clear c1 c2 d1 d2 k3 l5 P2 hA6 hB6 hC6 hu6 W2 W2'
      have hO7' : op.OwnK w7 B (.slice (some ⟨g, 0, none⟩) n c') (mix z1 bl (j + 1)) := hO7
      clear hO7
      go_wp2
      go_roundw
      case rel => exact ⟨j + 1, by omega, by go_num, hO7', hA7, hB7, hC7, hu7⟩
      case measure => simp [RowKit.intOf]; omega
    · obtain rfl : j = n := by omega
      rw [HMA.out] at hO5
      clear HMT HMN HML HM0 HMA hlt'
      obtain ⟨tb, htb⟩ : ∃ tb, tb = bl.map fun x => (om.addM x.1 z1, om.addM x.2 z1) := ⟨_, rfl⟩
      rw [← htb] at hO5
      have htl : tb.length = j := by rw [htb, List.length_map, hn]
      have HTB := Lib.hid htb
      clear htb
      have k0 := hA5.at 0 rfl; have k1 := hA5.at 1 rfl; have k2 := hA5.at 2 rfl; have k3 := hA5.at 3 rfl; have k4 := hA5.at 4 rfl; have k5 := hA5.at 5 rfl; have k6 := hA5.at 6 rfl; have r0 := hA5.fr 0 rfl; have r1 := hA5.fr 1 rfl; have r2 := hA5.fr 2 rfl; have r3 := hA5.fr 3 rfl; have r4 := hA5.fr 4 rfl; have r5 := hA5.fr 5 rfl; have r6 := hA5.fr 6 rfl; have l0 := hB5.at 0 rfl; have l1 := hB5.at 1 rfl; have l2 := hB5.at 2 rfl; have l3 := hB5.at 3 rfl; have l4 := hB5.at 4 rfl; have l5 := hB5.at 5 rfl; have l6 := hB5.at 6 rfl; have l7 := hB5.at 7 rfl; have l8 := hB5.at 8 rfl; have l9 := hB5.at 9 rfl
      go_upto_region 11 with fail
      clear k0 k1 k2 k3 k4 k5 k6 r0 r1 r2 r3 r4 r5 r6 l0 l1 l2 l3 l4 l5 l6 l7 l8 l9
      have k0 := hA5.at 0 rfl; have k1 := hA5.at 1 rfl; have k2 := hA5.at 2 rfl; have k3 := hA5.at 3 rfl; have k4 := hA5.at 4 rfl; have k5 := hA5.at 5 rfl; have k6 := hA5.at 6 rfl; have l0 := hC5.fr 0 rfl; have l1 := hC5.fr 1 rfl; have l2 := hC5.fr 2 rfl; have l3 := hC5.fr 3 rfl; have l4 := hC5.fr 4 rfl; have l5 := hC5.fr 5 rfl; have l6 := hC5.fr 6 rfl; have q0 := hC5.at 0 rfl; have q1 := hC5.at 1 rfl; have q2 := hC5.at 2 rfl; have q3 := hC5.at 3 rfl; have q4 := hC5.at 4 rfl; have q5 := hC5.at 5 rfl; have q6 := hC5.at 6 rfl
      go_wp2_with fail
      have hC9 := ip.put7 hC5 (.int .u16 m) (.int .i64 s) (.bool k) (.slice A' j c') (.bool false) (.int .u32 v) (.int .u32 e)
      have hu9 := ip.ups7 (b := n0 + 1 + 1) hur (by omega) (.int .u16 m) (.int .i64 s) (.bool k) (.slice A' j c') (.bool false) (.int .u32 v) (.int .u32 e)
      have hO9 := own7 hO5 (show n0 + 1 + 1 < B by omega) (.int .u16 m) (.int .i64 s) (.bool k) (.slice A' j c') (.bool false) (.int .u32 v) (.int .u32 e)
      generalize World.setCell _ ⟨n0 + 1 + 1, 6, none⟩ _ = w9 at hC9 hu9 hO9 ⊢
      clear k0 k1 k2 k3 k4 k5 k6 l0 l1 l2 l3 l4 l5 l6 q0 q1 q2 q3 q4 q5 q6 hA5 hC5 hO5 hur
      have l0 := hC9.at 0 rfl; have l1 := hC9.at 1 rfl; have l2 := hC9.at 2 rfl; have l3 := hC9.at 3 rfl; have l4 := hC9.at 4 rfl; have l5 := hC9.at 5 rfl; have l6 := hC9.at 6 rfl
      (try simp only [Exit.inBlock, Exit.then])
      refine bodyPost_ret (v := .agg #[.int .u16 m, .int .i64 s, .bool k, .slice A' j c', .bool false, .int .u32 v, .int .u32 e]) ?_ rfl ⟨_, rfl, ?_, hu9⟩
      · rw [ip.results_cell1 rfl]; go_simp
      · obtain ⟨A3, c3, he3, hr3⟩ := hO9.rd
        rw [htl] at he3
        cases he3
        refine ⟨A', j, c', ?_, ?_, ?_, ?_, ownK_tag hO9⟩
        · rw [show om.tOp z1 v1 e1 ⟨m, s, k, bl, false, v, e⟩ = ⟨m, s, k, tb, false, v, e⟩ by rw [HTB.out]; rfl]
        · show (List.map _ _).length = j
          rw [← HTB.out]; exact htl
        · show op.RdB _ _ (List.map _ _)
          rw [← HTB.out]; exact hr3
        · intro ad had
          rcases own_form hO9 with ⟨hz, h0⟩ | ⟨g, cap, hz, hBg, _⟩
          · cases hz; cases had
          · cases hz; cases had; exact Nat.le_trans hle (by show n0 ≤ g; omega)
set_option maxHeartbeats 8000000 in
set_option maxRecDepth 100000 in
theorem turnedOpts_t (m : Nat) (s : Int) (k : Bool) (A : Option Addr) (n c : Nat) (v e : Nat) (bl : List (Nat × Nat)) (a1 p1 b1 q1 y1 z1 v1 e1 : Nat) (up dn : Int) (w : World)
    (hv : v ≤ 4294967295) (he : e ≤ 4294967295) (hb : ∀ x ∈ bl, x.1 < om.M32 ∧ x.2 < om.M32) (hn : bl.length = n) (hn2 : n ≤ 1048576) (hr : op.RdB w A bl) (hz1 : z1 ≤ 4294967295) (hv1 : v1 ≤ 4294967295) (he1 : e1 ≤ 4294967295) :
    Calls Try.prog 30 #[op.OA m s k A n c true v e, SHV a1 p1 b1 q1 y1 z1 v1 e1 up dn] w fun e_ w' => ∃ X, e_ = .returned X ∧ OptT w.heap.size w' X (om.tOp z1 v1 e1 ⟨m, s, k, bl, true, v, e⟩) ∧ Up w w' := by
  have HR := Lib.hid hr
  have HM0 := Lib.hid (mix_0 z1 bl)
  have HMA := Lib.hid (mix_all z1 bl)
  rw [hn] at HMA
  have HML := Lib.hid (fun j => (mix_len z1 bl j).trans hn)
  have HMT := Lib.hid (fun j (h : j < n) => (⟨bl[j], mix_at z1 bl j (by omega), hb _ (List.getElem_mem _)⟩ : ∃ x, (mix z1 bl j)[j]? = some x ∧ x.1 < om.M32 ∧ x.2 < om.M32))
  have HMN := Lib.hid (fun j (h : j < n) x hx => mix_next z1 bl j (by omega) x hx)
  have HCl := Lib.hid (fun w (hr : op.RdB w A bl) => op.cloneB A n c bl w hn hr hn2)
  clear hr hb
  go_enter Try.func30, Try.ntmps30
  go_upto_region 1 with fail
  have hA := Box.new w #[.int .u16 m, .int .i64 s, .bool k, .slice A n c, .bool true, .int .u32 v, .int .u32 e] 28
  have hu := up_al (w := w) (.cells #[.int .u16 m, .int .i64 s, .bool k, .slice A n c, .bool true, .int .u32 v, .int .u32 e] 28) (Below.refl _ _)
  have hs0 : (w.alloc (.cells #[.int .u16 m, .int .i64 s, .bool k, .slice A n c, .bool true, .int .u32 v, .int .u32 e] 28)).heap.size = w.heap.size + 1 := World.size_alloc ..
  generalize (w.alloc (.cells #[.int .u16 m, .int .i64 s, .bool k, .slice A n c, .bool true, .int .u32 v, .int .u32 e] 28)) = w0 at hA hu hs0 ⊢
  obtain ⟨n0, hn0⟩ : ∃ n0, n0 = w.heap.size := ⟨_, rfl⟩
  have hle : w.heap.size ≤ n0 := by omega
  rw [← hn0] at hA hs0 ⊢
  clear hn0
  have hB := Box.new w0 #[.int .u32 a1, .int .u16 p1, .int .u32 b1, .int .u16 q1, .int .u32 y1, .int .u32 z1, .int .u32 v1, .int .u32 e1, .int .i64 up, .int .i64 dn] 32
  rw [hs0] at hB
  have hA1 := hA.alloc (.cells #[.int .u32 a1, .int .u16 p1, .int .u32 b1, .int .u16 q1, .int .u32 y1, .int .u32 z1, .int .u32 v1, .int .u32 e1, .int .i64 up, .int .i64 dn] 32)
  have hu1 := up_al (.cells #[.int .u32 a1, .int .u16 p1, .int .u32 b1, .int .u16 q1, .int .u32 y1, .int .u32 z1, .int .u32 v1, .int .u32 e1, .int .i64 up, .int .i64 dn] 32) hu
  have hs1 : (w0.alloc (.cells #[.int .u32 a1, .int .u16 p1, .int .u32 b1, .int .u16 q1, .int .u32 y1, .int .u32 z1, .int .u32 v1, .int .u32 e1, .int .i64 up, .int .i64 dn] 32)).heap.size = n0 + 1 + 1 := by rw [← hs0]; exact World.size_alloc ..
  generalize (w0.alloc (.cells #[.int .u32 a1, .int .u16 p1, .int .u32 b1, .int .u16 q1, .int .u32 y1, .int .u32 z1, .int .u32 v1, .int .u32 e1, .int .i64 up, .int .i64 dn] 32)) = w1 at hA1 hB hu1 hs1 ⊢
  clear hA hu hs0 w0
  have hC := Box.new w1 #[.int .u16 0, .int .i64 0, .bool false, .slice none 0 0, .bool false, .int .u32 0, .int .u32 0] 28
  rw [hs1] at hC
  have hA2 := hA1.alloc (.cells #[.int .u16 0, .int .i64 0, .bool false, .slice none 0 0, .bool false, .int .u32 0, .int .u32 0] 28)
  have hB2 := hB.alloc (.cells #[.int .u16 0, .int .i64 0, .bool false, .slice none 0 0, .bool false, .int .u32 0, .int .u32 0] 28)
  have hu2 := up_al (.cells #[.int .u16 0, .int .i64 0, .bool false, .slice none 0 0, .bool false, .int .u32 0, .int .u32 0] 28) hu1
  generalize (w1.alloc (.cells #[.int .u16 0, .int .i64 0, .bool false, .slice none 0 0, .bool false, .int .u32 0, .int .u32 0] 28)) = w2 at hA2 hB2 hC hu2 ⊢
  clear hA1 hB hu1 hs1 w1
  have hr2 := HR.out.up hu2
  have hlt := hC.1
  have k0 := hA2.at 0 rfl; have k1 := hA2.at 1 rfl; have k2 := hA2.at 2 rfl; have k3 := hA2.at 3 rfl; have k4 := hA2.at 4 rfl; have k5 := hA2.at 5 rfl; have k6 := hA2.at 6 rfl
  go_wp2_with fail
  refine (HCl.out w2 hr2).mono ?_
  rintro e_ w3 ⟨vv, rfl, A', c', rfl, hO, hv3⟩
  rw [hn] at hO ⊢
  clear HCl hr2 k0 k1 k2 k3 k4 k5 k6
  have hA3 := hA2.up hv3; have hB3 := hB2.up hv3; have hC3 := hC.up hv3; have hu3 := hu2.on hv3
  generalize w2.heap.size = B at hO hlt
  clear hA2 hB2 hC hu2 hv3 w2
  have k0 := hA3.at 0 rfl; have k1 := hA3.at 1 rfl; have k2 := hA3.at 2 rfl; have k3 := hA3.at 3 rfl; have k4 := hA3.at 4 rfl; have k5 := hA3.at 5 rfl; have k6 := hA3.at 6 rfl; have r0 := hA3.fr 0 rfl; have r1 := hA3.fr 1 rfl; have r2 := hA3.fr 2 rfl; have r3 := hA3.fr 3 rfl; have r4 := hA3.fr 4 rfl; have r5 := hA3.fr 5 rfl; have r6 := hA3.fr 6 rfl
  go_upto_region 2 with fail
  clear k0 k1 k2 k3 k4 k5 k6 r0 r1 r2 r3 r4 r5 r6
  have hA4 : Box (w3.setCell ⟨n0, 3, none⟩ (.slice A' n c')) n0 [.int .u16 m, .int .i64 s, .bool k, .slice A' n c', .bool true, .int .u32 v, .int .u32 e] := hA3.set 3 _
  have hB4 := hB3.far (show n0 ≠ n0 + 1 by omega) (o := 3) (.slice A' n c')
  have hC4 := hC3.far (show n0 ≠ n0 + 1 + 1 by omega) (o := 3) (.slice A' n c')
  have hO4 := op.OwnK.grownB hO (show n0 < B by omega) 3 (.slice A' n c')
  have hu4 := up_set (o := 3) (v := .slice A' n c') hu3 hle
  generalize World.setCell _ ⟨n0, 3, none⟩ _ = w4 at hA4 hB4 hC4 hO4 hu4 ⊢
  clear hA3 hB3 hC3 hO hu3 w3
  have k0 := hA4.at 0 rfl; have k1 := hA4.at 1 rfl; have k2 := hA4.at 2 rfl; have k3 := hA4.at 3 rfl; have k4 := hA4.at 4 rfl; have k5 := hA4.at 5 rfl; have k6 := hA4.at 6 rfl
  go_upto_region 3 with fail
  rw [← HM0.out] at hO4
  go_loopw [5, 13] (fun l5 iv wr => ∃ j : Nat, j ≤ n ∧ iv = .int .i64 j ∧ op.OwnK wr B (.slice A' n c') (mix z1 bl j) ∧ Box wr n0 [.int .u16 m, .int .i64 s, .bool k, .slice A' n c', .bool true, .int .u32 v, .int .u32 e] ∧ Box wr (n0 + 1) [.int .u32 a1, .int .u16 p1, .int .u32 b1, .int .u16 q1, .int .u32 y1, .int .u32 z1, .int .u32 v1, .int .u32 e1, .int .i64 up, .int .i64 dn] ∧ Box wr (n0 + 1 + 1) [.int .u16 0, .int .i64 0, .bool false, .slice none 0 0, .bool false, .int .u32 0, .int .u32 0] ∧ Up w wr) (fun _ iv _ => n - (RowKit.intOf iv).toNat)
  case atStart => exact ⟨0, Nat.zero_le _, rfl, hO4, hA4, hB4, hC4, hu4⟩
  case round =>
    obtain ⟨j, hj, rfl, hO5, hA5, hB5, hC5, hur⟩ := hrel
    clear hA4 hB4 hC4 hu4 hO4 k0 k1 k2 k3 k4 k5 k6
    by_cases hlt' : j < n
    · obtain ⟨x, hx, hx1, hx2⟩ := HMT.out j hlt'
      have hN := HMN.out j hlt' x hx
      obtain ⟨x1, x2⟩ := x
      dsimp only at hx1 hx2 hN
      have hml := HML.out j
      have hml2 := HML.out (j + 1)
      have hgd : (mix z1 bl j).getD j (0, 0) = (x1, x2) := by rw [List.getD, hx]; rfl
      obtain ⟨X1, hX1⟩ : ∃ X, X = om.addM x1 z1 := ⟨_, rfl⟩
      obtain ⟨X2, hX2⟩ : ∃ X, X = om.addM x2 z1 := ⟨_, rfl⟩
      have W1 : IntKind.u32.wrap ((x1 : Int) + (z1 : Int)) = (X1 : Int) := by rw [hX1]; exact wrap32 _ _ (by unfold om.M32 at hx1; omega) hz1
      have W1' : ((x1 : Int) + (z1 : Int)) % 4294967296 = (X1 : Int) := by rw [hX1]; exact mod32 _ _
      have W2 : IntKind.u32.wrap ((x2 : Int) + (z1 : Int)) = (X2 : Int) := by rw [hX2]; exact wrap32 _ _ (by unfold om.M32 at hx2; omega) hz1
      have W2' : ((x2 : Int) + (z1 : Int)) % 4294967296 = (X2 : Int) := by rw [hX2]; exact mod32 _ _
      rw [← hX1, ← hX2] at hN
      have HN := Lib.hid hN
      clear hN hX1 hX2
      obtain ⟨g, hg, hBg⟩ : ∃ g, A' = some ⟨g, 0, none⟩ ∧ B ≤ g := by
        rcases own_form hO5 with ⟨hz, h0⟩ | ⟨g, cap, hz, hBg, _⟩
        · rw [hml] at h0; omega
        · cases hz; exact ⟨g, rfl, hBg⟩
      subst hg
      have hne : g ≠ n0 := by omega
      have hne1 : g ≠ n0 + 1 := by omega
      have hne2 : g ≠ n0 + 1 + 1 := by omega
      have P1 := Lib.hid (ownK_put1 hO5 hml hlt' X1)
      obtain ⟨c1, c2, d1, d2⟩ := ownK_at hO5 hml hlt'
      rw [hgd] at c1 c2 P1
      dsimp only at c1 c2 P1
      have k3 := hA5.at 3 rfl
      have l5 := hB5.at 5 rfl
      have i1 : (j : Int) < (n : Int) := by omega
      go_upto_region 5 with fail
      go_region
      have hO6 := World.ownsRow.drew P1.out
      have hA6 := (hA5.far hne (o := j * 2) (.int .u32 X1)).drew
      have hB6 := (hB5.far hne1 (o := j * 2) (.int .u32 X1)).drew
      have hC6 := (hC5.far hne2 (o := j * 2) (.int .u32 X1)).drew
      have hu6 := up_dr (up_set (o := j * 2) (v := .int .u32 X1) hur (show w.heap.size ≤ g by omega))
      generalize (wr.setCell ⟨g, j * 2, none⟩ (.int .u32 X1)).drew = w6 at hO6 hA6 hB6 hC6 hu6 ⊢
      clear c1 c2 d1 d2 k3 l5 P1 hO5 hA5 hB5 hC5 hur W1 W1'
      have hml6 : ((mix z1 bl j).set j (X1, x2)).length = n := by rw [List.length_set]; exact hml
      have hgd6 : ((mix z1 bl j).set j (X1, x2)).getD j (0, 0) = (X1, x2) := by
        rw [List.getD, List.getElem?_set_self (by rw [hml]; exact hlt')]; rfl
      have hO6' : op.OwnK w6 B (.slice (some ⟨g, 0, none⟩) n c') ((mix z1 bl j).set j (X1, x2)) := hO6
      have P2 := Lib.hid (ownK_put2 hO6' hml6 hlt' X2)
      obtain ⟨c1, c2, d1, d2⟩ := ownK_at hO6' hml6 hlt'
      rw [hgd6] at c1 c2 P2
      dsimp only at c1 c2 P2
      rw [← HN.out] at P2
      clear hO6 hO6' HN hgd hgd6 hx hml hml6 hx1 hx2
      have k3 := hA6.at 3 rfl
      have l5 := hB6.at 5 rfl
      go_upto_region 6 with fail
      go_region
      have hO7 := World.ownsRow.drew P2.out
      have hA7 := (hA6.far hne (o := j * 2 + 1) (.int .u32 X2)).drew
      have hB7 := (hB6.far hne1 (o := j * 2 + 1) (.int .u32 X2)).drew
      have hC7 := (hC6.far hne2 (o := j * 2 + 1) (.int .u32 X2)).drew
      have hu7 := up_dr (up_set (o := j * 2 + 1) (v := .int .u32 X2) hu6 (show w.heap.size ≤ g by omega))
      generalize (w6.setCell ⟨g, j * 2 + 1, none⟩ (.int .u32 X2)).drew = w7 at hO7 hA7 hB7 hC7 hu7 ⊢
      clear c1 c2 d1 d2 k3 l5 P2 hA6 hB6 hC6 hu6 W2 W2'
      have hO7' : op.OwnK w7 B (.slice (some ⟨g, 0, none⟩) n c') (mix z1 bl (j + 1)) := hO7
      clear hO7
      go_wp2
      go_roundw
      case rel => exact ⟨j + 1, by omega, by go_num, hO7', hA7, hB7, hC7, hu7⟩
      case measure => simp [RowKit.intOf]; omega
    · obtain rfl : j = n := by omega
      rw [HMA.out] at hO5
      clear HMT HMN HML HM0 HMA hlt'
      obtain ⟨tb, htb⟩ : ∃ tb, tb = bl.map fun x => (om.addM x.1 z1, om.addM x.2 z1) := ⟨_, rfl⟩
      rw [← htb] at hO5
      have htl : tb.length = j := by rw [htb, List.length_map, hn]
      have HTB := Lib.hid htb
      clear htb
      have k0 := hA5.at 0 rfl; have k1 := hA5.at 1 rfl; have k2 := hA5.at 2 rfl; have k3 := hA5.at 3 rfl; have k4 := hA5.at 4 rfl; have k5 := hA5.at 5 rfl; have k6 := hA5.at 6 rfl; have r0 := hA5.fr 0 rfl; have r1 := hA5.fr 1 rfl; have r2 := hA5.fr 2 rfl; have r3 := hA5.fr 3 rfl; have r4 := hA5.fr 4 rfl; have r5 := hA5.fr 5 rfl; have r6 := hA5.fr 6 rfl; have l0 := hB5.at 0 rfl; have l1 := hB5.at 1 rfl; have l2 := hB5.at 2 rfl; have l3 := hB5.at 3 rfl; have l4 := hB5.at 4 rfl; have l5 := hB5.at 5 rfl; have l6 := hB5.at 6 rfl; have l7 := hB5.at 7 rfl; have l8 := hB5.at 8 rfl; have l9 := hB5.at 9 rfl
      obtain ⟨v2, hv2⟩ : ∃ v2, v2 = om.addM v v1 := ⟨_, rfl⟩
      obtain ⟨e2, he2⟩ : ∃ e2, e2 = om.addM e e1 := ⟨_, rfl⟩
      have wv : IntKind.u32.wrap ((v : Int) + (v1 : Int)) = (v2 : Int) := by rw [hv2]; exact wrap32 _ _ hv hv1
      have wv' : ((v : Int) + (v1 : Int)) % 4294967296 = (v2 : Int) := by rw [hv2]; exact mod32 _ _
      have we : IntKind.u32.wrap ((e : Int) + (e1 : Int)) = (e2 : Int) := by rw [he2]; exact wrap32 _ _ he he1
      have we' : ((e : Int) + (e1 : Int)) % 4294967296 = (e2 : Int) := by rw [he2]; exact mod32 _ _
      have HV := Lib.hid hv2
      have HE := Lib.hid he2
      clear hv2 he2
      go_upto_region 11 with fail
      clear k0 k1 k2 k3 k4 k5 k6 r0 r1 r2 r3 r4 r5 r6 l0 l1 l2 l3 l4 l5 l6 l7 l8 l9 wv wv' we we'
      have hAs5 : Box (wr.setCell ⟨n0, 5, none⟩ (.int .u32 v2)) n0 [.int .u16 m, .int .i64 s, .bool k, .slice A' j c', .bool true, .int .u32 v2, .int .u32 e] := hA5.set 5 _
      have hCs5 := hC5.far (show n0 ≠ n0 + 1 + 1 by omega) (o := 5) (.int .u32 v2)
      have hOs5 := op.OwnK.grownB hO5 (show n0 < B by omega) 5 (.int .u32 v2)
      have hus5 := up_set (o := 5) (v := .int .u32 v2) hur hle
      generalize World.setCell _ ⟨n0, 5, none⟩ _ = ws5 at hAs5 hCs5 hOs5 hus5 ⊢
      clear hA5 hC5 hO5 hur
      have hAs6 : Box (ws5.setCell ⟨n0, 6, none⟩ (.int .u32 e2)) n0 [.int .u16 m, .int .i64 s, .bool k, .slice A' j c', .bool true, .int .u32 v2, .int .u32 e2] := hAs5.set 6 _
      have hCs6 := hCs5.far (show n0 ≠ n0 + 1 + 1 by omega) (o := 6) (.int .u32 e2)
      have hOs6 := op.OwnK.grownB hOs5 (show n0 < B by omega) 6 (.int .u32 e2)
      have hus6 := up_set (o := 6) (v := .int .u32 e2) hus5 hle
      generalize World.setCell _ ⟨n0, 6, none⟩ _ = ws6 at hAs6 hCs6 hOs6 hus6 ⊢
      clear hAs5 hCs5 hOs5 hus5
      have k0 := hAs6.at 0 rfl; have k1 := hAs6.at 1 rfl; have k2 := hAs6.at 2 rfl; have k3 := hAs6.at 3 rfl; have k4 := hAs6.at 4 rfl; have k5 := hAs6.at 5 rfl; have k6 := hAs6.at 6 rfl; have l0 := hCs6.fr 0 rfl; have l1 := hCs6.fr 1 rfl; have l2 := hCs6.fr 2 rfl; have l3 := hCs6.fr 3 rfl; have l4 := hCs6.fr 4 rfl; have l5 := hCs6.fr 5 rfl; have l6 := hCs6.fr 6 rfl; have q0 := hCs6.at 0 rfl; have q1 := hCs6.at 1 rfl; have q2 := hCs6.at 2 rfl; have q3 := hCs6.at 3 rfl; have q4 := hCs6.at 4 rfl; have q5 := hCs6.at 5 rfl; have q6 := hCs6.at 6 rfl
      go_wp2_with fail
      have hC9 := ip.put7 hCs6 (.int .u16 m) (.int .i64 s) (.bool k) (.slice A' j c') (.bool true) (.int .u32 v2) (.int .u32 e2)
      have hu9 := ip.ups7 (b := n0 + 1 + 1) hus6 (by omega) (.int .u16 m) (.int .i64 s) (.bool k) (.slice A' j c') (.bool true) (.int .u32 v2) (.int .u32 e2)
      have hO9 := own7 hOs6 (show n0 + 1 + 1 < B by omega) (.int .u16 m) (.int .i64 s) (.bool k) (.slice A' j c') (.bool true) (.int .u32 v2) (.int .u32 e2)
      generalize World.setCell _ ⟨n0 + 1 + 1, 6, none⟩ _ = w9 at hC9 hu9 hO9 ⊢
      clear k0 k1 k2 k3 k4 k5 k6 l0 l1 l2 l3 l4 l5 l6 q0 q1 q2 q3 q4 q5 q6 hAs6 hCs6 hOs6 hus6
      have l0 := hC9.at 0 rfl; have l1 := hC9.at 1 rfl; have l2 := hC9.at 2 rfl; have l3 := hC9.at 3 rfl; have l4 := hC9.at 4 rfl; have l5 := hC9.at 5 rfl; have l6 := hC9.at 6 rfl
      (try simp only [Exit.inBlock, Exit.then])
      refine bodyPost_ret (v := .agg #[.int .u16 m, .int .i64 s, .bool k, .slice A' j c', .bool true, .int .u32 v2, .int .u32 e2]) ?_ rfl ⟨_, rfl, ?_, hu9⟩
      · rw [ip.results_cell1 rfl]; go_simp
      · obtain ⟨A3, c3, he3, hr3⟩ := hO9.rd
        rw [htl] at he3
        cases he3
        refine ⟨A', j, c', ?_, ?_, ?_, ?_, ownK_tag hO9⟩
        · rw [show om.tOp z1 v1 e1 ⟨m, s, k, bl, true, v, e⟩ = ⟨m, s, k, tb, true, v2, e2⟩ by rw [HTB.out, HV.out, HE.out]; rfl]
        · show (List.map _ _).length = j
          rw [← HTB.out]; exact htl
        · show op.RdB _ _ (List.map _ _)
          rw [← HTB.out]; exact hr3
        · intro ad had
          rcases own_form hO9 with ⟨hz, h0⟩ | ⟨g, cap, hz, hBg, _⟩
          · cases hz; cases had
          · cases hz; cases had; exact Nat.le_trans hle (by show n0 ≤ g; omega)
theorem turnedOptsC (m : Nat) (s : Int) (k : Bool) (A : Option Addr) (n c : Nat) (t : Bool) (v e : Nat) (bl : List (Nat × Nat)) (a1 p1 b1 q1 y1 z1 v1 e1 : Nat) (up dn : Int) (w : World)
    (hv : v ≤ 4294967295) (he : e ≤ 4294967295) (hb : ∀ x ∈ bl, x.1 < om.M32 ∧ x.2 < om.M32) (hn : bl.length = n) (hn2 : n ≤ 1048576) (hr : op.RdB w A bl) (hz1 : z1 ≤ 4294967295) (hv1 : v1 ≤ 4294967295) (he1 : e1 ≤ 4294967295) :
    Calls Try.prog 30 #[op.OA m s k A n c t v e, SHV a1 p1 b1 q1 y1 z1 v1 e1 up dn] w fun e_ w' => ∃ X, e_ = .returned X ∧ OptT w.heap.size w' X (om.tOp z1 v1 e1 ⟨m, s, k, bl, t, v, e⟩) ∧ Up w w' := by
  cases t
  · exact turnedOpts_f m s k A n c v e bl a1 p1 b1 q1 y1 z1 v1 e1 up dn w hv he hb hn hn2 hr hz1 hv1 he1
  · exact turnedOpts_t m s k A n c v e bl a1 p1 b1 q1 y1 z1 v1 e1 up dn w hv he hb hn hn2 hr hz1 hv1 he1
end Go.Proofs.Ytafckmbgefbonaa.pk
