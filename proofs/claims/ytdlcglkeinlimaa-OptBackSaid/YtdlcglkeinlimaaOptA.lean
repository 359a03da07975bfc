/- Blocks of numbers as they lie in memory, and as a call gathers them; options as a value. Condition: none. -/
import Derived.Test.YtdlcglkeinlimaaOptT
import Derived.Test.YtdlcglkeinlimaaNetRef
namespace Go.Proofs.Ytdlcglkeinlimaa.op
open Go.RowKit Go.Shelf Go.Lib Go.Proofs.Ytdlcglkeinlimaa.sm Go.Proofs.Ytdlcglkeinlimaa.nb Go.Proofs.Ytdlcglkeinlimaa.om
set_option linter.unusedVariables false

/-- a slice's address and its blocks, as they lie in a world -/
def RdB (w : World) (A : Option Addr) (xs : List (Nat × Nat)) : Prop :=
  xs ≠ [] → ∃ b off, A = some ⟨b, off, none⟩ ∧ b < w.heap.size ∧ ∀ k, k < xs.length →
    w.cell? ⟨b, off + k * 2, none⟩ = some (.int .u32 ((xs.getD k (0, 0)).1 : Nat)) ∧ w.cell? ⟨b, off + k * 2 + 1, none⟩ = some (.int .u32 ((xs.getD k (0, 0)).2 : Nat))
theorem RdB.at_ {w : World} {A : Option Addr} {xs : List (Nat × Nat)} (h : RdB w A xs) {k : Nat} (hk : k < xs.length) : ∃ b off, A = some ⟨b, off, none⟩ ∧ b < w.heap.size ∧
    ∃ x1 x2 : Nat, w.cell? ⟨b, off + k * 2, none⟩ = some (.int .u32 x1) ∧ w.cell? ⟨b, off + k * 2 + 1, none⟩ = some (.int .u32 x2) ∧ Hid (xs[k]? = some (x1, x2)) := by
  obtain ⟨b, off, e, hl, hc⟩ := h (by intro h; subst h; simp at hk)
  obtain ⟨c1, c2⟩ := hc k hk
  exact ⟨b, off, e, hl, _, _, c1, c2, (show xs[k]? = _ by simp [List.getD, List.getElem?_eq_getElem hk])⟩
theorem RdB.two {w : World} {A : Option Addr} {xs : List (Nat × Nat)} (h : RdB w A xs) {k j : Nat} (hk : k < xs.length) (hj : j < xs.length) : ∃ b off, A = some ⟨b, off, none⟩ ∧ b < w.heap.size ∧
    ∃ x1 x2 y1 y2 : Nat, w.cell? ⟨b, off + k * 2, none⟩ = some (.int .u32 x1) ∧ w.cell? ⟨b, off + k * 2 + 1, none⟩ = some (.int .u32 x2) ∧ Hid (xs[k]? = some (x1, x2)) ∧
      w.cell? ⟨b, off + j * 2, none⟩ = some (.int .u32 y1) ∧ w.cell? ⟨b, off + j * 2 + 1, none⟩ = some (.int .u32 y2) ∧ Hid (xs[j]? = some (y1, y2)) := by
  obtain ⟨b, off, e, hl, x1, x2, c1, c2, hx⟩ := h.at_ hk
  obtain ⟨b', off', e', hl', y1, y2, d1, d2, hy⟩ := h.at_ hj
  rw [e] at e'; cases e'
  exact ⟨b, off, e, hl, x1, x2, y1, y2, c1, c2, hx, d1, d2, hy⟩
theorem RdB.below {w w' : World} {A : Option Addr} {xs : List (Nat × Nat)} (h : RdB w A xs) {B : Nat} (hb : Below B w w') (hB : w.heap.size ≤ B) : RdB w' A xs := fun hn => by
  obtain ⟨b, off, rfl, hlt, hc⟩ := h hn
  refine ⟨b, off, rfl, Nat.lt_of_lt_of_le hlt hb.size, fun k hk => ?_⟩
  obtain ⟨h1, h2⟩ := hc k hk
  exact ⟨(hb.cell (p := ⟨b, _, none⟩) (Nat.lt_of_lt_of_le hlt hB)).trans h1, (hb.cell (p := ⟨b, _, none⟩) (Nat.lt_of_lt_of_le hlt hB)).trans h2⟩

def cells (xs : List (Nat × Nat)) : List Value := xs.flatMap fun x => [.int .u32 (x.1 : Nat), .int .u32 (x.2 : Nat)]
theorem cells_nil : cells [] = [] := rfl
theorem cells_cons (x : Nat × Nat) (r : List (Nat × Nat)) : cells (x :: r) = .int .u32 (x.1 : Nat) :: .int .u32 (x.2 : Nat) :: cells r := rfl
theorem cells_append (a b : List (Nat × Nat)) : cells (a ++ b) = cells a ++ cells b := by simp [cells]
theorem cells_len : ∀ (xs : List (Nat × Nat)), (cells xs).length = xs.length * 2
  | [] => rfl
  | x :: r => by rw [cells_cons, List.length_cons, List.length_cons, cells_len r, List.length_cons]; omega
theorem cells_at : ∀ (xs : List (Nat × Nat)) (k : Nat), k < xs.length → (cells xs)[k * 2]? = some (.int .u32 ((xs.getD k (0, 0)).1 : Nat)) ∧ (cells xs)[k * 2 + 1]? = some (.int .u32 ((xs.getD k (0, 0)).2 : Nat))
  | [], k, h => by simp at h
  | x :: r, 0, _ => ⟨rfl, rfl⟩
  | x :: r, k + 1, h => by
    have := cells_at r k (by simpa using h)
    rw [cells_cons, show (k + 1) * 2 = k * 2 + 1 + 1 by omega]
    simpa using this
theorem cells_one (xs : List (Nat × Nat)) : ∀ u, u ∈ cells xs → u.oneCell' = true := by
  intro u hu
  obtain ⟨x, _, h⟩ := List.mem_flatMap.1 hu
  simp at h
  rcases h with rfl | rfl <;> rfl
theorem cells_snoc (acc : List (Nat × Nat)) (c : Nat × Nat) : cells (acc ++ [c]) = cells acc ++ [.int .u32 (c.1 : Nat), .int .u32 (c.2 : Nat)] := by rw [cells_append]; rfl
def OwnK (w : World) (B : Nat) (v : Value) (xs : List (Nat × Nat)) : Prop := w.ownsRow B 64 2 v xs.length (cells xs)
theorem OwnK.nil_ (w : World) (B : Nat) : OwnK w B (.slice none 0 0) [] := World.ownsRow_nil _ _ _ _
theorem OwnK.up {w w' : World} {B : Nat} {v : Value} {xs : List (Nat × Nat)} (h : OwnK w B v xs) (hb : Below w.heap.size w w') : OwnK w' B v xs := kept_below h hb
theorem OwnK.rd {w : World} {B : Nat} {v : Value} {xs : List (Nat × Nat)} (h : OwnK w B v xs) : ∃ A c, v = .slice A xs.length c ∧ RdB w A xs := by
  rcases own_form h with ⟨rfl, hn⟩ | ⟨g, cap, rfl, hB, hg, _⟩
  · exact ⟨none, 0, by rw [hn], fun hne => absurd (List.eq_nil_of_length_eq_zero hn) hne⟩
  · refine ⟨_, cap, rfl, fun _ => ⟨g, 0, rfl, hg, fun k hk => ?_⟩⟩
    rw [Nat.zero_add, World.ownsRow.cellAt h (k * 2) (by omega), World.ownsRow.cellAt h (k * 2 + 1) (by omega)]
    exact cells_at xs k hk

theorem infoB : (Try.prog.info? 64).map (fun i => (i.zero, i.size, i.bytes)) = some (some (.agg #[.int .u32 0, .int .u32 0]), 2, 8) := by kernel_rfl
section
variable {ops : Array Oper} {rest : List Oper} {o : Oper} {a : Act} {Q : Exit → Act → World → Prop} {w : World} {B : Nat} {v : Value}
theorem app2 {xs : List (Nat × Nat)} (s x : Operand) (g : Nat) (news : List (Nat × Nat)) (hown : OwnK w B v xs) (hgd : o.guard = none) (ho : o.op = .call { callee := .builtin .append, args := #[s, x], argTypes := #[23, 23] })
    (hs : a.eval s = v) (hx : a.eval x = .slice (some ⟨g, 0, none⟩) news.length news.length) (hc : ∀ j u, (cells news)[j]? = some u → w.cell? ⟨g, j, none⟩ = some u) (hn : xs.length < 1099511627776) (hm : news.length < 1099511627776) (hB : B ≤ w.heap.size)
    (h : ∀ v' w', OwnK w' B v' (xs ++ news) → Below B w w' → wpList Try.prog ops Q rest (a.put o.dst v') w') : wpList Try.prog ops Q (o :: rest) a w := by
  obtain ⟨i0, hi, hz0, hz1, hz2⟩ := info_parts infoB
  refine wpList_append_own w hgd s x 23 ho B 64 i0 (.agg #[.int .u32 0, .int .u32 0]) 2 8 Try.underlying23 hi hz0 hz1 hz2 rfl (by decide) v xs.length _ hs hown ⟨g, 0, none⟩ news.length news.length (cells news) hx (cells_len news) ?_ (cells_one news) (by unfold maxLen; omega) (by omega) hB ?_
  · intro j u' hj
    rw [show (⟨g, 0, none⟩ : Addr).add j = ⟨g, j, none⟩ by unfold Addr.add; split <;> simp_all]
    exact hc j u' hj
  · intro v' w' ho' hg _
    exact h v' w' (by unfold OwnK; rw [cells_append, List.length_append]; exact ho') ((Below.refl B w).grown hg hB (fun k hk => (hown.lt k hk).1))
end
/-- the same at a step of a region that draws its order -/
theorem step_app2 {ops : Array Oper} {o : Oper} {a : Act} {K : Act → World → Prop} {Q : Exit → Act → World → Prop} {E : Prop} {w : World} {B : Nat} {v : Value} {xs : List (Nat × Nat)} (s x : Operand) (g : Nat) (news : List (Nat × Nat)) (hown : OwnK w B v xs) (hgd : o.guard = none)
    (ho : o.op = .call { callee := .builtin .append, args := #[s, x], argTypes := #[23, 23] })
    (hs : a.eval s = v) (hx : a.eval x = .slice (some ⟨g, 0, none⟩) news.length news.length) (hc : ∀ j u, (cells news)[j]? = some u → w.cell? ⟨g, j, none⟩ = some u) (hn : xs.length < 1099511627776) (hm : news.length < 1099511627776) (hB : B ≤ w.heap.size)
    (h : ∀ v' w', OwnK w' B v' (xs ++ news) → Below B w w' → K (a.put o.dst v') w') : if Region.wanted o (yielded ops a.tmps) = true then Oper.wp Try.prog o a w K Q else E := by
  have hw : Region.wanted o (yielded ops a.tmps) = true := by simp [Region.wanted, hgd]
  rw [if_pos hw]
  obtain ⟨i0, hi, hz0, hz1, hz2⟩ := info_parts infoB
  refine wp_append_own w s x 23 ho B 64 i0 (.agg #[.int .u32 0, .int .u32 0]) 2 8 Try.underlying23 hi hz0 hz1 hz2 rfl (by decide) v xs.length _ hs hown ⟨g, 0, none⟩ news.length news.length (cells news) hx (cells_len news) ?_ (cells_one news) (by unfold maxLen; omega) (by omega) hB ?_
  · intro j u' hj
    rw [show (⟨g, 0, none⟩ : Addr).add j = ⟨g, j, none⟩ by unfold Addr.add; split <;> simp_all]
    exact hc j u' hj
  · intro v' w' ho' hg _
    exact h v' w' (by unfold OwnK; rw [cells_append, List.length_append]; exact ho') ((Below.refl B w).grown hg hB (fun k hk => (hown.lt k hk).1))
theorem cells_new1 {w : World} {g : Nat} {x y : Nat} (h1 : w.cell? ⟨g, 0, none⟩ = some (.int .u32 x)) (h2 : w.cell? ⟨g, 1, none⟩ = some (.int .u32 y)) : ∀ j u, (cells [(x, y)])[j]? = some u → w.cell? ⟨g, j, none⟩ = some u := by
  intro j u hj
  match j, hj with
  | 0, hj => simp [cells] at hj; subst hj; exact h1
  | 1, hj => simp [cells] at hj; subst hj; exact h2

theorem rd_cells {w : World} {b off : Nat} {xs : List (Nat × Nat)} (h : ∀ k, k < xs.length → w.cell? ⟨b, off + k * 2, none⟩ = some (.int .u32 ((xs.getD k (0, 0)).1 : Nat)) ∧ w.cell? ⟨b, off + k * 2 + 1, none⟩ = some (.int .u32 ((xs.getD k (0, 0)).2 : Nat))) :
    ∀ j u, (cells xs)[j]? = some u → w.cell? ((⟨b, off, none⟩ : Addr).add j) = some u := by
  intro j u hu
  have hj : j < xs.length * 2 := by rw [← cells_len]; exact (List.getElem?_eq_some_iff.1 hu).1
  obtain ⟨q, r, rfl, hr⟩ : ∃ q r, j = q * 2 + r ∧ r < 2 := ⟨j / 2, j % 2, by omega, by omega⟩
  have hq : q < xs.length := by omega
  rw [show (⟨b, off, none⟩ : Addr).add (q * 2 + r) = ⟨b, off + (q * 2 + r), none⟩ by unfold Addr.add; split <;> simp_all]
  obtain ⟨a1, a2⟩ := cells_at xs q hq
  obtain ⟨b1, b2⟩ := h q hq
  rcases (show r = 0 ∨ r = 1 by omega) with rfl | rfl
  · rw [Nat.add_zero] at hu ⊢; rw [a1] at hu; rw [b1, hu]
  · rw [a2] at hu; rw [← Nat.add_assoc, b2, hu]
/-- append of a row that is read, onto a row of the call's own -/
theorem app2src {ops : Array Oper} {rest : List Oper} {o : Oper} {a : Act} {Q : Exit → Act → World → Prop} {w : World} {B : Nat} {v : Value} {xs : List (Nat × Nat)} (s x : Operand) (ad : Addr) (n c : Nat) (news : List (Nat × Nat)) (hown : OwnK w B v xs) (hgd : o.guard = none)
    (ho : o.op = .call { callee := .builtin .append, args := #[s, x], argTypes := #[23, 23] })
    (hs : a.eval s = v) (hx : a.eval x = .slice (some ad) n c) (hl : news.length = n) (hr : RdB w (some ad) news) (hn : xs.length < 1099511627776) (hm : n < 1099511627776) (hB : B ≤ w.heap.size)
    (h : ∀ A' n' c' w', (xs ++ news).length = n' → OwnK w' B (.slice A' n' c') (xs ++ news) → RowKit.Below B w w' → wpList Try.prog ops Q rest (a.put o.dst (.slice A' n' c')) w') : wpList Try.prog ops Q (o :: rest) a w := by
  obtain ⟨i0, hi, hz0, hz1, hz2⟩ := info_parts infoB
  refine wpList_append_own w hgd s x 23 ho B 64 i0 (.agg #[.int .u32 0, .int .u32 0]) 2 8 Try.underlying23 hi hz0 hz1 hz2 rfl (by decide) v xs.length _ hs hown ad n c (cells news) hx (by rw [cells_len, hl]) ?_ (cells_one news) (by unfold maxLen; omega) (by omega) hB ?_
  · intro j u' hj
    by_cases he : news = []
    · subst he; simp [cells] at hj
    · obtain ⟨b, off, e, _, hc⟩ := hr he
      cases e
      exact rd_cells hc j u' hj
  · intro v' w' ho' hg _
    have hO : OwnK w' B v' (xs ++ news) := by unfold OwnK; rw [cells_append, List.length_append, hl]; exact ho'
    obtain ⟨A', c', hv, _⟩ := hO.rd
    rw [hv] at hO ⊢
    exact h A' _ c' w' rfl hO ((RowKit.Below.refl B w).grown hg hB (fun k hk => (hown.lt k hk).1))


theorem RdB.up {w w' : World} {A : Option Addr} {xs : List (Nat × Nat)} (h : RdB w A xs) (hb : Up w w') : RdB w' A xs := h.below hb (Nat.le_refl _)
/-- options as a value -/
abbrev OA (m : Nat) (s : Int) (k : Bool) (A : Option Addr) (n c : Nat) (t : Bool) (v e : Nat) : Value :=
  .agg #[.int .u16 (m : Nat), .int .i64 s, .bool k, .slice A n c, .bool t, .int .u32 (v : Nat), .int .u32 (e : Nat)]
/-- a value is options, in a world -/
def OptV (w : World) (x : Value) (o : Opz) : Prop := ∃ A n c, x = OA o.mss o.sc o.sk A n c o.tm o.va o.ec ∧ o.bl.length = n ∧ RdB w A o.bl
theorem OptV.up {w w' : World} {x : Value} {o : Opz} (h : OptV w x o) (hb : Up w w') : OptV w' x o := by
  obtain ⟨A, n, c, h1, h2, h3⟩ := h
  exact ⟨A, n, c, h1, h2, h3.up hb⟩
end Go.Proofs.Ytdlcglkeinlimaa.op
