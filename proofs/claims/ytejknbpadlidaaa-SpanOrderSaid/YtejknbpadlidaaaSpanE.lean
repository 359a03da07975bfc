/- Rows of numbers and of spans that a call itself makes; the document's put and ends. Condition: the arguments fit their kinds. -/
import Derived.Test.YtejknbpadlidaaaSpanD
namespace Go.Proofs.Ytejknbpadlidaaa.sp
open Go.RowKit Go.Shelf Go.Lib Go.Sort Go.Proofs.Ytejknbpadlidaaa.spm
set_option linter.unusedVariables false

def cells (xs : List (Int × Int)) : List Value := xs.flatMap fun x => [.int .u64 x.1, .int .u64 x.2]
theorem cells_nil : cells [] = [] := rfl
theorem cells_cons (x : Int × Int) (r : List (Int × Int)) : cells (x :: r) = .int .u64 x.1 :: .int .u64 x.2 :: cells r := rfl
theorem cells_append (a b : List (Int × Int)) : cells (a ++ b) = cells a ++ cells b := by simp [cells]
theorem cells_len : ∀ (xs : List (Int × Int)), (cells xs).length = xs.length * 2
  | [] => rfl
  | x :: r => by rw [cells_cons, List.length_cons, List.length_cons, cells_len r, List.length_cons]; omega
theorem cells_at : ∀ (xs : List (Int × Int)) (k : Nat), k < xs.length → (cells xs)[k * 2]? = some (.int .u64 (xs.getD k (0, 0)).1) ∧ (cells xs)[k * 2 + 1]? = some (.int .u64 (xs.getD k (0, 0)).2)
  | [], k, h => by simp at h
  | x :: r, 0, _ => ⟨rfl, rfl⟩
  | x :: r, k + 1, h => by
    have := cells_at r k (by simpa using h)
    rw [cells_cons, show (k + 1) * 2 = k * 2 + 1 + 1 by omega]
    simpa using this
theorem cells_one (xs : List (Int × Int)) : ∀ u, u ∈ cells xs → u.oneCell' = true := by
  intro u hu
  obtain ⟨x, _, h⟩ := List.mem_flatMap.1 hu
  simp at h
  rcases h with rfl | rfl <;> rfl
theorem cells_snoc (acc : List (Int × Int)) (c : Int × Int) : cells (acc ++ [c]) = cells acc ++ [.int .u64 c.1, .int .u64 c.2] := by rw [cells_append]; rfl
theorem cells_set2 (acc : List (Int × Int)) (c : Int × Int) (t : Int) : (cells (acc ++ [c])).set (acc.length * 2 + 1) (.int .u64 t) = cells (acc ++ [(c.1, t)]) := by
  rw [cells_snoc, cells_snoc, List.set_append_right (h := by rw [cells_len]; omega), cells_len, show acc.length * 2 + 1 - acc.length * 2 = 1 by omega]
  rfl
theorem cells_set1 (acc : List (Int × Int)) (c : Int × Int) (t : Int) : (cells (acc ++ [c])).set (acc.length * 2) (.int .u64 t) = cells (acc ++ [(t, c.2)]) := by
  rw [cells_snoc, cells_snoc, List.set_append_right (h := by rw [cells_len]; omega), cells_len, Nat.sub_self]
  rfl

/-- numbers, spans that a call of its own has gathered -/
def Own1 (w : World) (B : Nat) (v : Value) (ps : List Int) : Prop := w.ownsRow B 29 1 v ps.length (ps.map (Value.int .u64))
def Own2 (w : World) (B : Nat) (v : Value) (xs : List (Int × Int)) : Prop := w.ownsRow B 31 2 v xs.length (cells xs)
theorem Own1.nil_ (w : World) (B : Nat) : Own1 w B (.slice none 0 0) [] := World.ownsRow_nil _ _ _ _
theorem Own2.nil_ (w : World) (B : Nat) : Own2 w B (.slice none 0 0) [] := World.ownsRow_nil _ _ _ _
theorem kept_below {w w' : World} {B e size n : Nat} {v : Value} {xs : List Value} (h : w.ownsRow B e size v n xs) (hb : Below w.heap.size w w') : w'.ownsRow B e size v n xs := by
  refine ⟨h.1, ?_⟩
  rcases h.2 with hn | ⟨g, cap, cur, rfl, hB, hgg, rest⟩
  · exact .inl hn
  · exact .inr ⟨g, cap, cur, rfl, hB, (hb.block g (Array.getElem?_eq_some_iff.1 hgg).1).trans hgg, rest⟩
theorem Own1.up {w w' : World} {B : Nat} {v : Value} {ps : List Int} (h : Own1 w B v ps) (hb : Below w.heap.size w w') : Own1 w' B v ps := kept_below h hb
theorem Own2.up {w w' : World} {B : Nat} {v : Value} {xs : List (Int × Int)} (h : Own2 w B v xs) (hb : Below w.heap.size w w') : Own2 w' B v xs := kept_below h hb
theorem own_form {w : World} {B e size n : Nat} {v : Value} {xs : List Value} (h : w.ownsRow B e size v n xs) : (v = .slice none 0 0 ∧ n = 0) ∨ ∃ g cap, v = .slice (some ⟨g, 0, none⟩) n cap ∧ B ≤ g ∧ g < w.heap.size ∧ n ≤ cap ∧ cap ≤ maxLen := by
  rcases h.2 with hn | ⟨g, cap, cur, rfl, hB, hgg, h1, h2, _⟩
  · exact .inl hn
  · exact .inr ⟨g, cap, rfl, hB, (Array.getElem?_eq_some_iff.1 hgg).1, h1, h2⟩

def RdU (w : World) (A : Option Addr) (ps : List Int) : Prop :=
  ps ≠ [] → ∃ b off, A = some ⟨b, off, none⟩ ∧ b < w.heap.size ∧ ∀ k, k < ps.length → w.cell? ⟨b, off + k, none⟩ = some (.int .u64 (ps.getD k 0))
theorem RdU.below {w w' : World} {A : Option Addr} {ps : List Int} (h : RdU w A ps) {B : Nat} (hb : Below B w w') (hB : w.heap.size ≤ B) : RdU w' A ps := fun hn => by
  obtain ⟨b, off, rfl, hlt, hc⟩ := h hn
  exact ⟨b, off, rfl, Nat.lt_of_lt_of_le hlt hb.size, fun k hk => (hb.cell (p := ⟨b, _, none⟩) (Nat.lt_of_lt_of_le hlt hB)).trans (hc k hk)⟩
theorem RdU.at_ {w : World} {A : Option Addr} {ps : List Int} (h : RdU w A ps) {k : Nat} (hk : k < ps.length) : ∃ b off, A = some ⟨b, off, none⟩ ∧ b < w.heap.size ∧ ∃ x, w.cell? ⟨b, off + k, none⟩ = some (.int .u64 x) ∧ Hid (ps[k]? = some x) := by
  obtain ⟨b, off, e, hl, hc⟩ := h (by intro h; subst h; simp at hk)
  exact ⟨b, off, e, hl, _, hc k hk, (show ps[k]? = _ by simp [List.getD, List.getElem?_eq_getElem hk])⟩
theorem Own1.rd {w : World} {B : Nat} {v : Value} {ps : List Int} (h : Own1 w B v ps) : ∃ A c, v = .slice A ps.length c ∧ RdU w A ps := by
  rcases own_form h with ⟨rfl, hn⟩ | ⟨g, cap, rfl, hB, hg, _⟩
  · exact ⟨none, 0, by rw [hn], fun hne => absurd (List.eq_nil_of_length_eq_zero hn) hne⟩
  · refine ⟨_, cap, rfl, fun _ => ⟨g, 0, rfl, hg, fun k hk => ?_⟩⟩
    rw [Nat.zero_add, World.ownsRow.cellAt h k (by omega)]
    simp [List.getD, hk]
theorem Own2.rd {w : World} {B : Nat} {v : Value} {xs : List (Int × Int)} (h : Own2 w B v xs) : ∃ A c, v = .slice A xs.length c ∧ Rd w A xs := by
  rcases own_form h with ⟨rfl, hn⟩ | ⟨g, cap, rfl, hB, hg, _⟩
  · exact ⟨none, 0, by rw [hn], fun hne => absurd (List.eq_nil_of_length_eq_zero hn) hne⟩
  · refine ⟨_, cap, rfl, fun _ => ⟨g, 0, rfl, hg, fun k hk => ?_⟩⟩
    rw [Nat.zero_add, World.ownsRow.cellAt h (k * 2) (by omega), World.ownsRow.cellAt h (k * 2 + 1) (by omega)]
    exact cells_at xs k hk

theorem info29 : (Try.prog.info? 29).map (fun i => (i.zero, i.size, i.bytes)) = some (some (.int .u64 0), 1, 8) := by kernel_rfl
theorem info31 : (Try.prog.info? 31).map (fun i => (i.zero, i.size, i.bytes)) = some (some (.agg #[.int .u64 0, .int .u64 0]), 2, 16) := by kernel_rfl

section
variable {ops : Array Oper} {rest : List Oper} {o : Oper} {a : Act} {Q : Exit → Act → World → Prop} {w : World} {B : Nat} {v : Value}
theorem app1 {ps : List Int} (s x : Operand) (g : Nat) (u : Int) (hown : Own1 w B v ps) (hgd : o.guard = none) (ho : o.op = .call { callee := .builtin .append, args := #[s, x], argTypes := #[60, 60] })
    (hs : a.eval s = v) (hx : a.eval x = .slice (some ⟨g, 0, none⟩) 1 1) (hc : w.cell? ⟨g, 0, none⟩ = some (.int .u64 u)) (hn : ps.length < 1099511627776) (hB : B ≤ w.heap.size)
    (h : ∀ v' w', Own1 w' B v' (ps ++ [u]) → Below B w w' → wpList Try.prog ops Q rest (a.put o.dst v') w') : wpList Try.prog ops Q (o :: rest) a w := by
  obtain ⟨i0, hi, hz0, hz1, hz2⟩ := info_parts info29
  refine wpList_append_own w hgd s x 60 ho B 29 i0 (.int .u64 0) 1 8 Try.underlying60 hi hz0 hz1 hz2 rfl (by decide) v ps.length _ hs hown ⟨g, 0, none⟩ 1 1 [.int .u64 u] hx rfl ?_ ?_ (by unfold maxLen; omega) (by omega) hB ?_
  · intro j u' hj
    match j, hj with
    | 0, hj => simp at hj; subst hj; exact hc
  · intro u' hu; simp at hu; subst hu; rfl
  · intro v' w' ho' hg _
    exact h v' w' (by unfold Own1; simpa using ho') ((Below.refl B w).grown hg hB (fun k hk => (hown.lt k hk).1))
theorem app2 {xs : List (Int × Int)} (s x : Operand) (g : Nat) (news : List (Int × Int)) (hown : Own2 w B v xs) (hgd : o.guard = none) (ho : o.op = .call { callee := .builtin .append, args := #[s, x], argTypes := #[28, 28] })
    (hs : a.eval s = v) (hx : a.eval x = .slice (some ⟨g, 0, none⟩) news.length news.length) (hc : ∀ j u, (cells news)[j]? = some u → w.cell? ⟨g, j, none⟩ = some u) (hn : xs.length < 1099511627776) (hm : news.length < 1099511627776) (hB : B ≤ w.heap.size)
    (h : ∀ v' w', Own2 w' B v' (xs ++ news) → Below B w w' → wpList Try.prog ops Q rest (a.put o.dst v') w') : wpList Try.prog ops Q (o :: rest) a w := by
  obtain ⟨i0, hi, hz0, hz1, hz2⟩ := info_parts info31
  refine wpList_append_own w hgd s x 28 ho B 31 i0 (.agg #[.int .u64 0, .int .u64 0]) 2 16 Try.underlying28 hi hz0 hz1 hz2 rfl (by decide) v xs.length _ hs hown ⟨g, 0, none⟩ news.length news.length (cells news) hx (cells_len news) ?_ (cells_one news) (by unfold maxLen; omega) (by omega) hB ?_
  · intro j u' hj
    rw [show (⟨g, 0, none⟩ : Addr).add j = ⟨g, j, none⟩ by unfold Addr.add; split <;> simp_all]
    exact hc j u' hj
  · intro v' w' ho' hg _
    exact h v' w' (by unfold Own2; rw [cells_append, List.length_append]; exact ho') ((Below.refl B w).grown hg hB (fun k hk => (hown.lt k hk).1))
end

/-- the same at a step of a region that draws its order -/
theorem step_app2 {ops : Array Oper} {o : Oper} {a : Act} {K : Act → World → Prop} {Q : Exit → Act → World → Prop} {E : Prop} {w : World} {B : Nat} {v : Value} {xs : List (Int × Int)} (s x : Operand) (g : Nat) (news : List (Int × Int)) (hown : Own2 w B v xs) (hgd : o.guard = none)
    (ho : o.op = .call { callee := .builtin .append, args := #[s, x], argTypes := #[28, 28] })
    (hs : a.eval s = v) (hx : a.eval x = .slice (some ⟨g, 0, none⟩) news.length news.length) (hc : ∀ j u, (cells news)[j]? = some u → w.cell? ⟨g, j, none⟩ = some u) (hn : xs.length < 1099511627776) (hm : news.length < 1099511627776) (hB : B ≤ w.heap.size)
    (h : ∀ v' w', Own2 w' B v' (xs ++ news) → Below B w w' → K (a.put o.dst v') w') : if Region.wanted o (yielded ops a.tmps) = true then Oper.wp Try.prog o a w K Q else E := by
  have hw : Region.wanted o (yielded ops a.tmps) = true := by simp [Region.wanted, hgd]
  rw [if_pos hw]
  obtain ⟨i0, hi, hz0, hz1, hz2⟩ := info_parts info31
  refine wp_append_own w s x 28 ho B 31 i0 (.agg #[.int .u64 0, .int .u64 0]) 2 16 Try.underlying28 hi hz0 hz1 hz2 rfl (by decide) v xs.length _ hs hown ⟨g, 0, none⟩ news.length news.length (cells news) hx (cells_len news) ?_ (cells_one news) (by unfold maxLen; omega) (by omega) hB ?_
  · intro j u' hj
    rw [show (⟨g, 0, none⟩ : Addr).add j = ⟨g, j, none⟩ by unfold Addr.add; split <;> simp_all]
    exact hc j u' hj
  · intro v' w' ho' hg _
    exact h v' w' (by unfold Own2; rw [cells_append, List.length_append]; exact ho') ((Below.refl B w).grown hg hB (fun k hk => (hown.lt k hk).1))
theorem cells_new1 {w : World} {g : Nat} {x y : Int} (h1 : w.cell? ⟨g, 0, none⟩ = some (.int .u64 x)) (h2 : w.cell? ⟨g, 1, none⟩ = some (.int .u64 y)) : ∀ j u, (cells [(x, y)])[j]? = some u → w.cell? ⟨g, j, none⟩ = some u := by
  intro j u hj
  match j, hj with
  | 0, hj => simp [cells] at hj; subst hj; exact h1
  | 1, hj => simp [cells] at hj; subst hj; exact h2

/-- how far put has come: the first k numbers of ps, v among them or not yet -/
def PutAt (ps : List Int) (v : Int) (k : Nat) (dn : Bool) (os : List Int) : Prop :=
  (∀ a, a ∈ ps.take k → a ≠ v) ∧ ((dn = false ∧ os = ps.take k ∧ ∀ a, a ∈ ps.take k → ¬ v < a) ∨ (dn = true ∧ os = ins v (ps.take k) ∧ ∃ a, a ∈ ps.take k ∧ v < a))
theorem PutAt.start (ps : List Int) (v : Int) : PutAt ps v 0 false [] := ⟨by simp, .inl ⟨rfl, by simp, by simp⟩⟩
theorem PutAt.done {ps : List Int} {v : Int} {k : Nat} {os : List Int} {x : Int} (h : PutAt ps v k true os) (hx : ps[k]? = some x) (hne : x ≠ v) : PutAt ps v (k + 1) true (os ++ [x]) := by
  obtain ⟨h1, h2 | ⟨_, h2, h3⟩⟩ := h
  · cases h2.1
  · rw [h2]
    have e := take_snoc' hx
    refine ⟨fun a ha => ?_, .inr ⟨rfl, ?_, ?_⟩⟩
    · rw [e] at ha
      rcases List.mem_append.1 ha with ha | ha
      · exact h1 a ha
      · simp at ha; subst ha; exact hne
    · rw [e, ins_done v x _ h3]
    · obtain ⟨a, ha, hv⟩ := h3; exact ⟨a, by rw [e]; exact List.mem_append.2 (.inl ha), hv⟩
theorem PutAt.now {ps : List Int} {v : Int} {k : Nat} {os : List Int} {x : Int} (h : PutAt ps v k false os) (hx : ps[k]? = some x) (hlt : v < x) : PutAt ps v (k + 1) true (os ++ [v] ++ [x]) := by
  obtain ⟨h1, ⟨_, h2, h3⟩ | h2⟩ := h
  · rw [h2]
    have e := take_snoc' hx
    refine ⟨fun a ha => ?_, .inr ⟨rfl, ?_, ⟨x, by rw [e]; simp, hlt⟩⟩⟩
    · rw [e] at ha
      rcases List.mem_append.1 ha with ha | ha
      · exact h1 a ha
      · simp at ha; subst ha; omega
    · rw [e, ins_now v x _ h3 hlt]
  · cases h2.1
theorem PutAt.not {ps : List Int} {v : Int} {k : Nat} {os : List Int} {x : Int} (h : PutAt ps v k false os) (hx : ps[k]? = some x) (hlt : x < v) : PutAt ps v (k + 1) false (os ++ [x]) := by
  obtain ⟨h1, ⟨_, h2, h3⟩ | h2⟩ := h
  · rw [h2]
    have e := take_snoc' hx
    refine ⟨fun a ha => ?_, .inl ⟨rfl, e.symm, fun a ha => ?_⟩⟩ <;> rw [e] at ha <;> rcases List.mem_append.1 ha with ha | ha
    · exact h1 a ha
    · simp at ha; subst ha; omega
    · exact h3 a ha
    · simp at ha; subst ha; omega
  · cases h2.1
theorem PutAt.end_true {ps : List Int} {v : Int} {os : List Int} {n : Nat} (hn : ps.length = n) (h : PutAt ps v n true os) : os = putL ps v := by
  obtain ⟨h1, h2 | ⟨_, h2, _⟩⟩ := h
  · cases h2.1
  · rw [← hn, List.take_length] at h1 h2
    rw [h2, putL, if_neg (fun hm => h1 v hm rfl)]
theorem PutAt.end_false {ps : List Int} {v : Int} {os : List Int} {n : Nat} (hn : ps.length = n) (h : PutAt ps v n false os) : os ++ [v] = putL ps v := by
  obtain ⟨h1, ⟨_, h2, h3⟩ | h2⟩ := h
  · rw [← hn, List.take_length] at h1 h2 h3
    rw [h2, putL, if_neg (fun hm => h1 v hm rfl), ins_end v _ h3]
  · cases h2.1
theorem PutAt.len {ps : List Int} {v : Int} {os : List Int} {k : Nat} {dn : Bool} (h : PutAt ps v k dn os) : os.length ≤ k + 1 := by
  obtain ⟨_, ⟨_, h2, _⟩ | ⟨_, h2, _⟩⟩ := h
  · rw [h2, List.length_take]; omega
  · rw [h2, ins_len, List.length_take]; omega

set_option maxHeartbeats 1000000 in
set_option maxRecDepth 100000 in
theorem putC (A : Option Addr) (n c : Nat) (ps : List Int) (v : Int) (w : World) (hr : RdU w A ps) (hn : ps.length = n) (hm : n < 549755813888) :
    Calls Try.prog 57 #[.slice A n c, .int .u64 v] w fun e w' => (∃ A' c', e = .returned (.slice A' (putL ps v).length c') ∧ RdU w' A' (putL ps v)) ∧ Below w.heap.size w w' := by
  have HN := Lib.hid hn; clear hn
  go_enter Try.func57, Try.ntmps57
  go_wp2
  go_loopw [5, 6, 7] (fun o d i wr => ∃ (k : Nat) (dn : Bool) (os : List Int), k ≤ n ∧ i = .int .i64 k ∧ d = .bool dn ∧ Hid (PutAt ps v k dn os) ∧ Own1 wr w.heap.size o os ∧ Below w.heap.size w wr) (fun _ _ i _ => n - (intOf i).toNat)
  case atStart => exact ⟨0, false, [], Nat.zero_le _, rfl, rfl, PutAt.start ps v, Own1.nil_ _ _, Below.refl _ _⟩
  case round =>
    obtain ⟨k, dn, os, hk, rfl, rfl, hp, hown, hb⟩ := hrel
    have hlen := hp.out.len
    by_cases hlt : k < n
    · obtain ⟨b, off, rfl, hbl, x, c0, hx⟩ := hr.at_ (k := k) (by rw [HN.out]; exact hlt)
      have c1 := (hb.cell (p := ⟨b, off + k, none⟩) hbl).trans c0
      have hB := hb.size
      by_cases he : x = v
      · subst he
        have hin := Lib.hid (show putL ps x = ps by unfold putL; rw [if_pos (List.mem_of_getElem? hx.out)])
        have hr2 := hr.below hb (Nat.le_refl _)
        clear hr
        go_wp2
        go_ret
        refine ⟨⟨some ⟨b, off, none⟩, c, ?_, by rw [hin.out]; exact hr2⟩, hb⟩
        rw [hin.out, HN.out]; rfl
      · have hne : (x == v) = false := by rw [beq_eq_false_iff_ne]; exact he
        clear hr
        cases dn
        · by_cases hvx : v < x
          · have hrel := Lib.hid (hp.out.now hx.out hvx)
            go_wp2_with (first
              | (at_builtin; refine app1 (.tmp 31) (.tmp 33) _ v (hown.up ((Below.refl _ _).alloc (Nat.le_refl _) _)) rfl rfl rfl rfl (by go_simp) (by omega) (by simp; omega) ?_; intro v1 w1 hown1 hb1; have c2 := ((hb.alloc hb.size _).trans hb1).cell (p := ⟨b, off + k, none⟩) hbl; rw [c0] at c2; have hB1 := (hb.alloc hb.size _).trans hb1; have hz1 := hB1.size)
              | (at_builtin; refine app1 (.tmp 35) (.tmp 40) _ x (hown1.up ((Below.refl _ _).alloc (Nat.le_refl _) _)) rfl rfl rfl rfl (by go_simp) (by simp; omega) (by simp; omega) ?_; intro v2 w2 hown2 hb2; have hB2 := (hB1.alloc hz1 _).trans hb2))
            go_roundw
            case rel => exact ⟨k + 1, true, _, by omega, by go_num, rfl, hrel, hown2, hB2⟩
            case measure => simp [intOf]; omega
          · have hxv : x < v := by omega
            have hrel := Lib.hid (hp.out.not hx.out hxv)
            go_wp2_with (first
              | (at_builtin; refine app1 (.tmp 35) (.tmp 40) _ x (hown.up ((Below.refl _ _).alloc (Nat.le_refl _) _)) rfl rfl rfl rfl (by go_simp) (by omega) (by simp; omega) ?_; intro v2 w2 hown2 hb2; have hB2 := (hb.alloc hB _).trans hb2))
            go_roundw
            case rel => exact ⟨k + 1, false, _, by omega, by go_num, rfl, hrel, hown2, hB2⟩
            case measure => simp [intOf]; omega
        · have hrel := Lib.hid (hp.out.done hx.out he)
          go_wp2_with (first
            | (at_builtin; refine app1 (.tmp 35) (.tmp 40) _ x (hown.up ((Below.refl _ _).alloc (Nat.le_refl _) _)) rfl rfl rfl rfl (by go_simp) (by omega) (by simp; omega) ?_; intro v2 w2 hown2 hb2; have hB2 := (hb.alloc hB _).trans hb2))
          go_roundw
          case rel => exact ⟨k + 1, true, _, by omega, by go_num, rfl, hrel, hown2, hB2⟩
          case measure => simp [intOf]; omega
    · obtain rfl : k = n := by omega
      have hB := hb.size
      cases dn
      · have hend := Lib.hid (hp.out.end_false HN.out)
        clear hr
        go_wp2_with (first
          | (at_builtin; refine app1 (.tmp 44) (.tmp 46) _ v (hown.up ((Below.refl _ _).alloc (Nat.le_refl _) _)) rfl rfl rfl rfl (by go_simp) (by omega) (by simp; omega) ?_; intro v2 w2 hown2 hb2; have hB2 := (hb.alloc hB _).trans hb2))
        go_ret
        rw [hend.out] at hown2
        obtain ⟨A', c', e', hrd⟩ := hown2.rd
        exact ⟨⟨A', c', congrArg _ e', hrd⟩, hB2⟩
      · have hend := Lib.hid (hp.out.end_true HN.out)
        clear hr
        go_wp2
        go_ret
        rw [hend.out] at hown
        obtain ⟨A', c', e', hrd⟩ := hown.rd
        exact ⟨⟨A', c', congrArg _ e', hrd⟩, hb⟩
end Go.Proofs.Ytejknbpadlidaaa.sp
