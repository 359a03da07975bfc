/- set, slices.Clone, Add: what each returns. Condition: the arguments fit their kinds; a list of less than a million spans. -/
import Derived.Test.YtejknbpadlidaaaSpanN
namespace Go.Proofs.Ytejknbpadlidaaa.sp
open Go.RowKit Go.Shelf Go.Lib Go.Sort Go.Proofs.Ytejknbpadlidaaa.spm
set_option linter.unusedVariables false

theorem mem_neL (ps : List Sp) (n : Int) : mem (neL ps) n ↔ mem ps n := by
  unfold neL
  constructor
  · rintro ⟨s, hs, h⟩; exact ⟨s, (List.mem_filter.1 hs).1, h⟩
  · rintro ⟨s, hs, h⟩; exact ⟨s, List.mem_filter.2 ⟨hs, by simp; omega⟩, h⟩
theorem joined_is {ps qs zs : List Sp} (h0 : ∀ s, s ∈ ps → 0 ≤ s.1) (hperm : qs.Perm (neL ps)) (hs : qs.Pairwise (fun a b => a.1 ≤ b.1)) (hcan : Canon (-1) zs) (hmem : ∀ n, mem zs n ↔ mem ps n) : joinL qs = zs := by
  obtain ⟨a, b, _⟩ := joinL_spec qs (fun x hx => by
    have := List.mem_filter.1 (hperm.mem_iff.1 hx)
    exact ⟨h0 x this.1, by simpa using this.2⟩) hs
  refine can_ext a hcan fun n => ?_
  rw [b, hmem, ← mem_neL ps]
  constructor
  · rintro ⟨s, h1, h2⟩; exact ⟨s, hperm.mem_iff.1 h1, h2⟩
  · rintro ⟨s, h1, h2⟩; exact ⟨s, hperm.mem_iff.2 h1, h2⟩

def SetZ (B : Nat) (w : World) (zs : List Sp) (e : Ending) (w' : World) : Prop :=
  ∃ (A' : Option Addr) (n' c' : Nat) (er : Int), e = .returned (.tuple #[.slice A' n' c', .int .i64 er]) ∧ Hid (er = if 256 < zs.length then 6 else 0) ∧ (if 256 < zs.length then ([] : List Sp) else zs).length = n' ∧ Rd w' A' (if 256 < zs.length then [] else zs) ∧ RowKit.Below B w w'

set_option maxHeartbeats 1000000 in
theorem setC (B : Nat) (A : Option Addr) (n c : Nat) (ps zs : List Sp) (w : World) (hin : InR B w A ps) (hn : ps.length = n) (hnc : n ≤ c) (hm : n < 1000000000) (hB : B ≤ w.heap.size) (h0 : ∀ s, s ∈ ps → 0 ≤ s.1)
    (hcan : Canon (-1) zs) (hmem : ∀ n, mem zs n ↔ mem ps n) :
    Calls Try.prog 39 #[.slice A n c] w (SetZ B w zs) := by
  have hD := Lib.hid (deleteC B A n c ps w hin hn hnc (by omega) hB)
  have HJ : ∀ (w1 : World) (n1 : Nat), InR B w1 A (neL ps) → (neL ps).length = n1 → RowKit.Below B w w1 → _ := fun w1 n1 h1 h2 h3 => joinedC B A n1 c (neL ps) w1 h1 h2 (by
    have := List.length_filter_le (fun s : Sp => decide (s.1 < s.2)) ps
    unfold neL at h2; omega) (Nat.le_trans hB h3.size)
  have HJ' := Lib.hid HJ
  have HI := Lib.hid (fun (qs : List Sp) (h1 : qs.Perm (neL ps)) (h2 : qs.Pairwise (fun a b => a.1 ≤ b.1)) => joined_is h0 h1 h2 hcan hmem)
  clear hin hn h0 hcan hmem HJ
  go_enter Try.func39, Try.ntmps39
  go_wp2_with fail
  refine hD.out.mono ?_
  rintro e w1 ⟨n1, rfl, hn1, hnc1, hin1, hb1⟩
  go_wp2_with fail
  refine (HJ'.out w1 n1 hin1 hn1.out hb1).mono ?_
  rintro e w2 ⟨qs, A2, n2, c2, rfl, hq, hn2, hrd, hb2⟩
  have hz := HI.out qs hq.out.1 hq.out.2
  rw [hz] at hn2 hrd
  have hB2 := hb1.trans hb2
  clear hz hD HJ' HI hin1 hn1
  by_cases hl : 256 < n2
  · have HF := Lib.hid (show 256 < zs.length by rw [hn2.out]; exact hl)
    go_wp2
    go_ret2
    exact ⟨none, 0, 0, 6, rfl, (show (6 : Int) = _ by rw [if_pos HF.out]), by rw [if_pos HF.out]; rfl, by rw [if_pos HF.out]; exact fun h => absurd rfl h, hB2⟩
  · have HF := Lib.hid (show ¬ 256 < zs.length by rw [hn2.out]; exact hl)
    have hl' : n2 ≤ 256 := by omega
    clear hl
    go_wp2
    go_ret2
    exact ⟨A2, n2, c2, 0, rfl, (show (0 : Int) = _ by rw [if_neg HF.out]), by rw [if_neg HF.out]; exact hn2.out, by rw [if_neg HF.out]; exact hrd, hB2⟩

theorem Own2.low {w : World} {B B' : Nat} {v : Value} {xs : List (Int × Int)} (h : Own2 w B v xs) (hB : B' ≤ B) : Own2 w B' v xs := by
  refine ⟨h.1, ?_⟩
  rcases h.2 with hn | ⟨g, cap, cur, rfl, hBg, rest⟩
  · exact .inl hn
  · exact .inr ⟨g, cap, cur, rfl, Nat.le_trans hB hBg, rest⟩
theorem own2_empty (w : World) : Own2 (w.alloc (.cells #[] 31)) w.heap.size (.slice (some ⟨w.heap.size, 0, none⟩) 0 0) [] :=
  World.ownsRow_lit (base := w.heap.size) (e := 31) (size := 2) w #[] 0 (Nat.le_refl _) (by unfold maxLen; omega) rfl
theorem rd_cells {w : World} {b off : Nat} {xs : List (Int × Int)} (h : ∀ k, k < xs.length → w.cell? ⟨b, off + k * 2, none⟩ = some (.int .u64 (xs.getD k (0, 0)).1) ∧ w.cell? ⟨b, off + k * 2 + 1, none⟩ = some (.int .u64 (xs.getD k (0, 0)).2)) :
    ∀ j u, (cells xs)[j]? = some u → w.cell? ((⟨b, off, none⟩ : Addr).add j) = some u := by
  intro j u hu
  have hj : j < xs.length * 2 := by rw [← cells_len]; exact (List.getElem?_eq_some_iff.1 hu).1
  obtain ⟨q, r, rfl, hr⟩ : ∃ q r, j = q * 2 + r ∧ r < 2 := ⟨j / 2, j % 2, by omega, by omega⟩
  have hq : q < xs.length := by omega
  rw [show (⟨b, off, none⟩ : Addr).add (q * 2 + r) = ⟨b, off + (q * 2 + r), none⟩ by unfold Addr.add; split <;> simp_all]
  obtain ⟨a1, a2⟩ := cells_at xs q hq
  obtain ⟨b1, b2⟩ := h q hq
  rcases (show r = 0 ∨ r = 1 by omega) with rfl | rfl
  · rw [Nat.add_zero] at hu ⊢; rw [a1] at hu; rw [b1, hu]
  · rw [a2] at hu; rw [← Nat.add_assoc, b2, hu]
/-- append of a row that is read, onto a row of the call's own -/
theorem app2src {ops : Array Oper} {rest : List Oper} {o : Oper} {a : Act} {Q : Exit → Act → World → Prop} {w : World} {B : Nat} {v : Value} {xs : List (Int × Int)} (s x : Operand) (ad : Addr) (n c : Nat) (news : List (Int × Int)) (hown : Own2 w B v xs) (hgd : o.guard = none)
    (ho : o.op = .call { callee := .builtin .append, args := #[s, x], argTypes := #[28, 28] })
    (hs : a.eval s = v) (hx : a.eval x = .slice (some ad) n c) (hl : news.length = n) (hr : Rd w (some ad) news) (hn : xs.length < 1099511627776) (hm : n < 1099511627776) (hB : B ≤ w.heap.size)
    (h : ∀ A' n' c' w', (xs ++ news).length = n' → Own2 w' B (.slice A' n' c') (xs ++ news) → RowKit.Below B w w' → wpList Try.prog ops Q rest (a.put o.dst (.slice A' n' c')) w') : wpList Try.prog ops Q (o :: rest) a w := by
  obtain ⟨i0, hi, hz0, hz1, hz2⟩ := info_parts info31
  refine wpList_append_own w hgd s x 28 ho B 31 i0 (.agg #[.int .u64 0, .int .u64 0]) 2 16 Try.underlying28 hi hz0 hz1 hz2 rfl (by decide) v xs.length _ hs hown ad n c (cells news) hx (by rw [cells_len, hl]) ?_ (cells_one news) (by unfold maxLen; omega) (by omega) hB ?_
  · intro j u' hj
    by_cases he : news = []
    · subst he; simp [cells] at hj
    · obtain ⟨b, off, e, _, hc⟩ := hr he
      cases e
      exact rd_cells hc j u' hj
  · intro v' w' ho' hg _
    have hO : Own2 w' B v' (xs ++ news) := by unfold Own2; rw [cells_append, List.length_append, hl]; exact ho'
    obtain ⟨A', c', hv, _⟩ := hO.rd
    rw [hv] at hO ⊢
    exact h A' _ c' w' rfl hO ((RowKit.Below.refl B w).grown hg hB (fun k hk => (hown.lt k hk).1))

set_option maxHeartbeats 1000000 in
theorem cloneC (A : Option Addr) (n c : Nat) (xs : List (Int × Int)) (w : World) (hr : Rd w A xs) (hn : xs.length = n) (hm : n < 1000000000) :
    Calls Try.prog 40 #[.slice A n c] w fun e w' => ∃ A' n' c', e = .returned (.slice A' n' c') ∧ Hid (xs.length = n') ∧ Own2 w' w.heap.size (.slice A' n' c') xs ∧ RowKit.Below w.heap.size w w' := by
  cases A with
  | none =>
    have h0 : xs = [] := by
      refine Classical.byContradiction fun h => ?_
      obtain ⟨b, off, e, _⟩ := hr h
      cases e
    subst h0
    obtain rfl : n = 0 := by simpa using hn.symm
    have hnil := fun (w : World) => Lib.run_eql_slice_nil (P := Try.prog) w 28 31 none 0 c 0 0 Try.underlying28
    clear hr hn
    go_enter Try.func40, Try.ntmps40
    go_wp2
    go_ret
    exact ⟨none, 0, 0, rfl, rfl, Own2.nil_ _ _, RowKit.Below.refl _ _⟩
  | some ad =>
    have hnil := fun (w : World) => Lib.run_eql_slice_nil (P := Try.prog) w 28 31 (some ad) n c 0 0 Try.underlying28
    have HR := Lib.hid (hr.below ((RowKit.Below.refl _ _).alloc (Nat.le_refl _) (.cells #[] 31)) (Nat.le_refl _))
    have HN := Lib.hid hn; clear hn hr
    go_enter Try.func40, Try.ntmps40
    go_wp2_with (first
      | (at_builtin; refine app2src (.tmp 5) (.tmp 6) ad n c xs (own2_empty _) rfl rfl rfl rfl HN.out HR.out (by simp) (by omega) (by simp) ?_; intro A' n' c' w1 hn' hown1 hb1))
    go_ret
    exact ⟨A', n', c', rfl, (show xs.length = n' from by simpa using hn'), by simpa using hown1, ((RowKit.Below.refl _ _).alloc (Nat.le_refl _) _).trans hb1⟩

/-- one span behind a row of the call's own, at a step of a region that draws its order: the new value written out -/
theorem step_app2s {ops : Array Oper} {o : Oper} {a : Act} {K : Act → World → Prop} {Q : Exit → Act → World → Prop} {E : Prop} {w : World} {B : Nat} {v : Value} {xs : List (Int × Int)} (s x : Operand) (g : Nat) (p q : Int) (L : Nat) (hL : xs.length + 1 = L) (hown : Own2 w B v xs) (hgd : o.guard = none)
    (ho : o.op = .call { callee := .builtin .append, args := #[s, x], argTypes := #[28, 28] })
    (hs : a.eval s = v) (hx : a.eval x = .slice (some ⟨g, 0, none⟩) 1 1) (h1 : w.cell? ⟨g, 0, none⟩ = some (.int .u64 p)) (h2 : w.cell? ⟨g, 1, none⟩ = some (.int .u64 q)) (hn : L < 1099511627776) (hB : B ≤ w.heap.size)
    (h : ∀ A' c' w', L ≤ c' → InR B w' A' (xs ++ [(p, q)]) → RowKit.Below B w w' → K (a.put o.dst (.slice A' L c')) w') : if Region.wanted o (yielded ops a.tmps) = true then Oper.wp Try.prog o a w K Q else E := by
  refine step_app2 s x g [(p, q)] hown hgd ho hs (by simpa using hx) (cells_new1 h1 h2) (by omega) (by simp) hB fun v' w' hO hb => ?_
  have hl : (xs ++ [(p, q)]).length = L := by rw [List.length_append, List.length_singleton, hL]
  rcases own_form hO with ⟨_, h0⟩ | ⟨g', cap, rfl, f1, f2, f3, f4⟩
  · rw [hl] at h0; omega
  · rw [hl] at f3 hO ⊢
    rw [← hl] at hO
    exact h _ cap w' f3 (fun _ => ⟨g', rfl, f1, f2, hO.row⟩) hb

theorem setL_add {xs : List Sp} {x : Sp} (h1 : mayB xs = true) (h2 : x.1 ≤ x.2) (add : Bool) : setL xs x add = ((if 256 < (madeL xs x add).length then [] else madeL xs x add), (if 256 < (madeL xs x add).length then 6 else 0)) := by
  unfold setL
  rw [if_pos h1, if_neg (by omega)]
  split <;> rfl
theorem SetZ.post {B : Nat} {w w1 : World} {xs : List Sp} {x : Sp} {add : Bool} {e : Ending} {w' : World} (h : SetZ B w1 (madeL xs x add) e w') (h1 : mayB xs = true) (h2 : x.1 ≤ x.2) (hb : RowKit.Below w.heap.size w w1) (hB : w.heap.size ≤ B) : SetPost w xs x add e w' := by
  obtain ⟨A', n', c', er, he, her, hl, hr, hb'⟩ := h
  rw [her.out] at he
  rw [show SetPost w xs x add e w' = ∃ A' n' c', e = .returned (.tuple #[.slice A' n' c', .int .i64 (setL xs x add).2]) ∧ (setL xs x add).1.length = n' ∧ Rd w' A' (setL xs x add).1 ∧ RowKit.Below w.heap.size w w' from rfl, setL_add h1 h2]
  exact ⟨A', n', c', he, hl, hr, hb.trans (hb'.mono hB)⟩

set_option maxHeartbeats 2000000 in
theorem addC (A : Option Addr) (n c : Nat) (xs : List (Int × Int)) (a b : Int) (w : World) (hr : Rd w A xs) (hn : xs.length = n) (hm : n < 1000000) (hU : U xs) (ha : 0 ≤ a) (hb0 : 0 ≤ b) :
    Calls Try.prog 20 #[.slice A n c, .agg #[.int .u64 a, .int .u64 b]] w (SetPost w xs (a, b) true) := by
  obtain ⟨W, hW⟩ : ∃ W, Hid (W = w.alloc (.cells #[.int .u64 a, .int .u64 b] 31)) := ⟨_, rfl⟩
  have hB : RowKit.Below w.heap.size w W := by rw [hW.out]; exact (RowKit.Below.refl _ _).alloc (Nat.le_refl _) _
  have g1 : W.cell? ⟨w.heap.size, 0, none⟩ = some (.int .u64 a) := by rw [hW.out]; go_simp
  have g2 : W.cell? ⟨w.heap.size, 1, none⟩ = some (.int .u64 b) := by rw [hW.out]; go_simp
  have hM := wrongC A n c xs a b W (hr.below hB (Nat.le_refl _)) hn (by unfold maxLen; omega)
  by_cases hok : mayB xs = true ∧ a ≤ b
  · rw [hok.1, if_pos rfl, if_neg (by omega)] at hM
    obtain ⟨hcan, hmem⟩ := madeL_spec xs (a, b) true (fun s hs => ⟨(hU s hs).1, (hU s hs).2.2.1⟩) ⟨ha, hb0⟩
    have HC := Lib.hid hM; clear hM
    have HCl := Lib.hid (fun (w1 : World) (hb1 : RowKit.Below w.heap.size w w1) => cloneC A n c xs w1 (hr.below hb1 (Nat.le_refl _)) hn (by omega))
    have HZ := Lib.hid (fun (B' : Nat) (A' : Option Addr) (c' : Nat) (w1 : World) (hin : InR B' w1 A' (xs ++ [(a, b)])) (hc : n + 1 ≤ c') (hB' : B' ≤ w1.heap.size) =>
      setC B' A' (n + 1) c' (xs ++ [(a, b)]) (madeL xs (a, b) true) w1 hin (by rw [List.length_append, hn]; rfl) hc (by omega) hB' (fun s hs => by
        rcases List.mem_append.1 hs with h | h
        · exact (hU s h).1
        · simp at h; subst h; exact ha) hcan (fun v => by rw [hmem, keepB_add, mem_append, mem_cons]; simp [mem_nil]))
    have HOk := Lib.hid hok
    have HN := Lib.hid hn
    clear hn hr hU hcan hmem hok
    go_enter Try.func20, Try.ntmps20
    go_wp2_with fail
    rw [← hW.out]
    refine HC.out.mono ?_
    rintro e w1 ⟨rfl, hb1⟩
    replace g1 := cell_up hb1 g1; replace g2 := cell_up hb1 g2
    have hB1 := hB.trans (hb1.mono hB.size)
    clear hb1 hB hW HC
    go_wp2_with fail
    have hz1 := hB1.size
    have hw1s : w.heap.size < w1.heap.size := World.block_lt_of_cell? _ _ g1
    go_region_law (first
      | (go_simp; go_at_call 40; refine (HCl.out _ (by first | exact hB1.drew | exact (hB1.drew).alloc (by simp; omega) _)).mono ?_; rintro e w2 ⟨A2, n2, c2, rfl, hn2, hown2, hb2⟩; have hownC := hown2.low (B' := w1.heap.size) (by simp); clear hown2; have f1 : w2.cell? ⟨w.heap.size, 0, none⟩ = some (.int .u64 a) := cell_up hb2 (by go_simp); have f2 : w2.cell? ⟨w.heap.size, 1, none⟩ = some (.int .u64 b) := cell_up hb2 (by go_simp); have hzz := hb2.size; simp at hzz; have hB2 : RowKit.Below w.heap.size w w2 := (by first | exact (hB1.drew).trans (hb2.mono hz1) | exact ((hB1.drew).alloc (by simp; omega) _).trans (hb2.mono (by simp; omega))))
      | (refine step_app2s (.tmp 14) (.tmp 16) _ a b (n + 1) (by rw [HN.out]) (by first | exact hownC | exact hownC.up ((RowKit.Below.refl _ _).alloc (Nat.le_refl _) _)) rfl rfl rfl rfl (by first | (go_simp; done) | exact cell_up hb2 (by go_simp)) (by first | (go_simp; done) | exact cell_up hb2 (by go_simp)) (by omega) (by first | omega | (simp; omega)) ?_; intro A3 c3 w3 hc3 hin3 hb3; have hB3 : RowKit.Below w.heap.size w w3 := (by first | exact hB2.trans (hb3.mono hz1) | exact (hB2.alloc (by omega) _).trans (hb3.mono hz1)))
      | (go_simp; go_at_call 39; refine (HZ.out w1.heap.size _ _ _ hin3 hc3 (by have h3 := hb3.size; first | omega | (simp at h3; omega))).mono ?_; rintro e w4 ⟨A4, n4, c4, er, rfl, her, hz4⟩; have HZ4 := Lib.hid hz4; clear hz4))
    all_goals
      go_wp2
      go_ret2
      exact SetZ.post ⟨A4, n4, c4, er, rfl, her, HZ4.out⟩ HOk.out.1 HOk.out.2 hB3 hz1
  · have hz : (mayB xs = false ∧ setL xs (a, b) true = ([], 8)) ∨ (mayB xs = true ∧ b < a ∧ setL xs (a, b) true = ([], 2)) := by
      cases hm1 : mayB xs
      · exact .inl ⟨rfl, by unfold setL; simp [hm1]⟩
      · right
        have hba : b < a := by rw [hm1] at hok; simp at hok; omega
        exact ⟨rfl, hba, by unfold setL; simp [hm1, hba]⟩
    clear hok hr hn hU
    rcases hz with ⟨hz1, hz⟩ | ⟨hz1, hz2, hz⟩
    · rw [hz1] at hM
      have HC := Lib.hid hM; have HZ := Lib.hid hz; clear hM hz hz1
      go_enter Try.func20, Try.ntmps20
      go_wp2_with fail
      rw [← hW.out]
      refine HC.out.mono ?_
      rintro e w1 ⟨rfl, hb1⟩
      go_wp2
      go_ret2
      exact SetPost.nil_ HZ.out (hB.trans (hb1.mono hB.size))
    · rw [hz1, if_pos rfl, if_pos hz2] at hM
      have HC := Lib.hid hM; have HZ := Lib.hid hz; clear hM hz hz1 hz2
      go_enter Try.func20, Try.ntmps20
      go_wp2_with fail
      rw [← hW.out]
      refine HC.out.mono ?_
      rintro e w1 ⟨rfl, hb1⟩
      go_wp2
      go_ret2
      exact SetPost.nil_ HZ.out (hB.trans (hb1.mono hB.size))
end Go.Proofs.Ytejknbpadlidaaa.sp
