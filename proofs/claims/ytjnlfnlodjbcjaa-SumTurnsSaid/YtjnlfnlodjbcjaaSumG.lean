/- Package sum: Turns. Condition: each text is at most 2^40 bytes. -/
import Derived.Test.YtjnlfnlodjbcjaaSumF
namespace Go.Proofs.Ytjnlfnlodjbcjaa.su
open Go.RowKit Go.Shelf Go.Proofs.Ytjnlfnlodjbcjaa.sm
set_option linter.unusedVariables false
attribute [local go_sem] Oper.semAt_some

theorem below_boxed {B k : Nat} {W W' : World} {t : TypeId} {v : Value} (h : Below B W W') (hk : k < B) (hb : Boxed W k t v) : Boxed W' k t v := (h.block k hk).trans hb
theorem keepsFrom_below {B : Nat} {W W' : World} (h : Below W.heap.size W W') : KeepsFrom B W W' :=
  ⟨h.size, fun k o _ hk _ => (h.block k (Array.getElem?_eq_some_iff.1 hk).1).trans hk⟩
set_option maxRecDepth 100000 in
set_option maxHeartbeats 2000000 in
theorem turnsC (c : Int) (x y : ByteArray) (n : Nat) (w : World) (hc : 0 ≤ c ∧ c ≤ 65535) (hn : n = min x.size y.size) (hx : x.size ≤ 1099511627776) (hy : y.size ≤ 1099511627776) :
    Calls Try.prog 15 #[.int .u16 c, .string x, .string y] w fun e w' => e = .returned (.int .u16 (turns c (L (x.extract 0 n)) (L (y.extract 0 n)) ((n + 1) / 2))) ∧ Below w.heap.size w w' := by
  have hP := Lib.hid (fun (W : World) => pairsC x y n W hn hx hy)
  have hsx := Lib.hid (size_take x n (by omega))
  have hsy := Lib.hid (size_take y n (by omega))
  have hnb : n ≤ 1099511627776 := by omega
  have hbd := Lib.hid (fun l => turnsL_bd c hc l)
  clear hn
  refine (callsIn_wide (n := 4)).1 ?_
  refine callsIn_of_wp_marks Try.func15 rfl trivial ?_ rfl
  simp only [Try.ntmps15, List.size_toArray, List.length_cons, List.length_nil, Nat.reduceAdd, Nat.reduceSub, Array.replicate_succ, Array.replicate_zero, List.push_toArray, List.append_toArray, List.nil_append, List.cons_append]
  gi_wp2_with (refine ⟨trivial, ?_⟩; gi_at_call 22; refine (callsIn_wide.2 (hP.out _)).mono ?_; rintro e w1 ⟨rfl, hb1, hz1, x1, x2, x3⟩)
  have bS := Boxed.new w 23 (.int .u16 c)
  rw [World.size_alloc] at hb1 hz1 x1 x2 x3
  have bS1 := below_boxed hb1 (by omega) bS
  have hB0 : Below w.heap.size w w1 := ((Below.refl _ w).alloc (Nat.le_refl _) _).trans (hb1.mono (by simp))
  have hsz : w.heap.size + 1 + 3 ≤ w1.heap.size := by omega
  refine wpIn_rangeFunc_ownG rfl (by omega) (gf := 27) (lb := #[.pointer (some ⟨w.heap.size + 1 + 2, 0, none⟩), .pointer (some ⟨w.heap.size + 1, 0, none⟩), .pointer (some ⟨w.heap.size + 1 + 1, 0, none⟩)]) rfl trivial
    (enters_of Try.func27 (by kernel_rfl) rfl)
    (pairsTells (w.heap.size + 1) n (x.extract 0 n) (y.extract 0 n) w1 hsx.out hsy.out hnb hsz x1 x2 x3)
    (fun h k i h1 h2 => (k i h1 h2).trans (h i h1 h2))
    (fun W l o o' hl _ _ _ k h1 h2 => World.putObj_heap_other (by omega))
    (Below.refl _ _) (fun _ => rfl)
    (fun pre W => Boxed W w.heap.size 23 (.int .u16 (turnsL c pre)) ∧ Below w.heap.size w W ∧ w1.heap.size ≤ W.heap.size)
    (fun _ _ _ => False)
    (OwnFrom.and (Own.from (boxed_own _ _ _) _) (OwnFrom.and (ownFrom_below (Nat.le_refl _) (by omega)) (fun _ _ _ _ hs hg _ => Nat.le_trans hs hg.size)))
    (fun _ _ _ _ _ hs _ _ => hs)
    ⟨bS1, hB0, Nat.le_refl _⟩
    (fun z => { tmps := #[.int .u16 c, .string x, .string y, .pointer (some ⟨w.heap.size, 0, none⟩), undef, undef, .int .u16 0, .int .u16 z.1.1, .int .u16 z.2.1, .string x, .string y,
      .func (.func 27) #[] #[.pointer (some ⟨w.heap.size + 1 + 2, 0, none⟩), .pointer (some ⟨w.heap.size + 1, 0, none⟩), .pointer (some ⟨w.heap.size + 1 + 1, 0, none⟩)], .int .u16 z.1.1, .int .u16 z.2.1, undef, undef, undef, undef, undef], defers := [] }) ?assign ?body ?done ?stop
  case assign =>
    intro l z W K hK
    gi_wp2
    exact hK
  case body =>
    rintro l pre z W ⟨hb, hB, hs⟩ hl
    have hcb := hb.cell
    have hz1' := z.1.2
    have hz2' := z.2.2
    have ht := hbd.out pre
    have hlt : w.heap.size < W.heap.size := by omega
    gi_wp2_with (refine ⟨trivial, ?_⟩; gi_at_call 13; refine (CallsIn.inRound l (callsIn_wide.2 (turnC _ _ _ _ ht hz1' hz2'))).mono ?_; rintro e w2 ⟨rfl, hb2⟩; have bx2 := below_boxed hb2 hlt hb; have hc2 := bx2.cell; have hf2 := bx2.frozen)
    have bx2 := below_boxed hb2 hlt hb
    refine ⟨(keepsFrom_below hb2).trans ((KeepsOthers.setCell _ _ _).from _), fun k h1 h2 => ?_, by rw [turnsL_snoc]; exact bx2.set _, (hB.trans (hb2.mono (by omega))).setCell (p := ⟨w.heap.size, 0, none⟩) (Nat.le_refl _) _, ?_⟩
    · refine Eq.trans ?_ (hb2.block k (by omega))
      exact (grownBy_setCell' _ w.heap.size _).block k (by have := hb2.size; omega) (fun e => by cases e; omega)
    · rw [World.size_setCell]; exact Nat.le_trans hs hb2.size
  case done =>
    rintro D ys W hD rfl ⟨hb, hB, hs⟩ hK
    have hcb := hb.cell
    gi_wp2
    refine ⟨by simp, .inl ⟨_, _, rfl, run_takeDeferred hK, ?_⟩⟩
    exact ⟨_, results_tmp rfl _ _ _, by rw [turnsL_prs]; rfl, hB.trans (belowK_b (w := w) (Nat.le_refl _) W D _ _ (by omega) hK rfl rfl)⟩
  case stop =>
    rintro D c pre W _ _ h _
    exact h.elim
end Go.Proofs.Ytjnlfnlodjbcjaa.su
