/- slices.DeleteFunc at spans, with 'empty'. Condition: the arguments fit their kinds; a list of less than a million spans. -/
import Derived.Test.YtejknbpadlidaaaSpanI
namespace Go.Proofs.Ytejknbpadlidaaa.sp
open Go.RowKit Go.Shelf Go.Lib Go.Sort Go.Proofs.Ytejknbpadlidaaa.spm
set_option linter.unusedVariables false

def InR (B : Nat) (w : World) (A : Option Addr) (ps : List Sp) : Prop := ps ≠ [] → ∃ g, A = some ⟨g, 0, none⟩ ∧ B ≤ g ∧ g < w.heap.size ∧ Row w g ps
theorem InR.rd {B : Nat} {w : World} {A : Option Addr} {ps : List Sp} (h : InR B w A ps) : Rd w A ps := fun hn => by
  obtain ⟨g, rfl, _, hg, hr⟩ := h hn
  exact hr.rd hg hn
theorem below_set {B : Nat} {a : World} {b : Nat} (hb : B ≤ b) : ∀ (vs : List Value) (o : Nat) (w : World), Below B a w → Below B a (w.setCells b o vs)
  | [], _, _, h => h
  | v :: r, o, w, h => by unfold World.setCells; exact below_set hb r (o + 1) _ (h.setCell (p := ⟨b, o, none⟩) hb v)

theorem zero31 (w : World) : (zeroValue 31).run Try.prog w = .ok (.agg #[.int .u64 0, .int .u64 0]) w := by kernel_rfl
theorem run_clear2 (w : World) (ty b o n c : Nat) (hn : 0 < n) (hc : ∀ j, j < n * 2 → (w.cell? ⟨b, o + j, none⟩).isSome = true) (hf : ∀ j, j < n * 2 → w.frozen? ⟨b, o + j, none⟩ = false) :
    ∃ vs : List Value, vs.length = n * 2 ∧ (Builtin.clear_ #[28] ty #[.slice (some ⟨b, o, none⟩) n c]).run Try.prog w = .ok (.tuple #[]) (w.setCells b o vs) := by
  refine ⟨(Builtin.zeroCells #[.int .u64 0, .int .u64 0] n).toList, by simp [Builtin.zeroCells], ?_⟩
  have hst := run_storeCells_cells (P := Try.prog) b o (Builtin.zeroCells #[.int .u64 0, .int .u64 0] n).toList 0 w (by simpa [Builtin.zeroCells] using hc) (by simpa [Builtin.zeroCells] using hf) (by
    intro v hv
    simp [Builtin.zeroCells] at hv
    obtain ⟨i, _, rfl⟩ := hv
    rcases (show i % 2 = 0 ∨ i % 2 = 1 by omega) with h | h <;> simp [h] <;> rfl)
  simp only [Nat.add_zero] at hst
  obtain ⟨m, rfl⟩ : ∃ m, n = m + 1 := ⟨n - 1, by omega⟩
  simp [Builtin.clear_, run_underlying Try.underlying28, zero31, hst, Value.cells]

set_option maxHeartbeats 1000000 in
theorem deleteC (B : Nat) (A : Option Addr) (n c : Nat) (ps : List Sp) (w : World) (hin : InR B w A ps) (hn : ps.length = n) (hnc : n ≤ c) (hm : n < 4611686018427387904) (hB : B ≤ w.heap.size) :
    Calls Try.prog 46 #[.slice A n c, .func (.func 42) #[] #[]] w fun e w' => ∃ n', e = .returned (.slice A n' c) ∧ Hid ((neL ps).length = n') ∧ n' ≤ c ∧ InR B w' A (neL ps) ∧ Below B w w' := by
  have hI := indexC A n c ps w hin.rd hn hm
  have HN := Lib.hid hn; have HI := Lib.hid hI; have HIn := Lib.hid hin; clear hn hI hin
  go_enter Try.func46, Try.ntmps46
  go_wp2_with fail
  refine HI.out.mono ?_
  rintro e w1 ⟨r, rfl, hr, hb1⟩
  rcases hr.out with ⟨rfl, hall⟩ | ⟨k, rfl, hk, hall, hemp⟩
  · have HE := Lib.hid (neL_all hall); clear hall hr
    go_wp2
    go_ret
    refine ⟨n, rfl, by rw [HE.out]; exact HN.out, hnc, ?_, hb1.mono hB⟩
    rw [HE.out]
    intro hne
    obtain ⟨g, e, h1, h2, h3⟩ := HIn.out hne
    exact ⟨g, e, h1, Nat.lt_of_lt_of_le h2 hb1.size, h3.up hb1 h2⟩
  · obtain ⟨g, rfl, hg1, hg2, hrow⟩ := HIn.out (by intro h; subst h; simp at hk)
    have hD := Lib.hid (DelAt.start hk hall hemp)
    have hrow1 := hrow.up hb1 hg2
    have hg3 := Nat.lt_of_lt_of_le hg2 hb1.size
    have hkn : k < n := by rw [← HN.out]; exact hk
    have hne : ((k : Int) == -1) = false := by rw [beq_eq_false_iff_ne]; omega
    clear hr hall hemp hrow HI hk
    go_wp2
    go_loopw [5, 6] (fun i j wr => ∃ (m jj : Nat) (ds : List Sp), jj ≤ n ∧ m < jj ∧ i = .int .i64 m ∧ j = .int .i64 jj ∧ Hid (DelAt ps jj m ds) ∧ Hid (Row wr g ds) ∧ g < wr.heap.size ∧ Below B w wr) (fun _ j _ => n - (intOf j).toNat)
    case atStart => exact ⟨k, k + 1, ps, by omega, by omega, rfl, by go_num, hD, hrow1, hg3, hb1.mono hB⟩
    case round =>
      obtain ⟨m, j, ds, hj, hmj, rfl, rfl, hd, hrw, hg, hb⟩ := hrel
      clear hrow1 hg3 hD
      by_cases hlt : j < n
      · have hdl : ds.length = n := by rw [hd.out.len]; exact HN.out
        obtain ⟨x1, x2, hx⟩ : ∃ x1 x2, Hid (ps[j]? = some (x1, x2)) := ⟨(ps.getD j (0, 0)).1, (ps.getD j (0, 0)).2, (show ps[j]? = _ by simp [List.getD, show j < ps.length by rw [HN.out]; exact hlt])⟩
        have hdx : ds.getD j (0, 0) = (x1, x2) := by simp [List.getD, hd.out.rest j (Nat.le_refl _), hx.out]
        obtain ⟨⟨c1, c2⟩, _, _⟩ := hrw.out j (by omega)
        rw [hdx] at c1 c2
        obtain ⟨⟨m1, m2⟩, m3, m4⟩ := hrw.out m (by omega)
        have hsz := hb.size
        obtain ⟨W, hW⟩ : ∃ W, Hid (W = wr.alloc (.cells #[.int .u64 x1, .int .u64 x2] 31)) := ⟨_, rfl⟩
        have hWB : Below wr.heap.size wr W := by rw [hW.out]; exact (Below.refl _ _).alloc (Nat.le_refl _) _
        have g1 : W.cell? ⟨wr.heap.size, 0, none⟩ = some (.int .u64 x1) := by rw [hW.out]; go_simp
        have g2 : W.cell? ⟨wr.heap.size, 1, none⟩ = some (.int .u64 x2) := by rw [hW.out]; go_simp
        have hml : m < ds.length := by omega
        clear hdl hdx
        generalize (ds.getD m (0, 0)).1 = o1 at m1
        generalize (ds.getD m (0, 0)).2 = o2 at m2
        by_cases he : x2 ≤ x1
        · have hd' := Lib.hid (hd.out.skip hx.out he)
          go_wp2_with fail
          rw [← hW.out]
          refine (emptyY _ _ _ he).mono ?_
          rintro e w2 ⟨rfl, hb2⟩
          have hb12 := hWB.trans (hb2.mono hWB.size)
          have hrw2 := Lib.hid (hrw.out.up hb12 hg)
          have hg2' := Nat.lt_of_lt_of_le hg hb12.size
          go_wp2
          go_roundw
          case rel => exact ⟨m, j + 1, ds, by omega, by omega, rfl, by go_num, hd', hrw2, hg2', hb.trans (hb12.mono (Nat.le_trans hB hsz))⟩
          case measure => simp [intOf]; omega
        · have he' : x1 < x2 := by omega
          have hd' := Lib.hid (hd.out.keep hx.out he')
          clear he
          go_wp2_with fail
          rw [← hW.out]
          refine (emptyN _ _ _ he').mono ?_
          rintro e w2 ⟨rfl, hb2⟩
          have hb12 := hWB.trans (hb2.mono hWB.size)
          have hrw2 := Lib.hid (hrw.out.up hb12 hg)
          have hset := Lib.hid (hrw2.out.set hml x1 x2)
          have hg2' := Nat.lt_of_lt_of_le hg hb12.size
          have n1 := cell_up hb12 m1
          have n2 := cell_up hb12 m2
          have n3 := (hb12.frozen (p := ⟨g, m * 2, none⟩) hg).trans m3
          have n4 := (hb12.frozen (p := ⟨g, m * 2 + 1, none⟩) hg).trans m4
          have n5 := cell_up hb2 g1
          have n6 := cell_up hb2 g2
          clear m1 m2 m3 m4 g1 g2 c1 c2
          go_wp2
          go_roundw
          case rel => exact ⟨m + 1, j + 1, _, by omega, by omega, by go_num, by go_num, hd', hset, by simpa using hg2', ((hb.trans (hb12.mono (Nat.le_trans hB hsz))).setCell hg1 _).setCell hg1 _⟩
          case measure => simp [intOf]; omega
      · obtain rfl : j = n := by omega
        have hdl : ds.length = j := by rw [hd.out.len]; exact HN.out
        obtain ⟨vs, hvl, hrun⟩ := run_clear2 wr 0 g (m * 2) (j - m) (c - m) (by omega) (fun t ht => by
            have e : m * 2 + t = (m + t / 2) * 2 + t % 2 := by omega
            have := hrw.out (m + t / 2) (by omega)
            rcases (show t % 2 = 0 ∨ t % 2 = 1 by omega) with h | h <;> rw [e, h]
            · rw [Nat.add_zero, this.1.1]; rfl
            · rw [this.1.2]; rfl) (fun t ht => by
            have e : m * 2 + t = (m + t / 2) * 2 + t % 2 := by omega
            have := hrw.out (m + t / 2) (by omega)
            rcases (show t % 2 = 0 ∨ t % 2 = 1 by omega) with h | h <;> rw [e, h]
            · rw [Nat.add_zero]; exact this.2.1
            · exact this.2.2)
        have hend : neL ps = ds.take m := by
          have h := hd.out.kept
          rw [h, show ps.take j = ps by rw [← HN.out]; exact List.take_length]
        have hlen : (neL ps).length = m := by rw [hend, List.length_take]; omega
        have hrow2 : Row (wr.setCells g (m * 2) vs) g (neL ps) := fun t ht => by
          rw [hlen] at ht
          obtain ⟨⟨h1, h2⟩, h3, h4⟩ := hrw.out t (by omega)
          rw [show (neL ps).getD t (0, 0) = ds.getD t (0, 0) by rw [hend]; simp [List.getD, List.getElem?_take, ht]]
          refine ⟨⟨?_, ?_⟩, by rw [World.frozen?_setCells]; exact h3, by rw [World.frozen?_setCells]; exact h4⟩
          · rw [World.cell?_setCells_out g vs (m * 2) wr _ (fun _ _ => .inl (by show t * 2 < m * 2; omega))]; exact h1
          · rw [World.cell?_setCells_out g vs (m * 2) wr _ (fun _ _ => .inl (by show t * 2 + 1 < m * 2; omega))]; exact h2
        have hbf := below_set hg1 vs (m * 2) wr hb
        have hsz := (below_set (Nat.le_refl g) vs (m * 2) wr (Below.refl g wr)).size
        have HF := Lib.hid (And.intro hlen (And.intro hrow2 (And.intro hbf hsz)))
        clear hend hlen hrow2 hbf hsz hdl
        go_wp2
        go_ret
        obtain ⟨f1, f2, f3, f4⟩ := HF.out
        exact ⟨m, rfl, f1, by omega, fun _ => ⟨g, rfl, hg1, Nat.lt_of_lt_of_le hg f4, f2⟩, f3⟩
end Go.Proofs.Ytejknbpadlidaaa.sp
