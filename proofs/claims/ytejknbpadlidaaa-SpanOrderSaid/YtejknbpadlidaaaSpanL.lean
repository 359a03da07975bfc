/- slices.SortFunc at spans, and joined. Condition: the arguments fit their kinds; a list of less than a million spans. -/
import Derived.Test.YtejknbpadlidaaaSpanK
namespace Go.Proofs.Ytejknbpadlidaaa.sp
open Go.RowKit Go.Shelf Go.Lib Go.Sort Go.Proofs.Ytejknbpadlidaaa.spm
set_option linter.unusedVariables false

theorem isAggS (w : World) : (isAgg 31).run Try.prog w = .ok true w := by kernel_rfl
theorem sizeS (w : World) : (Go.sizeOf 31).run Try.prog w = .ok 2 w := by kernel_rfl

theorem getD_arr (ps : List Sp) (k : Nat) (h : k < ps.length) : ps.toArray[k]! = ps.getD k (0, 0) := by
  rw [getElem!_pos ps.toArray k (by simpa using h)]; simp [List.getD, h]
theorem holds_of_row {w : World} {g : Nat} {ps : List Sp} (h : Row w g ps) : HoldsK encS 2 w g 0 ps.toArray := by
  intro j hj
  have hj' : j < ps.length * 2 := by simpa using hj
  obtain ⟨q, r, rfl, hr⟩ : ∃ q r, j = q * 2 + r ∧ r < 2 := ⟨j / 2, j % 2, by omega, by omega⟩
  have hk : q < ps.length := by omega
  obtain ⟨⟨h1, h2⟩, h3, h4⟩ := h q hk
  rw [get_flatK encS 2 ps.toArray _ (by simpa using hj'), show (q * 2 + r) / 2 = q by omega, show (q * 2 + r) % 2 = r by omega, getD_arr ps _ hk, Nat.zero_add]
  rcases (show r = 0 ∨ r = 1 by omega) with rfl | rfl
  · exact ⟨h1, h3⟩
  · exact ⟨h2, h4⟩
theorem row_of_holds {w : World} {g : Nat} {d : Array Sp} (h : HoldsK encS 2 w g 0 d) : Row w g d.toList := fun k hk => by
  have hk' : k < d.size := by simpa using hk
  have a1 := h.cell hk' (c := 0) (by omega)
  have a2 := h.cell hk' (c := 1) (by omega)
  have e : d.toList.getD k (0, 0) = d[k]! := by rw [getElem!_pos d k hk']; simp [List.getD, hk']
  rw [e]
  simp only [Nat.zero_add, Nat.add_zero] at a1 a2
  exact ⟨⟨a1.1, a2.1⟩, a1.2, a2.2⟩
theorem below_sorted {B g : Nat} (w : World) (n : Nat) (d : Array Sp) (os : Array Obj) (hg : B ≤ g) (hB : B ≤ w.heap.size) : RowKit.Below B w (sortWorldK encS 2 w g 0 n d os) := by
  refine ⟨rfl, rfl, rfl, ?_, fun k hk => ?_⟩
  · unfold sortWorldK putRowK; simp
  · unfold sortWorldK putRowK
    rw [heap_grow_old _ _ (by simp; omega)]
    unfold putRow mapBlock
    show ((w.heap.modify g _)[k]?) = _
    rw [Array.getElem?_modify, if_neg (by omega)]

set_option maxHeartbeats 1000000 in
theorem sortC (B : Nat) (A : Option Addr) (n c : Nat) (ps : List Sp) (w0 w : World) (hin : InR B w0 A ps) (hn : ps.length = n) (hm : n < 4611686018427387904) (hw : RowKit.Below w0.heap.size w0 w) (hB : B ≤ w0.heap.size)
    (p : Addr) (hp : w.cell? p = some (.func (.func 47) #[] #[])) (hpb : w0.heap.size ≤ p.block) :
    Calls Try.prog 53 #[.slice A n c, .func (.func 54) #[] #[.pointer (some p)]] w fun e w' =>
      ∃ qs, e = .returned (.tuple #[]) ∧ Hid (qs.Perm ps ∧ qs.Pairwise (fun a b => a.1 ≤ b.1)) ∧ InR B w' A qs ∧ RowKit.Below B w w' := by
  by_cases h0 : ps = []
  · subst h0
    obtain rfl : n = 0 := by simpa using hn.symm
    have hcon := AnyF.slices_SortFunc_none Try.sortSp A c (.func (.func 54) #[] #[.pointer (some p)]) w
    change Calls Try.prog 53 _ _ _ at hcon
    exact hcon.mono fun e w' ⟨he, hw'⟩ => ⟨[], he, ⟨List.Perm.refl _, by simp⟩, fun h => absurd rfl h, hw' ▸ RowKit.Below.refl _ _⟩
  · obtain ⟨g, rfl, hg1, hg2, hrow0⟩ := hin h0
    have hrow := hrow0.up hw hg2
    have hgw : g < w.heap.size := Nat.lt_of_lt_of_le hg2 hw.size
    have eg : ∀ args w, (callFunc 54 args).run Try.prog w = .ok (.enter 54 args) w := enters_of Try.func54 (by kernel_rfl) rfl
    have hcmp : CmpLays Try.prog 54 #[.pointer (some p)] encS 2 cfS g 0 ps.toArray.size w := fun m os dk hdk x y => by
      have hc : (sortWorldK encS 2 w g 0 m dk os).cell? p = some (.func (.func 47) #[] #[]) := by
        unfold sortWorldK
        rw [cell?_grow _ _ _ (by unfold putRowK; simp; exact World.block_lt_of_cell? _ _ hp), cell?_putRowK_other encS 2 _ g 0 dk p (by omega), cell?_ahead]
        exact hp
      exact (closureC x.1 x.2 y.1 y.2 p _ hc).mono fun e w' ⟨he, q, os', hw'⟩ => ⟨he, q, os', hw'⟩
    have hcon := AnyQ.slices_SortFunc Try.sortSp 2 isAggS sizeS encS (fun _ => rfl) (fun x v hv => by simp [encS] at hv; rcases hv with rfl | rfl <;> rfl) cfS swoS 54 #[.pointer (some p)] g 0 c ps.toArray w eg hcmp (holds_of_row hrow) hgw (by simp; omega)
    change Calls Try.prog 53 _ _ _ at hcon
    rw [show ps.toArray.size = n by simpa using hn] at hcon
    refine hcon.mono fun e w' ⟨he, d', m, os, hperm, hsort, hw'⟩ => ⟨d'.toList, he, ⟨?_, ?_⟩, ?_, ?_⟩
    · have h2 := hperm.2.2
      have hs := hperm.1
      have e1 : (d'.extract 0 n).toList = d'.toList := by
        rw [Array.toList_extract]; simp; exact List.take_of_length_le (by simp [hs, hn])
      have e2 : (ps.toArray.extract 0 n).toList = ps := by
        rw [Array.toList_extract]; simp; exact List.take_of_length_le (by omega)
      rwa [e1, e2] at h2
    · rw [List.pairwise_iff_getElem]
      intro i j hi hj hij
      have hs := hperm.1
      have hl : d'.size = n := by rw [hs]; simpa using hn
      have := hsort i j (Nat.zero_le _) hij (by rw [← hl]; simpa using hj)
      rw [ltS, decide_eq_false_iff_not, getElem!_pos d' i (by simpa using hi), getElem!_pos d' j (by simpa using hj)] at this
      simp only [Array.getElem_toList]
      omega
    · rw [hw']
      intro _
      refine ⟨g, rfl, hg1, ?_, ?_⟩
      · unfold sortWorldK putRowK; simp; omega
      · refine row_of_holds (holdsK_grow encS 2 _ _ g 0 _ ?_ (holdsK_putRowK encS 2 _ g 0 ps.toArray d' (holdsK_ahead encS 2 w m g 0 _ (holds_of_row hrow)) hperm.1))
        unfold putRowK; simp; omega
    · rw [hw']; exact below_sorted w m d' os hg1 (Nat.le_trans hB hw.size)
end Go.Proofs.Ytejknbpadlidaaa.sp
