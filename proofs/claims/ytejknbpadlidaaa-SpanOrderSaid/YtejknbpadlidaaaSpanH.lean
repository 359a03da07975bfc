/- The document's Set: what it returns for every input. Condition: the arguments fit their kinds; a list of less than a million spans. -/
import Derived.Test.YtejknbpadlidaaaSpanG
namespace Go.Proofs.Ytejknbpadlidaaa.sp
open Go.RowKit Go.Shelf Go.Lib Go.Sort Go.Proofs.Ytejknbpadlidaaa.spm
set_option linter.unusedVariables false

/-- the answer of Add (add) and of Cut: a list, and an error's number -/
def setL (xs : List Sp) (x : Sp) (add : Bool) : List Sp × Int :=
  if mayB xs then (if x.2 < x.1 then ([], 2) else if 256 < (madeL xs x add).length then ([], 6) else (madeL xs x add, 0)) else ([], 8)
def SetPost (w : World) (xs : List Sp) (x : Sp) (add : Bool) (e : Ending) (w' : World) : Prop :=
  ∃ A' n' c', e = .returned (.tuple #[.slice A' n' c', .int .i64 (setL xs x add).2]) ∧ (setL xs x add).1.length = n' ∧ Rd w' A' (setL xs x add).1 ∧ Below w.heap.size w w'
theorem SetPost.nil_ {w w' : World} {xs : List Sp} {x : Sp} {add : Bool} {er : Int} (h : setL xs x add = ([], er)) (hb : Below w.heap.size w w') : SetPost w xs x add (.returned (.tuple #[.slice none 0 0, .int .i64 er])) w' :=
  ⟨none, 0, 0, by rw [h], by rw [h]; rfl, by rw [h]; exact fun hn => absurd rfl hn, hb⟩

theorem SetPost.ok_ {w w' : World} {xs ys : List Sp} {x : Sp} {add : Bool} {A : Option Addr} {n c : Nat} (h : setL xs x add = (ys, 0)) (hl : ys.length = n) (hr : Rd w' A ys) (hb : Below w.heap.size w w') : SetPost w xs x add (.returned (.tuple #[.slice A n c, .int .i64 0])) w' :=
  ⟨A, n, c, by rw [h], by rw [h]; exact hl, by rw [h]; exact hr, hb⟩

set_option maxHeartbeats 1000000 in
theorem refSetC (A : Option Addr) (n c : Nat) (xs : List (Int × Int)) (a b : Int) (add : Bool) (w : World) (hr : Rd w A xs) (hn : xs.length = n) (hm : n < 1000000) :
    Calls Try.prog 21 #[.slice A n c, .agg #[.int .u64 a, .int .u64 b], .bool add] w (SetPost w xs (a, b) add) := by
  obtain ⟨W, hW⟩ : ∃ W, Hid (W = w.alloc (.cells #[.int .u64 a, .int .u64 b] 31)) := ⟨_, rfl⟩
  have hB : Below w.heap.size w W := by rw [hW.out]; exact (Below.refl _ _).alloc (Nat.le_refl _) _
  have g1 : W.cell? ⟨w.heap.size, 0, none⟩ = some (.int .u64 a) := by rw [hW.out]; go_simp
  have g2 : W.cell? ⟨w.heap.size, 1, none⟩ = some (.int .u64 b) := by rw [hW.out]; go_simp
  have hM := refMayC A n c xs W (hr.below hB (Nat.le_refl _)) hn (by unfold maxLen; omega)
  cases hmay : mayB xs
  · rw [hmay] at hM
    have HF := Lib.hid (show setL xs (a, b) add = ([], 8) by unfold setL; simp [hmay])
    have HC := Lib.hid hM; clear hM hmay hr hn g1 g2
    go_enter Try.func21, Try.ntmps21
    go_wp2_with fail
    rw [← hW.out]
    refine HC.out.mono ?_
    rintro e w1 ⟨rfl, hb1⟩
    go_wp2
    go_ret2
    exact SetPost.nil_ HF.out (hB.trans (hb1.mono hB.size))
  · rw [hmay] at hM
    by_cases hab : b < a
    · have HF := Lib.hid (show setL xs (a, b) add = ([], 2) by unfold setL; simp [hmay, hab])
      have HC := Lib.hid hM; clear hM hmay hr hn
      go_enter Try.func21, Try.ntmps21
      go_wp2_with fail
      rw [← hW.out]
      refine HC.out.mono ?_
      rintro e w1 ⟨rfl, hb1⟩
      replace g1 := cell_up hb1 g1; replace g2 := cell_up hb1 g2
      go_wp2
      go_ret2
      exact SetPost.nil_ HF.out (hB.trans (hb1.mono hB.size))
    · have hab' : a ≤ b := by omega
      have hD := fun (w1 : World) (hb1 : Below w.heap.size w w1) => madeC A n c xs a b add w1 (hr.below hb1 (Nat.le_refl _)) hn hm
      have HQ : ∀ L, Hid ((madeL xs (a, b) add).length = L) → Hid (setL xs (a, b) add = if 256 < L then ([], 6) else (madeL xs (a, b) add, 0)) := fun L hL => by
        show setL xs (a, b) add = _
        unfold setL
        rw [hmay, if_pos rfl, if_neg (by show ¬ b < a; omega), hL.out]
      have HQ' := Lib.hid HQ; clear HQ
      have HD := Lib.hid hD
      have HC := Lib.hid hM; clear hM hmay hr hn hD hab
      go_enter Try.func21, Try.ntmps21
      go_wp2_with fail
      rw [← hW.out]
      refine HC.out.mono ?_
      rintro e w1 ⟨rfl, hb1⟩
      replace g1 := cell_up hb1 g1; replace g2 := cell_up hb1 g2
      have hB1 := hB.trans (hb1.mono hB.size)
      go_wp2_with fail
      refine (HD.out _ hB1).mono ?_
      rintro e w2 ⟨A2, L, c2, rfl, hL, hrd, hb2⟩
      have hset := HQ'.out L hL
      have hB2 := hB1.trans (hb2.mono hB1.size)
      by_cases hl : 256 < L
      · have HF := Lib.hid (show setL xs (a, b) add = ([], 6) by rw [hset.out, if_pos hl])
        go_wp2
        go_ret2
        exact SetPost.nil_ HF.out hB2
      · have HF := Lib.hid (show setL xs (a, b) add = (madeL xs (a, b) add, 0) by rw [hset.out, if_neg hl])
        have hl' : L ≤ 256 := by omega
        clear hl
        go_wp2
        go_ret2
        exact SetPost.ok_ HF.out hL.out hrd hB2
end Go.Proofs.Ytejknbpadlidaaa.sp
