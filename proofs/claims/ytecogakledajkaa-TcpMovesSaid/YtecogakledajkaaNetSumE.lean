/- Package sum: Of. Condition: the parts are together at most 2^40 bytes. -/
import Derived.Test.YtecogakledajkaaNetSumD
namespace Go.Proofs.Ytecogakledajkaa.su
open Go.RowKit Go.Shelf Go.Proofs.Ytecogakledajkaa.sm Go.Proofs.Ytecogakledajkaa.nb
set_option linter.unusedVariables false
attribute [local go_sem] Oper.semAt_some

set_option maxRecDepth 100000 in
set_option maxHeartbeats 2000000 in
/-- the closure of words, of no parts -/
theorem wordsTells0 (Bs n₀ cap : Nat) (A : Option Addr) (w : World) (hBs : Bs < w.heap.size) (hS : w.cell? ⟨Bs, 0, none⟩ = some (.slice A 0 cap)) :
    Tells Try.prog 42 #[.pointer (some ⟨Bs, 0, none⟩)] n₀ 0 0 w := fun l J Jx W hW hJ hJx hY h0 => by
  have hS' := (hW.cell (p := ⟨Bs, 0, none⟩) hBs).trans hS
  have s1 : ByteArray.empty.toList.isEmpty = true := emp_t rfl
  refine callsIn_of_wp Try.func42 rfl trivial ?_ rfl
  simp only [Try.ntmps42, List.size_toArray, List.length_cons, List.length_nil, Nat.reduceAdd, Nat.reduceSub, Array.replicate_succ, Array.replicate_zero, List.push_toArray, List.append_toArray, List.nil_append, List.cons_append]
  gi_wp2
  gi_loopw [3, 8] (fun al i wr => al = .string ByteArray.empty ∧ i = .int .i64 0 ∧ J [] wr) (fun _ _ _ => 0)
  case atStart => exact ⟨rfl, rfl, h0⟩
  case round =>
    obtain ⟨rfl, rfl, hJs⟩ := hrel
    gi_wp2
    go_end0
    exact ⟨⟨_, rfl⟩, .inl ⟨_, rfl, hJs⟩⟩

theorem wordsC (A : Option Addr) (len cap : Nat) (w : World) :
    Calls Try.prog 37 #[.slice A len cap] w fun e w' => e = .returned (.func (.func 42) #[] #[.pointer (some ⟨w.heap.size, 0, none⟩)]) ∧ w' = w.alloc (.cells #[.slice A len cap] 51) := by
  go_enter Try.func37, Try.ntmps37
  go_wp2
  go_ret
  exact ⟨rfl, rfl⟩

/-- texts as they lie in a world -/
def Txt (w : World) (A : Option Addr) (ps : List ByteArray) : Prop :=
  ps ≠ [] → ∃ b off, A = some ⟨b, off, none⟩ ∧ b < w.heap.size ∧ ∀ j (h : j < ps.length), w.cell? ⟨b, off + j, none⟩ = some (.string (ps[j]))

theorem sumC (A : Option Addr) (len cap : Nat) (ps : List ByteArray) (hlen : ps.length = len) (hl : ps.length ≤ 1099511627776) (hsz : (cat ps).length ≤ 1099511627776) (w : World) (ht : Txt w A ps) :
    Calls Try.prog 35 #[.func (.func 42) #[] #[.pointer (some ⟨w.heap.size, 0, none⟩)]] (w.alloc (.cells #[.slice A len cap] 51))
      fun e w' => e = .returned (.int .u16 (ck (wsum (cat ps)))) ∧ Below w.heap.size w w' := by
  subst hlen
  have eg := fun args w => enters_of (P := Try.prog) Try.func42 (by kernel_rfl) rfl args w
  have hbx := (Boxed.new w 51 (.slice A ps.length cap)).cell
  have hT := wsum_bd (cat ps)
  have hB0 : Below w.heap.size w (w.alloc (.cells #[.slice A ps.length cap] 51)) := (Below.refl _ w).alloc (Nat.le_refl _) _
  by_cases h0 : ps = []
  · subst h0
    refine (checksum_in 42 eg _ 0 0 (by omega) _ (wordsTells0 w.heap.size _ cap A _ (by simp) hbx) (by omega) (by omega)).mono ?_
    rintro e w' ⟨rfl, hb⟩
    exact ⟨rfl, hB0.trans (hb.mono (by simp))⟩
  · obtain ⟨b, off, rfl, hb, hc⟩ := ht h0
    refine (checksum_in 42 eg _ (wsum (cat ps)) (cat ps).length (by omega) _
      (wordsTells w.heap.size _ b off cap ps hl hsz (by simp; omega) _ (Nat.le_refl _) (by simp) hbx (fun j hj => (hB0.cell (p := ⟨b, off + j, none⟩) hb).trans (hc j hj))) hT.1 hT.2).mono ?_
    rintro e w' ⟨rfl, hb⟩
    exact ⟨rfl, hB0.trans (hb.mono (by simp))⟩

theorem ofC (A : Option Addr) (len cap : Nat) (ps : List ByteArray) (hlen : ps.length = len) (hl : ps.length ≤ 1099511627776) (hsz : (cat ps).length ≤ 1099511627776) (w : World) (ht : Txt w A ps) :
    Calls Try.prog 25 #[.slice A len cap] w fun e w' => e = .returned (.int .u16 (ck (wsum (cat ps)))) ∧ Below w.heap.size w w' := by
  have hc := Lib.hid (sumC A len cap ps hlen hl hsz w ht)
  go_enter Try.func25, Try.ntmps25
  go_wp2_with (fail)
  refine (wordsC _ _ _ _).mono ?_
  rintro e w1 ⟨rfl, rfl⟩
  go_wp2_with (fail)
  refine hc.out.mono ?_
  rintro e w1 ⟨rfl, hb1⟩
  go_wp2
  go_ret
  exact ⟨rfl, hb1⟩
end Go.Proofs.Ytecogakledajkaa.su
