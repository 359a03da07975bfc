/- B H A: contracts, part 17. Condition: as each says. -/
import Derived.Test.YtafckmbgefbonaaKBHA2
import Derived.RangeFuncNested
import Derived.RangeFuncBound
import Derived.RangeFuncCalls
import Derived.RangeFuncLeaves
import Derived.RangeFuncBox
import Derived.Shelf.RegionOpen
import Derived.OwnWalkIn
import Derived.TacticsInMore
import Derived.LoopNIn
import Derived.LoopIn
set_option linter.unusedVariables false
set_option linter.unusedSimpArgs false
namespace Go.Proofs.Ytafckmbgefbonaa.su
open Go.RowKit Go.Shelf Go.Proofs.Ytafckmbgefbonaa.sm Go.Proofs.Ytafckmbgefbonaa.nb
set_option linter.unusedVariables false
attribute [local go_sem] Oper.semAt_some

abbrev U16 := { x : Int // 0 ≤ x ∧ x ≤ 65535 }
def tot : List U16 → Int
  | [] => 0
  | x :: t => x.1 + tot t
theorem tot_snoc : ∀ (l : List U16) (x : U16), tot (l ++ [x]) = tot l + x.1
  | [], x => by simp [tot]
  | y :: t, x => by simp only [List.cons_append, tot, tot_snoc t x]; omega
theorem tot_bd : ∀ l : List U16, 0 ≤ tot l ∧ tot l ≤ 65535 * (l.length : Int)
  | [] => by simp [tot]
  | y :: t => by have := tot_bd t; have := y.2; simp [tot]; omega

theorem fold_and (x : Int) (h : 0 ≤ x) (h' : x ≤ 18446744073709551615) : bits .and .u64 x 65535 = x % 65536 := by
  obtain ⟨n, rfl⟩ := Int.eq_ofNat_of_zero_le h
  have := u64_and_nat n 65535 (by omega) (by omega)
  rw [nat_mask16] at this
  simpa using this
theorem flip16 (x : Int) (h : 0 ≤ x ∧ x ≤ 65535) : bits .xor .u16 IntKind.u16.max x = 65535 - x := by
  obtain ⟨n, rfl⟩ := Int.eq_ofNat_of_zero_le h.1
  show IntKind.u16.wrap ((BitVec.ofInt 16 65535 ^^^ BitVec.ofInt 16 (n : Int)).toNat : Int) = _
  rw [show BitVec.ofInt 16 65535 = BitVec.allOnes 16 by decide, BitVec.allOnes_xor, BitVec.toNat_not, ofInt_u16 n (by omega), IntKind.wrap_u16]
  omega

abbrev Tells (P : Program) (g : Nat) (lb : Array Value) (n₀ : Nat) (T : Int) (N : Nat) (w : World) : Prop :=
  SeqStopsK Fence.wide 3 P g lb (fun x : U16 => #[Value.int .u16 x.1]) (Below n₀) (fun xs => tot xs = T) (fun _ => True) N w

set_option maxRecDepth 100000 in
set_option maxHeartbeats 2000000 in
theorem checksum_in (g : Nat) (eg : ∀ args w, (callFunc g args).run Try.prog w = .ok (.enter g args) w) (lb : Array Value) (T : Int) (N : Nat) (hN : N ≤ 70368744177664) (w : World)
    (hT : Tells Try.prog g lb w.heap.size T N w) (h0 : 0 ≤ T) (hT1 : T ≤ 65535 * (N : Int)) :
    Calls Try.prog 62 #[.func (.func g) #[] lb] w fun e w' => e = .returned (.int .u16 (ck T)) ∧ Below w.heap.size w w' := by
  refine (callsIn_wide (n := 4)).1 ?_
  refine callsIn_of_wp_marks Try.func62 rfl trivial ?_ rfl
  simp only [Try.ntmps62, List.size_toArray, List.length_cons, List.length_nil, Nat.reduceAdd, Nat.reduceSub, Array.replicate_succ, Array.replicate_zero, List.push_toArray, List.append_toArray, List.nil_append, List.cons_append]
  gi_wp2
  have bS := Boxed.new w 124 (.int .u64 0)
  have hB0 : Below w.heap.size w (w.alloc (.cells #[.int .u64 0] 124)) := (Below.refl _ w).alloc (Nat.le_refl _) _
  have hTb := tot_bd
  refine wpIn_rangeFunc_ownG rfl (by omega) (gf := g) (lb := lb) rfl trivial eg hT belowK_t (belowK_b (by simp)) hB0 (fun _ => rfl)
    (fun pre W => Boxed W w.heap.size 124 (.int .u64 (tot pre)) ∧ Below w.heap.size w W)
    (fun _ _ _ => False)
    (OwnFrom.and (Own.from (boxed_own _ _ _) _) (ownFrom_below (Nat.le_refl _) (by simp)))
    (fun _ _ _ _ _ hs _ _ => hs)
    ⟨bS, hB0⟩
    (fun x => { tmps := #[.func (.func g) #[] lb, undef, .int .u16 0, .pointer (some ⟨w.heap.size, 0, none⟩), .int .u16 x.1, .func (.func g) #[] lb, .int .u16 x.1, undef, undef, undef, undef, undef, undef, undef, undef, undef, undef, undef, undef, undef, undef], defers := [] }) ?assign ?body ?done ?stop
  case assign =>
    intro l x W K hK
    gi_wp2
    exact hK
  case body =>
    rintro l pre x W ⟨hb, hB⟩ hl
    have hc := hb.cell
    have hf := hb.frozen
    have hx := x.2
    have ht := tot_bd pre
    have q : IntKind.u64.wrap (tot pre + x.1) = tot pre + x.1 := IntWalk.u64_in _ (by omega)
    gi_wp2
    exact ⟨(KeepsOthers.setCell _ _ _).from _, (Below.refl w.heap.size W).setCell (p := ⟨w.heap.size, 0, none⟩) (Nat.le_refl _) _, by rw [tot_snoc]; exact hb.set _, hB.setCell (p := ⟨w.heap.size, 0, none⟩) (Nat.le_refl _) _⟩
  case done =>
    rintro D ys W hD hS ⟨hb, hB⟩ hK
    rw [hS] at hb
    gi_wp2
    gi_loopw [11] (fun _ wr => ∃ x : Int, Boxed wr w.heap.size 124 (.int .u64 x) ∧ 0 ≤ x ∧ x ≤ T ∧ Hid (ones x = ones T) ∧ Below w.heap.size w wr ∧ wr.heap[D]? = some (.deferred (some [])))
      (fun _ wr => match wr.cell? ⟨w.heap.size, 0, none⟩ with | some v => (intOf v).toNat | none => 0)
    case atStart => exact ⟨T, hb, h0, Int.le_refl _, rfl, hB, hK⟩
    case round =>
      obtain ⟨x, hbx, hx0, hx1, hx, hBx, hKx⟩ := hrel
      have hc := hbx.cell
      have hf := hbx.frozen
      have qa := fold_and x hx0 (by omega)
      by_cases h : 65535 < x
      · have h1 := ones_less x h
        have q : IntKind.u64.wrap (x % 65536 + x / 65536) = x % 65536 + x / 65536 := IntWalk.u64_in _ (by omega)
        have hs := Lib.hid (ones_step x h)
        gi_wp2
        go_roundw
        case rel =>
          exact ⟨_, hbx.set _, h1.2, by omega, hs.out.trans hx.out, hBx.setCell (p := ⟨w.heap.size, 0, none⟩) (Nat.le_refl _) _, (KeepsOthers.setCell wr _ _).same D _ hKx rfl⟩
        case measure => rw [(hbx.set _).cell, hbx.cell]; simp [intOf]; omega
      · have q : IntKind.u16.wrap x = x := by rw [IntKind.wrap_u16]; omega
        have qf := flip16 x (by omega)
        have he : ck T = 65535 - x := by show 65535 - ones T = _; rw [← hx.out, ones_small x hx0 (by omega)]
        have HE := Lib.hid he; clear he
        gi_wp2
        refine ⟨by simp, .inl ⟨_, _, rfl, run_takeDeferred hKx, ?_⟩⟩
        refine ⟨_, results_tmp rfl _ _ _, ?_, hBx.trans (belowK_b (w := w) (Nat.le_refl _) wr D _ _ (by simp at hD; omega) hKx rfl rfl)⟩
        exact congrArg Ending.returned (congrArg (Value.int .u16) HE.out.symm)
  case stop =>
    rintro D c pre W _ _ h _
    exact h.elim
end Go.Proofs.Ytafckmbgefbonaa.su
