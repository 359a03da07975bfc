/- Package sum: the words of a row of numbers, told by slices.Values's iterator; Join. Condition: the arguments fit their kinds. -/
import Derived.Test.YtecogakledajkaaNetSumD
namespace Go.Proofs.Ytecogakledajkaa.su
open Go.RowKit Go.Shelf Go.Proofs.Ytecogakledajkaa.sm Go.Proofs.Ytecogakledajkaa.nb
set_option linter.unusedVariables false
attribute [local go_sem] Oper.semAt_some

theorem take_snoc' (zs : List U16) (k : Nat) (h : k < zs.length) : zs.take (k + 1) = zs.take k ++ [zs[k]] := by
  rw [List.take_succ_eq_append_getElem h]

set_option maxRecDepth 100000 in
set_option maxHeartbeats 2000000 in
/-- slices.Values's closure -/
theorem valuesTells (Bs n₀ b off cap : Nat) (zs : List U16) (hlen : zs.length ≤ 1000) (hb : b < n₀) (w : World) (hn : n₀ ≤ w.heap.size) (hBs : Bs < w.heap.size)
    (hS : w.cell? ⟨Bs, 0, none⟩ = some (.slice (some ⟨b, off, none⟩) zs.length cap)) (hc : ∀ j (h : j < zs.length), w.cell? ⟨b, off + j, none⟩ = some (.int .u16 (zs[j]).1)) :
    Tells Try.prog 41 #[.pointer (some ⟨Bs, 0, none⟩)] n₀ (tot zs) zs.length w := fun l J Jx W hW _ _ hY h0 => by
  have hS' := (hW.cell (p := ⟨Bs, 0, none⟩) hBs).trans hS
  have hnW : n₀ ≤ W.heap.size := Nat.le_trans hn hW.size
  have hc' : ∀ j (h : j < zs.length), W.cell? ⟨b, off + j, none⟩ = some (.int .u16 (zs[j]).1) := fun j h => (hW.cell (p := ⟨b, off + j, none⟩) (by show b < _; omega)).trans (hc j h)
  clear hS hc hW
  refine callsIn_of_wp Try.func41 rfl trivial ?_ rfl
  simp only [Try.ntmps41, List.size_toArray, List.length_cons, List.length_nil, Nat.reduceAdd, Nat.reduceSub, Array.replicate_succ, Array.replicate_zero, List.push_toArray, List.append_toArray, List.nil_append, List.cons_append]
  have HC := Lib.hid hc'; clear hc'
  gi_wp2
  gi_loopw [7] (fun i wr => ∃ k : Nat, k ≤ zs.length ∧ i = .int .i64 k ∧ J (zs.take k) wr ∧ Below n₀ W wr)
    (fun i _ => zs.length - (intOf i).toNat)
  case atStart => exact ⟨0, Nat.zero_le _, rfl, h0, Below.refl _ _⟩
  case round =>
    obtain ⟨k, hk, rfl, hJs, hnx⟩ := hrel
    by_cases hlt : k < zs.length
    · obtain ⟨fn, tmps, assign, body, hy, hR⟩ := hY _ (zs[k]) wr hJs (by simp; omega)
      have hcx := (hnx.cell (p := ⟨b, off + k, none⟩) hb).trans (HC.out k hlt)
      have ht := Lib.hid (take_snoc' zs k hlt)
      gi_wp2
      refine hR.mono ?_
      rintro e W3 (⟨rfl, hJ3, hk3⟩ | ⟨rfl, hJx3⟩)
      · gi_wp2
        go_roundw
        case rel => exact ⟨k + 1, by omega, by simp, by rw [ht.out]; exact hJ3, hnx.trans hk3⟩
        case measure => simp [intOf]; omega
      · gi_wp2
        refine bodyPost_ret (results_none rfl _ _ _) rfl ?_
        exact ⟨⟨_, rfl⟩, .inr ⟨_, trivial, hJx3⟩⟩
    · obtain rfl : k = zs.length := by omega
      gi_wp2
      go_end0
      exact ⟨⟨_, rfl⟩, .inl ⟨_, by rw [List.take_length], hJs⟩⟩
set_option maxHeartbeats 1000000 in
theorem valuesC (a : Option Addr) (len cap : Nat) (w : World) :
    Calls Try.prog 36 #[.slice a len cap] w fun e w' => e = .returned (.func (.func 41) #[] #[.pointer (some ⟨w.heap.size, 0, none⟩)]) ∧ w' = w.alloc (.cells #[.slice a len cap] 67) := by
  go_enter Try.func36, Try.ntmps36
  go_wp2
  go_ret
  exact ⟨rfl, rfl⟩

/-- the checksum of a row of numbers that slices.Values tells -/
theorem valuesSum (xs : Array Value) (zs : List U16) (t2 : TypeId) (hz : zs.length ≤ 1000) (hxs : ∀ j (h : j < zs.length), xs[j]? = some (.int .u16 (zs[j]).1)) (n : Nat) (hn : n = zs.length) (w : World) :
    Calls Try.prog 35 #[.func (.func 41) #[] #[.pointer (some ⟨w.heap.size + 1, 0, none⟩)]]
      ((w.alloc (.cells xs 23)).alloc (.cells #[.slice (some ⟨w.heap.size, 0, none⟩) n n] 67)) fun e w' => e = .returned (.int .u16 (ck (tot zs))) ∧ Below w.heap.size w w' := by
  subst hn
  have hT := tot_bd zs
  refine (checksum_in 41 (enters_of Try.func41 (by kernel_rfl) rfl) _ (tot zs) zs.length (by omega) _
    (valuesTells (w.heap.size + 1) _ w.heap.size 0 zs.length zs hz (by simp; omega) _ (Nat.le_refl _) (by simp) ?_ ?_) hT.1 hT.2).mono ?_
  · have := Boxed.new (w.alloc (.cells xs 23)) 67 (.slice (some ⟨w.heap.size, 0, none⟩) zs.length zs.length)
    rw [World.size_alloc] at this
    exact this.cell
  · intro j hj
    have h1 : (w.alloc (.cells xs 23)).cell? ⟨w.heap.size, 0 + j, none⟩ = some (.int .u16 (zs[j]).1) := by
      rw [Nat.zero_add]
      simp only [World.cell?, World.alloc_heap_new]
      exact hxs j hj
    exact ((Below.refl _ (w.alloc (.cells xs 23))).alloc (Nat.le_refl _) _).cell (p := ⟨w.heap.size, 0 + j, none⟩) (by simp) |>.trans h1
  · rintro e w' ⟨rfl, hb⟩
    exact ⟨rfl, (((Below.refl w.heap.size w).alloc (Nat.le_refl _) _).alloc (by simp) _).trans (hb.mono (by simp; omega))⟩

theorem joinC (a b : Int) (w : World) (ha : 0 ≤ a ∧ a ≤ 65535) (hb : 0 ≤ b ∧ b ≤ 65535) :
    Calls Try.prog 24 #[.int .u16 a, .int .u16 b] w fun e w' => e = .returned (.int .u16 (ck (131070 - a - b))) ∧ Below w.heap.size w w' := by
  have qa := flip16 a ha
  have qb := flip16 b hb
  have hV := fun (w : World) => valuesSum #[.int .u16 (65535 - a), .int .u16 (65535 - b)] [⟨65535 - a, by omega⟩, ⟨65535 - b, by omega⟩] 0 (by simp)
    (fun j hj => by match j, hj with | 0, _ => rfl | 1, _ => rfl | j + 2, h => (simp only [List.length_cons, List.length_nil] at h; omega)) 2 rfl w
  have HE := Lib.hid (show ck (tot [⟨65535 - a, by omega⟩, ⟨65535 - b, by omega⟩]) = ck (131070 - a - b) by unfold tot tot tot; congr 1; dsimp only; omega)
  go_enter Try.func24, Try.ntmps24
  go_wp2_with (fail)
  refine (valuesC _ _ _ _).mono ?_
  rintro e w1 ⟨rfl, rfl⟩
  go_wp2_with (fail)
  refine (hV w).mono ?_
  rintro e w1 ⟨rfl, hb1⟩
  rw [HE.out]
  go_wp2
  go_ret
  exact ⟨rfl, hb1⟩
end Go.Proofs.Ytecogakledajkaa.su
