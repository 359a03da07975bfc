/- A: contracts, part 7. Condition: as each says. -/
import Derived.Test.YtkgcnmloojnblaaKPOAN6
import Derived.Test.YtkgcnmloojnblaaKA6
import Derived.Defers
import Derived.Recover
set_option linter.unusedVariables false
set_option linter.unusedSimpArgs false
namespace Go.Proofs.Ytkgcnmloojnblaa.wlU
open Go.RowKit Go.Shelf Go.Lib Go.Proofs.Ytkgcnmloojnblaa.nb Go.Proofs.Ytkgcnmloojnblaa.wh Go.Proofs.Ytkgcnmloojnblaa.wf
set_option linter.unusedVariables false

theorem catchC (c0 c1 : Value) (w : World) : CallsD Try.prog 57 #[c0, c1] .returning w fun e u' w' => e = .returned (.tuple #[]) ∧ u' = .returning ∧ w' = w := by
  refine callsD_of_wpS Try.func57 rfl fun c₀ cs hu => ?_
  apply wpS_seq
  apply wpS_region
  simp [wpOpsS, go_sem, recoverD, hu, Try.ntmps57, Exit.thenS]
  refine wpS_cond (t := false) (by simp [Act.eval, Array.replicate]) ?_
  simp only [Bool.false_eq_true, if_false]
  refine wpS_of_wp (wp_skip ?_)
  cases c₀
  simp_all [bodyPostS, results, Try.results57]
set_option maxHeartbeats 4000000 in
theorem findC {b pb cb mb most : Nat} {now n : Int} {T : Nat → Tm} {L : Lks} {w : World} (k : ByteArray) (o : Option Nat) (h : Mem w b pb cb mb most now n T L)
    (hr : ∀ w', Up w w' → (Instr.lookup MT (.map (some mb)) (.int .u64 (sz (k))) false).run Try.prog w' = .ok (pv pb o) w') :
    Calls Try.prog 43 #[.pointer (some ⟨b, 0, none⟩), .int .u64 (sz (k))] w fun e w' => e = .returned (.tuple #[pv pb o, .bool true]) ∧ Up w w' := by
  have hmf : ∀ (fn : Fn) (first cap : Array Value) (w : World), (Instr.makeFunc fn first cap).run Try.prog w = .ok (.func fn first cap) w := fun _ _ _ _ => rfl
  have c3 := h.c_mp
  have hb := h.wb.lt
  obtain ⟨v, ev⟩ := pv_ptr pb o
  rw [ev] at hr ⊢
  have HR := Lib.hid hr
  clear hr h ev
  go_enter_defers Try.func43, Try.ntmps43
  go_wp2_with (at_lookup; refine wpl_look _ rfl _ _ rfl rfl rfl (HR.out _ (by repeat (first | exact Below.refl _ _ | apply up_al))) ?_)
  refine leaves_cons (f := 57) (args := #[.pointer (some ⟨w.heap.size, 0, none⟩), .pointer (some ⟨w.heap.size + 1, 0, none⟩)]) (by simp) (by simp [go_sem]) ?_
  refine (catchC _ _ _).mono ?_
  rintro e u' w'' ⟨rfl, rfl, rfl⟩
  simp [Leaves, settle, results, Try.results43, go_sem]
  repeat (first | exact Below.refl _ _ | apply up_al)
theorem eq_chan (cb : Nat) (w : World) : (Op.equal 98 (.chan (some cb)) (.chan none)).run Try.prog w = .ok false w := by
  unfold Op.equal
  rw [show Op.maxDepth = 9999 + 1 from rfl, Op.equalIn]
  simp [run_underlying Try.underlying98, Result.andThen]
theorem chan_ne (cb : Nat) (w : World) : (binOp .neq 98 (.chan (some cb)) (.chan none)).run Try.prog w = .ok (.bool true) w := by
  simp [binOp, eq_chan, Result.andThen]
theorem thereC {b pb cb mb most : Nat} {now n : Int} {T : Nat → Tm} {L : Lks} {w : World} (h : Mem w b pb cb mb most now n T L) : Calls Try.prog 42 #[.pointer (some ⟨b, 0, none⟩)] w fun e w' => e = .returned (.bool true) ∧ w = w' := by
  have c2 := h.c_ch
  have hne := fun w => chan_ne cb w
  clear h
  go_enter Try.func42, Try.ntmps42
  go_wp2
  go_ret
  exact ⟨rfl, rfl⟩
theorem ret_ptr {b o o' : Nat} (h : o = o') : Ending.returned (.pointer (some ⟨b, o, none⟩)) = Ending.returned (.pointer (some ⟨b, o', none⟩)) := by rw [h]
set_option maxHeartbeats 4000000 in
theorem homeC {b pb cb mb most : Nat} {n : Int} {T : Nat → Tm} {L : Lks} {w : World} (u t : Nat) (h : Mem w b pb cb mb most (u : Int) n T L) (hu : u ≤ 17592186044416) (ht : t ≤ 17592186044416) :
    Calls Try.prog 46 #[.pointer (some ⟨b, 0, none⟩), .int .i64 t] w fun e w' => e = .returned (.pointer (some ⟨b, slot u t * 2 + 4, none⟩)) ∧ Up w w' := by
  have c0 := h.c_now
  have C1 := Lib.hid (fun w => spotC u t hu ht w)
  obtain ⟨v, hv⟩ : ∃ v, v = level u t := ⟨_, rfl⟩
  obtain ⟨d, hd⟩ : ∃ d, d = t / 32 ^ level u t % 32 := ⟨_, rfl⟩
  have hv8 : v ≤ 8 := by rw [hv]; exact level_bound hu ht
  have hd32 : d < 32 := by rw [hd]; exact Nat.mod_lt _ (by decide)
  have hs := Lib.hid (show slot u t = 32 * v + d by rw [hv, hd]; rfl)
  rw [← hd, ← hv] at C1
  clear h hu ht hv hd
  go_enter Try.func46, Try.ntmps46
  go_wp2_with fail
  refine (C1.out _).mono ?_
  rintro e w1 ⟨rfl, u1⟩
  go_wp2
  go_ret
  exact ⟨ret_ptr (o := 4 + v * 64 + d * 2) (by rw [hs.out]; omega), u1⟩
end Go.Proofs.Ytkgcnmloojnblaa.wlU
