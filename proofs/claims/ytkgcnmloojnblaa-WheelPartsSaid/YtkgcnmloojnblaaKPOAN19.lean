/- P O A N: contracts, part 19. Condition: as each says. -/
import Derived.Test.YtkgcnmloojnblaaKPOAN16
import Derived.Test.YtkgcnmloojnblaaKPOAN18
import Derived.Deep.OwnRows
import Derived.Conc.SmallLaws
import Derived.Laws.Tables
set_option linter.unusedVariables false
set_option linter.unusedSimpArgs false
namespace Go.Proofs.Ytkgcnmloojnblaa.wlS
open Go.RowKit Go.Shelf Go.Lib Go.Deep Go.Conc Go.Proofs.Ytkgcnmloojnblaa.nb Go.Proofs.Ytkgcnmloojnblaa.ck Go.Proofs.Ytkgcnmloojnblaa.wh Go.Proofs.Ytkgcnmloojnblaa.wf
set_option linter.unusedVariables false

def zP : Array Value := #[.string ⟨#[]⟩, .int .i64 0, .pointer none, .pointer none]
theorem infoPl : (Try.prog.info? 82).map (fun i => (i.zero, i.size, i.bytes)) = some (some (.agg zP), 4, 40) := by kernel_rfl
def wcells (now : Int) (cb mb : Nat) : Array Value := ([Value.int .i64 now, .int .i64 0, .chan (some cb), .map (some mb)] ++ List.replicate 576 (Value.pointer none)).toArray
theorem arrW (now : Int) (cb mb : Nat) : ((Try.zeroCells79.setIfInBounds 0 (.int .i64 now)).setIfInBounds 2 (.chan (some cb))).setIfInBounds 3 (.map (some mb)) = wcells now cb mb := by kernel_rfl
def L0 : Lks := ⟨fun _ => none, fun _ => none, fun _ => none, fun _ => none⟩
theorem wcells_at (now : Int) (cb mb pb j : Nat) (hj : j < 580) : (wcells now cb mb).toList[j]? = some (wc now 0 cb mb pb L0 j) := by
  show ([Value.int .i64 now, .int .i64 0, .chan (some cb), .map (some mb)] ++ List.replicate 576 (Value.pointer none))[j]? = _
  rcases Nat.lt_or_ge j 4 with h | h
  · rcases (show j = 0 ∨ j = 1 ∨ j = 2 ∨ j = 3 by omega) with h | h | h | h <;> subst h <;> rfl
  · rw [List.getElem?_append_right (by simpa using h), List.getElem?_replicate, if_pos (by simp; omega), wc_tl h]
    split <;> rfl
theorem zP_at (m pb j : Nat) (hj : j < m * 4) : (madeCells zP (m * 4))[j]? = some (pc pb (fun _ => d0) L0 j) := by
  unfold madeCells
  rw [Array.getElem?_map, Array.getElem?_range, if_pos hj]
  show some (zP[j % 4]!) = _
  unfold pc
  rcases (show j % 4 = 0 ∨ j % 4 = 1 ∨ j % 4 = 2 ∨ j % 4 = 3 by omega) with h | h | h | h <;> rw [h] <;> rfl
theorem boxF_new (W : World) (vs : Array Value) (T : TypeId) {n : Nat} {f : Nat → Value} (h : ∀ j, j < n → vs.toList[j]? = some (f j)) : BoxF (W.alloc (.cells vs T)) W.heap.size n f :=
  ⟨(Box.new W vs T).1, fun j hj => ((Box.new W vs T).2 j _ (h j hj)).1, fun j hj => ((Box.new W vs T).2 j _ (h j hj)).2⟩
theorem new_f (now most : Int) (w : World) (h : ¬ (mayB now = true ∧ 0 ≤ most ∧ most ≤ 4096)) : Calls Try.prog 9 #[.int .i64 now, .int .i64 most] w fun e w' => e = .returned (.tuple #[.pointer none, .int .i64 2]) ∧ Up w w' := by
  cases c0 : mayB now
  · have HM := Lib.hid (show ∀ w, Calls Try.prog 25 #[.int .i64 now] w fun e w' => e = .returned (.bool false) ∧ w = w' from fun w => by have := goMay now w; rwa [c0] at this)
    clear c0 h
    go_enter Try.func9, Try.ntmps9
    go_wp2_with fail
    refine (HM.out _).mono ?_
    rintro e w' ⟨rfl, rfl⟩
    go_wp2
    go_ret2
    exact ⟨rfl, Below.refl _ _⟩
  · have HM := Lib.hid (show ∀ w, Calls Try.prog 25 #[.int .i64 now] w fun e w' => e = .returned (.bool true) ∧ w = w' from fun w => by have := goMay now w; rwa [c0] at this)
    by_cases c1 : most < 0
    · clear c0 h
      go_enter Try.func9, Try.ntmps9
      go_wp2_with fail
      refine (HM.out _).mono ?_
      rintro e w' ⟨rfl, rfl⟩
      go_wp2
      go_ret2
      exact ⟨rfl, Below.refl _ _⟩
    · have c2 : 4096 < most := by
        rcases Int.lt_or_le 4096 most with h1 | h1
        · exact h1
        · exact absurd ⟨c0, by omega, h1⟩ h
      clear c0 h
      go_enter Try.func9, Try.ntmps9
      go_wp2_with fail
      refine (HM.out _).mono ?_
      rintro e w' ⟨rfl, rfl⟩
      go_wp2
      go_ret2
      exact ⟨rfl, Below.refl _ _⟩
set_option maxHeartbeats 8000000 in
set_option maxRecDepth 100000 in
theorem new_t (u m : Nat) (hu : u ≤ 17592186044416) (hm : m ≤ 4096) (w : World) : Calls Try.prog 9 #[.int .i64 u, .int .i64 m] w fun e w' => e = .returned (.tuple #[.pointer (some ⟨w.heap.size + 1 + 1, 0, none⟩), .int .i64 0]) ∧ LI w' (w.heap.size + 1 + 1) (w.heap.size + 1 + 1 + 1) w.heap.size (w.heap.size + 1) m u (fun _ => []) (fun _ => d0) L0 [] (List.range m) [] ∧ Up w w' := by
  have HM := Lib.hid (show ∀ w, Calls Try.prog 25 #[.int .i64 u] w fun e w' => e = .returned (.bool true) ∧ w = w' from fun w => by have := goMay u w; rwa [mayB_t ⟨by omega, by omega⟩] at this)
  obtain ⟨i1, hi1, hz1, hs1, hb1⟩ := info_parts infoPl
  have m1 : ∀ w, (Instr.makeSlice 80 (.int .i64 m) (.int .i64 m)).run Try.prog w = .ok (.slice (some ⟨w.heap.size, 0, none⟩) m m) (w.alloc (.cells (madeCells zP (m * 4)) 82)) := fun w => by
    have := run_make (P := Try.prog) w 80 82 i1 _ Try.underlying80 hi1 hz1 .i64 .i64 m m (by omega) (Int.le_refl _) (by rw [hb1]; omega) (by omega)
    rw [hs1, Int.toNat_natCast] at this
    exact this
  have b2 : ¬ (m : Int) < 0 := by omega
  have b3 : ¬ 4096 < m := by omega
  obtain ⟨i, hi, hbi⟩ : ∃ i, Try.prog.info? 73 = some i ∧ i.bytes = 8 := ⟨_, rfl, rfl⟩
  have mc := fun w => run_makeChan (P := Try.prog) (w := w) Try.underlying71 hi .i64 m (by omega) (by rw [hbi]; omega)
  have mm := fun w => run_makeMap (P := Try.prog) MT w
  have b4 : decide ((m : Int) < 0) = false := decide_eq_false (by omega)
  have b5 : decide ((4096 : Int) < (m : Int)) = false := decide_eq_false (by omega)
  clear hi1 hz1 hs1 hb1
  go_enter Try.func9, Try.ntmps9
  go_wp2_with fail
  refine (HM.out _).mono ?_
  rintro e w' ⟨rfl, rfl⟩
  go_upto_region 4 with fail
  rw [arrW]
  go_upto_region 5 with fail
  have z1 : (w.alloc (.chan m #[] false 0 0 false)).heap.size = w.heap.size + 1 := World.size_alloc _ _
  have z2 : ((w.alloc (.chan m #[] false 0 0 false)).alloc (.map #[] 0)).heap.size = w.heap.size + 1 + 1 := by rw [World.size_alloc, z1]
  have z3 : (((w.alloc (.chan m #[] false 0 0 false)).alloc (.map #[] 0)).alloc (.cells (wcells u w.heap.size (w.heap.size + 1)) 79)).heap.size = w.heap.size + 1 + 1 + 1 := by rw [World.size_alloc, z2]
  have k1 := Chan.new w m
  have k2 := Mp.new (w.alloc (.chan m #[] false 0 0 false)) (w.heap.size + 1 + 1 + 1)
  rw [z1] at k2
  have k3 := boxF_new ((w.alloc (.chan m #[] false 0 0 false)).alloc (.map #[] 0)) (wcells u w.heap.size (w.heap.size + 1)) 79 (wcells_at u w.heap.size (w.heap.size + 1) (w.heap.size + 1 + 1 + 1))
  rw [z2] at k3
  have k4 := boxF_new (((w.alloc (.chan m #[] false 0 0 false)).alloc (.map #[] 0)).alloc (.cells (wcells u w.heap.size (w.heap.size + 1)) 79)) (madeCells zP (m * 4)) 82 (n := m * 4) (f := pc (w.heap.size + 1 + 1 + 1) (fun _ => d0) L0) (fun j hj => by rw [Array.getElem?_toList]; exact zP_at m _ j hj)
  rw [z3] at k4
  have e1 : ∀ (W : World) (o : Obj), Up W (W.alloc o) := fun W o => up_al o (Below.refl _ _)
  have LW := Lib.hid (show Lw ((((w.alloc (.chan m #[] false 0 0 false)).alloc (.map #[] 0)).alloc (.cells (wcells u w.heap.size (w.heap.size + 1)) 79)).alloc (.cells (madeCells zP (m * 4)) 82)) (w.heap.size + 1 + 1) (w.heap.size + 1 + 1 + 1) w.heap.size (w.heap.size + 1) m (u : Int) 0 (fun _ => d0) L0 [] [] from
    ⟨⟨k3.up (e1 _ _), k4, by omega⟩, ((k2.up (e1 _ _)).up (e1 _ _)), (((k1.up (e1 _ _)).up (e1 _ _)).up (e1 _ _)), by omega, by omega, by omega, by omega, by omega⟩)
  have UW := Lib.hid (show Up w ((((w.alloc (.chan m #[] false 0 0 false)).alloc (.map #[] 0)).alloc (.cells (wcells u w.heap.size (w.heap.size + 1)) 79)).alloc (.cells (madeCells zP (m * 4)) 82)) from by repeat (first | exact Below.refl _ _ | apply up_al))
  clear z1 z2 z3 k1 k2 k3 k4 e1 m1 mc mm hi hbi
  generalize ((((w.alloc (.chan m #[] false 0 0 false)).alloc (.map #[] 0)).alloc (.cells (wcells u w.heap.size (w.heap.size + 1)) 79)).alloc (.cells (madeCells zP (m * 4)) 82)) = wx at LW UW ⊢
  generalize Value.agg (wcells u w.heap.size (w.heap.size + 1)) = va
  generalize hcb : w.heap.size = cb at *
  have HCB := Lib.hid hcb
  generalize hmb : cb + 1 = mb at *
  generalize hbb : mb + 1 = b at *
  generalize hpb : b + 1 = pb at *
  have HWI := Lib.hid (show Wi m u (fun _ => []) (fun _ => d0) L0 [] (List.range m) [] from
    ⟨LinkOk.none_, fun _ _ => rfl, by rw [show allP (fun _ => []) = [] from by unfold allP; simp]; exact List.Perm.refl _, by rw [show allP (fun _ => []) = [] from by unfold allP; simp]; exact List.Perm.refl _, by rw [show allP (fun _ => []) = [] from by unfold allP; simp]; exact List.Perm.refl _, fun _ _ h => (by cases h), fun _ h => (by cases h), fun _ => rfl, List.nodup_nil, hu⟩)
  have HMB := Lib.hid hmb; have HBB := Lib.hid hbb; have HPB := Lib.hid hpb
  clear hcb hmb hbb hpb
  go_wp2_with fail
  go_loopw [30] (fun v wr => ∃ i : Nat, i ≤ m ∧ v = .int .i64 i ∧ Lw wr b pb cb mb m (u : Int) 0 (fun _ => d0) L0 [] (List.range i) ∧ Up w wr) (fun v _ => m - (RowKit.intOf v).toNat)
  case atStart => exact ⟨0, Nat.zero_le _, rfl, LW.out, UW.out⟩
  case round =>
  clear LW UW
  obtain ⟨i, him, rfl, lw, uw⟩ := hrel
  have L := Lib.hid lw; have UU := Lib.hid uw
  have c2 := lw.mem.c_ch
  clear lw uw
  by_cases hlt : i < m
  case neg =>
    obtain rfl : i = m := by omega
    go_wp2
    go_ret2
    have q1 := L.out; have q2 := HWI.out
    have y1 := HPB.out; have y2 := HBB.out; have y3 := HMB.out; have y4 := HCB.out
    subst y1 y2 y3 y4
    exact ⟨rfl, ⟨q1, q2, fun x hx => (by cases hx), hm⟩, UU.out⟩
  have D1 : decide ((i : Int) < (m : Int)) = true := decide_eq_true (by omega)
  have W1 : IntKind.i64.wrap ((i : Int) + 1) = (i : Int) + 1 := by rw [IntKind.wrap_i64]; omega
  go_upto_region 8 with fail
  have CH := (L.out.up (up_dr (Below.refl _ wr))).ch
  have CHL := CH.lt
  obtain ⟨s, r, hcc⟩ := CH
  have C4 := Lib.hid (Chan.set (w := wr.drew) (cap := m) CHL ((List.range i).map (fun p => pv pb (some p)) ++ [pv pb (some i)]) (s + 1) r)
  have O4 := Lib.hid (only_chan wr.drew cb m ((List.range i).map (fun p => pv pb (some p)) ++ [pv pb (some i)]).toArray false (s + 1) r false)
  have c2d : wr.drew.cell? ⟨b, 2, none⟩ = some (.chan (some cb)) := c2
  refine wp_region_comm_any (l := [_, _, _, _, _, _, _]) (c := _) (fun k => match k with | 0 => .pointer (some ⟨b, 0, none⟩) | 1 => .pointer (some ⟨b, 0, none⟩) | 2 => .pointer (some ⟨b, 2, none⟩) | 3 => .chan (some cb) | 4 => .slice (some ⟨pb, 0, none⟩) m m | 5 => .int .i64 i | _ => .pointer (some ⟨pb, i * 4, none⟩)) (by kernel_rfl) (by kernel_rfl) ?_ ?_ (w1 := wr.drew) (by simp [putAll, go_sem, execOp, scase, Act.eval, Act.put]; rfl) (comm_send (v := pv pb (some i)) (z' := .tuple #[]) hcc (by simpa using hlt)) ?_
  · intro K hc h j hj
    have h3 := h 3 (by kernel_rfl)
    have h6 := h 6 (by kernel_rfl)
    have h2 := hc 3 2 h3 (by kernel_rfl)
    have h1 := hc 2 1 h2 (by kernel_rfl)
    have h0 := hc 1 0 h1 (by kernel_rfl)
    have h4 := hc 6 4 h6 (by kernel_rfl)
    have h5 := hc 6 5 h6 (by kernel_rfl)
    match j, hj with
    | 0, _ => exact h0
    | 1, _ => exact h1
    | 2, _ => exact h2
    | 3, _ => exact h3
    | 4, _ => exact h4
    | 5, _ => exact h5
    | 6, _ => exact h6
    | k + 7, hj => exact absurd (show k + 7 < 7 from hj) (by omega)
  · intro x o ho a hdep hvar
    match x, ho with
    | 0, ho =>
      cases ho
      have d6 := hvar 6 (slotOk_spec (by kernel_rfl))
      rw [Array.getD_eq_getD_getElem?] at d6
      simp [go_sem, execOp, Act.eval, d6]
    | 1, ho =>
      cases ho
      have d33 := hdep 0 _ 33 (by kernel_rfl) rfl rfl
      rw [Array.getD_eq_getD_getElem?] at d33
      simp [go_sem, execOp, Act.eval, d33]
    | 2, ho =>
      cases ho
      have d34 := hdep 1 _ 34 (by kernel_rfl) rfl rfl
      rw [Array.getD_eq_getD_getElem?] at d34
      simp [go_sem, execOp, Act.eval, d34]
    | 3, ho =>
      cases ho
      have d35 := hdep 2 _ 35 (by kernel_rfl) rfl rfl
      rw [Array.getD_eq_getD_getElem?] at d35
      simp [go_sem, execOp, Act.eval, d35, c2d]
    | 4, ho =>
      cases ho
      have d7 := hvar 7 (slotOk_spec (by kernel_rfl))
      rw [Array.getD_eq_getD_getElem?] at d7
      simp [go_sem, execOp, Act.eval, d7]
    | 5, ho =>
      cases ho
      have d8 := hvar 8 (slotOk_spec (by kernel_rfl))
      rw [Array.getD_eq_getD_getElem?] at d8
      simp [go_sem, execOp, Act.eval, d8]
    | 6, ho =>
      cases ho
      have d37 := hdep 4 _ 37 (by kernel_rfl) rfl rfl
      rw [Array.getD_eq_getD_getElem?] at d37
      have d38 := hdep 5 _ 38 (by kernel_rfl) rfl rfl
      rw [Array.getD_eq_getD_getElem?] at d38
      simp [go_sem, execOp, Act.eval, d37, d38, hlt]
    | k + 7, ho => simp at ho
  · generalize wr.drew.setChan cb m ((List.range i).map (fun p => pv pb (some p)) ++ [pv pb (some i)]).toArray false (s + 1) r false = w5 at C4 O4 ⊢
    clear hcc c2 c2d
    simp only [putAll, Act.put]
    go_wp2
    go_roundw
    case rel =>
      have q := L.out
      refine ⟨i + 1, by omega, by go_num, ⟨(q.mem.up (up_dr (Below.refl _ wr))).only O4.out (fun e => q.n1 e.symm) (fun e => q.n2 e.symm), (q.mp.up (up_dr (Below.refl _ wr))).only O4.out q.n5, by rw [List.range_succ, List.map_append]; exact C4.out, q.n1, q.n2, q.n3, q.n4, q.n5⟩, ?_⟩
      exact O4.out.to_up (up_dr UU.out) (fun k e => by rw [e, ← HCB.out]; exact Nat.le_refl _)
    case measure => simp [RowKit.intOf]; omega
end Go.Proofs.Ytkgcnmloojnblaa.wlS

namespace Go.Proofs.Ytkgcnmloojnblaa.wlS
open Go.RowKit Go.Shelf Go.Lib Go.Proofs.Ytkgcnmloojnblaa.nb Go.Proofs.Ytkgcnmloojnblaa.ck Go.Proofs.Ytkgcnmloojnblaa.wh Go.Proofs.Ytkgcnmloojnblaa.wf
set_option linter.unusedVariables false

def LW : WP := fun w b now most xs F => ∃ (pb cb mb m u : Nat) (S : Nat → List Nat) (T : Nat → Tm) (L : Lks) (l : List (ByteArray × Nat)) (fr : List Nat), now = (u : Int) ∧ most = (m : Int) ∧ LI w b pb cb mb m u S T L l fr xs ∧ ∀ k, F k ↔ WF4 b pb cb mb k
section
variable {w w' : World} {b pb cb mb m u : Nat} {F : Nat → Prop}
theorem only_F {w w' : World} {b pb cb mb : Nat} {F : Nat → Prop} (hF : ∀ k, F k ↔ WF4 b pb cb mb k) (o : Only (WF4 b pb cb mb) w w') : Only F w w' := o.mono (fun k h => (hF k).2 h)
end
theorem set_all {b : Nat} {now most : Int} {xs : List Tm} {F : Nat → Prop} {w : World} (key : ByteArray) (t : Int) (h : LW w b now most xs F) (hk : okK key) : Calls Try.prog 10 #[.pointer (some ⟨b, 0, none⟩), .string (key), .int .i64 t] w fun e w' => e = .returned (.int .i64 (setC now most xs key t)) ∧ ∃ F', LW w' b now most (setL now most xs key t) F' ∧ Only F w w' ∧ StepF F F' w := by
  obtain ⟨pb, cb, mb, m, u, S, T, L, l, fr, rfl, rfl, h, hF⟩ := h
  have fin : ∀ {e : Ending} {w' : World} {c : Int} {ys : List Tm}, setC u m xs key t = c → setL u m xs key t = ys → (e = .returned (.int .i64 c) ∧ ∃ S' T' L' l' fr', LI w' b pb cb mb m u S' T' L' l' fr' ys ∧ Only (WF4 b pb cb mb) w w') →
      e = .returned (.int .i64 (setC u m xs key t)) ∧ ∃ F', LW w' b u m (setL u m xs key t) F' ∧ Only F w w' ∧ StepF F F' w := fun e1 e2 q => by
    obtain ⟨h1, S', T', L', l', fr', h2, h3⟩ := q
    rw [e1, e2]
    exact ⟨h1, F, ⟨pb, cb, mb, m, u, S', T', L', l', fr', rfl, rfl, h2, hF⟩, only_F hF h3, fun k => .inl⟩
  cases c0 : mayB t
  · have n0 : ¬ (mayB t = true ∧ (u : Int) < t) := fun h => by rw [c0] at h; cases h.1
    exact (set_arg key t h hk c0).mono (fun e w' q => fin (by unfold setC; rw [if_neg n0]) (by unfold setL; rw [if_neg n0]) q)
  by_cases c1 : (u : Int) < t
  case neg =>
    have n0 : ¬ (mayB t = true ∧ (u : Int) < t) := fun h => c1 h.2
    exact (set_now key t h hk c0 (by omega)).mono (fun e w' q => fin (by unfold setC; rw [if_neg n0]) (by unfold setL; rw [if_neg n0]) q)
  have n0 : mayB t = true ∧ (u : Int) < t := ⟨c0, c1⟩
  rcases findZ_bd xs key with hz | ⟨k, hz, hkl⟩
  · by_cases c2 : (m : Int) ≤ (xs.length : Int)
    · have hfr : fr = [] := List.eq_nil_of_length_eq_zero (by have := h.wi.len2; omega)
      exact (set_full key t h hk c0 c1 hz hfr).mono (fun e w' q => fin (by unfold setC; rw [if_pos n0, hz, if_neg (by omega), if_pos c2]) (by unfold setL; rw [if_pos n0, hz, if_neg (by omega), if_pos c2]) q)
    · cases hfr : fr with
      | nil => have := h.wi.len2; rw [hfr] at this; simp at this; omega
      | cons q fr2 =>
        exact (set_new key t h hk q fr2 c0 c1 hz hfr).mono (fun e w' q => fin (by unfold setC; rw [if_pos n0, hz, if_neg (by omega), if_neg c2]) (by unfold setL; rw [if_pos n0, hz, if_neg (by omega), if_neg c2]) q)
  · exact (set_old key t h hk k c0 c1 hz).mono (fun e w' q => fin (by unfold setC; rw [if_pos n0, hz, if_pos (by omega)]) (by unfold setL; rw [if_pos n0, hz, if_pos (by omega)]; rfl) q)
theorem go_all {b : Nat} {now most : Int} {xs : List Tm} {F : Nat → Prop} {w : World} (t : Int) (h : LW w b now most xs F) : Calls Try.prog 14 #[.pointer (some ⟨b, 0, none⟩), .int .i64 t] w fun e w' => ∃ A n c F', e = .returned (.tuple #[.slice A n c, .int .i64 (goC now t)]) ∧ LW w' b (goW now t) most (goS now t xs) F' ∧ Only F w w' ∧ StepF F F' w ∧ TL (fun s => .string (s)) w' A n (goT now t xs) w.heap.size F' := by
  obtain ⟨pb, cb, mb, m, u, S, T, L, l, fr, rfl, rfl, h, hF⟩ := h
  have LW0 : LW w b u m xs F := ⟨pb, cb, mb, m, u, S, T, L, l, fr, rfl, rfl, h, hF⟩
  cases c0 : mayB t
  · have hc : goC u t = 2 := by unfold goC; rw [c0]; rfl
    refine (go_arg t h c0).mono ?_
    rintro e w' ⟨rfl, rfl⟩
    refine ⟨none, 0, 0, F, by rw [hc], ?_, Only.refl _ _, fun k => .inl, ?_⟩
    · unfold goW goS; rw [hc]; exact LW0
    · unfold goT; rw [hc]; exact TL.nil_
  by_cases c1 : t < (u : Int)
  · have hc : goC u t = 9 := by unfold goC; rw [c0, if_pos rfl, if_pos c1]
    refine (go_over t h c0 c1).mono ?_
    rintro e w' ⟨rfl, rfl⟩
    refine ⟨none, 0, 0, F, by rw [hc], ?_, Only.refl _ _, fun k => .inl, ?_⟩
    · unfold goW goS; rw [hc]; exact LW0
    · unfold goT; rw [hc]; exact TL.nil_
  have hm := mayB_iff.1 c0
  obtain ⟨n, rfl⟩ := Int.eq_ofNat_of_zero_le hm.1
  have hc : goC u n = 0 := by unfold goC; rw [c0, if_pos rfl, if_neg c1]
  refine (go_good n h (by omega) (by omega)).mono ?_
  rintro e w' ⟨A, k, c, rfl, ⟨S', T', L', l', fr', hl⟩, ho, hk, hrow⟩
  refine ⟨A, k, c, F, by rw [hc], ?_, only_F hF ho, fun k => .inl, ?_⟩
  · unfold goW goS; rw [hc, if_pos rfl, if_pos rfl]
    exact ⟨pb, cb, mb, m, n, S', T', L', l', fr', rfl, rfl, hl, hF⟩
  · unfold goT; rw [hc, if_pos rfl]
    refine ⟨hk, fun h0 => ?_⟩
    obtain ⟨g, hA, g1, g2, g3⟩ := hrow h0
    refine ⟨g, 0, hA, g1, g2, fun hf => ?_, fun j hj => ?_⟩
    · have := h.lw.lt g ((hF g).1 hf); omega
    · have := g3.2 j (by omega)
      rw [Nat.zero_add]
      exact ⟨this.1.1, this.2.1⟩
theorem wh_ : Wh LW (fun s => .string (s)) okK 9 10 14 where
  lt := fun h k hk => by
    obtain ⟨pb, cb, mb, m, u, S, T, L, l, fr, rfl, rfl, h, hF⟩ := h
    exact h.lw.lt k ((hF k).1 hk)
  only := fun h o hd => by
    obtain ⟨pb, cb, mb, m, u, S, T, L, l, fr, rfl, rfl, h, hF⟩ := h
    exact ⟨pb, cb, mb, m, u, S, T, L, l, fr, rfl, rfl, ⟨h.lw.only o (fun k hk => hd k ((hF k).2 hk)), h.wi, h.ok, h.mle⟩, hF⟩
  new_f := fun now most w _ _ h => new_f now most w h
  new_t := fun now most w h0 h1 h2 => by
    have hm := mayB_iff.1 h0
    obtain ⟨u, rfl⟩ := Int.eq_ofNat_of_zero_le hm.1
    obtain ⟨m, rfl⟩ := Int.eq_ofNat_of_zero_le h1
    refine (new_t u m (by omega) (by omega) w).mono ?_
    rintro e w' ⟨rfl, q1, q2⟩
    refine ⟨_, WF4 (w.heap.size + 1 + 1) (w.heap.size + 1 + 1 + 1) w.heap.size (w.heap.size + 1), rfl, ⟨_, _, _, _, _, _, _, _, _, _, rfl, rfl, q1, fun _ => Iff.rfl⟩, q2, fun k hk => ?_⟩
    rcases hk with h | h | h | h <;> omega
  set := fun key t h hk _ => set_all key t h hk
  go := fun t h _ => go_all t h
end Go.Proofs.Ytkgcnmloojnblaa.wlS

namespace Go.Proofs.Ytkgcnmloojnblaa.wlS
open Go.RowKit Go.Shelf Go.Lib Go.Proofs.Ytkgcnmloojnblaa.nb Go.Proofs.Ytkgcnmloojnblaa.ck Go.Proofs.Ytkgcnmloojnblaa.wh Go.Proofs.Ytkgcnmloojnblaa.wf
set_option linter.unusedVariables false

theorem lenC {b pb cb mb m u : Nat} {S : Nat → List Nat} {T : Nat → Tm} {L : Lks} {l : List (ByteArray × Nat)} {fr : List Nat} {xs : List Tm} {w : World} (h : LI w b pb cb mb m u S T L l fr xs) : Calls Try.prog 20 #[.pointer (some ⟨b, 0, none⟩)] w fun e w' => e = .returned (.int .i64 xs.length) ∧ w = w' := by
  have HT := Lib.hid (thereC h.lw.mem)
  have c1 := h.lw.mem.c_n
  clear h
  go_enter Try.func20, Try.ntmps20
  go_wp2_with fail
  refine HT.out.mono ?_
  rintro e w' ⟨rfl, rfl⟩
  go_wp2
  go_ret
  exact ⟨rfl, rfl⟩
theorem nowC {b pb cb mb m u : Nat} {S : Nat → List Nat} {T : Nat → Tm} {L : Lks} {l : List (ByteArray × Nat)} {fr : List Nat} {xs : List Tm} {w : World} (h : LI w b pb cb mb m u S T L l fr xs) : Calls Try.prog 21 #[.pointer (some ⟨b, 0, none⟩)] w fun e w' => e = .returned (.int .i64 u) ∧ w = w' := by
  have HT := Lib.hid (thereC h.lw.mem)
  have c1 := h.lw.mem.c_now
  clear h
  go_enter Try.func21, Try.ntmps21
  go_wp2_with fail
  refine HT.out.mono ?_
  rintro e w' ⟨rfl, rfl⟩
  go_wp2
  go_ret
  exact ⟨rfl, rfl⟩
set_option maxHeartbeats 4000000 in
theorem atC {b pb cb mb m u : Nat} {S : Nat → List Nat} {T : Nat → Tm} {L : Lks} {l : List (ByteArray × Nat)} {fr : List Nat} {xs : List Tm} {w : World} (key : ByteArray) (h : LI w b pb cb mb m u S T L l fr xs) : Calls Try.prog 16 #[.pointer (some ⟨b, 0, none⟩), .string key] w fun e w' => e = .returned (.tuple #[.int .i64 (atV xs key).1, .bool (atV xs key).2]) ∧ Up w w' := by
  have HT := Lib.hid (thereC h.lw.mem)
  rcases h.look key trivial with ⟨hz, _, hl⟩ | ⟨k, t, p, A, B, hz, hkl, hx, hAB, hTp, hpl, hpm, hl⟩
  · have HF := Lib.hid (show Calls Try.prog 27 #[.pointer (some ⟨b, 0, none⟩), .string key] w fun e w' => e = .returned (.tuple #[.pointer none, .bool true]) ∧ Up w w' from findC key none h.lw.mem hl)
    have E := Lib.hid (show atV xs key = (0, false) by unfold atV; rw [hz]; rfl)
    rw [E.out]
    clear h hz hl
    go_enter Try.func16, Try.ntmps16
    go_wp2_with fail
    refine HT.out.mono ?_
    rintro e w' ⟨rfl, rfl⟩
    go_wp2_with fail
    refine HF.out.mono ?_
    rintro e w1 ⟨rfl, u1⟩
    go_wp2
    go_ret2
    exact ⟨rfl, u1⟩
  · have HF := Lib.hid (show Calls Try.prog 27 #[.pointer (some ⟨b, 0, none⟩), .string key] w fun e w' => e = .returned (.tuple #[.pointer (some ⟨pb, p * 4, none⟩), .bool true]) ∧ Up w w' from findC key (some p) h.lw.mem hl)
    have E := Lib.hid (show atV xs key = (t, true) by unfold atV; rw [hz, if_pos (by omega), Int.toNat_natCast, tmAt_of hx])
    rw [E.out]
    have c1 := h.lw.mem.c_t hpm
    have hlt := h.lw.mem.pb_.lt
    rw [hTp] at c1
    clear h hz hl hkl hx hAB hTp hpl hpm
    go_enter Try.func16, Try.ntmps16
    go_wp2_with fail
    refine HT.out.mono ?_
    rintro e w' ⟨rfl, rfl⟩
    go_wp2_with fail
    refine HF.out.mono ?_
    rintro e w1 ⟨rfl, u1⟩
    replace c1 := (u1.cell (p := ⟨pb, p * 4 + 1, none⟩) hlt).trans c1
    go_wp2
    go_ret2
    exact ⟨rfl, u1⟩
structure Sk (w0 : World) (b pb cb mb m u : Nat) (xs : List Tm) (ks : List ByteArray) (j : Nat) (wr : World) : Prop where
  li : ∃ S T L l fr, LI wr b pb cb mb m u S T L l fr (stopsL xs (ks.take j))
  only : Only (WF4 b pb cb mb) w0 wr
set_option maxHeartbeats 8000000 in
theorem stopAll {b pb cb mb m u : Nat} {S : Nat → List Nat} {T : Nat → Tm} {L : Lks} {l : List (ByteArray × Nat)} {fr : List Nat} {xs : List Tm} {w : World} (A : Option Addr) (c : Nat) (ks : List ByteArray) (h : LI w b pb cb mb m u S T L l fr xs) (hr : RdK w A ks) (hg : ∀ g off, A = some ⟨g, off, none⟩ → ¬ WF4 b pb cb mb g) (hk : ks.length ≤ 2) :
    Calls Try.prog 12 #[.pointer (some ⟨b, 0, none⟩), .slice A ks.length c] w fun e w' => e = .returned (.int .i64 (stopsC xs ks)) ∧ (∃ S T L l fr, LI w' b pb cb mb m u S T L l fr (stopsL xs ks)) ∧ Only (WF4 b pb cb mb) w w' := by
  have HT := Lib.hid (thereC h.lw.mem)
  have HH := Lib.hid h
  have HR := Lib.hid hr
  have HG := Lib.hid hg
  obtain ⟨n, hn⟩ : ∃ n, n = ks.length := ⟨_, rfl⟩
  rw [← hn] at hk ⊢
  have HN := Lib.hid hn
  clear h hr hg hn
  go_enter Try.func12, Try.ntmps12
  go_wp2_with fail
  refine HT.out.mono ?_
  rintro e w' ⟨rfl, rfl⟩
  go_wp2_with fail
  go_loopw [5, 15] (fun g z wr => ∃ (j : Nat) (gn : Int), j ≤ n ∧ z = .int .i64 j ∧ g = .int .i64 gn ∧ 0 ≤ gn ∧ gn ≤ j ∧ Hid (gn = stopsC xs (ks.take j)) ∧ Sk w b pb cb mb m u xs ks j wr) (fun _ z _ => n - (RowKit.intOf z).toNat)
  case atStart => exact ⟨0, 0, Nat.zero_le _, rfl, rfl, Int.le_refl _, Int.le_refl _, (show _ = _ from rfl), ⟨⟨S, T, L, l, fr, HH.out⟩, Only.refl _ _⟩⟩
  case round =>
  clear HT
  obtain ⟨j, gn, hj, rfl, rfl, hg0, hg1, HGN, q⟩ := hrel
  have I := Lib.hid q
  clear q
  by_cases hlt : j < n
  case neg =>
    obtain rfl : j = n := by omega
    go_wp2
    go_ret
    have e : ks.take j = ks := List.take_of_length_le (by rw [HN.out]; exact Nat.le_refl _)
    exact ⟨ret_int (by rw [HGN.out, e]), by have := I.out.li; rwa [e] at this, I.out.only⟩
  obtain ⟨ky, hky⟩ : ∃ ky, ky = ks.getD j ByteArray.empty := ⟨_, rfl⟩
  obtain ⟨g, off, hA, hgl, hc⟩ := HR.out (fun h => by have := HN.out; rw [h] at this; simp at this; omega)
  have c1 := hc j (by rw [← HN.out]; exact hlt)
  rw [← hky] at c1
  replace c1 := (I.out.only.cell (p := ⟨g, off + j, none⟩) hgl (HG.out g off hA)).trans c1
  have HTK := Lib.hid (show ks.take (j + 1) = ks.take j ++ [ky] by
    have hjl : j < ks.length := by rw [← HN.out]; exact hlt
    rw [List.take_succ_eq_append_getElem hjl, hky, List.getD_eq_getElem?_getD, List.getElem?_eq_getElem hjl]; rfl)
  have HSN := Lib.hid (stops_snoc (ks.take j) xs ky)
  subst hA
  obtain ⟨S1, T1, L1, l1, fr1, h1⟩ := I.out.li
  have HL := Lib.hid h1
  have W1 : IntKind.i64.wrap ((j : Int) + 1) = (j : Int) + 1 := by rw [IntKind.wrap_i64]; omega
  clear hc hky hgl
  rcases h1.look ky trivial with ⟨hz, _, hl⟩ | ⟨k, t, p, A1, B1, hz, hkl, hx, hAB, hTp, hpl, hpm, hl⟩
  · have HF := Lib.hid (show Calls Try.prog 27 #[.pointer (some ⟨b, 0, none⟩), .string ky] wr fun e w' => e = .returned (.tuple #[.pointer none, .bool true]) ∧ Up wr w' from findC ky none h1.lw.mem hl)
    have E1 := Lib.hid (show stopC (stopsL xs (ks.take j)) ky = 0 by unfold stopC; rw [hz]; rfl)
    have E2 := Lib.hid (show stopL (stopsL xs (ks.take j)) ky = stopsL xs (ks.take j) by unfold stopL; rw [hz]; rfl)
    clear h1 hz hl
    go_wp2_with fail
    refine HF.out.mono ?_
    rintro e w1 ⟨rfl, u1⟩
    go_wp2
    go_roundw
    case rel => exact ⟨j + 1, gn, by omega, by go_num, rfl, hg0, by omega, (show _ = _ by rw [HTK.out, HSN.out.1, E1.out, ← HGN.out, Int.add_zero]), ⟨⟨S1, T1, L1, l1, fr1, by rw [HTK.out, HSN.out.2, E2.out]; exact HL.out.up u1⟩, I.out.only.on u1⟩⟩
    case measure => simp [RowKit.intOf]; omega
  · have HF := Lib.hid (show Calls Try.prog 27 #[.pointer (some ⟨b, 0, none⟩), .string ky] wr fun e w' => e = .returned (.tuple #[.pointer (some ⟨pb, p * 4, none⟩), .bool true]) ∧ Up wr w' from findC ky (some p) h1.lw.mem hl)
    have E1 := Lib.hid (show stopC (stopsL xs (ks.take j)) ky = 1 by unfold stopC; rw [hz, if_pos (by omega)])
    have E2 := Lib.hid (show stopL (stopsL xs (ks.take j)) ky = (stopsL xs (ks.take j)).eraseIdx k by unfold stopL; rw [hz, if_pos (by omega)]; rfl)
    have HS := Lib.hid (fun w1 (u1 : Up wr w1) => stopC_ (h1.up u1) hx hAB hTp hpl)
    have W2 : IntKind.i64.wrap (gn + 1) = gn + 1 := by rw [IntKind.wrap_i64]; omega
    clear h1 hz hl hkl hx hAB hTp hpl hpm
    go_wp2_with fail
    refine HF.out.mono ?_
    rintro e w1 ⟨rfl, u1⟩
    go_wp2_with fail
    refine (HS.out _ u1).mono ?_
    rintro e w2 ⟨rfl, S2, T2, L2, l2, h2, o2⟩
    have H2 := Lib.hid h2; have O2 := Lib.hid o2
    clear h2 o2
    go_wp2
    go_roundw
    case rel => exact ⟨j + 1, gn + 1, by omega, by go_num, rfl, by omega, by omega, (show _ = _ by rw [HTK.out, HSN.out.1, E1.out, ← HGN.out]), ⟨⟨S2, T2, L2, l2, _, by rw [HTK.out, HSN.out.2, E2.out]; exact H2.out⟩, I.out.only.trans (O2.out.behind u1) (fun k => .inl)⟩⟩
    case measure => simp [RowKit.intOf]; omega
theorem nilSetC (w : World) (key : ByteArray) (t : Int) : Calls Try.prog 10 #[.pointer none, .string key, .int .i64 t] w fun e w' => e = .returned (.int .i64 1) ∧ Up w w' := by
  go_enter Try.func10, Try.ntmps10
  go_wp2_with fail
  refine (thereNil _).mono ?_
  rintro e w' ⟨rfl, rfl⟩
  go_wp2
  go_ret
  exact ⟨rfl, Below.refl _ _⟩
theorem nilStopC (w : World) (A : Option Addr) (n c : Nat) : Calls Try.prog 12 #[.pointer none, .slice A n c] w fun e w' => e = .returned (.int .i64 0) ∧ Up w w' := by
  go_enter Try.func12, Try.ntmps12
  go_wp2_with fail
  refine (thereNil _).mono ?_
  rintro e w' ⟨rfl, rfl⟩
  go_wp2
  go_ret
  exact ⟨rfl, Below.refl _ _⟩
theorem nilGoC (w : World) (t : Int) : Calls Try.prog 14 #[.pointer none, .int .i64 t] w fun e w' => ∃ A c, e = .returned (.tuple #[.slice A 0 c, .int .i64 1]) ∧ Up w w' := by
  go_enter Try.func14, Try.ntmps14
  go_wp2_with fail
  refine (thereNil _).mono ?_
  rintro e w' ⟨rfl, rfl⟩
  go_wp2
  go_ret2
  exact ⟨none, 0, rfl, Below.refl _ _⟩
theorem nilAtC (w : World) (key : ByteArray) : Calls Try.prog 16 #[.pointer none, .string key] w fun e w' => e = .returned (.tuple #[.int .i64 0, .bool false]) ∧ Up w w' := by
  go_enter Try.func16, Try.ntmps16
  go_wp2_with fail
  refine (thereNil _).mono ?_
  rintro e w' ⟨rfl, rfl⟩
  go_wp2
  go_ret2
  exact ⟨rfl, Below.refl _ _⟩
theorem nilLenC (w : World) : Calls Try.prog 20 #[.pointer none] w fun e w' => e = .returned (.int .i64 0) ∧ Up w w' := by
  go_enter Try.func20, Try.ntmps20
  go_wp2_with fail
  refine (thereNil _).mono ?_
  rintro e w' ⟨rfl, rfl⟩
  go_wp2
  go_ret
  exact ⟨rfl, Below.refl _ _⟩
theorem nilNowC (w : World) : Calls Try.prog 21 #[.pointer none] w fun e w' => e = .returned (.int .i64 0) ∧ Up w w' := by
  go_enter Try.func21, Try.ntmps21
  go_wp2_with fail
  refine (thereNil _).mono ?_
  rintro e w' ⟨rfl, rfl⟩
  go_wp2
  go_ret
  exact ⟨rfl, Below.refl _ _⟩
theorem nilNextC (w : World) : Calls Try.prog 18 #[.pointer none] w fun e w' => e = .returned (.tuple #[.int .i64 0, .bool false]) ∧ Up w w' := by
  go_enter Try.func18, Try.ntmps18
  go_wp2_with fail
  go_step3
  go_wp2_with fail
  refine (nilLenC _).mono ?_
  rintro e w' ⟨rfl, u1⟩
  go_wp2
  try rw [Exit.noGoto_ret]
  go_ret2
  exact ⟨rfl, u1⟩
end Go.Proofs.Ytkgcnmloojnblaa.wlS
