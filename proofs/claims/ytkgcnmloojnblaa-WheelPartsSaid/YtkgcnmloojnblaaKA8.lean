/- A: contracts, part 8. Condition: as each says. -/
import Derived.Test.YtkgcnmloojnblaaKPOAN8
import Derived.Test.YtkgcnmloojnblaaKA7
set_option linter.unusedVariables false
set_option linter.unusedSimpArgs false
namespace Go.Proofs.Ytkgcnmloojnblaa.wlU
open Go.RowKit Go.Shelf Go.Lib Go.Conc Go.Proofs.Ytkgcnmloojnblaa.nb Go.Proofs.Ytkgcnmloojnblaa.wh Go.Proofs.Ytkgcnmloojnblaa.wf
set_option linter.unusedVariables false

def WF4 (b pb cb mb : Nat) : Nat → Prop := fun k => k = b ∨ k = pb ∨ k = cb ∨ k = mb
structure Lw (w : World) (b pb cb mb most : Nat) (now n : Int) (T : Nat → Tm) (L : Lks) (l : List (ByteArray × Nat)) (fr : List Nat) : Prop where
  mem : Mem w b pb cb mb most now n T L
  mp : Mp w mb pb l
  ch : Chan w cb most (fr.map (fun p => pv pb (some p)))
  n1 : cb ≠ b
  n2 : cb ≠ pb
  n3 : mb ≠ b
  n4 : mb ≠ pb
  n5 : mb ≠ cb
section
variable {w w' : World} {b pb cb mb most : Nat} {now n : Int} {T : Nat → Tm} {L : Lks} {l : List (ByteArray × Nat)} {fr : List Nat}
theorem Lw.only {F : Nat → Prop} (h : Lw w b pb cb mb most now n T L l fr) (o : Only F w w') (hF : ∀ k, WF4 b pb cb mb k → ¬ F k) : Lw w' b pb cb mb most now n T L l fr :=
  ⟨h.mem.only o (hF _ (.inl rfl)) (hF _ (.inr (.inl rfl))), h.mp.only o (hF _ (.inr (.inr (.inr rfl)))), h.ch.only o (hF _ (.inr (.inr (.inl rfl)))), h.n1, h.n2, h.n3, h.n4, h.n5⟩
theorem Lw.up (h : Lw w b pb cb mb most now n T L l fr) (u : Up w w') : Lw w' b pb cb mb most now n T L l fr := h.only (Only.up (F := fun _ => False) u) (fun _ _ => id)
theorem Lw.lt (h : Lw w b pb cb mb most now n T L l fr) : ∀ k, WF4 b pb cb mb k → k < w.heap.size := fun k hk => by
  rcases hk with rfl | rfl | rfl | rfl
  · exact h.mem.wb.lt
  · exact h.mem.pb_.lt
  · exact h.ch.lt
  · exact h.mp.lt
theorem Lw.mem_ {now' n' : Int} {T' : Nat → Tm} {L' : Lks} (h : Lw w b pb cb mb most now n T L l fr) (m : Mem w' b pb cb mb most now' n' T' L') (o : Only (WF b pb) w w') : Lw w' b pb cb mb most now' n' T' L' l fr :=
  ⟨m, h.mp.only o (fun e => e.elim h.n3 h.n4), h.ch.only o (fun e => e.elim h.n1 h.n2), h.n1, h.n2, h.n3, h.n4, h.n5⟩
theorem wf_4 {b pb cb mb : Nat} : ∀ k, WF b pb k → WF4 b pb cb mb k := fun k h => h.elim .inl (fun h => .inr (.inl h))
end
set_option maxHeartbeats 4000000 in
theorem room_some {b pb cb mb most p : Nat} {now n : Int} {T : Nat → Tm} {L : Lks} {l : List (ByteArray × Nat)} {fr : List Nat} {w : World} (h : Lw w b pb cb mb most now n T L l (p :: fr)) :
    Calls Try.prog 45 #[.pointer (some ⟨b, 0, none⟩)] w fun e w' => e = .returned (.tuple #[pv pb (some p), .bool true]) ∧ Lw w' b pb cb mb most now n T L l fr ∧ Only (WF4 b pb cb mb) w w' := by
  have c2 := h.mem.c_ch
  have HH := Lib.hid h
  have HC := Lib.hid (show Chan w cb most (pv pb (some p) :: fr.map (fun p => pv pb (some p))) from h.ch)
  obtain ⟨v, ev⟩ := pv_ptr pb (some p)
  rw [ev] at HC ⊢
  clear h ev
  go_enter Try.func45, Try.ntmps45
  go_upto_region 2 with fail
  obtain ⟨s, r, hcc⟩ := HC.out
  have C2 := Lib.hid (Chan.set (cap := most) HC.out.lt (fr.map (fun p => pv pb (some p))) s (r + 1))
  have O2 := Lib.hid (only_chan w cb most (fr.map (fun p => pv pb (some p))).toArray false s (r + 1) false)
  refine wp_region_comm0 rfl (by simp [go_sem, execOp, rcase, Act.eval]) (comm_sel (z := .pointer none) hcc) ?_
  generalize w.setChan cb most (fr.map (fun p => pv pb (some p))).toArray false s (r + 1) false = w2 at C2 O2 ⊢
  clear hcc
  go_wp2
  go_ret2
  have hb := HH.out
  exact ⟨rfl, ⟨hb.mem.only O2.out (fun e => hb.n1 e.symm) (fun e => hb.n2 e.symm), hb.mp.only O2.out hb.n5, C2.out, hb.n1, hb.n2, hb.n3, hb.n4, hb.n5⟩, O2.out.mono (fun k e => .inr (.inr (.inl e)))⟩
set_option maxHeartbeats 4000000 in
theorem room_none {b pb cb mb most : Nat} {now n : Int} {T : Nat → Tm} {L : Lks} {l : List (ByteArray × Nat)} {w : World} (h : Lw w b pb cb mb most now n T L l []) :
    Calls Try.prog 45 #[.pointer (some ⟨b, 0, none⟩)] w fun e w' => e = .returned (.tuple #[.pointer none, .bool false]) ∧ w = w' := by
  have c2 := h.mem.c_ch
  have HC := Lib.hid (show Chan w cb most [] from h.ch)
  clear h
  go_enter Try.func45, Try.ntmps45
  go_upto_region 2 with fail
  obtain ⟨s, r, hcc⟩ := HC.out
  refine wp_region_comm0 rfl (by simp [go_sem, execOp, rcase, Act.eval]) (comm_none (z := .pointer none) hcc) ?_
  clear hcc
  go_wp2
  go_ret2
  exact ⟨rfl, rfl⟩
set_option maxHeartbeats 4000000 in
theorem dropC {b pb cb mb most : Nat} {now n : Int} {T : Nat → Tm} {L : Lks} {l : List (ByteArray × Nat)} {fr : List Nat} {w : World} (p : Nat) (h : Lw w b pb cb mb most now n T L l fr) (hp : p < most) (hk : okK (T p).1) (hpl : ((T p).1, p) ∈ l) (hfr : fr.length < most) (hn0 : 0 < n) (hn1 : n ≤ 4096) :
    Calls Try.prog 49 #[.pointer (some ⟨b, 0, none⟩), .pointer (some ⟨pb, p * 4, none⟩)] w fun e w' => e = .returned (.tuple #[]) ∧ ∃ l', Lw w' b pb cb mb most now (n - 1) (upd T p d0) L l' (fr ++ [p]) ∧ l.Perm (((T p).1, p) :: l') ∧ Only (WF4 b pb cb mb) w w' := by
  have c1 := h.mem.c_mp; have c2 := h.mem.c_k hp
  obtain ⟨w1, l', hrun, m1, hperm, o1⟩ := (h.mp.up (up_dr (Below.refl _ _))).drop hk hpl 0
  have HH := Lib.hid h
  clear h
  go_enter Try.func49, Try.ntmps49
  go_upto_region 0 with fail
  go_region
  have o1' : Only (fun k => k = mb) w w1 := o1.behind (up_dr (Below.refl _ _))
  have hb := HH.out
  have M1 := hb.mem.only o1' (fun e => hb.n3 e.symm) (fun e => hb.n4 e.symm)
  have C1 := hb.ch.only o1' (fun e => hb.n5 e.symm)
  have e1 := M1.c_k hp; have e2 := M1.c_t hp; have e3 := M1.c_n; have e4 := M1.c_ch
  have f1 := M1.f_p (j := p * 4) (by omega); have f2 := M1.f_p (j := p * 4 + 1) (by omega); have f3 := M1.f_w (j := 1) (by omega)
  have n1 : ¬ b = pb := hb.mem.ne
  have n2 : ¬ pb = b := fun e => n1 e.symm
  have W1 : IntKind.i64.wrap (n - 1) = n - 1 := by rw [IntKind.wrap_i64]; omega
  have M2 := Lib.hid (show Mem (((w1.setCell ⟨pb, p * 4, none⟩ (.int .u64 0)).setCell ⟨pb, p * 4 + 1, none⟩ (.int .i64 0)).setCell ⟨b, 1, none⟩ (.int .i64 (n - 1))) b pb cb mb most now (n - 1) (upd T p d0) L from (M1.set_due p d0).set_n (n - 1))
  have O2 := Lib.hid (show Only (WF b pb) w1 (((w1.setCell ⟨pb, p * 4, none⟩ (.int .u64 0)).setCell ⟨pb, p * 4 + 1, none⟩ (.int .i64 0)).setCell ⟨b, 1, none⟩ (.int .i64 (n - 1))) from (((Only.refl (WF b pb) w1).set (p := ⟨pb, _, none⟩) (.inl (.inr rfl)) _).set (p := ⟨pb, _, none⟩) (.inl (.inr rfl)) _).set (p := ⟨b, _, none⟩) (.inl (.inl rfl)) _)
  have O1 := Lib.hid o1'; have MP := Lib.hid m1; have CH := Lib.hid C1; have PE := Lib.hid hperm; have KP := Lib.hid hp; have FR := Lib.hid hfr
  clear o1 o1' hb M1 C1 hrun m1 hperm hk hpl c1 c2 hfr hp
  go_upto_region 3 with fail
  generalize ((w1.setCell ⟨pb, p * 4, none⟩ (.int .u64 0)).setCell ⟨pb, p * 4 + 1, none⟩ (.int .i64 0)).setCell ⟨b, 1, none⟩ (.int .i64 (n - 1)) = w3 at M2 O2 ⊢
  clear e1 e2 e3 e4 f1 f2 f3
  have CH3 := CH.out.only O2.out (fun e => e.elim HH.out.n1 HH.out.n2)
  have c4 := M2.out.c_ch
  have CHL := CH3.lt
  obtain ⟨s, r, hcc⟩ := CH3
  have C4 := Lib.hid (Chan.set (cap := most) CHL (fr.map (fun p => pv pb (some p)) ++ [pv pb (some p)]) (s + 1) r)
  have O4 := Lib.hid (only_chan w3 cb most (fr.map (fun p => pv pb (some p)) ++ [pv pb (some p)]).toArray false (s + 1) r false)
  refine wp_region_comm5 (v0 := .pointer (some ⟨b, 0, none⟩)) (v1 := .pointer (some ⟨b, 0, none⟩)) (v2 := .pointer (some ⟨b, 2, none⟩)) (v3 := .chan (some cb)) (v4 := .pointer (some ⟨pb, p * 4, none⟩)) rfl (by simp [go_sem, execOp, Act.eval]) rfl (by simp [go_sem, execOp, Act.eval]) rfl (by simp [go_sem, execOp, Act.eval]) rfl (by simp [go_sem, execOp, Act.eval, c4]) rfl (by simp [go_sem, execOp, Act.eval]) rfl (by simp [go_sem, execOp, scase, Act.eval, pv]) (comm_send (v := pv pb (some p)) (z' := .tuple #[]) hcc (by simpa using FR.out)) ?_
  generalize w3.setChan cb most (fr.map (fun p => pv pb (some p)) ++ [pv pb (some p)]).toArray false (s + 1) r false = w5 at C4 O4 ⊢
  clear hcc
  go_end0
  have hb := HH.out
  refine ⟨rfl, l', ⟨M2.out.only O4.out (fun e => hb.n1 e.symm) (fun e => hb.n2 e.symm), (MP.out.only O2.out (fun e => e.elim hb.n3 hb.n4)).only O4.out hb.n5, by rw [List.map_append]; exact C4.out, hb.n1, hb.n2, hb.n3, hb.n4, hb.n5⟩, PE.out, ?_⟩
  exact ((O1.out.mono (fun k e => .inr (.inr (.inr e)))).trans (O2.out.mono wf_4) (fun k => .inl)).trans (O4.out.mono (G := WF4 b pb cb mb) (fun k e => .inr (.inr (.inl e)))) (fun k => .inl)
end Go.Proofs.Ytkgcnmloojnblaa.wlU

namespace Go.Proofs.Ytkgcnmloojnblaa.wlU
open Go.RowKit Go.Shelf Go.Lib Go.Proofs.Ytkgcnmloojnblaa.nb Go.Proofs.Ytkgcnmloojnblaa.ck Go.Proofs.Ytkgcnmloojnblaa.wh Go.Proofs.Ytkgcnmloojnblaa.wf
set_option linter.unusedVariables false

structure LI (w : World) (b pb cb mb m u : Nat) (S : Nat → List Nat) (T : Nat → Tm) (L : Lks) (l : List (ByteArray × Nat)) (fr : List Nat) (xs : List Tm) : Prop where
  lw : Lw w b pb cb mb m (u : Int) (xs.length : Int) T L l fr
  wi : Wi m u S T L l fr xs
  ok : ∀ x ∈ xs, okK x.1
  mle : m ≤ 4096
def LL (w : World) (b pb cb mb m u : Nat) (xs : List Tm) : Prop := ∃ S T L l fr, LI w b pb cb mb m u S T L l fr xs
section
variable {w w' : World} {b pb cb mb m u : Nat} {S : Nat → List Nat} {T : Nat → Tm} {L : Lks} {l : List (ByteArray × Nat)} {fr : List Nat} {xs : List Tm}
theorem LI.up (h : LI w b pb cb mb m u S T L l fr xs) (hu : Up w w') : LI w' b pb cb mb m u S T L l fr xs := ⟨h.lw.up hu, h.wi, h.ok, h.mle⟩
theorem LI.time (h : LI w b pb cb mb m u S T L l fr xs) {x : Tm} (hx : x ∈ xs) : x.2 = ((tm x.2 : Nat) : Int) ∧ tm x.2 ≤ 17592186044416 := by
  have := h.wi.time x hx
  unfold tm; omega
end
set_option maxHeartbeats 4000000 in
theorem stopC_ {b pb cb mb m u : Nat} {S : Nat → List Nat} {T : Nat → Tm} {L : Lks} {l : List (ByteArray × Nat)} {fr : List Nat} {xs : List Tm} {w : World} {k p : Nat} {x : Tm} {A B : List Nat} (h : LI w b pb cb mb m u S T L l fr xs) (hx : xs[k]? = some x) (e : S (slot u (tm x.2)) = A ++ p :: B) (hT : T p = x) (hpl : (x.1, p) ∈ l) :
    Calls Try.prog 44 #[.pointer (some ⟨b, 0, none⟩), .pointer (some ⟨pb, p * 4, none⟩)] w fun ex w' => ex = .returned (.tuple #[]) ∧ ∃ S' T' L' l', LI w' b pb cb mb m u S' T' L' l' (fr ++ [p]) (xs.eraseIdx k) ∧ Only (WF4 b pb cb mb) w w' := by
  have hxm : x ∈ xs := List.mem_of_getElem? hx
  obtain ⟨ht, htl⟩ := h.time hxm
  have hs := h.wi.slot_lt (s := slot u (tm x.2)) (mid_mem e)
  have hp : p < m := h.wi.lt _ p (mid_mem e)
  have c1 := h.lw.mem.c_t hp
  rw [hT, ht] at c1
  have l1 := h.wi.len2
  have l2 : 0 < xs.length := List.length_pos_of_mem hxm
  have lE : (xs.eraseIdx k).length + 1 = xs.length := eraseIdx_len (List.getElem?_eq_some_iff.1 hx).1
  have C1 := Lib.hid (homeC (n := (xs.length : Int)) u (tm x.2) h.lw.mem h.wi.nowle htl)
  have C2 := Lib.hid (fun w1 (u1 : Up w w1) => leaveC (h.lw.mem.up u1) h.wi.lk h.wi.lt hs e)
  have C3 := Lib.hid (fun w2 (h2 : Lw w2 b pb cb mb m (u : Int) (xs.length : Int) T (L.leave (slot u (tm x.2)) p) l fr) => dropC p h2 hp (by rw [hT]; exact h.ok x hxm) (by rw [hT]; exact hpl) (by omega) (by omega) (by have := h.mle; omega))
  have HH := Lib.hid h
  have FIN := Lib.hid (fun l' hl => h.wi.stop (l' := l') hx e hT hl)
  have HL := Lib.hid lE
  have HTT := Lib.hid hT
  generalize hss : slot u (tm x.2) = s at *
  generalize hrr : tm x.2 = t at *
  clear h hx e hT hpl hxm ht htl hs hp l1 l2 lE hss hrr
  go_enter Try.func44, Try.ntmps44
  go_wp2_with fail
  refine C1.out.mono ?_
  rintro ex w1 ⟨rfl, u1⟩
  go_wp2_with fail
  refine (C2.out _ u1).mono ?_
  rintro ex w2 ⟨rfl, m2, o2⟩
  have l2 := (HH.out.lw.up u1).mem_ m2 o2
  have C3' := Lib.hid (C3.out _ l2)
  have O2 := Lib.hid o2
  clear l2 m2 o2 c1
  go_wp2_with fail
  refine C3'.out.mono ?_
  rintro ex w3 ⟨rfl, l', l3, hp3, o3⟩
  have L3 := Lib.hid l3; have P3 := Lib.hid hp3; have O3 := Lib.hid o3
  clear l3 hp3 o3
  go_wp2
  go_end0
  have hpp := P3.out
  rw [HTT.out] at hpp
  refine ⟨rfl, _, _, _, l', ⟨?_, FIN.out l' hpp, fun y hy => HH.out.ok y (List.mem_of_mem_eraseIdx hy), HH.out.mle⟩, ((O2.out.mono (G := WF4 b pb cb mb) wf_4).trans O3.out (fun k => .inl)).behind u1⟩
  have := L3.out
  rwa [show (xs.length : Int) - 1 = ((xs.eraseIdx k).length : Int) by have := HL.out; omega] at this
end Go.Proofs.Ytkgcnmloojnblaa.wlU

namespace Go.Proofs.Ytkgcnmloojnblaa.wlU
open Go.RowKit Go.Shelf Go.Lib Go.Proofs.Ytkgcnmloojnblaa.nb Go.Proofs.Ytkgcnmloojnblaa.ck Go.Proofs.Ytkgcnmloojnblaa.wh Go.Proofs.Ytkgcnmloojnblaa.wf
set_option linter.unusedVariables false

theorem LI.look {w : World} {b pb cb mb m u : Nat} {S : Nat → List Nat} {T : Nat → Tm} {L : Lks} {l : List (ByteArray × Nat)} {fr : List Nat} {xs : List Tm} (h : LI w b pb cb mb m u S T L l fr xs) (key : ByteArray) (hk : okK key) :
    (findZ xs key = -1 ∧ key ∉ xs.map Prod.fst ∧ ∀ w', Up w w' → (Instr.lookup MT (.map (some mb)) (.int .u64 (sz (key))) false).run Try.prog w' = .ok (pv pb none) w') ∨
    ∃ (k : Nat) (t : Int) (p : Nat) (A B : List Nat), findZ xs key = k ∧ k < xs.length ∧ xs[k]? = some (key, t) ∧ S (slot u (tm t)) = A ++ p :: B ∧ T p = (key, t) ∧ (key, p) ∈ l ∧ p < m ∧ ∀ w', Up w w' → (Instr.lookup MT (.map (some mb)) (.int .u64 (sz (key))) false).run Try.prog w' = .ok (pv pb (some p)) w' := by
  rcases findZ_spec xs key with ⟨hz, hn⟩ | ⟨k, t, hz, hkl, hx⟩
  · exact .inl ⟨hz, hn, fun w' hu => (h.lw.mp.up hu).look_no hk (h.wi.no hn)⟩
  · obtain ⟨p, A, B, h1, h2, h3, h4, h5⟩ := h.wi.find (List.mem_of_getElem? hx)
    exact .inr ⟨k, t, p, A, B, hz, hkl, hx, h1, h2, h3, h5, fun w' hu => (h.lw.mp.up hu).look_at hk h3⟩
set_option maxHeartbeats 8000000 in
set_option maxRecDepth 100000 in
theorem set_arg {b pb cb mb m u : Nat} {S : Nat → List Nat} {T : Nat → Tm} {L : Lks} {l : List (ByteArray × Nat)} {fr : List Nat} {xs : List Tm} {w : World} (key : ByteArray) (t : Int) (h : LI w b pb cb mb m u S T L l fr xs) (hk : okK key) (c0 : mayB t = false) :
    Calls Try.prog 23 #[.pointer (some ⟨b, 0, none⟩), .int .u64 (sz (key)), .int .i64 t] w fun e w' => e = .returned (.int .i64 (2)) ∧ ∃ S' T' L' l' fr', LI w' b pb cb mb m u S' T' L' l' fr' xs ∧ Only (WF4 b pb cb mb) w w' := by
  rcases h.look key hk with ⟨_, _, hl⟩ | ⟨k, t', p, A, B, _, _, _, _, _, _, _, hl⟩
  · have HT := Lib.hid (thereC h.lw.mem)
    have HH := Lib.hid h
    have HF := Lib.hid (show Calls Try.prog 43 #[.pointer (some ⟨b, 0, none⟩), .int .u64 (sz (key))] w fun e w' => e = .returned (.tuple #[.pointer none, .bool true]) ∧ Up w w' from findC key none h.lw.mem hl)
    have HM := Lib.hid (show ∀ w, Calls Try.prog 25 #[.int .i64 t] w fun e w' => e = .returned (.bool false) ∧ w = w' from fun w => by have := goMay t w; rwa [c0] at this)
    clear c0 h hk hl
    go_enter Try.func23, Try.ntmps23
    go_wp2_with fail
    refine HT.out.mono ?_
    rintro e w' ⟨rfl, rfl⟩
    go_wp2_with fail
    refine HF.out.mono ?_
    rintro e w1 ⟨rfl, u1⟩
    go_wp2_with fail
    refine (HM.out _).mono ?_
    rintro e w2 ⟨rfl, rfl⟩
    go_wp2
    go_ret
    exact ⟨rfl, _, _, _, _, _, HH.out.up u1, Only.up u1⟩
  · have HT := Lib.hid (thereC h.lw.mem)
    have HH := Lib.hid h
    have HF := Lib.hid (show Calls Try.prog 43 #[.pointer (some ⟨b, 0, none⟩), .int .u64 (sz (key))] w fun e w' => e = .returned (.tuple #[.pointer (some ⟨pb, p * 4, none⟩), .bool true]) ∧ Up w w' from findC key (some p) h.lw.mem hl)
    have HM := Lib.hid (show ∀ w, Calls Try.prog 25 #[.int .i64 t] w fun e w' => e = .returned (.bool false) ∧ w = w' from fun w => by have := goMay t w; rwa [c0] at this)
    clear c0 h hk hl
    go_enter Try.func23, Try.ntmps23
    go_wp2_with fail
    refine HT.out.mono ?_
    rintro e w' ⟨rfl, rfl⟩
    go_wp2_with fail
    refine HF.out.mono ?_
    rintro e w1 ⟨rfl, u1⟩
    go_wp2_with fail
    refine (HM.out _).mono ?_
    rintro e w2 ⟨rfl, rfl⟩
    go_wp2
    go_ret
    exact ⟨rfl, _, _, _, _, _, HH.out.up u1, Only.up u1⟩
set_option maxHeartbeats 8000000 in
set_option maxRecDepth 100000 in
theorem set_now {b pb cb mb m u : Nat} {S : Nat → List Nat} {T : Nat → Tm} {L : Lks} {l : List (ByteArray × Nat)} {fr : List Nat} {xs : List Tm} {w : World} (key : ByteArray) (t : Int) (h : LI w b pb cb mb m u S T L l fr xs) (hk : okK key) (c0 : mayB t = true) (c1 : t ≤ (u : Int)) :
    Calls Try.prog 23 #[.pointer (some ⟨b, 0, none⟩), .int .u64 (sz (key)), .int .i64 t] w fun e w' => e = .returned (.int .i64 (2)) ∧ ∃ S' T' L' l' fr', LI w' b pb cb mb m u S' T' L' l' fr' xs ∧ Only (WF4 b pb cb mb) w w' := by
  rcases h.look key hk with ⟨_, _, hl⟩ | ⟨k, t', p, A, B, _, _, _, _, _, _, _, hl⟩
  · have HT := Lib.hid (thereC h.lw.mem)
    have HH := Lib.hid h
    have HF := Lib.hid (show Calls Try.prog 43 #[.pointer (some ⟨b, 0, none⟩), .int .u64 (sz (key))] w fun e w' => e = .returned (.tuple #[.pointer none, .bool true]) ∧ Up w w' from findC key none h.lw.mem hl)
    have HM := Lib.hid (show ∀ w, Calls Try.prog 25 #[.int .i64 t] w fun e w' => e = .returned (.bool true) ∧ w = w' from fun w => by have := goMay t w; rwa [c0] at this)
    clear c0 h hk hl
    go_enter Try.func23, Try.ntmps23
    go_wp2_with fail
    refine HT.out.mono ?_
    rintro e w' ⟨rfl, rfl⟩
    go_wp2_with fail
    refine HF.out.mono ?_
    rintro e w1 ⟨rfl, u1⟩
    go_wp2_with fail
    refine (HM.out _).mono ?_
    rintro e w2 ⟨rfl, rfl⟩
    have d0 := (HH.out.lw.mem.up u1).c_now
    go_wp2
    go_ret
    exact ⟨rfl, _, _, _, _, _, HH.out.up u1, Only.up u1⟩
  · have HT := Lib.hid (thereC h.lw.mem)
    have HH := Lib.hid h
    have HF := Lib.hid (show Calls Try.prog 43 #[.pointer (some ⟨b, 0, none⟩), .int .u64 (sz (key))] w fun e w' => e = .returned (.tuple #[.pointer (some ⟨pb, p * 4, none⟩), .bool true]) ∧ Up w w' from findC key (some p) h.lw.mem hl)
    have HM := Lib.hid (show ∀ w, Calls Try.prog 25 #[.int .i64 t] w fun e w' => e = .returned (.bool true) ∧ w = w' from fun w => by have := goMay t w; rwa [c0] at this)
    clear c0 h hk hl
    go_enter Try.func23, Try.ntmps23
    go_wp2_with fail
    refine HT.out.mono ?_
    rintro e w' ⟨rfl, rfl⟩
    go_wp2_with fail
    refine HF.out.mono ?_
    rintro e w1 ⟨rfl, u1⟩
    go_wp2_with fail
    refine (HM.out _).mono ?_
    rintro e w2 ⟨rfl, rfl⟩
    have d0 := (HH.out.lw.mem.up u1).c_now
    go_wp2
    go_ret
    exact ⟨rfl, _, _, _, _, _, HH.out.up u1, Only.up u1⟩
set_option maxHeartbeats 8000000 in
set_option maxRecDepth 100000 in
theorem set_full {b pb cb mb m u : Nat} {S : Nat → List Nat} {T : Nat → Tm} {L : Lks} {l : List (ByteArray × Nat)} {fr : List Nat} {xs : List Tm} {w : World} (key : ByteArray) (t : Int) (h : LI w b pb cb mb m u S T L l fr xs) (hk : okK key) (c0 : mayB t = true) (c1 : (u : Int) < t) (hz : findZ xs key = -1) (hfr : fr = []) :
    Calls Try.prog 23 #[.pointer (some ⟨b, 0, none⟩), .int .u64 (sz (key)), .int .i64 t] w fun e w' => e = .returned (.int .i64 (6)) ∧ ∃ S' T' L' l' fr', LI w' b pb cb mb m u S' T' L' l' fr' xs ∧ Only (WF4 b pb cb mb) w w' := by
  rcases h.look key hk with ⟨_, _, hl⟩ | ⟨k, t', p, A, B, hz', _, _, _, _, _, _, _⟩
  case inr => omega
  subst hfr
  have HT := Lib.hid (thereC h.lw.mem)
  have HH := Lib.hid h
  have HF := Lib.hid (show Calls Try.prog 43 #[.pointer (some ⟨b, 0, none⟩), .int .u64 (sz (key))] w fun e w' => e = .returned (.tuple #[.pointer none, .bool true]) ∧ Up w w' from findC key none h.lw.mem hl)
  have HM := Lib.hid (show ∀ w, Calls Try.prog 25 #[.int .i64 t] w fun e w' => e = .returned (.bool true) ∧ w = w' from fun w => by have := goMay t w; rwa [c0] at this)
  have c1' : ¬ t ≤ (u : Int) := by omega
  have HR := Lib.hid (fun w1 (u1 : Up w w1) => room_none (h.lw.up u1))
  clear c0 h hk hl c1
  go_enter Try.func23, Try.ntmps23
  go_wp2_with fail
  refine HT.out.mono ?_
  rintro e w' ⟨rfl, rfl⟩
  go_wp2_with fail
  refine HF.out.mono ?_
  rintro e w1 ⟨rfl, u1⟩
  go_wp2_with fail
  refine (HM.out _).mono ?_
  rintro e w2 ⟨rfl, rfl⟩
  have d0 := (HH.out.lw.mem.up u1).c_now
  go_wp2_with fail
  refine (HR.out _ u1).mono ?_
  rintro e w2 ⟨rfl, rfl⟩
  go_wp2
  go_ret
  exact ⟨rfl, _, _, _, _, _, HH.out.up u1, Only.up u1⟩
set_option maxHeartbeats 8000000 in
set_option maxRecDepth 100000 in
theorem set_new {b pb cb mb m u : Nat} {S : Nat → List Nat} {T : Nat → Tm} {L : Lks} {l : List (ByteArray × Nat)} {fr : List Nat} {xs : List Tm} {w : World} (key : ByteArray) (t : Int) (h : LI w b pb cb mb m u S T L l fr xs) (hk : okK key) (q : Nat) (fr2 : List Nat) (c0 : mayB t = true) (c1 : (u : Int) < t) (hz : findZ xs key = -1) (hfr : fr = q :: fr2) :
    Calls Try.prog 23 #[.pointer (some ⟨b, 0, none⟩), .int .u64 (sz (key)), .int .i64 t] w fun e w' => e = .returned (.int .i64 (0)) ∧ ∃ S' T' L' l' fr', LI w' b pb cb mb m u S' T' L' l' fr' (xs ++ [(key, t)]) ∧ Only (WF4 b pb cb mb) w w' := by
  rcases h.look key hk with ⟨_, hnk, hl⟩ | ⟨k, t', p, A, B, hz', _, _, _, _, _, _, _⟩
  case inr => omega
  subst hfr
  have HT := Lib.hid (thereC h.lw.mem)
  have HH := Lib.hid h
  have HF := Lib.hid (show Calls Try.prog 43 #[.pointer (some ⟨b, 0, none⟩), .int .u64 (sz (key))] w fun e w' => e = .returned (.tuple #[.pointer none, .bool true]) ∧ Up w w' from findC key none h.lw.mem hl)
  have HM := Lib.hid (show ∀ w, Calls Try.prog 25 #[.int .i64 t] w fun e w' => e = .returned (.bool true) ∧ w = w' from fun w => by have := goMay t w; rwa [c0] at this)
  have c1' : ¬ t ≤ (u : Int) := by omega
  have hmm := mayB_iff.1 c0
  have TE := Lib.hid (show t = ((tm t : Nat) : Int) by unfold tm; omega)
  have TL2 := Lib.hid (show tm t ≤ 17592186044416 by unfold tm; omega)
  have NL := Lib.hid h.wi.nowle
  have SL := Lib.hid (slot_bound NL.out TL2.out)
  have OKK := Lib.hid hk
  have QM := Lib.hid (show q < m from List.mem_range.1 (h.wi.all.mem_iff.1 (List.mem_append_right _ (List.mem_cons_self ..))))
  have FIN := Lib.hid (h.wi.set hnk c1 hmm.2)
  have OKA := Lib.hid (show ∀ x ∈ xs ++ [(key, t)], okK x.1 from fun x hx => (List.mem_append.1 hx).elim (h.ok x) (fun hx => by rw [List.mem_singleton.1 hx]; exact hk))
  have NK := Lib.hid hnk
  have WL := Lib.hid (show IntKind.i64.wrap ((xs.length : Int) + 1) = (xs.length : Int) + 1 by rw [IntKind.wrap_i64]; have := h.wi.len2; have := h.mle; omega)
  clear c0 h hk hl c1 hmm hz hnk
  go_enter Try.func23, Try.ntmps23
  go_wp2_with fail
  refine HT.out.mono ?_
  rintro e w' ⟨rfl, rfl⟩
  go_wp2_with fail
  refine HF.out.mono ?_
  rintro e w1 ⟨rfl, u1⟩
  go_wp2_with fail
  refine (HM.out _).mono ?_
  rintro e w2 ⟨rfl, rfl⟩
  have d0 := (HH.out.lw.mem.up u1).c_now
  have LA := Lib.hid (HH.out.up u1)
  have OA := Lib.hid (show Only (WF4 b pb cb mb) w w1 from Only.up u1)
  have HR := Lib.hid (show Calls Try.prog 45 #[.pointer (some ⟨b, 0, none⟩)] w1 fun e w' => e = .returned (.tuple #[.pointer (some ⟨pb, q * 4, none⟩), .bool true]) ∧ Lw w' b pb cb mb m (u : Int) (xs.length : Int) T L l fr2 ∧ Only (WF4 b pb cb mb) w1 w' from room_some LA.out.lw)
  go_wp2_with fail
  refine HR.out.mono ?_
  rintro e wB ⟨rfl, lB, oB⟩
  have LB := Lib.hid lB; have OB := Lib.hid oB
  have e1 := lB.mem.c_k QM.out; have e2 := lB.mem.c_t QM.out
  have f1 := lB.mem.f_p (j := q * 4) (by have := QM.out; omega); have f2 := lB.mem.f_p (j := q * 4 + 1) (by have := QM.out; omega)
  have MC := Lib.hid (lB.mem.set_due q (key, t))
  have OC := Lib.hid (((Only.refl (WF b pb) wB).set (p := ⟨pb, q * 4, none⟩) (.inl (.inr rfl)) (.int .u64 (sz (key)))).set (p := ⟨pb, q * 4 + 1, none⟩) (.inl (.inr rfl)) (.int .i64 t))
  clear lB oB HR
  go_upto_region 12 with fail
  have LC := Lib.hid (LB.out.mem_ MC.out OC.out)
  generalize ((wB.setCell ⟨pb, q * 4, none⟩ (.int .u64 (sz (key)))).setCell ⟨pb, q * 4 + 1, none⟩ (.int .i64 t)) = wC at MC OC LC ⊢
  clear e1 e2 f1 f2
  rw [TE.out]
  go_wp2_with fail
  refine (homeC u (tm t) MC.out NL.out TL2.out).mono ?_
  rintro e wD ⟨rfl, uD⟩
  have HJ := Lib.hid (joinC (slot u (tm t)) q (MC.out.up uD) SL.out QM.out (fun x hx => LA.out.wi.lt _ x (last_mem (LA.out.wi.lk.la _ ▸ hx))))
  generalize slot u (tm t) = s at *
  go_wp2_with fail
  refine HJ.out.mono ?_
  rintro e wE ⟨rfl, mE, oE⟩
  have LE := Lib.hid ((LC.out.up uD).mem_ mE oE)
  have OE := Lib.hid oE
  have ME := Lib.hid mE
  have g1 := mE.c_n
  have g2 := mE.f_w (j := 1) (by omega)
  have MF := Lib.hid (mE.set_n ((xs.length : Int) + 1))
  have OF := Lib.hid ((Only.refl (WF b pb) wE).set (p := ⟨b, 1, none⟩) (.inl (.inl rfl)) (.int .i64 ((xs.length : Int) + 1)))
  have W1 := WL.out
  clear mE oE HJ
  go_upto_region 15 with fail
  have LF := Lib.hid (LE.out.mem_ MF.out OF.out)
  generalize wE.setCell ⟨b, 1, none⟩ (.int .i64 ((xs.length : Int) + 1)) = wF at MF OF LF ⊢
  clear g1 g2 W1
  have g3 := MF.out.c_mp
  go_wp2_with (at_mapUpdate; refine wpl_put _ q LF.out.mp OKK.out (LA.out.wi.no NK.out) rfl _ _ _ rfl rfl rfl rfl ?_; intro wG mG oG)
  go_ret
  exact ⟨rfl, _, _, _, _, fr2, ⟨(by rw [List.length_append, Int.natCast_add]; exact ⟨MF.out.only oG (fun e => LF.out.n3 e.symm) (fun e => LF.out.n4 e.symm), mG, LF.out.ch.only oG (fun e => LF.out.n5 e.symm), LF.out.n1, LF.out.n2, LF.out.n3, LF.out.n4, LF.out.n5⟩), FIN.out, OKA.out, HH.out.mle⟩,
    ((((OA.out.trans OB.out (fun k => .inl)).trans (OC.out.mono (G := WF4 b pb cb mb) wf_4) (fun k => .inl)).on uD).trans (OE.out.mono (G := WF4 b pb cb mb) wf_4) (fun k => .inl) |>.trans (OF.out.mono (G := WF4 b pb cb mb) wf_4) (fun k => .inl)).trans (oG.mono (G := WF4 b pb cb mb) (fun k e => .inr (.inr (.inr e)))) (fun k => .inl)⟩
set_option maxHeartbeats 8000000 in
set_option maxRecDepth 100000 in
theorem set_old {b pb cb mb m u : Nat} {S : Nat → List Nat} {T : Nat → Tm} {L : Lks} {l : List (ByteArray × Nat)} {fr : List Nat} {xs : List Tm} {w : World} (key : ByteArray) (t : Int) (h : LI w b pb cb mb m u S T L l fr xs) (hk : okK key) (k : Nat) (c0 : mayB t = true) (c1 : (u : Int) < t) (hz : findZ xs key = k) :
    Calls Try.prog 23 #[.pointer (some ⟨b, 0, none⟩), .int .u64 (sz (key)), .int .i64 t] w fun e w' => e = .returned (.int .i64 (0)) ∧ ∃ S' T' L' l' fr', LI w' b pb cb mb m u S' T' L' l' fr' (xs.eraseIdx k ++ [(key, t)]) ∧ Only (WF4 b pb cb mb) w w' := by
  rcases h.look key hk with ⟨hz', _, _⟩ | ⟨k', t', p, A, B, hz', hkl, hx, hAB, hTp, hpl, hpm, hl⟩
  case inl => omega
  obtain rfl : k = k' := by omega
  have HT := Lib.hid (thereC h.lw.mem)
  have HH := Lib.hid h
  have HF := Lib.hid (show Calls Try.prog 43 #[.pointer (some ⟨b, 0, none⟩), .int .u64 (sz (key))] w fun e w' => e = .returned (.tuple #[.pointer (some ⟨pb, p * 4, none⟩), .bool true]) ∧ Up w w' from findC key (some p) h.lw.mem hl)
  have HM := Lib.hid (show ∀ w, Calls Try.prog 25 #[.int .i64 t] w fun e w' => e = .returned (.bool true) ∧ w = w' from fun w => by have := goMay t w; rwa [c0] at this)
  have c1' : ¬ t ≤ (u : Int) := by omega
  have hmm := mayB_iff.1 c0
  have TE := Lib.hid (show t = ((tm t : Nat) : Int) by unfold tm; omega)
  have TL2 := Lib.hid (show tm t ≤ 17592186044416 by unfold tm; omega)
  have NL := Lib.hid h.wi.nowle
  have SL := Lib.hid (slot_bound NL.out TL2.out)
  have OKK := Lib.hid hk
  have HS := Lib.hid (fun w1 (u1 : Up w w1) => stopC_ (h.up u1) hx hAB hTp hpl)
  obtain ⟨q, fr2, hq⟩ : ∃ q fr2, fr ++ [p] = q :: fr2 := by
    cases hc : fr ++ [p] with
    | nil => simp at hc
    | cons q r => exact ⟨q, r, rfl⟩
  have QM := Lib.hid (show q < m by
    have h1 : q ∈ fr ++ [p] := by rw [hq]; exact List.mem_cons_self ..
    rcases List.mem_append.1 h1 with h1 | h1
    · exact List.mem_range.1 (h.wi.all.mem_iff.1 (List.mem_append_right _ h1))
    · rw [List.mem_singleton.1 h1]; exact hpm)
  rw [hq] at HS
  have hnk : key ∉ (xs.eraseIdx k).map Prod.fst := by
    have := ((perm_erase hx).map Prod.fst).nodup_iff.1 h.wi.keys
    exact (List.nodup_cons.1 this).1
  have OKA := Lib.hid (show ∀ x ∈ xs.eraseIdx k ++ [(key, t)], okK x.1 from fun x hx => (List.mem_append.1 hx).elim (fun hx => h.ok x (List.mem_of_mem_eraseIdx hx)) (fun hx => by rw [List.mem_singleton.1 hx]; exact hk))
  have NK := Lib.hid hnk
  have WL := Lib.hid (show IntKind.i64.wrap (((xs.eraseIdx k).length : Int) + 1) = ((xs.eraseIdx k).length : Int) + 1 by rw [IntKind.wrap_i64]; have := h.wi.len2; have := h.mle; have := eraseIdx_len hkl; omega)
  have C1 := Lib.hid c1; have C2 := Lib.hid hmm.2
  clear c0 h hk hl c1 hmm hz hnk hz' hkl hx hAB hTp hpl hpm hq
  go_enter Try.func23, Try.ntmps23
  go_wp2_with fail
  refine HT.out.mono ?_
  rintro e w' ⟨rfl, rfl⟩
  go_wp2_with fail
  refine HF.out.mono ?_
  rintro e w1 ⟨rfl, u1⟩
  go_wp2_with fail
  refine (HM.out _).mono ?_
  rintro e w2 ⟨rfl, rfl⟩
  have d0 := (HH.out.lw.mem.up u1).c_now
  go_wp2_with fail
  refine (HS.out _ u1).mono ?_
  rintro e wS ⟨rfl, Sa, Ta, La, la, lA, oA⟩
  have LA := Lib.hid lA
  have OA := Lib.hid (oA.behind u1)
  have FIN := Lib.hid (lA.wi.set NK.out C1.out C2.out)
  clear lA oA d0
  have HR := Lib.hid (show Calls Try.prog 45 #[.pointer (some ⟨b, 0, none⟩)] wS fun e w' => e = .returned (.tuple #[.pointer (some ⟨pb, q * 4, none⟩), .bool true]) ∧ Lw w' b pb cb mb m (u : Int) ((xs.eraseIdx k).length : Int) Ta La la fr2 ∧ Only (WF4 b pb cb mb) wS w' from room_some LA.out.lw)
  go_wp2_with fail
  refine HR.out.mono ?_
  rintro e wB ⟨rfl, lB, oB⟩
  have LB := Lib.hid lB; have OB := Lib.hid oB
  have e1 := lB.mem.c_k QM.out; have e2 := lB.mem.c_t QM.out
  have f1 := lB.mem.f_p (j := q * 4) (by have := QM.out; omega); have f2 := lB.mem.f_p (j := q * 4 + 1) (by have := QM.out; omega)
  have MC := Lib.hid (lB.mem.set_due q (key, t))
  have OC := Lib.hid (((Only.refl (WF b pb) wB).set (p := ⟨pb, q * 4, none⟩) (.inl (.inr rfl)) (.int .u64 (sz (key)))).set (p := ⟨pb, q * 4 + 1, none⟩) (.inl (.inr rfl)) (.int .i64 t))
  clear lB oB HR
  go_upto_region 12 with fail
  have LC := Lib.hid (LB.out.mem_ MC.out OC.out)
  generalize ((wB.setCell ⟨pb, q * 4, none⟩ (.int .u64 (sz (key)))).setCell ⟨pb, q * 4 + 1, none⟩ (.int .i64 t)) = wC at MC OC LC ⊢
  clear e1 e2 f1 f2
  rw [TE.out]
  go_wp2_with fail
  refine (homeC u (tm t) MC.out NL.out TL2.out).mono ?_
  rintro e wD ⟨rfl, uD⟩
  have HJ := Lib.hid (joinC (slot u (tm t)) q (MC.out.up uD) SL.out QM.out (fun x hx => LA.out.wi.lt _ x (last_mem (LA.out.wi.lk.la _ ▸ hx))))
  generalize slot u (tm t) = s at *
  go_wp2_with fail
  refine HJ.out.mono ?_
  rintro e wE ⟨rfl, mE, oE⟩
  have LE := Lib.hid ((LC.out.up uD).mem_ mE oE)
  have OE := Lib.hid oE
  have ME := Lib.hid mE
  have g1 := mE.c_n
  have g2 := mE.f_w (j := 1) (by omega)
  have MF := Lib.hid (mE.set_n (((xs.eraseIdx k).length : Int) + 1))
  have OF := Lib.hid ((Only.refl (WF b pb) wE).set (p := ⟨b, 1, none⟩) (.inl (.inl rfl)) (.int .i64 (((xs.eraseIdx k).length : Int) + 1)))
  have W1 := WL.out
  clear mE oE HJ
  go_upto_region 15 with fail
  have LF := Lib.hid (LE.out.mem_ MF.out OF.out)
  generalize wE.setCell ⟨b, 1, none⟩ (.int .i64 (((xs.eraseIdx k).length : Int) + 1)) = wF at MF OF LF ⊢
  clear g1 g2 W1
  have g3 := MF.out.c_mp
  go_wp2_with (at_mapUpdate; refine wpl_put _ q LF.out.mp OKK.out (LA.out.wi.no NK.out) rfl _ _ _ rfl rfl rfl rfl ?_; intro wG mG oG)
  go_ret
  exact ⟨rfl, _, _, _, _, fr2, ⟨(by rw [List.length_append, Int.natCast_add]; exact ⟨MF.out.only oG (fun e => LF.out.n3 e.symm) (fun e => LF.out.n4 e.symm), mG, LF.out.ch.only oG (fun e => LF.out.n5 e.symm), LF.out.n1, LF.out.n2, LF.out.n3, LF.out.n4, LF.out.n5⟩), FIN.out, OKA.out, HH.out.mle⟩,
    ((((OA.out.trans OB.out (fun k => .inl)).trans (OC.out.mono (G := WF4 b pb cb mb) wf_4) (fun k => .inl)).on uD).trans (OE.out.mono (G := WF4 b pb cb mb) wf_4) (fun k => .inl) |>.trans (OF.out.mono (G := WF4 b pb cb mb) wf_4) (fun k => .inl)).trans (oG.mono (G := WF4 b pb cb mb) (fun k e => .inr (.inr (.inr e)))) (fun k => .inl)⟩
end Go.Proofs.Ytkgcnmloojnblaa.wlU
