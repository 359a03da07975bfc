/- P O A N: contracts, part 9. Condition: as each says. -/
import Derived.Test.YtkgcnmloojnblaaKPOAN7
import Derived.Test.YtkgcnmloojnblaaKPOAN8
set_option linter.unusedVariables false
set_option linter.unusedSimpArgs false
namespace Go.Proofs.Ytkgcnmloojnblaa.wlS
open Go.RowKit Go.Shelf Go.Lib Go.Conc Go.Proofs.Ytkgcnmloojnblaa.nb Go.Proofs.Ytkgcnmloojnblaa.wh Go.Proofs.Ytkgcnmloojnblaa.wf
set_option linter.unusedVariables false

def WF4 (b pb cb mb : Nat) : Nat → Prop := fun k => k = b ∨ k = pb ∨ k = cb ∨ k = mb
structure Lw (w : World) (b pb cb mb most : Nat) (now n : Int) (T : Nat → Tm) (L : Lks) (l : List (ByteArray × Nat)) (fr : List Nat) : Prop where
  mem : Mem w b pb cb mb most now n T L
  mp : Mp w mb pb l
  ch : Chan w cb most (fr.map (fun p => pv pb (some p)))
  n1 : cb ≠ b
  n2 : cb ≠ pb
  n3 : mb ≠ b
  n4 : mb ≠ pb
  n5 : mb ≠ cb
section
variable {w w' : World} {b pb cb mb most : Nat} {now n : Int} {T : Nat → Tm} {L : Lks} {l : List (ByteArray × Nat)} {fr : List Nat}
theorem Lw.only {F : Nat → Prop} (h : Lw w b pb cb mb most now n T L l fr) (o : Only F w w') (hF : ∀ k, WF4 b pb cb mb k → ¬ F k) : Lw w' b pb cb mb most now n T L l fr :=
  ⟨h.mem.only o (hF _ (.inl rfl)) (hF _ (.inr (.inl rfl))), h.mp.only o (hF _ (.inr (.inr (.inr rfl)))), h.ch.only o (hF _ (.inr (.inr (.inl rfl)))), h.n1, h.n2, h.n3, h.n4, h.n5⟩
theorem Lw.up (h : Lw w b pb cb mb most now n T L l fr) (u : Up w w') : Lw w' b pb cb mb most now n T L l fr := h.only (Only.up (F := fun _ => False) u) (fun _ _ => id)
theorem Lw.lt (h : Lw w b pb cb mb most now n T L l fr) : ∀ k, WF4 b pb cb mb k → k < w.heap.size := fun k hk => by
  rcases hk with rfl | rfl | rfl | rfl
  · exact h.mem.wb.lt
  · exact h.mem.pb_.lt
  · exact h.ch.lt
  · exact h.mp.lt
theorem Lw.mem_ {now' n' : Int} {T' : Nat → Tm} {L' : Lks} (h : Lw w b pb cb mb most now n T L l fr) (m : Mem w' b pb cb mb most now' n' T' L') (o : Only (WF b pb) w w') : Lw w' b pb cb mb most now' n' T' L' l fr :=
  ⟨m, h.mp.only o (fun e => e.elim h.n3 h.n4), h.ch.only o (fun e => e.elim h.n1 h.n2), h.n1, h.n2, h.n3, h.n4, h.n5⟩
theorem wf_4 {b pb cb mb : Nat} : ∀ k, WF b pb k → WF4 b pb cb mb k := fun k h => h.elim .inl (fun h => .inr (.inl h))
end
set_option maxHeartbeats 4000000 in
theorem room_some {b pb cb mb most p : Nat} {now n : Int} {T : Nat → Tm} {L : Lks} {l : List (ByteArray × Nat)} {fr : List Nat} {w : World} (h : Lw w b pb cb mb most now n T L l (p :: fr)) :
    Calls Try.prog 29 #[.pointer (some ⟨b, 0, none⟩)] w fun e w' => e = .returned (.tuple #[pv pb (some p), .bool true]) ∧ Lw w' b pb cb mb most now n T L l fr ∧ Only (WF4 b pb cb mb) w w' := by
  have c2 := h.mem.c_ch
  have HH := Lib.hid h
  have HC := Lib.hid (show Chan w cb most (pv pb (some p) :: fr.map (fun p => pv pb (some p))) from h.ch)
  obtain ⟨v, ev⟩ := pv_ptr pb (some p)
  rw [ev] at HC ⊢
  clear h ev
  go_enter Try.func29, Try.ntmps29
  go_upto_region 2 with fail
  obtain ⟨s, r, hcc⟩ := HC.out
  have C2 := Lib.hid (Chan.set (cap := most) HC.out.lt (fr.map (fun p => pv pb (some p))) s (r + 1))
  have O2 := Lib.hid (only_chan w cb most (fr.map (fun p => pv pb (some p))).toArray false s (r + 1) false)
  refine wp_region_comm0 rfl (by simp [go_sem, execOp, rcase, Act.eval]) (comm_sel (z := .pointer none) hcc) ?_
  generalize w.setChan cb most (fr.map (fun p => pv pb (some p))).toArray false s (r + 1) false = w2 at C2 O2 ⊢
  clear hcc
  go_wp2
  go_ret2
  have hb := HH.out
  exact ⟨rfl, ⟨hb.mem.only O2.out (fun e => hb.n1 e.symm) (fun e => hb.n2 e.symm), hb.mp.only O2.out hb.n5, C2.out, hb.n1, hb.n2, hb.n3, hb.n4, hb.n5⟩, O2.out.mono (fun k e => .inr (.inr (.inl e)))⟩
set_option maxHeartbeats 4000000 in
theorem room_none {b pb cb mb most : Nat} {now n : Int} {T : Nat → Tm} {L : Lks} {l : List (ByteArray × Nat)} {w : World} (h : Lw w b pb cb mb most now n T L l []) :
    Calls Try.prog 29 #[.pointer (some ⟨b, 0, none⟩)] w fun e w' => e = .returned (.tuple #[.pointer none, .bool false]) ∧ w = w' := by
  have c2 := h.mem.c_ch
  have HC := Lib.hid (show Chan w cb most [] from h.ch)
  clear h
  go_enter Try.func29, Try.ntmps29
  go_upto_region 2 with fail
  obtain ⟨s, r, hcc⟩ := HC.out
  refine wp_region_comm0 rfl (by simp [go_sem, execOp, rcase, Act.eval]) (comm_none (z := .pointer none) hcc) ?_
  clear hcc
  go_wp2
  go_ret2
  exact ⟨rfl, rfl⟩
set_option maxHeartbeats 4000000 in
theorem dropC {b pb cb mb most : Nat} {now n : Int} {T : Nat → Tm} {L : Lks} {l : List (ByteArray × Nat)} {fr : List Nat} {w : World} (p : Nat) (h : Lw w b pb cb mb most now n T L l fr) (hp : p < most) (hk : okK (T p).1) (hpl : ((T p).1, p) ∈ l) (hfr : fr.length < most) (hn0 : 0 < n) (hn1 : n ≤ 4096) :
    Calls Try.prog 36 #[.pointer (some ⟨b, 0, none⟩), .pointer (some ⟨pb, p * 4, none⟩)] w fun e w' => e = .returned (.tuple #[]) ∧ ∃ l', Lw w' b pb cb mb most now (n - 1) (upd T p d0) L l' (fr ++ [p]) ∧ l.Perm (((T p).1, p) :: l') ∧ Only (WF4 b pb cb mb) w w' := by
  have c1 := h.mem.c_mp; have c2 := h.mem.c_k hp
  obtain ⟨w1, l', hrun, m1, hperm, o1⟩ := (h.mp.up (up_dr (Below.refl _ _))).drop hk hpl 0
  have HH := Lib.hid h
  clear h
  go_enter Try.func36, Try.ntmps36
  go_upto_region 0 with fail
  go_region
  have o1' : Only (fun k => k = mb) w w1 := o1.behind (up_dr (Below.refl _ _))
  have hb := HH.out
  have M1 := hb.mem.only o1' (fun e => hb.n3 e.symm) (fun e => hb.n4 e.symm)
  have C1 := hb.ch.only o1' (fun e => hb.n5 e.symm)
  have e1 := M1.c_k hp; have e2 := M1.c_t hp; have e3 := M1.c_n; have e4 := M1.c_ch
  have f1 := M1.f_p (j := p * 4) (by omega); have f2 := M1.f_p (j := p * 4 + 1) (by omega); have f3 := M1.f_w (j := 1) (by omega)
  have n1 : ¬ b = pb := hb.mem.ne
  have n2 : ¬ pb = b := fun e => n1 e.symm
  have W1 : IntKind.i64.wrap (n - 1) = n - 1 := by rw [IntKind.wrap_i64]; omega
  have M2 := Lib.hid (show Mem (((w1.setCell ⟨pb, p * 4, none⟩ (.string ⟨#[]⟩)).setCell ⟨pb, p * 4 + 1, none⟩ (.int .i64 0)).setCell ⟨b, 1, none⟩ (.int .i64 (n - 1))) b pb cb mb most now (n - 1) (upd T p d0) L from (M1.set_due p d0).set_n (n - 1))
  have O2 := Lib.hid (show Only (WF b pb) w1 (((w1.setCell ⟨pb, p * 4, none⟩ (.string ⟨#[]⟩)).setCell ⟨pb, p * 4 + 1, none⟩ (.int .i64 0)).setCell ⟨b, 1, none⟩ (.int .i64 (n - 1))) from (((Only.refl (WF b pb) w1).set (p := ⟨pb, _, none⟩) (.inl (.inr rfl)) _).set (p := ⟨pb, _, none⟩) (.inl (.inr rfl)) _).set (p := ⟨b, _, none⟩) (.inl (.inl rfl)) _)
  have O1 := Lib.hid o1'; have MP := Lib.hid m1; have CH := Lib.hid C1; have PE := Lib.hid hperm; have KP := Lib.hid hp; have FR := Lib.hid hfr
  clear o1 o1' hb M1 C1 hrun m1 hperm hk hpl c1 c2 hfr hp
  go_upto_region 3 with fail
  generalize ((w1.setCell ⟨pb, p * 4, none⟩ (.string ⟨#[]⟩)).setCell ⟨pb, p * 4 + 1, none⟩ (.int .i64 0)).setCell ⟨b, 1, none⟩ (.int .i64 (n - 1)) = w3 at M2 O2 ⊢
  clear e1 e2 e3 e4 f1 f2 f3
  have CH3 := CH.out.only O2.out (fun e => e.elim HH.out.n1 HH.out.n2)
  have c4 := M2.out.c_ch
  have CHL := CH3.lt
  obtain ⟨s, r, hcc⟩ := CH3
  have C4 := Lib.hid (Chan.set (cap := most) CHL (fr.map (fun p => pv pb (some p)) ++ [pv pb (some p)]) (s + 1) r)
  have O4 := Lib.hid (only_chan w3 cb most (fr.map (fun p => pv pb (some p)) ++ [pv pb (some p)]).toArray false (s + 1) r false)
  refine wp_region_comm5 (v0 := .pointer (some ⟨b, 0, none⟩)) (v1 := .pointer (some ⟨b, 0, none⟩)) (v2 := .pointer (some ⟨b, 2, none⟩)) (v3 := .chan (some cb)) (v4 := .pointer (some ⟨pb, p * 4, none⟩)) rfl (by simp [go_sem, execOp, Act.eval]) rfl (by simp [go_sem, execOp, Act.eval]) rfl (by simp [go_sem, execOp, Act.eval]) rfl (by simp [go_sem, execOp, Act.eval, c4]) rfl (by simp [go_sem, execOp, Act.eval]) rfl (by simp [go_sem, execOp, scase, Act.eval, pv]) (comm_send (v := pv pb (some p)) (z' := .tuple #[]) hcc (by simpa using FR.out)) ?_
  generalize w3.setChan cb most (fr.map (fun p => pv pb (some p)) ++ [pv pb (some p)]).toArray false (s + 1) r false = w5 at C4 O4 ⊢
  clear hcc
  go_end0
  have hb := HH.out
  refine ⟨rfl, l', ⟨M2.out.only O4.out (fun e => hb.n1 e.symm) (fun e => hb.n2 e.symm), (MP.out.only O2.out (fun e => e.elim hb.n3 hb.n4)).only O4.out hb.n5, by rw [List.map_append]; exact C4.out, hb.n1, hb.n2, hb.n3, hb.n4, hb.n5⟩, PE.out, ?_⟩
  exact ((O1.out.mono (fun k e => .inr (.inr (.inr e)))).trans (O2.out.mono wf_4) (fun k => .inl)).trans (O4.out.mono (G := WF4 b pb cb mb) (fun k e => .inr (.inr (.inl e)))) (fun k => .inl)
end Go.Proofs.Ytkgcnmloojnblaa.wlS
