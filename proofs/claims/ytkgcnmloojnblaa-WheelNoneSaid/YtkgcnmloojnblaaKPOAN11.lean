/- P O A N: contracts, part 11. Condition: as each says. -/
import Derived.Test.YtkgcnmloojnblaaKPOAN9
import Derived.Test.YtkgcnmloojnblaaKPOAN10
set_option linter.unusedVariables false
set_option linter.unusedSimpArgs false
namespace Go.Proofs.Ytkgcnmloojnblaa.wlS
open Go.RowKit Go.Shelf Go.Lib Go.Proofs.Ytkgcnmloojnblaa.nb Go.Proofs.Ytkgcnmloojnblaa.ck Go.Proofs.Ytkgcnmloojnblaa.wh Go.Proofs.Ytkgcnmloojnblaa.wf
set_option linter.unusedVariables false

structure LI (w : World) (b pb cb mb m u : Nat) (S : Nat → List Nat) (T : Nat → Tm) (L : Lks) (l : List (ByteArray × Nat)) (fr : List Nat) (xs : List Tm) : Prop where
  lw : Lw w b pb cb mb m (u : Int) (xs.length : Int) T L l fr
  wi : Wi m u S T L l fr xs
  ok : ∀ x ∈ xs, okK x.1
  mle : m ≤ 4096
def LL (w : World) (b pb cb mb m u : Nat) (xs : List Tm) : Prop := ∃ S T L l fr, LI w b pb cb mb m u S T L l fr xs
section
variable {w w' : World} {b pb cb mb m u : Nat} {S : Nat → List Nat} {T : Nat → Tm} {L : Lks} {l : List (ByteArray × Nat)} {fr : List Nat} {xs : List Tm}
theorem LI.up (h : LI w b pb cb mb m u S T L l fr xs) (hu : Up w w') : LI w' b pb cb mb m u S T L l fr xs := ⟨h.lw.up hu, h.wi, h.ok, h.mle⟩
theorem LI.time (h : LI w b pb cb mb m u S T L l fr xs) {x : Tm} (hx : x ∈ xs) : x.2 = ((tm x.2 : Nat) : Int) ∧ tm x.2 ≤ 17592186044416 := by
  have := h.wi.time x hx
  unfold tm; omega
end
set_option maxHeartbeats 4000000 in
theorem stopC_ {b pb cb mb m u : Nat} {S : Nat → List Nat} {T : Nat → Tm} {L : Lks} {l : List (ByteArray × Nat)} {fr : List Nat} {xs : List Tm} {w : World} {k p : Nat} {x : Tm} {A B : List Nat} (h : LI w b pb cb mb m u S T L l fr xs) (hx : xs[k]? = some x) (e : S (slot u (tm x.2)) = A ++ p :: B) (hT : T p = x) (hpl : (x.1, p) ∈ l) :
    Calls Try.prog 28 #[.pointer (some ⟨b, 0, none⟩), .pointer (some ⟨pb, p * 4, none⟩)] w fun ex w' => ex = .returned (.tuple #[]) ∧ ∃ S' T' L' l', LI w' b pb cb mb m u S' T' L' l' (fr ++ [p]) (xs.eraseIdx k) ∧ Only (WF4 b pb cb mb) w w' := by
  have hxm : x ∈ xs := List.mem_of_getElem? hx
  obtain ⟨ht, htl⟩ := h.time hxm
  have hs := h.wi.slot_lt (s := slot u (tm x.2)) (mid_mem e)
  have hp : p < m := h.wi.lt _ p (mid_mem e)
  have c1 := h.lw.mem.c_t hp
  rw [hT, ht] at c1
  have l1 := h.wi.len2
  have l2 : 0 < xs.length := List.length_pos_of_mem hxm
  have lE : (xs.eraseIdx k).length + 1 = xs.length := eraseIdx_len (List.getElem?_eq_some_iff.1 hx).1
  have C1 := Lib.hid (homeC (n := (xs.length : Int)) u (tm x.2) h.lw.mem h.wi.nowle htl)
  have C2 := Lib.hid (fun w1 (u1 : Up w w1) => leaveC (h.lw.mem.up u1) h.wi.lk h.wi.lt hs e)
  have C3 := Lib.hid (fun w2 (h2 : Lw w2 b pb cb mb m (u : Int) (xs.length : Int) T (L.leave (slot u (tm x.2)) p) l fr) => dropC p h2 hp (by rw [hT]; exact h.ok x hxm) (by rw [hT]; exact hpl) (by omega) (by omega) (by have := h.mle; omega))
  have HH := Lib.hid h
  have FIN := Lib.hid (fun l' hl => h.wi.stop (l' := l') hx e hT hl)
  have HL := Lib.hid lE
  have HTT := Lib.hid hT
  generalize hss : slot u (tm x.2) = s at *
  generalize hrr : tm x.2 = t at *
  clear h hx e hT hpl hxm ht htl hs hp l1 l2 lE hss hrr
  go_enter Try.func28, Try.ntmps28
  go_wp2_with fail
  refine C1.out.mono ?_
  rintro ex w1 ⟨rfl, u1⟩
  go_wp2_with fail
  refine (C2.out _ u1).mono ?_
  rintro ex w2 ⟨rfl, m2, o2⟩
  have l2 := (HH.out.lw.up u1).mem_ m2 o2
  have C3' := Lib.hid (C3.out _ l2)
  have O2 := Lib.hid o2
  clear l2 m2 o2 c1
  go_wp2_with fail
  refine C3'.out.mono ?_
  rintro ex w3 ⟨rfl, l', l3, hp3, o3⟩
  have L3 := Lib.hid l3; have P3 := Lib.hid hp3; have O3 := Lib.hid o3
  clear l3 hp3 o3
  go_wp2
  go_end0
  have hpp := P3.out
  rw [HTT.out] at hpp
  refine ⟨rfl, _, _, _, l', ⟨?_, FIN.out l' hpp, fun y hy => HH.out.ok y (List.mem_of_mem_eraseIdx hy), HH.out.mle⟩, ((O2.out.mono (G := WF4 b pb cb mb) wf_4).trans O3.out (fun k => .inl)).behind u1⟩
  have := L3.out
  rwa [show (xs.length : Int) - 1 = ((xs.eraseIdx k).length : Int) by have := HL.out; omega] at this
end Go.Proofs.Ytkgcnmloojnblaa.wlS

namespace Go.Proofs.Ytkgcnmloojnblaa.wlS
open Go.RowKit Go.Shelf Go.Lib Go.Proofs.Ytkgcnmloojnblaa.nb Go.Proofs.Ytkgcnmloojnblaa.ck Go.Proofs.Ytkgcnmloojnblaa.wh Go.Proofs.Ytkgcnmloojnblaa.wf
set_option linter.unusedVariables false

theorem LI.look {w : World} {b pb cb mb m u : Nat} {S : Nat → List Nat} {T : Nat → Tm} {L : Lks} {l : List (ByteArray × Nat)} {fr : List Nat} {xs : List Tm} (h : LI w b pb cb mb m u S T L l fr xs) (key : ByteArray) (hk : okK key) :
    (findZ xs key = -1 ∧ key ∉ xs.map Prod.fst ∧ ∀ w', Up w w' → (Instr.lookup MT (.map (some mb)) (.string (key)) false).run Try.prog w' = .ok (pv pb none) w') ∨
    ∃ (k : Nat) (t : Int) (p : Nat) (A B : List Nat), findZ xs key = k ∧ k < xs.length ∧ xs[k]? = some (key, t) ∧ S (slot u (tm t)) = A ++ p :: B ∧ T p = (key, t) ∧ (key, p) ∈ l ∧ p < m ∧ ∀ w', Up w w' → (Instr.lookup MT (.map (some mb)) (.string (key)) false).run Try.prog w' = .ok (pv pb (some p)) w' := by
  rcases findZ_spec xs key with ⟨hz, hn⟩ | ⟨k, t, hz, hkl, hx⟩
  · exact .inl ⟨hz, hn, fun w' hu => (h.lw.mp.up hu).look_no hk (h.wi.no hn)⟩
  · obtain ⟨p, A, B, h1, h2, h3, h4, h5⟩ := h.wi.find (List.mem_of_getElem? hx)
    exact .inr ⟨k, t, p, A, B, hz, hkl, hx, h1, h2, h3, h5, fun w' hu => (h.lw.mp.up hu).look_at hk h3⟩
set_option maxHeartbeats 8000000 in
set_option maxRecDepth 100000 in
theorem set_arg {b pb cb mb m u : Nat} {S : Nat → List Nat} {T : Nat → Tm} {L : Lks} {l : List (ByteArray × Nat)} {fr : List Nat} {xs : List Tm} {w : World} (key : ByteArray) (t : Int) (h : LI w b pb cb mb m u S T L l fr xs) (hk : okK key) (c0 : mayB t = false) :
    Calls Try.prog 10 #[.pointer (some ⟨b, 0, none⟩), .string (key), .int .i64 t] w fun e w' => e = .returned (.int .i64 (2)) ∧ ∃ S' T' L' l' fr', LI w' b pb cb mb m u S' T' L' l' fr' xs ∧ Only (WF4 b pb cb mb) w w' := by
  rcases h.look key hk with ⟨_, _, hl⟩ | ⟨k, t', p, A, B, _, _, _, _, _, _, _, hl⟩
  · have HT := Lib.hid (thereC h.lw.mem)
    have HH := Lib.hid h
    have HF := Lib.hid (show Calls Try.prog 27 #[.pointer (some ⟨b, 0, none⟩), .string (key)] w fun e w' => e = .returned (.tuple #[.pointer none, .bool true]) ∧ Up w w' from findC key none h.lw.mem hl)
    have HM := Lib.hid (show ∀ w, Calls Try.prog 25 #[.int .i64 t] w fun e w' => e = .returned (.bool false) ∧ w = w' from fun w => by have := goMay t w; rwa [c0] at this)
    clear c0 h hk hl
    go_enter Try.func10, Try.ntmps10
    go_wp2_with fail
    refine HT.out.mono ?_
    rintro e w' ⟨rfl, rfl⟩
    go_wp2_with fail
    refine HF.out.mono ?_
    rintro e w1 ⟨rfl, u1⟩
    go_wp2_with fail
    refine (HM.out _).mono ?_
    rintro e w2 ⟨rfl, rfl⟩
    go_wp2
    go_ret
    exact ⟨rfl, _, _, _, _, _, HH.out.up u1, Only.up u1⟩
  · have HT := Lib.hid (thereC h.lw.mem)
    have HH := Lib.hid h
    have HF := Lib.hid (show Calls Try.prog 27 #[.pointer (some ⟨b, 0, none⟩), .string (key)] w fun e w' => e = .returned (.tuple #[.pointer (some ⟨pb, p * 4, none⟩), .bool true]) ∧ Up w w' from findC key (some p) h.lw.mem hl)
    have HM := Lib.hid (show ∀ w, Calls Try.prog 25 #[.int .i64 t] w fun e w' => e = .returned (.bool false) ∧ w = w' from fun w => by have := goMay t w; rwa [c0] at this)
    clear c0 h hk hl
    go_enter Try.func10, Try.ntmps10
    go_wp2_with fail
    refine HT.out.mono ?_
    rintro e w' ⟨rfl, rfl⟩
    go_wp2_with fail
    refine HF.out.mono ?_
    rintro e w1 ⟨rfl, u1⟩
    go_wp2_with fail
    refine (HM.out _).mono ?_
    rintro e w2 ⟨rfl, rfl⟩
    go_wp2
    go_ret
    exact ⟨rfl, _, _, _, _, _, HH.out.up u1, Only.up u1⟩
set_option maxHeartbeats 8000000 in
set_option maxRecDepth 100000 in
theorem set_now {b pb cb mb m u : Nat} {S : Nat → List Nat} {T : Nat → Tm} {L : Lks} {l : List (ByteArray × Nat)} {fr : List Nat} {xs : List Tm} {w : World} (key : ByteArray) (t : Int) (h : LI w b pb cb mb m u S T L l fr xs) (hk : okK key) (c0 : mayB t = true) (c1 : t ≤ (u : Int)) :
    Calls Try.prog 10 #[.pointer (some ⟨b, 0, none⟩), .string (key), .int .i64 t] w fun e w' => e = .returned (.int .i64 (2)) ∧ ∃ S' T' L' l' fr', LI w' b pb cb mb m u S' T' L' l' fr' xs ∧ Only (WF4 b pb cb mb) w w' := by
  rcases h.look key hk with ⟨_, _, hl⟩ | ⟨k, t', p, A, B, _, _, _, _, _, _, _, hl⟩
  · have HT := Lib.hid (thereC h.lw.mem)
    have HH := Lib.hid h
    have HF := Lib.hid (show Calls Try.prog 27 #[.pointer (some ⟨b, 0, none⟩), .string (key)] w fun e w' => e = .returned (.tuple #[.pointer none, .bool true]) ∧ Up w w' from findC key none h.lw.mem hl)
    have HM := Lib.hid (show ∀ w, Calls Try.prog 25 #[.int .i64 t] w fun e w' => e = .returned (.bool true) ∧ w = w' from fun w => by have := goMay t w; rwa [c0] at this)
    clear c0 h hk hl
    go_enter Try.func10, Try.ntmps10
    go_wp2_with fail
    refine HT.out.mono ?_
    rintro e w' ⟨rfl, rfl⟩
    go_wp2_with fail
    refine HF.out.mono ?_
    rintro e w1 ⟨rfl, u1⟩
    go_wp2_with fail
    refine (HM.out _).mono ?_
    rintro e w2 ⟨rfl, rfl⟩
    have d0 := (HH.out.lw.mem.up u1).c_now
    go_wp2
    go_ret
    exact ⟨rfl, _, _, _, _, _, HH.out.up u1, Only.up u1⟩
  · have HT := Lib.hid (thereC h.lw.mem)
    have HH := Lib.hid h
    have HF := Lib.hid (show Calls Try.prog 27 #[.pointer (some ⟨b, 0, none⟩), .string (key)] w fun e w' => e = .returned (.tuple #[.pointer (some ⟨pb, p * 4, none⟩), .bool true]) ∧ Up w w' from findC key (some p) h.lw.mem hl)
    have HM := Lib.hid (show ∀ w, Calls Try.prog 25 #[.int .i64 t] w fun e w' => e = .returned (.bool true) ∧ w = w' from fun w => by have := goMay t w; rwa [c0] at this)
    clear c0 h hk hl
    go_enter Try.func10, Try.ntmps10
    go_wp2_with fail
    refine HT.out.mono ?_
    rintro e w' ⟨rfl, rfl⟩
    go_wp2_with fail
    refine HF.out.mono ?_
    rintro e w1 ⟨rfl, u1⟩
    go_wp2_with fail
    refine (HM.out _).mono ?_
    rintro e w2 ⟨rfl, rfl⟩
    have d0 := (HH.out.lw.mem.up u1).c_now
    go_wp2
    go_ret
    exact ⟨rfl, _, _, _, _, _, HH.out.up u1, Only.up u1⟩
set_option maxHeartbeats 8000000 in
set_option maxRecDepth 100000 in
theorem set_full {b pb cb mb m u : Nat} {S : Nat → List Nat} {T : Nat → Tm} {L : Lks} {l : List (ByteArray × Nat)} {fr : List Nat} {xs : List Tm} {w : World} (key : ByteArray) (t : Int) (h : LI w b pb cb mb m u S T L l fr xs) (hk : okK key) (c0 : mayB t = true) (c1 : (u : Int) < t) (hz : findZ xs key = -1) (hfr : fr = []) :
    Calls Try.prog 10 #[.pointer (some ⟨b, 0, none⟩), .string (key), .int .i64 t] w fun e w' => e = .returned (.int .i64 (6)) ∧ ∃ S' T' L' l' fr', LI w' b pb cb mb m u S' T' L' l' fr' xs ∧ Only (WF4 b pb cb mb) w w' := by
  rcases h.look key hk with ⟨_, _, hl⟩ | ⟨k, t', p, A, B, hz', _, _, _, _, _, _, _⟩
  case inr => omega
  subst hfr
  have HT := Lib.hid (thereC h.lw.mem)
  have HH := Lib.hid h
  have HF := Lib.hid (show Calls Try.prog 27 #[.pointer (some ⟨b, 0, none⟩), .string (key)] w fun e w' => e = .returned (.tuple #[.pointer none, .bool true]) ∧ Up w w' from findC key none h.lw.mem hl)
  have HM := Lib.hid (show ∀ w, Calls Try.prog 25 #[.int .i64 t] w fun e w' => e = .returned (.bool true) ∧ w = w' from fun w => by have := goMay t w; rwa [c0] at this)
  have c1' : ¬ t ≤ (u : Int) := by omega
  have HR := Lib.hid (fun w1 (u1 : Up w w1) => room_none (h.lw.up u1))
  clear c0 h hk hl c1
  go_enter Try.func10, Try.ntmps10
  go_wp2_with fail
  refine HT.out.mono ?_
  rintro e w' ⟨rfl, rfl⟩
  go_wp2_with fail
  refine HF.out.mono ?_
  rintro e w1 ⟨rfl, u1⟩
  go_wp2_with fail
  refine (HM.out _).mono ?_
  rintro e w2 ⟨rfl, rfl⟩
  have d0 := (HH.out.lw.mem.up u1).c_now
  go_wp2_with fail
  refine (HR.out _ u1).mono ?_
  rintro e w2 ⟨rfl, rfl⟩
  go_wp2
  go_ret
  exact ⟨rfl, _, _, _, _, _, HH.out.up u1, Only.up u1⟩
set_option maxHeartbeats 8000000 in
set_option maxRecDepth 100000 in
theorem set_new {b pb cb mb m u : Nat} {S : Nat → List Nat} {T : Nat → Tm} {L : Lks} {l : List (ByteArray × Nat)} {fr : List Nat} {xs : List Tm} {w : World} (key : ByteArray) (t : Int) (h : LI w b pb cb mb m u S T L l fr xs) (hk : okK key) (q : Nat) (fr2 : List Nat) (c0 : mayB t = true) (c1 : (u : Int) < t) (hz : findZ xs key = -1) (hfr : fr = q :: fr2) :
    Calls Try.prog 10 #[.pointer (some ⟨b, 0, none⟩), .string (key), .int .i64 t] w fun e w' => e = .returned (.int .i64 (0)) ∧ ∃ S' T' L' l' fr', LI w' b pb cb mb m u S' T' L' l' fr' (xs ++ [(key, t)]) ∧ Only (WF4 b pb cb mb) w w' := by
  rcases h.look key hk with ⟨_, hnk, hl⟩ | ⟨k, t', p, A, B, hz', _, _, _, _, _, _, _⟩
  case inr => omega
  subst hfr
  have HT := Lib.hid (thereC h.lw.mem)
  have HH := Lib.hid h
  have HF := Lib.hid (show Calls Try.prog 27 #[.pointer (some ⟨b, 0, none⟩), .string (key)] w fun e w' => e = .returned (.tuple #[.pointer none, .bool true]) ∧ Up w w' from findC key none h.lw.mem hl)
  have HM := Lib.hid (show ∀ w, Calls Try.prog 25 #[.int .i64 t] w fun e w' => e = .returned (.bool true) ∧ w = w' from fun w => by have := goMay t w; rwa [c0] at this)
  have c1' : ¬ t ≤ (u : Int) := by omega
  have hmm := mayB_iff.1 c0
  have TE := Lib.hid (show t = ((tm t : Nat) : Int) by unfold tm; omega)
  have TL2 := Lib.hid (show tm t ≤ 17592186044416 by unfold tm; omega)
  have NL := Lib.hid h.wi.nowle
  have SL := Lib.hid (slot_bound NL.out TL2.out)
  have OKK := Lib.hid hk
  have QM := Lib.hid (show q < m from List.mem_range.1 (h.wi.all.mem_iff.1 (List.mem_append_right _ (List.mem_cons_self ..))))
  have FIN := Lib.hid (h.wi.set hnk c1 hmm.2)
  have OKA := Lib.hid (show ∀ x ∈ xs ++ [(key, t)], okK x.1 from fun x hx => (List.mem_append.1 hx).elim (h.ok x) (fun hx => by rw [List.mem_singleton.1 hx]; exact hk))
  have NK := Lib.hid hnk
  have WL := Lib.hid (show IntKind.i64.wrap ((xs.length : Int) + 1) = (xs.length : Int) + 1 by rw [IntKind.wrap_i64]; have := h.wi.len2; have := h.mle; omega)
  clear c0 h hk hl c1 hmm hz hnk
  go_enter Try.func10, Try.ntmps10
  go_wp2_with fail
  refine HT.out.mono ?_
  rintro e w' ⟨rfl, rfl⟩
  go_wp2_with fail
  refine HF.out.mono ?_
  rintro e w1 ⟨rfl, u1⟩
  go_wp2_with fail
  refine (HM.out _).mono ?_
  rintro e w2 ⟨rfl, rfl⟩
  have d0 := (HH.out.lw.mem.up u1).c_now
  have LA := Lib.hid (HH.out.up u1)
  have OA := Lib.hid (show Only (WF4 b pb cb mb) w w1 from Only.up u1)
  have HR := Lib.hid (show Calls Try.prog 29 #[.pointer (some ⟨b, 0, none⟩)] w1 fun e w' => e = .returned (.tuple #[.pointer (some ⟨pb, q * 4, none⟩), .bool true]) ∧ Lw w' b pb cb mb m (u : Int) (xs.length : Int) T L l fr2 ∧ Only (WF4 b pb cb mb) w1 w' from room_some LA.out.lw)
  go_wp2_with fail
  refine HR.out.mono ?_
  rintro e wB ⟨rfl, lB, oB⟩
  have LB := Lib.hid lB; have OB := Lib.hid oB
  have e1 := lB.mem.c_k QM.out; have e2 := lB.mem.c_t QM.out
  have f1 := lB.mem.f_p (j := q * 4) (by have := QM.out; omega); have f2 := lB.mem.f_p (j := q * 4 + 1) (by have := QM.out; omega)
  have MC := Lib.hid (lB.mem.set_due q (key, t))
  have OC := Lib.hid (((Only.refl (WF b pb) wB).set (p := ⟨pb, q * 4, none⟩) (.inl (.inr rfl)) (.string (key))).set (p := ⟨pb, q * 4 + 1, none⟩) (.inl (.inr rfl)) (.int .i64 t))
  clear lB oB HR
  go_upto_region 12 with fail
  have LC := Lib.hid (LB.out.mem_ MC.out OC.out)
  generalize ((wB.setCell ⟨pb, q * 4, none⟩ (.string (key))).setCell ⟨pb, q * 4 + 1, none⟩ (.int .i64 t)) = wC at MC OC LC ⊢
  clear e1 e2 f1 f2
  rw [TE.out]
  go_wp2_with fail
  refine (homeC u (tm t) MC.out NL.out TL2.out).mono ?_
  rintro e wD ⟨rfl, uD⟩
  have HJ := Lib.hid (joinC (slot u (tm t)) q (MC.out.up uD) SL.out QM.out (fun x hx => LA.out.wi.lt _ x (last_mem (LA.out.wi.lk.la _ ▸ hx))))
  generalize slot u (tm t) = s at *
  go_wp2_with fail
  refine HJ.out.mono ?_
  rintro e wE ⟨rfl, mE, oE⟩
  have LE := Lib.hid ((LC.out.up uD).mem_ mE oE)
  have OE := Lib.hid oE
  have ME := Lib.hid mE
  have g1 := mE.c_n
  have g2 := mE.f_w (j := 1) (by omega)
  have MF := Lib.hid (mE.set_n ((xs.length : Int) + 1))
  have OF := Lib.hid ((Only.refl (WF b pb) wE).set (p := ⟨b, 1, none⟩) (.inl (.inl rfl)) (.int .i64 ((xs.length : Int) + 1)))
  have W1 := WL.out
  clear mE oE HJ
  go_upto_region 15 with fail
  have LF := Lib.hid (LE.out.mem_ MF.out OF.out)
  generalize wE.setCell ⟨b, 1, none⟩ (.int .i64 ((xs.length : Int) + 1)) = wF at MF OF LF ⊢
  clear g1 g2 W1
  have g3 := MF.out.c_mp
  go_wp2_with (at_mapUpdate; refine wpl_put _ q LF.out.mp OKK.out (LA.out.wi.no NK.out) rfl _ _ _ rfl rfl rfl rfl ?_; intro wG mG oG)
  go_ret
  exact ⟨rfl, _, _, _, _, fr2, ⟨(by rw [List.length_append, Int.natCast_add]; exact ⟨MF.out.only oG (fun e => LF.out.n3 e.symm) (fun e => LF.out.n4 e.symm), mG, LF.out.ch.only oG (fun e => LF.out.n5 e.symm), LF.out.n1, LF.out.n2, LF.out.n3, LF.out.n4, LF.out.n5⟩), FIN.out, OKA.out, HH.out.mle⟩,
    ((((OA.out.trans OB.out (fun k => .inl)).trans (OC.out.mono (G := WF4 b pb cb mb) wf_4) (fun k => .inl)).on uD).trans (OE.out.mono (G := WF4 b pb cb mb) wf_4) (fun k => .inl) |>.trans (OF.out.mono (G := WF4 b pb cb mb) wf_4) (fun k => .inl)).trans (oG.mono (G := WF4 b pb cb mb) (fun k e => .inr (.inr (.inr e)))) (fun k => .inl)⟩
set_option maxHeartbeats 8000000 in
set_option maxRecDepth 100000 in
theorem set_old {b pb cb mb m u : Nat} {S : Nat → List Nat} {T : Nat → Tm} {L : Lks} {l : List (ByteArray × Nat)} {fr : List Nat} {xs : List Tm} {w : World} (key : ByteArray) (t : Int) (h : LI w b pb cb mb m u S T L l fr xs) (hk : okK key) (k : Nat) (c0 : mayB t = true) (c1 : (u : Int) < t) (hz : findZ xs key = k) :
    Calls Try.prog 10 #[.pointer (some ⟨b, 0, none⟩), .string (key), .int .i64 t] w fun e w' => e = .returned (.int .i64 (0)) ∧ ∃ S' T' L' l' fr', LI w' b pb cb mb m u S' T' L' l' fr' (xs.eraseIdx k ++ [(key, t)]) ∧ Only (WF4 b pb cb mb) w w' := by
  rcases h.look key hk with ⟨hz', _, _⟩ | ⟨k', t', p, A, B, hz', hkl, hx, hAB, hTp, hpl, hpm, hl⟩
  case inl => omega
  obtain rfl : k = k' := by omega
  have HT := Lib.hid (thereC h.lw.mem)
  have HH := Lib.hid h
  have HF := Lib.hid (show Calls Try.prog 27 #[.pointer (some ⟨b, 0, none⟩), .string (key)] w fun e w' => e = .returned (.tuple #[.pointer (some ⟨pb, p * 4, none⟩), .bool true]) ∧ Up w w' from findC key (some p) h.lw.mem hl)
  have HM := Lib.hid (show ∀ w, Calls Try.prog 25 #[.int .i64 t] w fun e w' => e = .returned (.bool true) ∧ w = w' from fun w => by have := goMay t w; rwa [c0] at this)
  have c1' : ¬ t ≤ (u : Int) := by omega
  have hmm := mayB_iff.1 c0
  have TE := Lib.hid (show t = ((tm t : Nat) : Int) by unfold tm; omega)
  have TL2 := Lib.hid (show tm t ≤ 17592186044416 by unfold tm; omega)
  have NL := Lib.hid h.wi.nowle
  have SL := Lib.hid (slot_bound NL.out TL2.out)
  have OKK := Lib.hid hk
  have HS := Lib.hid (fun w1 (u1 : Up w w1) => stopC_ (h.up u1) hx hAB hTp hpl)
  obtain ⟨q, fr2, hq⟩ : ∃ q fr2, fr ++ [p] = q :: fr2 := by
    cases hc : fr ++ [p] with
    | nil => simp at hc
    | cons q r => exact ⟨q, r, rfl⟩
  have QM := Lib.hid (show q < m by
    have h1 : q ∈ fr ++ [p] := by rw [hq]; exact List.mem_cons_self ..
    rcases List.mem_append.1 h1 with h1 | h1
    · exact List.mem_range.1 (h.wi.all.mem_iff.1 (List.mem_append_right _ h1))
    · rw [List.mem_singleton.1 h1]; exact hpm)
  rw [hq] at HS
  have hnk : key ∉ (xs.eraseIdx k).map Prod.fst := by
    have := ((perm_erase hx).map Prod.fst).nodup_iff.1 h.wi.keys
    exact (List.nodup_cons.1 this).1
  have OKA := Lib.hid (show ∀ x ∈ xs.eraseIdx k ++ [(key, t)], okK x.1 from fun x hx => (List.mem_append.1 hx).elim (fun hx => h.ok x (List.mem_of_mem_eraseIdx hx)) (fun hx => by rw [List.mem_singleton.1 hx]; exact hk))
  have NK := Lib.hid hnk
  have WL := Lib.hid (show IntKind.i64.wrap (((xs.eraseIdx k).length : Int) + 1) = ((xs.eraseIdx k).length : Int) + 1 by rw [IntKind.wrap_i64]; have := h.wi.len2; have := h.mle; have := eraseIdx_len hkl; omega)
  have C1 := Lib.hid c1; have C2 := Lib.hid hmm.2
  clear c0 h hk hl c1 hmm hz hnk hz' hkl hx hAB hTp hpl hpm hq
  go_enter Try.func10, Try.ntmps10
  go_wp2_with fail
  refine HT.out.mono ?_
  rintro e w' ⟨rfl, rfl⟩
  go_wp2_with fail
  refine HF.out.mono ?_
  rintro e w1 ⟨rfl, u1⟩
  go_wp2_with fail
  refine (HM.out _).mono ?_
  rintro e w2 ⟨rfl, rfl⟩
  have d0 := (HH.out.lw.mem.up u1).c_now
  go_wp2_with fail
  refine (HS.out _ u1).mono ?_
  rintro e wS ⟨rfl, Sa, Ta, La, la, lA, oA⟩
  have LA := Lib.hid lA
  have OA := Lib.hid (oA.behind u1)
  have FIN := Lib.hid (lA.wi.set NK.out C1.out C2.out)
  clear lA oA d0
  have HR := Lib.hid (show Calls Try.prog 29 #[.pointer (some ⟨b, 0, none⟩)] wS fun e w' => e = .returned (.tuple #[.pointer (some ⟨pb, q * 4, none⟩), .bool true]) ∧ Lw w' b pb cb mb m (u : Int) ((xs.eraseIdx k).length : Int) Ta La la fr2 ∧ Only (WF4 b pb cb mb) wS w' from room_some LA.out.lw)
  go_wp2_with fail
  refine HR.out.mono ?_
  rintro e wB ⟨rfl, lB, oB⟩
  have LB := Lib.hid lB; have OB := Lib.hid oB
  have e1 := lB.mem.c_k QM.out; have e2 := lB.mem.c_t QM.out
  have f1 := lB.mem.f_p (j := q * 4) (by have := QM.out; omega); have f2 := lB.mem.f_p (j := q * 4 + 1) (by have := QM.out; omega)
  have MC := Lib.hid (lB.mem.set_due q (key, t))
  have OC := Lib.hid (((Only.refl (WF b pb) wB).set (p := ⟨pb, q * 4, none⟩) (.inl (.inr rfl)) (.string (key))).set (p := ⟨pb, q * 4 + 1, none⟩) (.inl (.inr rfl)) (.int .i64 t))
  clear lB oB HR
  go_upto_region 12 with fail
  have LC := Lib.hid (LB.out.mem_ MC.out OC.out)
  generalize ((wB.setCell ⟨pb, q * 4, none⟩ (.string (key))).setCell ⟨pb, q * 4 + 1, none⟩ (.int .i64 t)) = wC at MC OC LC ⊢
  clear e1 e2 f1 f2
  rw [TE.out]
  go_wp2_with fail
  refine (homeC u (tm t) MC.out NL.out TL2.out).mono ?_
  rintro e wD ⟨rfl, uD⟩
  have HJ := Lib.hid (joinC (slot u (tm t)) q (MC.out.up uD) SL.out QM.out (fun x hx => LA.out.wi.lt _ x (last_mem (LA.out.wi.lk.la _ ▸ hx))))
  generalize slot u (tm t) = s at *
  go_wp2_with fail
  refine HJ.out.mono ?_
  rintro e wE ⟨rfl, mE, oE⟩
  have LE := Lib.hid ((LC.out.up uD).mem_ mE oE)
  have OE := Lib.hid oE
  have ME := Lib.hid mE
  have g1 := mE.c_n
  have g2 := mE.f_w (j := 1) (by omega)
  have MF := Lib.hid (mE.set_n (((xs.eraseIdx k).length : Int) + 1))
  have OF := Lib.hid ((Only.refl (WF b pb) wE).set (p := ⟨b, 1, none⟩) (.inl (.inl rfl)) (.int .i64 (((xs.eraseIdx k).length : Int) + 1)))
  have W1 := WL.out
  clear mE oE HJ
  go_upto_region 15 with fail
  have LF := Lib.hid (LE.out.mem_ MF.out OF.out)
  generalize wE.setCell ⟨b, 1, none⟩ (.int .i64 (((xs.eraseIdx k).length : Int) + 1)) = wF at MF OF LF ⊢
  clear g1 g2 W1
  have g3 := MF.out.c_mp
  go_wp2_with (at_mapUpdate; refine wpl_put _ q LF.out.mp OKK.out (LA.out.wi.no NK.out) rfl _ _ _ rfl rfl rfl rfl ?_; intro wG mG oG)
  go_ret
  exact ⟨rfl, _, _, _, _, fr2, ⟨(by rw [List.length_append, Int.natCast_add]; exact ⟨MF.out.only oG (fun e => LF.out.n3 e.symm) (fun e => LF.out.n4 e.symm), mG, LF.out.ch.only oG (fun e => LF.out.n5 e.symm), LF.out.n1, LF.out.n2, LF.out.n3, LF.out.n4, LF.out.n5⟩), FIN.out, OKA.out, HH.out.mle⟩,
    ((((OA.out.trans OB.out (fun k => .inl)).trans (OC.out.mono (G := WF4 b pb cb mb) wf_4) (fun k => .inl)).on uD).trans (OE.out.mono (G := WF4 b pb cb mb) wf_4) (fun k => .inl) |>.trans (OF.out.mono (G := WF4 b pb cb mb) wf_4) (fun k => .inl)).trans (oG.mono (G := WF4 b pb cb mb) (fun k e => .inr (.inr (.inr e)))) (fun k => .inl)⟩
end Go.Proofs.Ytkgcnmloojnblaa.wlS
