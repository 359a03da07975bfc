/- P O A N: contracts, part 16. Condition: as each says. -/
import Derived.Test.YtkgcnmloojnblaaKPOAN12
import Derived.Test.YtkgcnmloojnblaaKPOAN15
import Derived.Laws.OwnMore
set_option linter.unusedVariables false
set_option linter.unusedSimpArgs false
namespace Go.Proofs.Ytkgcnmloojnblaa.wlS
open Go.RowKit Go.Shelf Go.Lib Go.Proofs.Ytkgcnmloojnblaa.nb Go.Proofs.Ytkgcnmloojnblaa.ck Go.Proofs.Ytkgcnmloojnblaa.wh Go.Proofs.Ytkgcnmloojnblaa.wf
set_option linter.unusedVariables false

def cellsD (xs : List Tm) : List Value := xs.flatMap fun x => [.string (x.1), .int .i64 x.2]
theorem cellsD_cons (x : Tm) (r : List Tm) : cellsD (x :: r) = .string (x.1) :: .int .i64 x.2 :: cellsD r := rfl
theorem cellsD_append (a b : List Tm) : cellsD (a ++ b) = cellsD a ++ cellsD b := by simp [cellsD]
theorem cellsD_at : ∀ (xs : List Tm) (k : Nat), k < xs.length → (cellsD xs)[k * 2]? = some (.string ((xs.getD k d0).1)) ∧ (cellsD xs)[k * 2 + 1]? = some (.int .i64 (xs.getD k d0).2)
  | [], k, h => by simp at h
  | x :: r, 0, _ => ⟨rfl, rfl⟩
  | x :: r, k + 1, h => by
    have := cellsD_at r k (by simpa using h)
    rw [cellsD_cons, show (k + 1) * 2 = k * 2 + 1 + 1 by omega]
    simpa using this
theorem cellsD_one (xs : List Tm) : ∀ u, u ∈ cellsD xs → u.oneCell' = true := by
  intro u hu
  obtain ⟨x, _, h⟩ := List.mem_flatMap.1 hu
  simp at h
  rcases h with rfl | rfl <;> rfl
def OwnD (w : World) (B : Nat) (v : Value) (xs : List Tm) : Prop := w.ownsRow B 44 2 v xs.length (cellsD xs)
theorem infoD : (Try.prog.info? 44).map (fun i => (i.zero, i.size, i.bytes)) = some (some (.agg #[.string ⟨#[]⟩, .int .i64 0]), 2, 24) := by kernel_rfl
section
variable {ops : Array Oper} {rest : List Oper} {o : Oper} {a : Act} {Q : Exit → Act → World → Prop} {w w' : World} {B : Nat} {v : Value} {xs : List Tm}
theorem OwnD.nil_ (w : World) (B : Nat) : OwnD w B (.slice none 0 0) [] := World.ownsRow_nil _ _ _ _
theorem OwnD.only {F : Nat → Prop} (h : OwnD w B v xs) (o : Only F w w') (hF : ∀ k, RowF v k → ¬ F k) : OwnD w' B v xs := own_only h o hF
theorem OwnD.up (h : OwnD w B v xs) (u : Up w w') : OwnD w' B v xs := own_only h (Only.up (F := fun _ => False) u) (fun _ _ => id)
theorem OwnD.slice (h : OwnD w B v xs) : ∃ A n c, v = .slice A n c ∧ Hid (n = xs.length) := by
  rcases own_form h with ⟨rfl, hn⟩ | ⟨g, cap, rfl, _⟩
  · exact ⟨none, 0, 0, rfl, hn.symm⟩
  · exact ⟨_, _, _, rfl, rfl⟩
theorem OwnD.rw_ (h : OwnD w B v xs) : (v = .slice none 0 0 ∧ xs = []) ∨ ∃ g cap, v = .slice (some ⟨g, 0, none⟩) xs.length cap ∧ B ≤ g ∧ g < w.heap.size ∧ Rw w g xs := by
  rcases own_form h with ⟨rfl, hn⟩ | ⟨g, cap, rfl, hB, hg, h1, h2⟩
  · exact .inl ⟨rfl, List.eq_nil_of_length_eq_zero hn⟩
  · refine .inr ⟨g, cap, rfl, hB, hg, hg, fun k hk => ?_⟩
    obtain ⟨c1, c2⟩ := cellsD_at xs k hk
    have e : ∀ j u, (cellsD xs)[j]? = some u → w.cell? ⟨g, j, none⟩ = some u := fun j u hj => by
      have := World.ownsRow.cells h (g := g) rfl j u hj
      rwa [show (⟨g, 0, none⟩ : Addr).add j = ⟨g, j, none⟩ by unfold Addr.add; split <;> simp_all] at this
    exact ⟨⟨e _ _ c1, World.ownsRow.frozenAt h _⟩, e _ _ c2, World.ownsRow.frozenAt h _⟩
theorem appD (s x : Operand) (g : Nat) (y : Tm) (hown : OwnD w B v xs) (hgd : o.guard = none) (ho : o.op = .call { callee := .builtin .append, args := #[s, x], argTypes := #[38, 38] })
    (hs : a.eval s = v) (hx : a.eval x = .slice (some ⟨g, 0, none⟩) 1 1) (hc1 : w.cell? ⟨g, 0, none⟩ = some (.string (y.1))) (hc2 : w.cell? ⟨g, 1, none⟩ = some (.int .i64 y.2)) (hn : xs.length < 1099511627776) (hB : B ≤ w.heap.size)
    (h : ∀ v' w', OwnD w' B v' (xs ++ [y]) → Only (RowF v) w w' → (∀ k, RowF v' k → RowF v k ∨ w.heap.size ≤ k) → wpList Try.prog ops Q rest (a.put o.dst v') w') : wpList Try.prog ops Q (o :: rest) a w := by
  obtain ⟨i0, hi, hz0, hz1, hz2⟩ := info_parts infoD
  refine wpList_append_own_at (w := w) hgd s x 38 ho B 44 i0 (.agg #[.string ⟨#[]⟩, .int .i64 0]) 2 24 Try.underlying38 hi hz0 hz1 hz2 rfl (by decide) v xs.length _ hs hown ⟨g, 0, none⟩ 1 1 (cellsD [y]) hx rfl ?_ (cellsD_one [y]) (by unfold maxLen; omega) (by omega) hB ?_
  · intro j u' hj
    match j, hj with
    | 0, hj => cases hj; exact hc1
    | 1, hj => cases hj; exact hc2
  · intro v' w' ho' hg _ hat
    have hO : OwnD w' B v' (xs ++ [y]) := by unfold OwnD; rw [cellsD_append, List.length_append]; exact ho'
    refine h v' w' hO ((Only.refl _ _).grown hg fun k hk => .inl hk) fun k hk => ?_
    rcases hat with e | e
    · exact .inl (e.symm.trans hk)
    · have : some k = some w.heap.size := hk.symm.trans e
      cases this
      exact .inr (Nat.le_refl _)
end
set_option maxHeartbeats 4000000 in
theorem insNil (w : World) : Calls Try.prog 61 #[.slice none 0 0, .int .i64 0, .int .i64 0, .func (.func 38) #[] #[]] w fun e w' => e = .returned (.tuple #[]) ∧ w = w' := by
  go_enter Try.func61, Try.ntmps61
  go_wp2_with fail
  go_loopw [8] (fun v wr => v = .int .i64 1 ∧ w = wr) (fun _ _ => 0)
  case atStart => exact ⟨rfl, rfl⟩
  case round =>
    obtain ⟨rfl, rfl⟩ := hrel
    go_wp2
    go_end0
    exact ⟨rfl, rfl⟩
set_option maxHeartbeats 4000000 in
theorem stableNil (w : World) : Calls Try.prog 55 #[.slice none 0 0, .int .i64 0, .func (.func 38) #[] #[]] w fun e w' => e = .returned (.tuple #[]) ∧ w = w' := by
  go_enter Try.func55, Try.ntmps55
  go_wp2_with fail
  go_loopw [7, 8] (fun v u wr => v = .int .i64 0 ∧ u = .int .i64 20 ∧ w = wr) (fun _ _ _ => 0)
  case atStart => exact ⟨rfl, rfl, rfl⟩
  case round =>
    obtain ⟨rfl, rfl, rfl⟩ := hrel
    go_wp2_with fail
    refine (insNil _).mono ?_
    rintro e w1 ⟨rfl, rfl⟩
    go_wp2_with fail
    go_loopw [6] (fun v wr => v = .int .i64 20 ∧ w = wr) (fun _ _ => 0)
    case atStart => exact ⟨rfl, rfl⟩
    case round =>
      obtain ⟨rfl, rfl⟩ := hrel
      go_wp2
      go_end0
      exact ⟨rfl, rfl⟩
theorem sortNil (w : World) : Calls Try.prog 37 #[.slice none 0 0, .func (.func 38) #[] #[]] w fun e w' => e = .returned (.tuple #[]) ∧ w = w' := by
  go_enter Try.func37, Try.ntmps37
  go_wp2_with fail
  refine (stableNil _).mono ?_
  rintro e w1 ⟨rfl, rfl⟩
  go_wp2
  go_end0
  exact ⟨rfl, rfl⟩
end Go.Proofs.Ytkgcnmloojnblaa.wlS

namespace Go.Proofs.Ytkgcnmloojnblaa.wlS
open Go.RowKit Go.Shelf Go.Lib Go.Proofs.Ytkgcnmloojnblaa.nb Go.Proofs.Ytkgcnmloojnblaa.ck Go.Proofs.Ytkgcnmloojnblaa.wh Go.Proofs.Ytkgcnmloojnblaa.wf
set_option linter.unusedVariables false

def dr (T : Nat → Tm) (n : Nat) (l : List Nat) : List Nat := l.filter (fun p => !kp T n p)
theorem dr_keep {T : Nat → Tm} {n p : Nat} {l : List Nat} (h : kp T n p = true) : dr T n (l ++ [p]) = dr T n l := by
  unfold dr; rw [List.filter_append, List.filter_cons_of_neg (by simp [h])]; simp
theorem dr_drop {T : Nat → Tm} {n p : Nat} {l : List Nat} (h : kp T n p = false) : dr T n (l ++ [p]) = dr T n l ++ [p] := by
  unfold dr; rw [List.filter_append, List.filter_cons_of_pos (by simp [h])]; simp
theorem dr_len (T : Nat → Tm) (n : Nat) (l : List Nat) : (dr T n l).length ≤ l.length := List.length_filter_le _ _
structure Gi (w0 : World) (b pb cb mb m u n : Nat) (S : Nat → List Nat) (T : Nat → Tm) (fr : List Nat) (N : Nat) (v due : Value) (wr : World) (dn rs : List Nat) (Tc : Nat → Tm) (Lc : Lks) (lc : List (ByteArray × Nat)) : Prop where
  gp : Gp S T (slot u n) n (bel S (slot u n + 1)) dn rs Tc Lc lc
  lw : Lw wr b pb cb mb m (n : Int) ((N : Int) - ((dr T n dn).length : Int)) Tc Lc lc (fr ++ dr T n dn)
  own : OwnD wr w0.heap.size due ((dr T n dn).map T)
  row : OwnP wr w0.heap.size v pb (bel S (slot u n + 1))
  ap : ∀ k, RowF due k → ¬ RowF v k
  only : Only (WF4 b pb cb mb) w0 wr
set_option maxHeartbeats 8000000 in
set_option maxRecDepth 100000 in
theorem go_arg {b pb cb mb m u : Nat} {S : Nat → List Nat} {T : Nat → Tm} {L : Lks} {l : List (ByteArray × Nat)} {fr : List Nat} {xs : List Tm} {w : World} (t : Int) (h : LI w b pb cb mb m u S T L l fr xs) (c0 : mayB t = false) :
    Calls Try.prog 14 #[.pointer (some ⟨b, 0, none⟩), .int .i64 t] w fun e w' => e = .returned (.tuple #[.slice none 0 0, .int .i64 2]) ∧ w = w' := by
  have HT := Lib.hid (thereC h.lw.mem)
  have HM := Lib.hid (show ∀ w, Calls Try.prog 25 #[.int .i64 t] w fun e w' => e = .returned (.bool false) ∧ w = w' from fun w => by have := goMay t w; rwa [c0] at this)
  clear h c0
  go_enter Try.func14, Try.ntmps14
  go_wp2_with fail
  refine HT.out.mono ?_
  rintro e w' ⟨rfl, rfl⟩
  go_wp2_with fail
  refine (HM.out _).mono ?_
  rintro e w' ⟨rfl, rfl⟩
  go_wp2
  go_ret2
  exact ⟨rfl, rfl⟩
set_option maxHeartbeats 8000000 in
set_option maxRecDepth 100000 in
theorem go_over {b pb cb mb m u : Nat} {S : Nat → List Nat} {T : Nat → Tm} {L : Lks} {l : List (ByteArray × Nat)} {fr : List Nat} {xs : List Tm} {w : World} (t : Int) (h : LI w b pb cb mb m u S T L l fr xs) (c0 : mayB t = true) (c1 : t < (u : Int)) :
    Calls Try.prog 14 #[.pointer (some ⟨b, 0, none⟩), .int .i64 t] w fun e w' => e = .returned (.tuple #[.slice none 0 0, .int .i64 9]) ∧ w = w' := by
  have HT := Lib.hid (thereC h.lw.mem)
  have HM := Lib.hid (show ∀ w, Calls Try.prog 25 #[.int .i64 t] w fun e w' => e = .returned (.bool true) ∧ w = w' from fun w => by have := goMay t w; rwa [c0] at this)
  have d0 := h.lw.mem.c_now
  clear h c0
  go_enter Try.func14, Try.ntmps14
  go_wp2_with fail
  refine HT.out.mono ?_
  rintro e w' ⟨rfl, rfl⟩
  go_wp2_with fail
  refine (HM.out _).mono ?_
  rintro e w' ⟨rfl, rfl⟩
  go_wp2
  go_ret2
  exact ⟨rfl, rfl⟩
set_option maxHeartbeats 8000000 in
set_option maxRecDepth 100000 in
theorem go_good {b pb cb mb m u : Nat} {S : Nat → List Nat} {T : Nat → Tm} {L : Lks} {l : List (ByteArray × Nat)} {fr : List Nat} {xs : List Tm} {w : World} (n : Nat) (h : LI w b pb cb mb m u S T L l fr xs) (hn : u ≤ n) (hn2 : n ≤ 17592186044416) :
    Calls Try.prog 14 #[.pointer (some ⟨b, 0, none⟩), .int .i64 n] w fun e w' => ∃ A k c, e = .returned (.tuple #[.slice A k c, .int .i64 0]) ∧ (∃ S' T' L' l' fr', LI w' b pb cb mb m n S' T' L' l' fr' (stay n xs)) ∧ Only (WF4 b pb cb mb) w w' ∧ (k = (told n xs).length ∧ (0 < k → ∃ g, A = some ⟨g, 0, none⟩ ∧ w.heap.size ≤ g ∧ g < w'.heap.size ∧ Rw w' g (told n xs))) := by
  have HT := Lib.hid (thereC h.lw.mem)
  have HM := Lib.hid (show ∀ w, Calls Try.prog 25 #[.int .i64 n] w fun e w' => e = .returned (.bool true) ∧ w = w' from fun w => by have := goMay n w; rwa [mayB_t ⟨by omega, by omega⟩] at this)
  have HRC := Lib.hid (reachedC n h hn2)
  have d0 := h.lw.mem.c_now
  have hnn : ¬ (n : Int) < (u : Int) := by omega
  have hnn' : ¬ n < u := by omega
  have HH := Lib.hid h
  have HAP := Lib.hid (h.wi.ap hn2)
  have HGP := Lib.hid (fun (Lc : Lks) (hL : LinkOk (Sr S (slot u n)) Lc) => h.wi.gp hn2 hL)
  have HN2 := Lib.hid hn2
  have HN := Lib.hid hn
  clear h hn hn2
  go_enter Try.func14, Try.ntmps14
  go_wp2_with fail
  refine HT.out.mono ?_
  rintro e w' ⟨rfl, rfl⟩
  go_wp2_with fail
  refine (HM.out _).mono ?_
  rintro e w' ⟨rfl, rfl⟩
  go_wp2_with fail
  refine HRC.out.mono ?_
  rintro e w1 ⟨v, L1, rfl, q⟩
  have RC := Lib.hid q
  have e0 := q.lw.mem.c_now
  have f0 := q.lw.mem.f_w (j := 0) (by omega)
  have M1 := Lib.hid (q.lw.mem.set_now (n : Int))
  have O1 := Lib.hid ((Only.refl (WF b pb) w1).set (p := ⟨b, 0, none⟩) (.inl (.inl rfl)) (.int .i64 (n : Int)))
  clear q d0 hnn hnn'
  go_upto_region 9 with fail
  have L2 := Lib.hid (RC.out.lw.mem_ M1.out O1.out)
  generalize w1.setCell ⟨b, 0, none⟩ (.int .i64 (n : Int)) = w2 at M1 O1 L2 ⊢
  clear e0 f0
  have W2 := Lib.hid (show OwnP w2 w.heap.size v pb (bel S (slot u n + 1)) by
    rw [bel_succ]
    exact RC.out.own.only O1.out (fun k hk hw => by
      have h1 := (own_lt RC.out.own k hk).1
      have h2 := HH.out.lw.lt k (wf_4 k hw)
      omega))
  have G0 := Lib.hid (show Gi w b pb cb mb m u n S T fr xs.length v (.slice none 0 0) w2 [] (bel S (slot u n + 1)) T L1 l from
    ⟨HGP.out L1 (by have := RC.out.lk; rwa [Sq.done] at this), by have := L2.out; simpa [dr] using this, OwnD.nil_ _ _, W2.out, fun k e => (by cases e), RC.out.only.trans (O1.out.mono wf_4) (fun k => .inl)⟩)
  obtain ⟨A0, k0, q0, rfl, HL0⟩ := W2.out.slice
  have hk4 : k0 ≤ 4096 := by have h1 := HL0.out; have h2 := HH.out.wi.lens HN2.out; have h3 := HH.out.wi.len2; have h4 := HH.out.mle; omega
  clear M1 O1 L2 W2 RC HGP HRC
  go_wp2_with fail
  go_loopw [7, 34] (fun due z wr => ∃ (i : Nat) (dn rs : List Nat) (Tc : Nat → Tm) (Lc : Lks) (lc : List (ByteArray × Nat)), z = .int .i64 i ∧ i = dn.length ∧ Gi w b pb cb mb m u n S T fr xs.length (.slice A0 k0 q0) due wr dn rs Tc Lc lc) (fun _ z _ => k0 - (RowKit.intOf z).toNat)
  case atStart => exact ⟨0, [], _, T, L1, l, rfl, rfl, G0.out⟩
  case round =>
  clear G0
  obtain ⟨i, dn, rs, Tc, Lc, lc, rfl, hi, q⟩ := hrel
  have I := Lib.hid q
  have hlen : k0 = i + rs.length := by rw [HL0.out, q.gp.all, List.length_append, hi]
  have HI := Lib.hid hi
  obtain ⟨A1, k1, q1, rfl, HL1⟩ := q.own.slice
  have hrw := q.own.rw_
  clear q hi
  rcases rs with _ | ⟨p, rs'⟩
  · have hik : ¬ i < k0 := by rw [hlen]; simp
    have FW := Lib.hid (I.out.gp.wi HH.out.wi HN.out HN2.out)
    have SC := Lib.hid (stay_count HH.out.wi HN.out HN2.out I.out.gp)
    have TD := Lib.hid (show St (told n xs) ((dr T n dn).map T) from ⟨(told_st _ xs n rfl).1, fun t => ((told_st _ xs n rfl).2 t).trans (FW.out.2 t).symm⟩)
    have FIN := Lib.hid (show ∀ w', Only (fun k => ¬ WF4 b pb cb mb k) wr w' → LI w' b pb cb mb m n _ Tc Lc lc _ (stay n xs) from fun w' o => ⟨by
        have h1 := I.out.lw.only o (fun k hk h => h hk)
        have h2 : (xs.length : Int) - ((dr T n dn).length : Int) = ((stay n xs).length : Int) := by have := SC.out; unfold dr; omega
        rwa [h2] at h1, FW.out.1, fun x hx => HH.out.ok x (by rw [(told_all _ xs n rfl).2.2.1] at hx; exact (List.mem_filter.1 hx).1), HH.out.mle⟩)
    clear hlen
    rcases hrw with ⟨e1, e2⟩ | ⟨g, cap, e1, hg1, hg2, hrw⟩
    · obtain ⟨hA, hk, hq⟩ := Value.slice.inj e1
      subst hA hk hq
      have E2 := Lib.hid e2
      clear e2 e1
      go_wp2_with fail
      refine (sortNil _).mono ?_
      rintro e w3 ⟨rfl, rfl⟩
      go_wp2
      go_ret2
      refine ⟨none, 0, 0, rfl, ⟨_, _, _, _, _, FIN.out _ (Only.refl _ _)⟩, I.out.only, ?_, fun h => absurd h (Nat.lt_irrefl _)⟩
      rw [TD.out.len, E2.out]; rfl
    · obtain ⟨hA, hk, hq⟩ := Value.slice.inj e1
      subst hA hq
      have HRW := Lib.hid hrw
      have hgb : ¬ WF4 b pb cb mb g := fun hw => by have := HH.out.lw.lt g hw; omega
      have HGB := Lib.hid hgb
      have l1 : ((dr T n dn).map T).length ≤ 1048576 := by have h1 := HL1.out; have h2 := dr_len T n dn; have h3 := HI.out; simp; have h4 := congrArg List.length I.out.gp.all; have h5 := HL0.out; simp at h4; omega
      have SO := Lib.hid (sortC g q1 k1 _ HL1.out (by have := HL1.out; omega) wr hrw)
      clear hrw hgb l1 hk e1
      go_wp2_with fail
      refine SO.out.mono ?_
      rintro e w3 ⟨rfl, M, s1, s2, s3⟩
      have S1 := Lib.hid s1; have S2 := Lib.hid s2; have S3 := Lib.hid s3
      clear s1 s2 s3
      go_wp2
      go_ret2
      have hM := S1.out.one TD.out
      refine ⟨_, _, _, rfl, ⟨_, _, _, _, _, FIN.out _ (S3.out.mono (fun k e => by rw [e]; exact HGB.out))⟩, I.out.only.trans S3.out (fun k e => .inr (by rw [e]; exact hg1)), ?_, fun _ => ⟨g, rfl, hg1, Nat.lt_of_lt_of_le hg2 S3.out.size, by rw [← hM]; exact S2.out⟩⟩
      rw [← hM, S1.out.len]; exact HL1.out
  have hik : i < k0 := by rw [hlen]; simp
  clear hlen hrw
  obtain ⟨g, cap, p', e1, c1, hp'⟩ := I.out.row.at_ (k := i) (by rw [← HL0.out]; exact hik)
  obtain ⟨hA, hk0, hq0⟩ := Value.slice.inj e1
  subst hA
  clear e1 hk0 hq0
  have hpp : p' = p := by
    have h1 := hp'.out
    rw [I.out.gp.all, HI.out, List.getElem?_append_right (Nat.le_refl _), Nat.sub_self] at h1
    exact (Option.some.inj h1).symm
  subst hpp
  have hpb : p' ∈ bel S (slot u n + 1) := by rw [I.out.gp.all]; simp
  obtain ⟨s0, _, hps⟩ := mem_bel.1 hpb
  have hpm : p' < m := HH.out.wi.lt s0 p' hps
  obtain ⟨t1, t2, t3, t4⟩ := HH.out.wi.tnat hps
  have hTc : Tc p' = T p' := I.out.gp.t1 p' (List.mem_cons_self ..)
  obtain ⟨tp, htp⟩ : ∃ tp, tp = tm (T p').2 := ⟨_, rfl⟩
  obtain ⟨ky, hky⟩ : ∃ ky, ky = (T p').1 := ⟨_, rfl⟩
  rw [← htp] at t1 t2 t3
  have c2 := I.out.lw.mem.c_k hpm
  have c3 := I.out.lw.mem.c_t hpm
  rw [hTc, ← hky] at c2
  rw [hTc, t1] at c3
  have W9 : IntKind.i64.wrap ((i : Int) + 1) = (i : Int) + 1 := by rw [IntKind.wrap_i64]; omega
  have KY := Lib.hid (show T p' = (ky, (tp : Int)) from Prod.ext hky.symm t1)
  have HPM := Lib.hid hpm
  have HT3 := Lib.hid t3
  have HTC := Lib.hid hTc
  have HTP := Lib.hid htp
  have OKY := Lib.hid (show okK ky by rw [hky]; exact HH.out.ok _ t4)
  clear t1 hTc htp hky hp' hpb hps hpm t4 t3
  cases hkp : kp T n p'
  · have hle : ¬ n < tp := by
      unfold kp at hkp
      rw [KY.out] at hkp
      have := of_decide_eq_false hkp
      simp at this; omega
    have hle' : ¬ (n : Int) < (tp : Int) := by omega
    have HK := Lib.hid hkp
    have LB := Lib.hid (show ((dr T n dn).map T).length < 1099511627776 by have h2 := dr_len T n dn; have h3 := HI.out; rw [List.length_map]; omega)
    have hB0 := I.out.only.size
    have HA := Lib.hid I.out.gp.has
    have CNT := Lib.hid (show fr.length + (dr T n dn).length + 1 ≤ m ∧ (dr T n dn).length + 1 ≤ xs.length by
      have h1 := HH.out.wi.len2; have h2 := HH.out.wi.lens HN2.out; have h3 := dr_len T n dn; have h4 := HL0.out; have h5 := HI.out; omega)
    clear hkp t2
    go_upto_region 16 with (at_builtin; refine appD (.tmp 54) (.tmp 59) wr.heap.size (ky, (tp : Int)) (I.out.own.up (up_al _ (Below.refl _ _))) rfl rfl rfl rfl ((Box.new wr #[.string (ky), .int .i64 (tp : Int)] _).at 0 rfl) ((Box.new wr #[.string (ky), .int .i64 (tp : Int)] _).at 1 rfl) LB.out (by simp; omega) ?_; intro v2 w2 hO2 ho2 hs2)
    have uu : Up wr (wr.alloc (.cells #[.string (ky), .int .i64 (tp : Int)] 44)) := up_al _ (Below.refl _ _)
    have hap : ∀ k, RowF (.slice A1 k1 q1) k → ¬ WF4 b pb cb mb k := fun k hk hw => by
      have h1 := (own_lt I.out.own k hk).1
      have h2 := HH.out.lw.lt k hw
      omega
    have L3 := Lib.hid ((I.out.lw.up uu).only ho2 (fun k hk hr => hap k hr hk))
    have R3 := Lib.hid ((I.out.row.up uu).only ho2 (fun k hk hr => I.out.ap k hr hk))
    have O3 := Lib.hid ((I.out.only.on uu).trans ho2 (fun k hk => .inr (own_lt I.out.own k hk).1))
    have D3 := Lib.hid (show OwnD w2 w.heap.size v2 ((dr T n (dn ++ [p'])).map T) by rw [dr_drop HK.out, List.map_append, List.map_cons, List.map_nil, KY.out]; exact hO2)
    have A3 := Lib.hid (show ∀ k, RowF v2 k → ¬ RowF (.slice (some ⟨g, 0, none⟩) k0 q0) k from fun k hk hr => by
      rcases hs2 k hk with h | h
      · exact I.out.ap k h hr
      · have := (own_lt I.out.row k hr).2
        rw [World.size_alloc] at h; omega)
    obtain ⟨A5, k5, q5, rfl, _⟩ := hO2.slice
    have DC := Lib.hid (dropC p' L3.out HPM.out (by rw [HTC.out, KY.out]; exact OKY.out) (by rw [HTC.out]; exact HA.out) (by have := CNT.out; rw [List.length_append]; omega) (by have := CNT.out; omega) (by have := HH.out.wi.len2; have := HH.out.mle; omega))
    clear hO2 ho2 hs2 uu hap c1 c2 c3 hB0
    go_wp2_with fail
    refine DC.out.mono ?_
    rintro e w3 ⟨rfl, l', lw, lp, lo⟩
    have G5 := Lib.hid (show Gi w b pb cb mb m u n S T fr xs.length (.slice (some ⟨g, 0, none⟩) k0 q0) (.slice A5 k5 q5) w3 (dn ++ [p']) rs' (upd Tc p' d0) Lc l' from by
      rw [HTC.out] at lp
      have hapv : ∀ k, RowF (.slice (some ⟨g, 0, none⟩) k0 q0) k → ¬ WF4 b pb cb mb k := fun k hk hw => by
        have h1 := (own_lt R3.out k hk).1
        have h2 := HH.out.lw.lt k hw
        omega
      have hapd : ∀ k, RowF (.slice A5 k5 q5) k → ¬ WF4 b pb cb mb k := fun k hk hw => by
        have h1 := (own_lt D3.out k hk).1
        have h2 := HH.out.lw.lt k hw
        omega
      refine ⟨I.out.gp.drop HAP.out HK.out lp, ?_, D3.out.only lo hapd, R3.out.only lo hapv, A3.out, O3.out.trans lo (fun k => .inl)⟩
      rw [dr_drop HK.out, List.length_append, ← List.append_assoc]
      have e : (xs.length : Int) - (((dr T n dn).length + [p'].length : Nat) : Int) = (xs.length : Int) - ((dr T n dn).length : Int) - 1 := by simp; omega
      rw [e]; exact lw)
    clear lw lp lo
    go_wp2
    go_roundw
    case rel => exact ⟨i + 1, dn ++ [p'], rs', _, _, l', by go_num, by rw [List.length_append, ← HI.out]; rfl, G5.out⟩
    case measure => simp [RowKit.intOf]; omega
  · have hgt : n < tp := by
      unfold kp at hkp
      rw [KY.out] at hkp
      have := of_decide_eq_true hkp
      simp at this; omega
    have hgt' : (n : Int) < (tp : Int) := by omega
    have HK := Lib.hid hkp
    have HC := Lib.hid (homeC n tp I.out.lw.mem HN2.out HT3.out)
    have SL := Lib.hid (slot_bound HN2.out HT3.out)
    have JC := Lib.hid (fun w' (hu : Up wr w') => joinC (slot n tp) p' (I.out.lw.mem.up hu) SL.out HPM.out (fun x hx => by
      have h1 : x ∈ Sf S T (slot u n) n dn (slot n tp) := last_mem (I.out.gp.lk.la _ ▸ hx)
      rcases List.mem_append.1 h1 with h1 | h1
      · exact HH.out.wi.lt _ x (HH.out.wi.far HN.out h1).2.1
      · have h2 : x ∈ bel S (slot u n + 1) := by rw [I.out.gp.all]; exact List.mem_append_left _ (List.mem_filter.1 h1).1
        obtain ⟨s1, _, h3⟩ := mem_bel.1 h2
        exact HH.out.wi.lt s1 x h3))
    have GK := Lib.hid (show Gp S T (slot u n) n (bel S (slot u n + 1)) (dn ++ [p']) rs' Tc (Lc.join (slot n tp) p') lc by have := I.out.gp.keep HAP.out HK.out; rwa [← HTP.out] at this)
    clear hkp t2 c2
    generalize hst : slot n tp = st at *
    go_wp2_with fail
    refine HC.out.mono ?_
    rintro e w4 ⟨rfl, u4⟩
    go_wp2_with fail
    refine (JC.out _ u4).mono ?_
    rintro e w5 ⟨rfl, m5, o5⟩
    have G5 := Lib.hid (show Gi w b pb cb mb m u n S T fr xs.length (.slice (some ⟨g, 0, none⟩) k0 q0) (.slice A1 k1 q1) w5 (dn ++ [p']) rs' Tc (Lc.join st p') lc from by
      have hapv : ∀ k, RowF (.slice (some ⟨g, 0, none⟩) k0 q0) k → ¬ WF b pb k := fun k hk hw => by
        have h1 := (own_lt I.out.row k hk).1
        have h2 := HH.out.lw.lt k (wf_4 k hw)
        omega
      have hapd : ∀ k, RowF (.slice A1 k1 q1) k → ¬ WF b pb k := fun k hk hw => by
        have h1 := (own_lt I.out.own k hk).1
        have h2 := HH.out.lw.lt k (wf_4 k hw)
        omega
      refine ⟨GK.out, ?_, ?_, (I.out.row.up u4).only o5 hapv, I.out.ap, (I.out.only.on u4).trans (o5.mono wf_4) (fun k => .inl)⟩
      · rw [dr_keep HK.out]; exact (I.out.lw.up u4).mem_ m5 o5
      · rw [dr_keep HK.out]; exact (I.out.own.up u4).only o5 hapd)
    clear m5 o5
    go_wp2
    go_roundw
    case rel => exact ⟨i + 1, dn ++ [p'], rs', _, _, lc, by go_num, by rw [List.length_append, ← HI.out]; rfl, G5.out⟩
    case measure => simp [RowKit.intOf]; omega
end Go.Proofs.Ytkgcnmloojnblaa.wlS
