/- P: contracts, part 2. Condition: as each says. -/
import Derived.Test.YtkgcnmloojnblaaKP1
import Derived.Test.YtkgcnmloojnblaaKPO1
import Derived.Test.YtkgcnmloojnblaaKPA1
set_option linter.unusedVariables false
set_option linter.unusedSimpArgs false
namespace Go.Proofs.Ytkgcnmloojnblaa.wh
open Go.RowKit Go.Shelf Go.Lib Go.Proofs.Ytkgcnmloojnblaa.nb
set_option linter.unusedVariables false

theorem cells_append (a b : List Tm) : cells (a ++ b) = cells a ++ cells b := by simp [cells]
theorem cells_len : ∀ (xs : List Tm), (cells xs).length = xs.length * 2
  | [] => rfl
  | x :: r => by rw [cells_cons, List.length_cons, List.length_cons, cells_len r, List.length_cons]; omega
theorem cells_one (xs : List Tm) : ∀ u, u ∈ cells xs → u.oneCell' = true := by
  intro u hu
  obtain ⟨x, _, h⟩ := List.mem_flatMap.1 hu
  simp at h
  rcases h with rfl | rfl <;> rfl
theorem cells_drop : ∀ (xs : List Tm) (k : Nat), cells (xs.drop k) = (cells xs).drop (k * 2)
  | xs, 0 => rfl
  | [], k + 1 => by simp [cells]
  | x :: r, k + 1 => by rw [List.drop_succ_cons, cells_drop r k, cells_cons, show (k + 1) * 2 = k * 2 + 1 + 1 by omega]; rfl
theorem cells_take : ∀ (xs : List Tm) (k : Nat), cells (xs.take k) = (cells xs).take (k * 2)
  | xs, 0 => by simp [cells]
  | [], k + 1 => by simp [cells]
  | x :: r, k + 1 => by rw [List.take_succ_cons, cells_cons, cells_take r k, cells_cons, show (k + 1) * 2 = k * 2 + 1 + 1 by omega]; rfl
theorem infoT : (Try.prog.info? 45).map (fun i => (i.zero, i.size, i.bytes)) = some (some (.agg #[.string ByteArray.empty, .int .i64 0]), 2, 24) := by kernel_rfl
section
variable {ops : Array Oper} {rest : List Oper} {o : Oper} {a : Act} {Q : Exit → Act → World → Prop} {w : World} {B : Nat} {v : Value}
theorem appT {xs : List Tm} (s x : Operand) (g off n c : Nat) (news : List Tm) (hown : OwnT w B v xs) (hgd : o.guard = none) (ho : o.op = .call { callee := .builtin .append, args := #[s, x], argTypes := #[30, 30] })
    (hs : a.eval s = v) (hx : a.eval x = .slice (some ⟨g, off, none⟩) n c) (hl : news.length = n) (hc : ∀ j u, (cells news)[j]? = some u → w.cell? ⟨g, off + j, none⟩ = some u) (hn : xs.length < 1099511627776) (hm : n < 1099511627776) (hB : B ≤ w.heap.size)
    (h : ∀ v' w', OwnT w' B v' (xs ++ news) → Only (RowF v) w w' → (∀ k, RowF v' k → RowF v k ∨ w.heap.size ≤ k) → wpList Try.prog ops Q rest (a.put o.dst v') w') : wpList Try.prog ops Q (o :: rest) a w := by
  obtain ⟨i0, hi, hz0, hz1, hz2⟩ := info_parts infoT
  refine wpList_append_own_at (w := w) hgd s x 30 ho B 45 i0 (.agg #[.string ByteArray.empty, .int .i64 0]) 2 24 Try.underlying30 hi hz0 hz1 hz2 rfl (by decide) v xs.length _ hs hown ⟨g, off, none⟩ n c (cells news) hx (by rw [cells_len, hl]) ?_ (cells_one news) (by unfold maxLen; omega) (by omega) hB ?_
  · intro j u' hj
    rw [show (⟨g, off, none⟩ : Addr).add j = ⟨g, off + j, none⟩ by unfold Addr.add; split <;> simp_all]
    exact hc j u' hj
  · intro v' w' ho' hg _ hat
    have hO : OwnT w' B v' (xs ++ news) := by unfold OwnT; rw [cells_append, List.length_append, hl]; exact ho'
    refine h v' w' hO ((Only.refl _ _).grown hg fun k hk => .inl hk) fun k hk => ?_
    rcases hat with e | e
    · exact .inl (e.symm.trans hk)
    · have : some k = some w.heap.size := hk.symm.trans e
      cases this
      exact .inr (Nat.le_refl _)
end
end Go.Proofs.Ytkgcnmloojnblaa.wh

namespace Go.Proofs.Ytkgcnmloojnblaa.wh
open Go.RowKit Go.Shelf Go.Lib Go.Proofs.Ytkgcnmloojnblaa.nb
set_option linter.unusedVariables false

theorem findZ_at {xs : List Tm} {key : ByteArray} {k : Nat} {s : ByteArray} {t : Int} (hx : xs[k]? = some (s, t)) (hs : eqK s key = true) (hb : ∀ i x, i < k → xs[i]? = some x → eqK x.1 key = false) : findZ xs key = k := by
  obtain ⟨hk, e⟩ := List.getElem?_eq_some_iff.1 hx
  have : xs.findIdx (fun x => eqK x.1 key) = k := (List.findIdx_eq hk).2 ⟨by rw [e]; exact hs, fun j hj => hb j _ hj (List.getElem?_eq_getElem (by omega))⟩
  unfold findZ
  rw [this, if_pos hk]
theorem findZ_no {xs : List Tm} {key : ByteArray} (hb : ∀ i x, i < xs.length → xs[i]? = some x → eqK x.1 key = false) : findZ xs key = -1 := by
  have : xs.findIdx (fun x => eqK x.1 key) = xs.length := List.findIdx_eq_length.2 fun x hx => by
    obtain ⟨i, hi, e⟩ := List.mem_iff_getElem.1 hx
    exact hb i x hi (by rw [List.getElem?_eq_getElem hi, e])
  unfold findZ
  rw [this, if_neg (Nat.lt_irrefl _)]

set_option maxHeartbeats 4000000 in
set_option maxRecDepth 100000 in
theorem refFind (b : Nat) (now most : Int) (xs : List Tm) (F : Nat → Prop) (key : ByteArray) (w : World) (h : RW w b now most xs F) (hl : xs.length ≤ 1048576) :
    Calls Try.prog 33 #[.pointer (some ⟨b, 0, none⟩), .string key] w fun e w' => e = .returned (.int .i64 (findZ xs key)) ∧ Up w w' := by
  obtain ⟨v, hB, hO, hF⟩ := h
  have c0 := hB.at 2 rfl
  rcases hO.form with ⟨rfl, rfl⟩ | ⟨g, cap, rfl, hg1, hg2, hcap, hmax, hcell⟩
  · have E := Lib.hid (findZ_no (xs := []) (key := key) (fun i x hi => absurd hi (Nat.not_lt_zero _)))
    rw [E.out]
    clear hO hF hB
    go_enter Try.func33, Try.ntmps33
    go_wp2_with fail
    go_loopw [5] (fun i wr => i = .int .i64 0 ∧ wr = w) (fun _ _ => 0)
    case atStart => exact ⟨rfl, rfl⟩
    case round =>
      obtain ⟨rfl, rfl⟩ := hrel
      go_wp2
      go_ret
      exact ⟨rfl, Below.refl _ _⟩
  · have HO := Lib.hid hO
    obtain ⟨n, hn⟩ : ∃ n, n = xs.length := ⟨_, rfl⟩
    rw [← hn] at c0 hcap hl
    have HN := Lib.hid hn
    clear hO hF hB hcell
    have hm2 : cap ≤ 9223372036854775807 := by unfold maxLen at hmax; omega
    clear hmax hn
    go_enter Try.func33, Try.ntmps33
    go_wp2_with fail
    go_loopw [5] (fun i wr => ∃ j : Nat, j ≤ n ∧ i = .int .i64 j ∧ wr = w ∧ Hid (∀ i x, i < j → xs[i]? = some x → eqK x.1 key = false)) (fun i _ => n - (intOf i).toNat)
    case atStart => exact ⟨0, Nat.zero_le _, rfl, rfl, fun i x hi => absurd hi (Nat.not_lt_zero _)⟩
    case round =>
      obtain ⟨j, hj, rfl, rfl, HB⟩ := hrel
      by_cases hlt : j < n
      · obtain ⟨g', cap', s, t, e, c1, c2, hx⟩ := HO.out.at_ (k := j) (by rw [← HN.out]; exact hlt)
        cases e
        cases hs : eqK s key
        · have HS := Lib.hid hs
          have hq : (s.toList == key.toList) = false := hs
          clear hs
          go_wp2
          go_roundw
          case rel => exact ⟨j + 1, by omega, by go_num, by first | rfl | trivial, fun i x hi hxi => by
            rcases Nat.lt_or_eq_of_le (Nat.lt_succ_iff.1 hi) with h | rfl
            · exact HB.out i x h hxi
            · rw [hx.out] at hxi; cases hxi; exact HS.out⟩
          case measure => simp [RowKit.intOf]; omega
        · have E := Lib.hid (findZ_at hx.out hs HB.out)
          have hq : (s.toList == key.toList) = true := hs
          clear hs
          go_wp2
          go_ret
          exact ⟨ret_int E.out.symm, Below.refl _ _⟩
      · obtain rfl : j = n := by omega
        have E := Lib.hid (findZ_no (xs := xs) (key := key) (fun i x hi hx => HB.out i x (by rw [HN.out]; exact hi) hx))
        go_wp2
        go_ret
        exact ⟨ret_int E.out.symm, Below.refl _ _⟩
end Go.Proofs.Ytkgcnmloojnblaa.wh

namespace Go.Proofs.Ytkgcnmloojnblaa.wh
open Go.RowKit Go.Shelf Go.Lib Go.Proofs.Ytkgcnmloojnblaa.nb
set_option linter.unusedVariables false

theorem erase_eq (xs : List Tm) (k : Nat) : xs.take k ++ xs.drop (k + 1) = xs.eraseIdx k := by rw [List.eraseIdx_eq_take_drop_succ]
set_option maxHeartbeats 4000000 in
set_option maxRecDepth 100000 in
theorem refGone (b : Nat) (now most : Int) (xs : List Tm) (F : Nat → Prop) (k : Nat) (w : World) (h : RW w b now most xs F) (hl : xs.length ≤ 1048576) (hk : k < xs.length) :
    Calls Try.prog 34 #[.pointer (some ⟨b, 0, none⟩), .int .i64 k] w fun e w' => e = .returned (.tuple #[]) ∧ ∃ F', RW w' b now most (xs.eraseIdx k) F' ∧ Only F w w' ∧ StepF F F' w := by
  obtain ⟨v, hB, hO, hF⟩ := h
  have c0 := hB.at 2 rfl; have f0 := hB.fr 2 rfl
  rcases hO.form with ⟨rfl, rfl⟩ | ⟨g, cap, rfl, hg1, hg2, hcap, hmax, hcell⟩
  · exact absurd hk (Nat.not_lt_zero _)
  · obtain ⟨n, hn⟩ : ∃ n, n = xs.length := ⟨_, rfl⟩
    have HC := Lib.hid hcell
    rw [← hn] at c0 hcap hl hk
    have HN := Lib.hid hn
    have HB := Lib.hid hB; have HO := Lib.hid hO; have HF := Lib.hid hF
    clear hO hF hB hcell hn
    have hm2 : cap ≤ 9223372036854775807 := by unfold maxLen at hmax; omega
    clear hmax
    have hbl : b < w.heap.size := HB.out.1
    have first : ∀ (j : Nat) (u : Value), (cells (xs.take k))[j]? = some u → w.cell? ⟨g, 0 + j, none⟩ = some u := fun j u hj => by
      rw [Nat.zero_add]; rw [cells_take, List.getElem?_take] at hj
      split at hj
      · exact HC.out j u hj
      · cases hj
    have second : ∀ (j : Nat) (u : Value), (cells (xs.drop (k + 1)))[j]? = some u → w.cell? ⟨g, (k + 1) * 2 + j, none⟩ = some u := fun j u hj => by
      rw [cells_drop, List.getElem?_drop] at hj
      exact HC.out _ u hj
    have H1 := Lib.hid first; have H2 := Lib.hid second
    clear first second
    have l1 : (xs.take k).length = k := by rw [List.length_take, ← HN.out]; omega
    have l2 : (xs.drop (k + 1)).length = n - (k + 1) := by rw [List.length_drop, ← HN.out]
    have L1 := Lib.hid l1; have L2 := Lib.hid l2
    clear l1 l2
    have fin : ∀ (v2 : Value) (w1 w2 : World), Up w w1 → OwnT w2 w.heap.size v2 (xs.take k ++ xs.drop (k + 1)) → Up w w2 → ∃ F', RW (w2.setCell ⟨b, 2, none⟩ v2) b now most (xs.eraseIdx k) F' ∧ Only F w (w2.setCell ⟨b, 2, none⟩ v2) ∧ StepF F F' w := fun v2 w1 w2 u1 hO2 u2 => by
      have hB2 := (Box.up HB.out u2).set 2 v2
      have hO3 : OwnT (w2.setCell ⟨b, 2, none⟩ v2) w.heap.size v2 (xs.take k ++ xs.drop (k + 1)) := hO2.only (F := fun k => k = b) ((Only.refl (fun k => k = b) w2).set (p := ⟨b, 2, none⟩) (.inl rfl) v2) (fun k hk => by have := (own_lt hO2 k hk).1; show ¬ k = b; omega)
      refine ⟨fun j => j = b ∨ RowF v2 j, ⟨v2, hB2, ?_, fun _ => Iff.rfl⟩, (Only.up u2).set (.inl ((HF.out b).2 (.inl rfl))) _, fun j hj => ?_⟩
      · rw [← erase_eq]; exact hO3.mono (by omega)
      · rcases hj with rfl | hj
        · exact .inl ((HF.out j).2 (.inl rfl))
        · exact .inr (own_lt hO2 j hj).1
    have FIN := Lib.hid fin
    clear fin
    by_cases hcc : k + 1 < cap
    ·
      go_enter Try.func34, Try.ntmps34
      go_upto_region 2 with (at_builtin; refine appT (.tmp 5) (.tmp 11) g 0 k cap (xs.take k) (OwnT.nil_ w w.heap.size) rfl rfl rfl rfl L1.out H1.out (by simp) (by omega) (Nat.le_refl _) ?_; intro v1 w1 hO1 ho1 hs1)
      have u1 : Up w w1 := ho1.none_up (fun k e => by cases e)
      have HO1 := Lib.hid (show OwnT w1 w.heap.size v1 (xs.take k) from hO1)
      have c1 := (u1.cell (p := ⟨b, 2, none⟩) hbl).trans c0
      have f1 := (u1.frozen (p := ⟨b, 2, none⟩) hbl).trans f0
      clear hO1 ho1 hs1
      go_wp2_with (at_builtin; refine appT (.tmp 14) (.tmp 21) g ((k + 1) * 2) (n - (k + 1)) (cap - (k + 1)) (xs.drop (k + 1)) HO1.out rfl rfl rfl rfl L2.out (fun j u hj => (u1.cell (p := ⟨g, _, none⟩) hg2).trans (H2.out j u hj)) (by rw [L1.out]; omega) (by omega) u1.size ?_; intro v2 w2 hO2 ho2 hs2; obtain ⟨A2, n2, c2, e2⟩ := hO2.slice; subst e2; have u2 := ho2.to_up u1 (fun k hk => (own_lt HO1.out k hk).1); have f2 := (u2.frozen (p := ⟨b, 2, none⟩) hbl).trans f0; have c2 := (u2.cell (p := ⟨b, 2, none⟩) hbl).trans c0)
      go_end0
      exact ⟨rfl, FIN.out _ w1 w2 u1 hO2 u2⟩
    · obtain rfl : cap = k + 1 := by omega
      obtain rfl : n = k + 1 := by omega
      go_enter Try.func34, Try.ntmps34
      go_upto_region 2 with (at_builtin; refine appT (.tmp 5) (.tmp 11) g 0 k (k + 1) (xs.take k) (OwnT.nil_ w w.heap.size) rfl rfl rfl rfl L1.out H1.out (by simp) (by omega) (Nat.le_refl _) ?_; intro v1 w1 hO1 ho1 hs1)
      have u1 : Up w w1 := ho1.none_up (fun k e => by cases e)
      have HO1 := Lib.hid (show OwnT w1 w.heap.size v1 (xs.take k) from hO1)
      have c1 := (u1.cell (p := ⟨b, 2, none⟩) hbl).trans c0
      have f1 := (u1.frozen (p := ⟨b, 2, none⟩) hbl).trans f0
      clear hO1 ho1 hs1
      go_wp2_with (at_builtin; refine appT (.tmp 14) (.tmp 21) g 0 0 0 (xs.drop (k + 1)) HO1.out rfl rfl rfl rfl (by rw [L2.out]; omega) (fun j u hj => by rw [List.drop_eq_nil_of_le (by rw [← HN.out]; omega)] at hj; cases hj) (by rw [L1.out]; omega) (by omega) u1.size ?_; intro v2 w2 hO2 ho2 hs2; obtain ⟨A2, n2, c2, e2⟩ := hO2.slice; subst e2; have u2 := ho2.to_up u1 (fun k hk => (own_lt HO1.out k hk).1); have f2 := (u2.frozen (p := ⟨b, 2, none⟩) hbl).trans f0; have c2 := (u2.cell (p := ⟨b, 2, none⟩) hbl).trans c0)
      go_end0
      exact ⟨rfl, FIN.out _ w1 w2 u1 hO2 u2⟩
end Go.Proofs.Ytkgcnmloojnblaa.wh

namespace Go.Proofs.Ytkgcnmloojnblaa.wh
open Go.RowKit Go.Shelf Go.Lib Go.Proofs.Ytkgcnmloojnblaa.nb
set_option linter.unusedVariables false

set_option maxHeartbeats 8000000 in
set_option maxRecDepth 100000 in
theorem refFirst (b : Nat) (now most : Int) (xs : List Tm) (F : Nat → Prop) (at' : Int) (w : World) (h : RW w b now most xs F) (hl : xs.length ≤ 1048576) :
    Calls Try.prog 40 #[.pointer (some ⟨b, 0, none⟩), .int .i64 at'] w fun e w' => e = .returned (.int .i64 (firstZ xs at')) ∧ Up w w' := by
  obtain ⟨v, hB, hO, hF⟩ := h
  rcases hO.form with ⟨rfl, rfl⟩ | ⟨g, cap, rfl, hg1, hg2, hcap, hmax, hcell⟩
  · have c0 := hB.at 2 rfl
    clear hO hF hB
    go_enter Try.func40, Try.ntmps40
    go_wp2_with fail
    go_loopw [5, 6] (fun z i wr => z = .int .i64 (-1) ∧ i = .int .i64 0 ∧ wr = w) (fun _ _ _ => 0)
    case atStart => exact ⟨rfl, rfl, rfl⟩
    case round =>
      obtain ⟨rfl, rfl, rfl⟩ := hrel
      go_wp2
      go_ret
      exact ⟨rfl, Below.refl _ _⟩
  · have HO := Lib.hid hO
    obtain ⟨n, hn⟩ : ∃ n, n = xs.length := ⟨_, rfl⟩
    rw [← hn] at hcap hl
    have HN := Lib.hid hn
    have HB := Lib.hid (show Box w b [.int .i64 now, .int .i64 most, .slice (some ⟨g, 0, none⟩) n cap] by rw [hn]; exact hB)
    clear hO hF hB hcell
    have hm2 : cap ≤ 9223372036854775807 := by unfold maxLen at hmax; omega
    have c0 := HB.out.at 2 rfl
    clear hmax hn
    go_enter Try.func40, Try.ntmps40
    go_wp2_with fail
    go_loopw [5, 6] (fun z i wr => ∃ j : Nat, j ≤ n ∧ i = .int .i64 j ∧ z = .int .i64 (preZ xs at' j) ∧ Up w wr) (fun _ i _ => n - (intOf i).toNat)
    case atStart => exact ⟨0, Nat.zero_le _, rfl, rfl, Below.refl _ _⟩
    case round =>
      clear c0
      obtain ⟨j, hj, rfl, rfl, hu⟩ := hrel
      have c0 := (Box.up HB.out hu).at 2 rfl
      by_cases hlt : j < n
      · obtain ⟨g', cap', s, t, e, c1, c2, hx⟩ := (HO.out.up hu).at_ (k := j) (by rw [← HN.out]; exact hlt)
        cases e
        have E := Lib.hid (preZ_succ xs at' j)
        have T := Lib.hid (tmAt_of hx.out)
        rcases preZ_cases xs at' j with hz | ⟨m, hz, hmj⟩
        · rw [hz] at E ⊢
          by_cases d1 : t ≤ at'
          · have d1' : decide (t ≤ at') = true := decide_eq_true d1
            have E2 := Lib.hid (show stepZ xs at' (-1) j = j by unfold stepZ; rw [T.out, if_pos ⟨d1, .inl (by omega)⟩])
            clear hz
            go_upto_region 5 with fail
            go_quiet (fail)
            go_wp2_with fail
            go_roundw
            case rel => exact ⟨j + 1, by omega, by go_num, by rw [E.out, E2.out], up_drN _ hu⟩
            case measure => simp [RowKit.intOf]; omega
          · have d1' : decide (t ≤ at') = false := decide_eq_false d1
            have E2 := Lib.hid (show stepZ xs at' (-1) j = -1 by unfold stepZ; rw [T.out, if_neg (fun h => d1 h.1)])
            clear hz
            go_upto_region 5 with fail
            go_quiet (fail)
            go_wp2_with fail
            go_roundw
            case rel => exact ⟨j + 1, by omega, by go_num, by rw [E.out, E2.out], up_drN _ hu⟩
            case measure => simp [RowKit.intOf]; omega
        · obtain ⟨g', cap', s2, u, e, c3, c4, hx2⟩ := (HO.out.up hu).at_ (k := m) (by rw [← HN.out]; omega)
          cases e
          have T2 := Lib.hid (tmAt_of hx2.out)
          rw [hz] at E ⊢
          have e0 : ((m : Nat) : Int).toNat = m := Int.toNat_natCast m
          have hmn : m < n := by omega
          have d0 : decide ((m : Int) < 0) = false := decide_eq_false (by omega)
          by_cases d1 : t ≤ at'
          · have d1' : decide (t ≤ at') = true := decide_eq_true d1
            by_cases d2 : t < u
            · have d2' : decide (t < u) = true := decide_eq_true d2
              have E2 := Lib.hid (show stepZ xs at' m j = j by unfold stepZ; rw [e0, T.out, T2.out, if_pos ⟨d1, .inr d2⟩])
              clear hz e0
              go_upto_region 5 with fail
              go_quiet (fail)
              go_wp2_with fail
              go_roundw
              case rel => exact ⟨j + 1, by omega, by go_num, by rw [E.out, E2.out], up_drN _ hu⟩
              case measure => simp [RowKit.intOf]; omega
            · have d2' : decide (t < u) = false := decide_eq_false d2
              have E2 := Lib.hid (show stepZ xs at' m j = m by unfold stepZ; rw [e0, T.out, T2.out, if_neg]; rintro ⟨_, h⟩; omega)
              clear hz e0
              go_upto_region 5 with fail
              go_quiet (fail)
              go_wp2_with fail
              go_roundw
              case rel => exact ⟨j + 1, by omega, by go_num, by rw [E.out, E2.out], up_drN _ hu⟩
              case measure => simp [RowKit.intOf]; omega
          · have d1' : decide (t ≤ at') = false := decide_eq_false d1
            have E2 := Lib.hid (show stepZ xs at' m j = m by unfold stepZ; rw [T.out, if_neg (fun h => d1 h.1)])
            clear hz e0
            go_upto_region 5 with fail
            go_quiet (fail)
            go_wp2_with fail
            go_roundw
            case rel => exact ⟨j + 1, by omega, by go_num, by rw [E.out, E2.out], up_drN _ hu⟩
            case measure => simp [RowKit.intOf]; omega
      · obtain rfl : j = n := by omega
        go_wp2
        go_ret
        exact ⟨ret_int (by unfold firstZ; rw [← HN.out]), hu⟩
end Go.Proofs.Ytkgcnmloojnblaa.wh

namespace Go.Proofs.Ytkgcnmloojnblaa.wh
open Go.RowKit Go.Shelf Go.Lib Go.Proofs.Ytkgcnmloojnblaa.nb Go.Proofs.Ytkgcnmloojnblaa.ck
set_option linter.unusedVariables false

theorem cells_new {w : World} {key : ByteArray} {t : Int} : ∀ (j : Nat) (u : Value), (cells [(key, t)])[j]? = some u → (w.alloc (.cells #[.string key, .int .i64 t] 45)).cell? ⟨w.heap.size, 0 + j, none⟩ = some u := by
  intro j u hj
  have hB := Box.new w #[.string key, .int .i64 t] 45
  match j, hj with
  | 0, hj => cases hj; exact hB.at 0 rfl
  | 1, hj => cases hj; exact hB.at 1 rfl
theorem lt_al {w : World} {b : Nat} (o : Obj) (h : b < w.heap.size) : b + 1 ≤ (w.alloc o).heap.size := by rw [World.size_alloc]; omega
theorem pushed {w w1 w2 : World} {b : Nat} {now most : Int} {xs : List Tm} {F : Nat → Prop} {v v2 : Value} {x : Tm} (hB : Box w b [.int .i64 now, .int .i64 most, v]) (hO : OwnT w (b + 1) v xs) (hF : ∀ k, F k ↔ k = b ∨ RowF v k)
    (u : Up w w1) (hO2 : OwnT w2 (b + 1) v2 (xs ++ [x])) (o2 : Only (RowF v) w1 w2) (hs : ∀ k, RowF v2 k → RowF v k ∨ w1.heap.size ≤ k) :
    ∃ F', RW (w2.setCell ⟨b, 2, none⟩ v2) b now most (xs ++ [x]) F' ∧ Only F w (w2.setCell ⟨b, 2, none⟩ v2) ∧ StepF F F' w := by
  have hnb : ¬ RowF v b := fun h => by have := (own_lt hO b h).1; omega
  have hB2 := ((Box.up hB u).only o2 hnb).set 2 v2
  have hO3 : OwnT (w2.setCell ⟨b, 2, none⟩ v2) (b + 1) v2 (xs ++ [x]) := hO2.only (F := fun k => k = b) ((Only.refl (fun k => k = b) w2).set (p := ⟨b, 2, none⟩) (.inl rfl) v2) (fun k hk => by have := (own_lt hO2 k hk).1; show ¬ k = b; omega)
  have o3 : Only F w w2 := (Only.up (F := F) u).trans (o2.mono (G := F) (fun k hk => (hF k).2 (.inr hk))) (fun k hk => .inl hk)
  refine ⟨fun j => j = b ∨ RowF v2 j, ⟨v2, hB2, hO3, fun _ => Iff.rfl⟩, o3.set (p := ⟨b, 2, none⟩) (.inl ((hF b).2 (.inl rfl))) _, fun j hj => ?_⟩
  rcases hj with rfl | hj
  · exact .inl ((hF j).2 (.inl rfl))
  · rcases hs j hj with h | h
    · exact .inl ((hF j).2 (.inr h))
    · exact .inr (Nat.le_trans u.size h)

set_option maxHeartbeats 8000000 in
set_option maxRecDepth 100000 in
theorem refSet (b : Nat) (now most : Int) (xs : List Tm) (F : Nat → Prop) (key : ByteArray) (t : Int) (w : World) (h : RW w b now most xs F) (hl : xs.length ≤ 1048576) :
    Calls Try.prog 11 #[.pointer (some ⟨b, 0, none⟩), .string key, .int .i64 t] w fun e w' => e = .returned (.int .i64 (setC now most xs key t)) ∧ ∃ F', RW w' b now most (setL now most xs key t) F' ∧ Only F w w' ∧ StepF F F' w := by
  have H := Lib.hid h
  have same : ∃ F', RW w b now most xs F' ∧ Only F w w ∧ StepF F F' w := ⟨F, h, Only.refl _ _, fun k => .inl⟩
  cases c0 : mayB t
  · have E := Lib.hid (show setC now most xs key t = 2 by unfold setC; rw [if_neg]; rintro ⟨h, _⟩; rw [c0] at h; cases h)
    have E2 := Lib.hid (show setL now most xs key t = xs by unfold setL; rw [if_neg]; rintro ⟨h, _⟩; rw [c0] at h; cases h)
    have HM := Lib.hid (show ∀ w, Calls Try.prog 32 #[.int .i64 t] w fun e w' => e = .returned (.bool false) ∧ w = w' from fun w => by have := refMay t w; rwa [c0] at this)
    have S := Lib.hid same
    clear c0 h same
    rw [E.out, E2.out]
    go_enter Try.func11, Try.ntmps11
    go_wp2_with fail
    refine (HM.out _).mono ?_
    rintro e w' ⟨rfl, rfl⟩
    go_wp2
    go_ret
    exact ⟨rfl, S.out⟩
  have HM := Lib.hid (show ∀ w, Calls Try.prog 32 #[.int .i64 t] w fun e w' => e = .returned (.bool true) ∧ w = w' from fun w => by have := refMay t w; rwa [c0] at this)
  have S := Lib.hid same
  have c0' := Lib.hid c0
  obtain ⟨v, hB, hO, hF⟩ := h
  have d0 := hB.at 0 rfl; have d1 := hB.at 1 rfl; have d2 := hB.at 2 rfl
  by_cases c1 : now < t
  case neg =>
    have E := Lib.hid (show setC now most xs key t = 2 by unfold setC; rw [if_neg (fun h => c1 h.2)])
    have E2 := Lib.hid (show setL now most xs key t = xs by unfold setL; rw [if_neg (fun h => c1 h.2)])
    clear c0 same hB hO hF
    rw [E.out, E2.out]
    go_enter Try.func11, Try.ntmps11
    go_wp2_with fail
    refine (HM.out _).mono ?_
    rintro e w' ⟨rfl, rfl⟩
    go_wp2
    go_ret
    exact ⟨rfl, S.out⟩
  rcases findZ_bd xs key with hz | ⟨k, hz, hk⟩
  · by_cases c2 : most ≤ (xs.length : Int)
    · have E := Lib.hid (show setC now most xs key t = 6 by unfold setC; rw [if_pos ⟨c0, c1⟩, hz, if_neg (by omega), if_pos c2])
      have E2 := Lib.hid (show setL now most xs key t = xs by unfold setL; rw [if_pos ⟨c0, c1⟩, hz, if_neg (by omega), if_pos c2])
      obtain ⟨A, n, c, rfl⟩ := hO.slice
      have hn : n = xs.length := by rcases hO.form with ⟨e, rfl⟩ | ⟨g, cap, e, _⟩ <;> cases e <;> rfl
      have c2' : most ≤ (n : Int) := by rw [hn]; exact c2
      have HZ := Lib.hid (show ∀ w, RW w b now most xs F → Calls Try.prog 33 #[.pointer (some ⟨b, 0, none⟩), .string key] w fun e w' => e = .returned (.int .i64 (-1)) ∧ Up w w' from fun w h => by have := refFind b now most xs F key w h hl; rwa [hz] at this)
      clear c0 same hO hF hz c2 hn
      have HB := Lib.hid hB
      clear hB
      rw [E.out, E2.out]
      go_enter Try.func11, Try.ntmps11
      go_wp2_with fail
      refine (HM.out _).mono ?_
      rintro e w' ⟨rfl, rfl⟩
      go_wp2_with fail
      refine (HZ.out _ H.out).mono ?_
      rintro e w1 ⟨rfl, u1⟩
      have d1' := (Box.up HB.out u1).at 1 rfl; have d2' := (Box.up HB.out u1).at 2 rfl
      clear d0 d1 d2
      go_upto_region 6 with fail
      go_quiet (fail)
      go_wp2
      go_ret
      exact ⟨rfl, F, H.out.up (u1.on (up_drN _ (Below.refl _ _))), Only.up (u1.on (up_drN _ (Below.refl _ _))), fun k => .inl⟩
    · have E := Lib.hid (show setC now most xs key t = 0 by unfold setC; rw [if_pos ⟨c0, c1⟩, hz, if_neg (by omega), if_neg c2])
      have E2 := Lib.hid (show setL now most xs key t = xs ++ [(key, t)] by unfold setL; rw [if_pos ⟨c0, c1⟩, hz, if_neg (by omega), if_neg c2])
      obtain ⟨A, n, c, rfl⟩ := hO.slice
      have hn : n = xs.length := by rcases hO.form with ⟨e, rfl⟩ | ⟨g, cap, e, _⟩ <;> cases e <;> rfl
      have c2' : ¬ most ≤ (n : Int) := by rw [hn]; exact c2
      have HZ := Lib.hid (show ∀ w, RW w b now most xs F → Calls Try.prog 33 #[.pointer (some ⟨b, 0, none⟩), .string key] w fun e w' => e = .returned (.int .i64 (-1)) ∧ Up w w' from fun w h => by have := refFind b now most xs F key w h hl; rwa [hz] at this)
      have HB := Lib.hid hB; have HO := Lib.hid hO; have HF := Lib.hid hF
      clear c0 same hO hF hz c2 hn hB
      rw [E.out, E2.out]
      go_enter Try.func11, Try.ntmps11
      go_wp2_with fail
      refine (HM.out _).mono ?_
      rintro e w' ⟨rfl, rfl⟩
      go_wp2_with fail
      refine (HZ.out _ H.out).mono ?_
      rintro e w1 ⟨rfl, u1⟩
      have d1' := (Box.up HB.out u1).at 1 rfl; have d2' := (Box.up HB.out u1).at 2 rfl
      clear d0 d1 d2
      go_upto_region 6 with fail
      go_quiet (fail)
      have ux := u1.on (up_drN nq (Below.refl _ _))
      generalize w1.drewN nq = wx at ux ⊢
      clear d1' d2' u1
      have hBx := Box.up HB.out ux; have hOx := HO.out.up ux
      have d2 := hBx.at 2 rfl
      go_wp2_with (at_builtin; refine appT (.tmp 41) (.tmp 45) wx.heap.size 0 1 1 [(key, t)] (hOx.up (up_al _ (Below.refl _ _))) rfl rfl rfl rfl rfl cells_new (by omega) (by omega) (lt_al _ hBx.1) ?_; intro v2 w2 hO2 ho2 hs2; obtain ⟨A2, n2, c2, e2⟩ := hO2.slice; subst e2; have hbx := (Box.up hBx (up_al (.cells #[.string key, .int .i64 t] 45) (Below.refl _ _))).only ho2 (fun h => absurd (own_lt hOx b h).1 (by omega)); have f2 := hbx.fr 2 rfl; have g2 := hbx.at 2 rfl)
      go_ret
      exact ⟨rfl, pushed HB.out HO.out HF.out (ux.on (up_al _ (Below.refl _ _))) hO2 ho2 hs2⟩
  · have E := Lib.hid (show setC now most xs key t = 0 by unfold setC; rw [if_pos ⟨c0, c1⟩, hz, if_pos (by omega)])
    have E2 := Lib.hid (show setL now most xs key t = xs.eraseIdx k ++ [(key, t)] by unfold setL; rw [if_pos ⟨c0, c1⟩, hz, if_pos (by omega)]; rfl)
    have HZ := Lib.hid (show ∀ w, RW w b now most xs F → Calls Try.prog 33 #[.pointer (some ⟨b, 0, none⟩), .string key] w fun e w' => e = .returned (.int .i64 k) ∧ Up w w' from fun w h => by have := refFind b now most xs F key w h hl; rwa [hz] at this)
    have HG := Lib.hid (fun w h => refGone b now most xs F k w h hl hk)
    have le : (xs.eraseIdx k).length ≤ 1048576 := by rw [List.length_eraseIdx]; split <;> omega
    clear c0 same hO hF hz hB
    rw [E.out, E2.out]
    go_enter Try.func11, Try.ntmps11
    go_wp2_with fail
    refine (HM.out _).mono ?_
    rintro e w' ⟨rfl, rfl⟩
    go_wp2_with fail
    refine (HZ.out _ H.out).mono ?_
    rintro e w1 ⟨rfl, u1⟩
    clear d0 d1 d2
    go_wp2_with fail
    refine (HG.out _ (H.out.up u1)).mono ?_
    rintro e w3 ⟨rfl, F3, h3, o3, s3⟩
    obtain ⟨v3, hB3, hO3, hF3⟩ := h3
    obtain ⟨A3, n3, c3, rfl⟩ := hO3.slice
    have d2 := hB3.at 2 rfl
    have HB3 := Lib.hid hB3; have HO3 := Lib.hid hO3; have HF3 := Lib.hid hF3; have HO := Lib.hid o3; have HS := Lib.hid s3
    clear hF3 o3 s3
    go_wp2_with (at_builtin; refine appT (.tmp 41) (.tmp 45) w3.heap.size 0 1 1 [(key, t)] (hO3.up (up_al _ (Below.refl _ _))) rfl rfl rfl rfl rfl cells_new (by omega) (by omega) (lt_al _ hB3.1) ?_; intro v2 w2 hO2 ho2 hs2; obtain ⟨A2, n2, c2, e2⟩ := hO2.slice; subst e2; have hbx := (Box.up hB3 (up_al (.cells #[.string key, .int .i64 t] 45) (Below.refl _ _))).only ho2 (fun h => absurd (own_lt hO3 b h).1 (by omega)); have f2 := hbx.fr 2 rfl; have g2 := hbx.at 2 rfl)
    go_ret
    obtain ⟨F', q1, q2, q3⟩ := pushed HB3.out HO3.out HF3.out (up_al _ (Below.refl _ _)) hO2 ho2 hs2
    exact ⟨rfl, F', q1, (HO.out.trans q2 HS.out).behind u1, fun j hj => (q3 j hj).elim (fun h => (HS.out j h).elim .inl (fun e => .inr (Nat.le_trans u1.size e))) (fun e => .inr (Nat.le_trans u1.size (Nat.le_trans HO.out.size e)))⟩
end Go.Proofs.Ytkgcnmloojnblaa.wh

namespace Go.Proofs.Ytkgcnmloojnblaa.wh
open Go.RowKit Go.Shelf Go.Lib Go.Proofs.Ytkgcnmloojnblaa.nb Go.Proofs.Ytkgcnmloojnblaa.ck
set_option linter.unusedVariables false

theorem len_of {w : World} {B n c : Nat} {A : Option Addr} {xs : List Tm} (hO : OwnT w B (.slice A n c) xs) : n = xs.length := by rcases hO.form with ⟨e, rfl⟩ | ⟨g, cap, e, _⟩ <;> cases e <;> rfl

set_option maxHeartbeats 4000000 in
theorem refStop (b : Nat) (now most : Int) (xs : List Tm) (F : Nat → Prop) (key : ByteArray) (w : World) (h : RW w b now most xs F) (hl : xs.length ≤ 1048576) :
    Calls Try.prog 13 #[.pointer (some ⟨b, 0, none⟩), .string key] w fun e w' => e = .returned (.int .i64 (stopC xs key)) ∧ ∃ F', RW w' b now most (stopL xs key) F' ∧ Only F w w' ∧ StepF F F' w := by
  have H := Lib.hid h
  have hq := refFind b now most xs F key w h hl
  rcases findZ_bd xs key with hz | ⟨k, hz, hk⟩
  · have E := Lib.hid (show stopC xs key = 0 by unfold stopC; rw [hz]; rfl)
    have E2 := Lib.hid (show stopL xs key = xs by unfold stopL; rw [hz]; rfl)
    rw [hz] at hq
    rw [E.out, E2.out]
    clear h hz
    go_enter Try.func13, Try.ntmps13
    go_wp2_with fail
    refine hq.mono ?_
    rintro e w1 ⟨rfl, u1⟩
    go_wp2
    go_ret
    exact ⟨rfl, F, H.out.up u1, Only.up u1, fun k => .inl⟩
  · have E := Lib.hid (show stopC xs key = 1 by unfold stopC; rw [hz, if_pos (by omega)])
    have E2 := Lib.hid (show stopL xs key = xs.eraseIdx k by unfold stopL; rw [hz, if_pos (by omega)]; rfl)
    have HG := Lib.hid (fun w h => refGone b now most xs F k w h hl hk)
    rw [hz] at hq
    rw [E.out, E2.out]
    clear h hz
    go_enter Try.func13, Try.ntmps13
    go_wp2_with fail
    refine hq.mono ?_
    rintro e w1 ⟨rfl, u1⟩
    go_wp2_with fail
    refine (HG.out _ (H.out.up u1)).mono ?_
    rintro e w3 ⟨rfl, F3, h3, o3, s3⟩
    have h3' := Lib.hid h3; have o3' := Lib.hid o3; have s3' := Lib.hid s3
    clear h3 o3 s3
    go_wp2
    go_ret
    exact ⟨rfl, F3, h3'.out, o3'.out.behind u1, fun j hj => (s3'.out j hj).elim .inl (fun e => .inr (Nat.le_trans u1.size e))⟩
set_option maxHeartbeats 4000000 in
theorem refAt (b : Nat) (now most : Int) (xs : List Tm) (F : Nat → Prop) (key : ByteArray) (w : World) (h : RW w b now most xs F) (hl : xs.length ≤ 1048576) :
    Calls Try.prog 17 #[.pointer (some ⟨b, 0, none⟩), .string key] w fun e w' => e = .returned (.tuple #[.int .i64 (atV xs key).1, .bool (atV xs key).2]) ∧ Up w w' := by
  have hq := refFind b now most xs F key w h hl
  rcases findZ_bd xs key with hz | ⟨k, hz, hk⟩
  · have E := Lib.hid (show atV xs key = (0, false) by unfold atV; rw [hz]; rfl)
    rw [hz] at hq
    rw [E.out]
    clear h hz
    go_enter Try.func17, Try.ntmps17
    go_wp2_with fail
    refine hq.mono ?_
    rintro e w1 ⟨rfl, u1⟩
    go_wp2
    go_ret2
    exact ⟨rfl, u1⟩
  · obtain ⟨v, hB, hO, hF⟩ := h
    obtain ⟨g, cap, s, t, rfl, c1, c2, hx⟩ := hO.at_ hk
    have E := Lib.hid (show atV xs key = (t, true) by unfold atV; rw [hz, if_pos (by omega), Int.toNat_natCast, tmAt_of hx.out])
    have HB := Lib.hid hB; have HO := Lib.hid hO
    obtain ⟨n, hn⟩ : ∃ n, n = xs.length := ⟨_, rfl⟩
    have hkn : k < n := by omega
    have hm : n ≤ 1048576 := by omega
    have hlt : g < w.heap.size := (own_lt hO g rfl).2
    rw [hz] at hq
    rw [E.out]
    have c0 := hB.at 2 rfl
    rw [← hn] at c0
    have hb := hB.1
    clear hB hO hF hz hx hk hn hl
    go_enter Try.func17, Try.ntmps17
    go_wp2_with fail
    refine hq.mono ?_
    rintro e w1 ⟨rfl, u1⟩
    have c0' := (u1.cell (p := ⟨b, 2, none⟩) hb).trans c0
    have c2' := (u1.cell (p := ⟨g, k * 2 + 1, none⟩) hlt).trans c2
    clear c0 c1 c2
    go_wp2
    go_ret2
    exact ⟨rfl, u1⟩
set_option maxHeartbeats 4000000 in
theorem refNext (b : Nat) (now most : Int) (xs : List Tm) (F : Nat → Prop) (w : World) (h : RW w b now most xs F) (hl : xs.length ≤ 1048576) :
    Calls Try.prog 19 #[.pointer (some ⟨b, 0, none⟩)] w fun e w' => e = .returned (.tuple #[.int .i64 (nextV xs).1, .bool (nextV xs).2]) ∧ Up w w' := by
  have hq := refFirst b now most xs F 17592186044416 w h hl
  rcases firstZ_bd xs 17592186044416 with hz | ⟨k, hz, hk⟩
  · have E := Lib.hid (show nextV xs = (0, false) by unfold nextV; rw [hz]; rfl)
    rw [hz] at hq
    rw [E.out]
    clear h hz
    go_enter Try.func19, Try.ntmps19
    go_wp2_with fail
    refine hq.mono ?_
    rintro e w1 ⟨rfl, u1⟩
    go_wp2
    go_ret2
    exact ⟨rfl, u1⟩
  · obtain ⟨v, hB, hO, hF⟩ := h
    obtain ⟨g, cap, s, t, rfl, c1, c2, hx⟩ := hO.at_ hk
    have E := Lib.hid (show nextV xs = (t, true) by unfold nextV; rw [hz, if_pos (by omega), Int.toNat_natCast, tmAt_of hx.out])
    obtain ⟨n, hn⟩ : ∃ n, n = xs.length := ⟨_, rfl⟩
    have hkn : k < n := by omega
    have hm : n ≤ 1048576 := by omega
    have hlt : g < w.heap.size := (own_lt hO g rfl).2
    rw [hz] at hq
    rw [E.out]
    have c0 := hB.at 2 rfl
    rw [← hn] at c0
    have hb := hB.1
    clear hB hO hF hz hx hk hn hl
    go_enter Try.func19, Try.ntmps19
    go_wp2_with fail
    refine hq.mono ?_
    rintro e w1 ⟨rfl, u1⟩
    have c0' := (u1.cell (p := ⟨b, 2, none⟩) hb).trans c0
    have c2' := (u1.cell (p := ⟨g, k * 2 + 1, none⟩) hlt).trans c2
    clear c0 c1 c2
    go_wp2
    go_ret2
    exact ⟨rfl, u1⟩
end Go.Proofs.Ytkgcnmloojnblaa.wh

namespace Go.Proofs.Ytkgcnmloojnblaa.wh
open Go.RowKit Go.Shelf Go.Lib Go.Proofs.Ytkgcnmloojnblaa.nb Go.Proofs.Ytkgcnmloojnblaa.ck
set_option linter.unusedVariables false

theorem RW.setNow {w : World} {b : Nat} {now most : Int} {xs : List Tm} {F : Nat → Prop} (h : RW w b now most xs F) (t : Int) : RW (w.setCell ⟨b, 0, none⟩ (.int .i64 t)) b t most xs F ∧ Only F w (w.setCell ⟨b, 0, none⟩ (.int .i64 t)) := by
  obtain ⟨v, hB, hO, hF⟩ := h
  refine ⟨⟨v, hB.set 0 _, hO.only (F := fun k => k = b) ((Only.refl (fun k => k = b) w).set (p := ⟨b, 0, none⟩) (.inl rfl) _) (fun k hk => by have := (own_lt hO k hk).1; show ¬ k = b; omega), hF⟩, (Only.refl F w).set (p := ⟨b, 0, none⟩) (.inl ((hF b).2 (.inl rfl))) _⟩

structure GoInv (w : World) (b : Nat) (t most : Int) (xs : List Tm) (F : Nat → Prop) (out : Value) (wr : World) (acc ys : List Tm) (G : Nat → Prop) : Prop where
  own : OwnT wr w.heap.size out acc
  rw_ : RW wr b t most ys G
  only : Only F w wr
  step : StepF F G w
  apart : ∀ k, RowF out k → ¬ G k
  all : acc ++ told t ys = told t xs
  rest : stay t ys = stay t xs
  len : acc.length + ys.length = xs.length
set_option maxHeartbeats 8000000 in
set_option maxRecDepth 100000 in
theorem refGo (b : Nat) (now most : Int) (xs : List Tm) (F : Nat → Prop) (t : Int) (w : World) (h : RW w b now most xs F) (hl : xs.length ≤ 4096) (h0 : mayB t = true) (h1 : ¬ t < now) :
    Calls Try.prog 15 #[.pointer (some ⟨b, 0, none⟩), .int .i64 t] w fun e w' => ∃ out F', e = .returned (.tuple #[out, .int .i64 0]) ∧ RW w' b t most (stay t xs) F' ∧ Only F w w' ∧ StepF F F' w ∧ OwnT w' w.heap.size out (told t xs) ∧ ∀ k, RowF out k → ¬ F' k := by
  have HM := Lib.hid (show ∀ w, Calls Try.prog 32 #[.int .i64 t] w fun e w' => e = .returned (.bool true) ∧ w = w' from fun w => by have := refMay t w; rwa [h0] at this)
  have H := Lib.hid h
  obtain ⟨r1, r2⟩ := h.setNow t
  have HR := Lib.hid r1; have HO := Lib.hid r2
  obtain ⟨v, hB, hO, hF⟩ := h
  have d0 := hB.at 0 rfl; have f0 := hB.fr 0 rfl
  have hb := hB.1
  clear hB hO hF r1 r2 h0
  go_enter Try.func15, Try.ntmps15
  go_wp2_with fail
  refine (HM.out _).mono ?_
  rintro e w' ⟨rfl, rfl⟩
  go_upto_region 6 with fail
  have hz0 : w.heap.size ≤ (w.setCell ⟨b, 0, none⟩ (.int .i64 t)).heap.size := HO.out.size
  have HR0 := Lib.hid HR.out; have HO0 := Lib.hid HO.out
  generalize w.setCell ⟨b, 0, none⟩ (.int .i64 t) = ws at HR0 HO0 hz0 ⊢
  clear d0 f0 HR HO
  go_wp2_with fail
  go_loopw [6] (fun out wr => ∃ (acc ys : List Tm) (G : Nat → Prop), GoInv w b t most xs F out wr acc ys G) (fun out _ => 4097 - lenV out)
  case atStart => exact ⟨[], xs, F, ⟨OwnT.nil_ _ _, HR0.out, HO0.out, fun k => .inl, fun k e => (by cases e), rfl, rfl, Nat.zero_add _⟩⟩
  case round =>
    obtain ⟨acc, ys, G, q⟩ := hrel
    have I := Lib.hid q
    clear HR0 HO0 hz0
    obtain ⟨A, n, c, rfl⟩ := q.own.slice
    have hn := len_of q.own
    have q8 := q.len
    have hn2 : n ≤ 4096 := by omega
    have hq := refFirst b t most ys G t _ q.rw_ (by omega)
    rcases firstZ_bd ys t with hz | ⟨k, hz, hk⟩
    · obtain ⟨e1, e2⟩ := told_no hz
      rw [hz] at hq
      have Q6' := Lib.hid (show acc = told t xs by rw [← q.all, e1, List.append_nil])
      have Q7' := Lib.hid (show ys = stay t xs by rw [← q.rest, e2])
      clear hz e1 e2 hn q8 q
      go_wp2_with fail
      refine hq.mono ?_
      rintro e w1 ⟨rfl, u1⟩
      go_wp2
      go_ret2
      exact ⟨_, G, rfl, by rw [← Q7'.out]; exact I.out.rw_.up u1, I.out.only.on u1, I.out.step, by rw [← Q6'.out]; exact I.out.own.up u1, I.out.apart⟩
    · obtain ⟨v, hB, hO, hF⟩ := q.rw_
      obtain ⟨g, cap, s, u, rfl, c1, c2, hx⟩ := hO.at_ hk
      obtain ⟨e1, e2⟩ := told_one hz hx.out
      rw [hz] at hq
      obtain ⟨m, hm⟩ : ∃ m, m = ys.length := ⟨_, rfl⟩
      have hkm : k < m := by omega
      have hm2 : m ≤ 4096 := by omega
      have e4 : (ys.eraseIdx k).length = ys.length - 1 := by rw [List.length_eraseIdx, if_pos hk]
      have hG := Lib.hid (fun w h => refGone b t most ys G k w h (by omega) hk)
      have c0 := hB.at 2 rfl
      rw [← hm] at c0
      have hb1 := hB.1
      have hlt := (own_lt hO g rfl).2
      have A1 := Lib.hid (show (acc ++ [(s, u)]) ++ told t (ys.eraseIdx k) = told t xs by rw [List.append_assoc, ← q.all, e1]; rfl)
      have A2 := Lib.hid (show stay t (ys.eraseIdx k) = stay t xs by rw [← q.rest, e2])
      have A3 := Lib.hid (show (acc ++ [(s, u)]).length + (ys.eraseIdx k).length = xs.length by rw [List.length_append, e4]; simp; omega)
      have A4 : n + 1 ≤ 4096 := by omega
      have la := Lib.hid (show acc.length < 1099511627776 by omega)
      have na := Lib.hid (show (acc ++ [(s, u)]).length = n + 1 by rw [List.length_append, ← hn]; rfl)
      clear hB hO hF hz hx e1 e2 e4 q hk hn q8 hm
      go_wp2_with fail
      refine hq.mono ?_
      rintro e w1 ⟨rfl, u1⟩
      have c0' := (u1.cell (p := ⟨b, 2, none⟩) hb1).trans c0
      have c1' := (u1.cell (p := ⟨g, k * 2, none⟩) hlt).trans c1
      have c2' := (u1.cell (p := ⟨g, k * 2 + 1, none⟩) hlt).trans c2
      have hz1 : w.heap.size ≤ w1.heap.size := Nat.le_trans I.out.only.size u1.size
      clear c0 c1 c2
      go_upto_region 11 with (at_builtin; refine appT (.tmp 29) (.tmp 37) w1.heap.size 0 1 1 [(s, u)] (I.out.own.up (u1.on (up_al _ (Below.refl _ _)))) rfl rfl rfl rfl rfl cells_new la.out (by omega) (Nat.le_trans hz1 (by simp)) ?_; intro v2 w2 hO2 ho2 hs2)
      have uu : Up _ _ := u1.on (up_al (.cells #[.string s, .int .i64 u] 45) (Below.refl _ _))
      have R2 := Lib.hid ((I.out.rw_.up uu).only ho2 (fun k hk h => I.out.apart k h hk))
      have O2 := Lib.hid ((I.out.only.on uu).trans ho2 (fun k hk => .inr (own_lt I.out.own k hk).1))
      have S2 := Lib.hid hs2; have B2 := Lib.hid ho2.size; have UU := Lib.hid uu.size
      obtain ⟨A', n', c', e⟩ := hO2.slice
      subst e
      have e5 : n' = n + 1 := (len_of hO2).trans na.out
      subst e5
      have HO2 := Lib.hid hO2
      clear hO2 ho2 hs2 uu c0' c1' c2'
      have D := Lib.hid (show ∀ k, RowF (.slice A' (n + 1) c') k → ¬ G k from fun k hk hg => by
        rcases S2.out k hk with h | h
        · exact I.out.apart k h hg
        · have := (I.out.rw_.lt k hg).2; have := UU.out; omega)
      go_wp2_with fail
      refine (hG.out _ R2.out).mono ?_
      rintro e w3 ⟨rfl, G', h3, o3, s3⟩
      have J : GoInv w b t most xs F (.slice A' (n + 1) c') w3 (acc ++ [(s, u)]) (ys.eraseIdx k) G' := ⟨HO2.out.only o3 D.out, h3, O2.out.trans o3 I.out.step,
        fun j hj => (s3 j hj).elim (fun h => I.out.step j h) (fun h => .inr (Nat.le_trans O2.out.size h)),
        fun j hj hg => (s3 j hg).elim (D.out j hj) (fun h => by have := (own_lt HO2.out j hj).2; omega), A1.out, A2.out, A3.out⟩
      have JJ := Lib.hid J
      clear h3 o3 s3 J
      go_wp2
      go_roundw
      case rel => exact ⟨_, _, _, JJ.out⟩
      case measure => show 4097 - (n + 1) < 4097 - n; omega
end Go.Proofs.Ytkgcnmloojnblaa.wh

namespace Go.Proofs.Ytkgcnmloojnblaa.wh
open Go.RowKit Go.Shelf Go.Lib Go.Proofs.Ytkgcnmloojnblaa.nb Go.Proofs.Ytkgcnmloojnblaa.ck
set_option linter.unusedVariables false

set_option maxHeartbeats 4000000 in
theorem refGo_arg (b : Nat) (now most : Int) (xs : List Tm) (F : Nat → Prop) (t : Int) (w : World) (h : RW w b now most xs F) (h0 : mayB t = false) :
    Calls Try.prog 15 #[.pointer (some ⟨b, 0, none⟩), .int .i64 t] w fun e w' => e = .returned (.tuple #[.slice none 0 0, .int .i64 2]) ∧ w = w' := by
  have HM := Lib.hid (show ∀ w, Calls Try.prog 32 #[.int .i64 t] w fun e w' => e = .returned (.bool false) ∧ w = w' from fun w => by have := refMay t w; rwa [h0] at this)
  clear h0 h
  go_enter Try.func15, Try.ntmps15
  go_wp2_with fail
  refine (HM.out _).mono ?_
  rintro e w' ⟨rfl, rfl⟩
  go_wp2
  go_ret2
  exact ⟨rfl, rfl⟩
set_option maxHeartbeats 4000000 in
theorem refGo_over (b : Nat) (now most : Int) (xs : List Tm) (F : Nat → Prop) (t : Int) (w : World) (h : RW w b now most xs F) (h0 : mayB t = true) (h1 : t < now) :
    Calls Try.prog 15 #[.pointer (some ⟨b, 0, none⟩), .int .i64 t] w fun e w' => e = .returned (.tuple #[.slice none 0 0, .int .i64 9]) ∧ w = w' := by
  have HM := Lib.hid (show ∀ w, Calls Try.prog 32 #[.int .i64 t] w fun e w' => e = .returned (.bool true) ∧ w = w' from fun w => by have := refMay t w; rwa [h0] at this)
  obtain ⟨v, hB, hO, hF⟩ := h
  have d0 := hB.at 0 rfl
  clear h0 hB hO hF
  go_enter Try.func15, Try.ntmps15
  go_wp2_with fail
  refine (HM.out _).mono ?_
  rintro e w' ⟨rfl, rfl⟩
  go_wp2
  go_ret2
  exact ⟨rfl, rfl⟩

end Go.Proofs.Ytkgcnmloojnblaa.wh

namespace Go.Proofs.Ytkgcnmloojnblaa.wh
open Go.RowKit Go.Shelf Go.Lib Go.Proofs.Ytkgcnmloojnblaa.nb Go.Proofs.Ytkgcnmloojnblaa.ck
set_option linter.unusedVariables false

theorem obR : Ob RW := ⟨fun h k hk => (h.lt k hk).2, RW.only⟩
section
variable {P Q LW : WP} {wS w w' : World} {Z F G : Nat → Prop} {b c : Nat} {n1 n2 n1' n2' m : Int} {x1 x2 x1' x2' : List Tm}
theorem TwoE.len1 (T : TwoE P Q wS Z w b c n1 x1 n2 x2 m) : x1.length ≤ 4096 := by obtain ⟨F, G, T⟩ := T; have := T.l1; have := T.hm; omega
theorem TwoE.ref (T : TwoE LW RW wS Z w b c n1 x1 n2 x2 m) : ∃ A k, w.cell? ⟨c, 0, none⟩ = some (.int .i64 n2) ∧ w.cell? ⟨c, 2, none⟩ = some (.slice A x2.length k) := by
  obtain ⟨F, G, T⟩ := T
  obtain ⟨v, hB, hO, hF⟩ := T.rw_
  obtain ⟨A, n, k, rfl⟩ := hO.slice
  have := len_of hO
  exact ⟨A, k, hB.at 0 rfl, by rw [← this]; exact hB.at 2 rfl⟩

theorem RdK.new2 (w : World) (k o : ByteArray) (T : TypeId) : RdK (w.alloc (.cells #[.string k, .string o] T)) (some ⟨w.heap.size, 0, none⟩) [k, o] := fun _ => by
  have hB := Box.new w #[.string k, .string o] T
  refine ⟨w.heap.size, 0, rfl, hB.1, fun j hj => ?_⟩
  match j, hj with
  | 0, _ => exact hB.at 0 rfl
  | 1, _ => exact hB.at 1 rfl
theorem stopC_bd (x : List Tm) (k : ByteArray) : 0 ≤ stopC x k ∧ stopC x k ≤ 1 := by unfold stopC; split <;> omega
/-! ### the calls -/
theorem cSetL (W : WhS LW) (T : TwoE LW RW wS Z w b c n1 x1 n2 x2 m) (key : ByteArray) (t : Int) (ht : I64 t) : Calls Try.prog 10 #[.pointer (some ⟨b, 0, none⟩), .string key, .int .i64 t] w fun e w' => e = .returned (.int .i64 (setC n1 m x1 key t)) ∧ TwoE LW RW wS Z w' b c n1 (setL n1 m x1 key t) n2 x2 m := by
  obtain ⟨F, G, T⟩ := T
  refine (W.set key t T.lw trivial ht).mono ?_
  rintro e w' ⟨rfl, F', h, o, s⟩
  exact ⟨rfl, F', G, T.stepL (obW W.toWh) obR h o s (setL_len T.l1)⟩
theorem cSetR (W : WhS LW) (T : TwoE LW RW wS Z w b c n1 x1 n2 x2 m) (key : ByteArray) (t : Int) : Calls Try.prog 11 #[.pointer (some ⟨c, 0, none⟩), .string key, .int .i64 t] w fun e w' => e = .returned (.int .i64 (setC n2 m x2 key t)) ∧ TwoE LW RW wS Z w' b c n1 x1 n2 (setL n2 m x2 key t) m := by
  have hl := T.len2
  obtain ⟨F, G, T⟩ := T
  refine (refSet c n2 m x2 G key t w T.rw_ (by omega)).mono ?_
  rintro e w' ⟨rfl, G', h, o, s⟩
  exact ⟨rfl, F, G', T.stepR (obW W.toWh) obR h o s (setL_len T.l2)⟩
theorem cStopL (W : WhS LW) {w0 : World} (T : TwoE LW RW wS Z w0 b c n1 x1 n2 x2 m) (u : Up w0 w) (A : Option Addr) (cp : Nat) (ks : List ByteArray) (hr : RdK w A ks) (hg : ∀ g off, A = some ⟨g, off, none⟩ → w0.heap.size ≤ g) (hk : ks.length ≤ 2) : Calls Try.prog 12 #[.pointer (some ⟨b, 0, none⟩), .slice A ks.length cp] w fun e w' => e = .returned (.int .i64 (stopsC x1 ks)) ∧ TwoE LW RW wS Z w' b c n1 (stopsL x1 ks) n2 x2 m := by
  obtain ⟨F, G, T0⟩ := T
  have T := T0.same (obW W.toWh) obR u
  refine (W.stop A cp ks T.lw hr (fun g off e hf => by have := W.lt T0.lw g hf; have := hg g off e; omega) hk).mono ?_
  rintro e w' ⟨rfl, F', h, o, s⟩
  exact ⟨rfl, F', G, T.stepL (obW W.toWh) obR h o s (by have := stopsL_len ks x1; have := T.l1; omega)⟩
theorem cStopR (W : WhS LW) (T : TwoE LW RW wS Z w b c n1 x1 n2 x2 m) (key : ByteArray) : Calls Try.prog 13 #[.pointer (some ⟨c, 0, none⟩), .string key] w fun e w' => e = .returned (.int .i64 (stopC x2 key)) ∧ TwoE LW RW wS Z w' b c n1 x1 n2 (stopL x2 key) m := by
  have hl := T.len2
  obtain ⟨F, G, T⟩ := T
  refine (refStop c n2 m x2 G key w T.rw_ (by omega)).mono ?_
  rintro e w' ⟨rfl, G', h, o, s⟩
  exact ⟨rfl, F, G', T.stepR (obW W.toWh) obR h o s (by have := stopL_len x2 key; have := T.l2; omega)⟩
theorem cAtL (W : WhS LW) (T : TwoE LW RW wS Z w b c n1 x1 n2 x2 m) (key : ByteArray) : Calls Try.prog 16 #[.pointer (some ⟨b, 0, none⟩), .string key] w fun e w' => e = .returned (.tuple #[.int .i64 (atV x1 key).1, .bool (atV x1 key).2]) ∧ TwoE LW RW wS Z w' b c n1 x1 n2 x2 m := by
  obtain ⟨F, G, T⟩ := T
  refine (W.at_ key T.lw).mono ?_
  rintro e w' ⟨rfl, F', h, o, s⟩
  exact ⟨rfl, F', G, T.stepL (obW W.toWh) obR h o s T.l1⟩
theorem cAtR (W : WhS LW) (T : TwoE LW RW wS Z w b c n1 x1 n2 x2 m) (key : ByteArray) : Calls Try.prog 17 #[.pointer (some ⟨c, 0, none⟩), .string key] w fun e w' => e = .returned (.tuple #[.int .i64 (atV x2 key).1, .bool (atV x2 key).2]) ∧ TwoE LW RW wS Z w' b c n1 x1 n2 x2 m := by
  have hl := T.len2
  obtain ⟨F, G, T⟩ := T
  refine (refAt c n2 m x2 G key w T.rw_ (by omega)).mono ?_
  rintro e w' ⟨rfl, u⟩
  exact ⟨rfl, F, G, T.same (obW W.toWh) obR u⟩
theorem cNextL (W : WhS LW) (T : TwoE LW RW wS Z w b c n1 x1 n2 x2 m) : Calls Try.prog 18 #[.pointer (some ⟨b, 0, none⟩)] w fun e w' => e = .returned (.tuple #[.int .i64 (nextV x1).1, .bool (nextV x1).2]) ∧ TwoE LW RW wS Z w' b c n1 x1 n2 x2 m := by
  obtain ⟨F, G, T⟩ := T
  refine (W.next T.lw).mono ?_
  rintro e w' ⟨rfl, F', h, o, s⟩
  exact ⟨rfl, F', G, T.stepL (obW W.toWh) obR h o s T.l1⟩
theorem cNextR (W : WhS LW) (T : TwoE LW RW wS Z w b c n1 x1 n2 x2 m) : Calls Try.prog 19 #[.pointer (some ⟨c, 0, none⟩)] w fun e w' => e = .returned (.tuple #[.int .i64 (nextV x2).1, .bool (nextV x2).2]) ∧ TwoE LW RW wS Z w' b c n1 x1 n2 x2 m := by
  have hl := T.len2
  obtain ⟨F, G, T⟩ := T
  refine (refNext c n2 m x2 G w T.rw_ (by omega)).mono ?_
  rintro e w' ⟨rfl, u⟩
  exact ⟨rfl, F, G, T.same (obW W.toWh) obR u⟩
theorem cLenL (W : WhS LW) (T : TwoE LW RW wS Z w b c n1 x1 n2 x2 m) : Calls Try.prog 20 #[.pointer (some ⟨b, 0, none⟩)] w fun e w' => e = .returned (.int .i64 x1.length) ∧ Up w w' := by
  obtain ⟨F, G, T⟩ := T
  exact W.len T.lw
theorem cNowL (W : WhS LW) (T : TwoE LW RW wS Z w b c n1 x1 n2 x2 m) : Calls Try.prog 21 #[.pointer (some ⟨b, 0, none⟩)] w fun e w' => e = .returned (.int .i64 n1) ∧ Up w w' := by
  obtain ⟨F, G, T⟩ := T
  exact W.now_ T.lw
theorem cGoL (W : WhS LW) (T : TwoE LW RW wS Z w b c n1 x1 n2 x2 m) (t : Int) (ht : I64 t) : Calls Try.prog 14 #[.pointer (some ⟨b, 0, none⟩), .int .i64 t] w fun e w' => ∃ A n cp Z1, e = .returned (.tuple #[.slice A n cp, .int .i64 (goC n1 t)]) ∧ TwoE LW RW w' Z1 w' b c (goW n1 t) (goS n1 t x1) n2 x2 m ∧ (∀ k, Z1 k → Z k ∨ wS.heap.size ≤ k) ∧ Only Z wS w' ∧ TL (fun s => .string s) w' A n (goT n1 t x1) 0 Z1 := by
  obtain ⟨F, G, T⟩ := T
  refine (W.go t T.lw ht).mono ?_
  rintro e w' ⟨A, n, cp, F', rfl, h, o, s, hT⟩
  have T1 := T.stepL (obW W.toWh) obR h o s (by have := goS_len n1 t x1; have := T.l1; omega)
  refine ⟨A, n, cp, fun k => F' k ∨ G k, rfl, ⟨F', G, T1.lw, T1.rw_, fun k h => .inl (.inl h), fun k h => .inl (.inr h), T1.ap, Only.refl _ _, T1.l1, T1.l2, T1.hm⟩, fun k hk => hk.elim (T1.fF k) (T1.fG k), T1.on, hT.len, fun hn => ?_⟩
  obtain ⟨g, off, e, h1, h2, h3, h4⟩ := hT.row hn
  exact ⟨g, off, e, Nat.zero_le _, h2, fun hz => hz.elim h3 (fun hg => by have := (T.rw_.lt g hg).2; omega), h4⟩
theorem TL.ofOwn {B n c : Nat} {A : Option Addr} {xs : List Tm} (h : OwnT w B (.slice A n c) xs) (hF : ∀ k, RowF (.slice A n c) k → ¬ F k) : TL (fun s => .string s) w A n xs 0 F := by
  have hn := len_of h
  rcases h.form with ⟨e, rfl⟩ | ⟨g, cap, e, hB, hg, h1, h2, hc⟩
  · cases e; exact TL.nil_
  · cases e
    refine ⟨rfl, fun _ => ⟨g, 0, rfl, Nat.zero_le _, hg, hF g rfl, fun k hk => ?_⟩⟩
    obtain ⟨c1, c2⟩ := cells_at xs k hk
    rw [Nat.zero_add]
    exact ⟨hc _ _ c1, hc _ _ c2⟩
theorem cGoR (W : WhS LW) (T : TwoE LW RW wS Z w b c n1 x1 n2 x2 m) (t : Int) : Calls Try.prog 15 #[.pointer (some ⟨c, 0, none⟩), .int .i64 t] w fun e w' => ∃ A n cp, e = .returned (.tuple #[.slice A n cp, .int .i64 (goC n2 t)]) ∧ TwoE LW RW wS Z w' b c n1 x1 (goW n2 t) (goS n2 t x2) m ∧ TL (fun s => .string s) w' A n (goT n2 t x2) 0 (fun _ => False) := by
  have hl := T.len2
  obtain ⟨F, G, T⟩ := T
  cases h0 : mayB t
  · have e1 : goC n2 t = 2 := by unfold goC; rw [h0]; rfl
    unfold goW goS goT
    rw [e1]
    refine (refGo_arg c n2 m x2 G t w T.rw_ h0).mono ?_
    rintro e w' ⟨rfl, rfl⟩
    exact ⟨none, 0, 0, rfl, ⟨F, G, T⟩, TL.nil_⟩
  · by_cases h1 : t < n2
    · have e1 : goC n2 t = 9 := by unfold goC; rw [h0, if_pos rfl, if_pos h1]
      unfold goW goS goT
      rw [e1]
      refine (refGo_over c n2 m x2 G t w T.rw_ h0 h1).mono ?_
      rintro e w' ⟨rfl, rfl⟩
      exact ⟨none, 0, 0, rfl, ⟨F, G, T⟩, TL.nil_⟩
    · have e1 : goC n2 t = 0 := by unfold goC; rw [h0, if_pos rfl, if_neg h1]
      unfold goW goS goT
      rw [e1]
      refine (refGo c n2 m x2 G t w T.rw_ hl h0 h1).mono ?_
      rintro e w' ⟨out, G', rfl, h, o, s, hO, hd⟩
      obtain ⟨A, n, k, rfl⟩ := hO.slice
      exact ⟨A, n, k, rfl, ⟨F, G', T.stepR (obW W.toWh) obR h o s (by have := stay_len t x2; have := T.l2; show (((if (0 : Int) = 0 then stay t x2 else x2).length : Nat) : Int) ≤ m; rw [if_pos rfl]; omega)⟩, TL.ofOwn hO (fun _ _ => id)⟩
end
end Go.Proofs.Ytkgcnmloojnblaa.wh

namespace Go.Proofs.Ytkgcnmloojnblaa.wh
open Go.RowKit Go.Shelf Go.Lib Go.Proofs.Ytkgcnmloojnblaa.nb Go.Proofs.Ytkgcnmloojnblaa.ck
set_option linter.unusedVariables false

theorem Two.new {LW : WP} (W : WhS LW) {w w1 : World} {b : Nat} {now m : Int} (T : OneE LW w (fun _ => False) w1 b now [] m) : TwoE LW RW w (fun _ => False) (w1.alloc (.cells #[.int .i64 now, .int .i64 m, .slice none 0 0] 32)) b w1.heap.size now [] now [] m := by
  obtain ⟨F, T⟩ := T
  have hu := T.on.size
  exact ⟨F, _, W.only T.lw (Only.up (F := fun _ => False) (up_al _ (Below.refl _ _))) (fun _ _ => id), RW.new w1 now m, T.fF, fun k hk => .inr (by show w.heap.size ≤ k; have : k = w1.heap.size := hk; omega),
    fun k hk e => by have := W.lt T.lw k hk; have : k = w1.heap.size := e; omega, T.on.on (up_al _ (Below.refl _ _)), T.l1, T.l1, T.hm⟩

set_option maxHeartbeats 8000000 in
set_option maxRecDepth 100000 in
theorem plays_bad {LW : WP} (W : WhS LW) (now most : Int) (A : Option Addr) (n c : Nat) (w : World) (hh : Calls Try.prog 7 #[.slice A n c] w fun e w' => (∃ bv, e = .returned (.bool bv) ∧ (bv = false → n ≤ 300)) ∧ Up w w') (hN : I64 now) (hM : I64 most)
    (hb : ¬ (mayB now = true ∧ 0 ≤ most ∧ most ≤ 4096)) :
    Calls Try.prog 3 #[.int .i64 now, .int .i64 most, .slice A n c] w fun e w' => e = .returned (.bool true) ∧ Up w w' := by
  have WW := Lib.hid W
  have HB := Lib.hid hb
  have HN := Lib.hid hN; have HM := Lib.hid hM
  obtain ⟨n1, n2⟩ := hN
  obtain ⟨m1, m2⟩ := hM
  have ways : now < 0 ∨ (¬ now < 0 ∧ 17592186044416 < now) ∨ (¬ now < 0 ∧ ¬ 17592186044416 < now ∧ most < 0) ∨ (¬ now < 0 ∧ ¬ 17592186044416 < now ∧ ¬ most < 0 ∧ 4096 < most) := by
    rcases Int.lt_or_le now 0 with h0 | h0
    · exact .inl h0
    rcases Int.lt_or_le 17592186044416 now with h1 | h1
    · exact .inr (.inl ⟨by omega, h1⟩)
    rcases Int.lt_or_le most 0 with h2 | h2
    · exact .inr (.inr (.inl ⟨by omega, by omega, h2⟩))
    rcases Int.lt_or_le 4096 most with h3 | h3
    · exact .inr (.inr (.inr ⟨by omega, by omega, by omega, h3⟩))
    exact absurd ⟨mayB_t ⟨h0, h1⟩, h2, h3⟩ hb
  clear W hb
  go_enter Try.func3, Try.ntmps3
  go_wp2_with fail
  refine hh.mono ?_
  rintro e w1 ⟨⟨bv, rfl, hb2⟩, u1⟩
  cases bv
  case true =>
    go_wp2_with (go_at_call 8; refine (worksC WW.out _).mono ?_; rintro e w2 ⟨rfl, u2⟩)
    go_ret
    exact ⟨rfl, u1.on u2⟩
  go_wp2_with fail
  refine (WW.out.new_f now most _ HN.out HM.out HB.out).mono ?_
  rintro e w2 ⟨rfl, u2⟩
  rcases ways with h | ⟨h0, h⟩ | ⟨h0, h1, h⟩ | ⟨h0, h1, h2, h⟩
  all_goals
    go_wp2_with (go_at_call 8; refine (worksC WW.out _).mono ?_; rintro e w3 ⟨rfl, u3⟩)
    go_ret
    exact ⟨rfl, (u1.on u2).on u3⟩

end Go.Proofs.Ytkgcnmloojnblaa.wh
