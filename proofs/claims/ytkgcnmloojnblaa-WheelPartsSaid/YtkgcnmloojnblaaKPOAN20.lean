/- P O A N: contracts, part 20. Condition: as each says. -/
import Derived.Test.YtkgcnmloojnblaaKPOAN19
import Derived.Deep.LoopGhost
set_option linter.unusedVariables false
set_option linter.unusedSimpArgs false
namespace Go.Proofs.Ytkgcnmloojnblaa.wlS
open Go.RowKit Go.Shelf Go.Lib Go.Proofs.Ytkgcnmloojnblaa.nb Go.Proofs.Ytkgcnmloojnblaa.ck Go.Proofs.Ytkgcnmloojnblaa.wh Go.Proofs.Ytkgcnmloojnblaa.wf
set_option linter.unusedVariables false

structure Ls (T : Nat → Tm) (A : List Nat) (a : Int) : Prop where
  bd : 0 ≤ a ∧ a ≤ 17592186044416
  le : ∀ q ∈ A, a ≤ (T q).2
  at_ : A ≠ [] → ∃ q ∈ A, (T q).2 = a
  none_ : A = [] → a = 17592186044416
theorem Ls.nil_ (T : Nat → Tm) : Ls T [] 17592186044416 := ⟨⟨by omega, by omega⟩, fun q h => (by cases h), fun h => absurd rfl h, fun _ => rfl⟩
theorem Ls.step {T : Nat → Tm} {A : List Nat} {a : Int} {p : Nat} (h : Ls T A a) (hp : 0 ≤ (T p).2 ∧ (T p).2 ≤ 17592186044416) : Ls T (A ++ [p]) (leastV [a, (T p).2]) := by
  rw [least2 h.bd hp]
  by_cases c : (T p).2 < a
  · rw [if_pos c]
    refine ⟨hp, fun q hq => ?_, fun _ => ⟨p, by simp, rfl⟩, fun h => by simp at h⟩
    rcases List.mem_append.1 hq with hq | hq
    · have := h.le q hq; omega
    · rw [List.mem_singleton.1 hq]; exact Int.le_refl _
  · rw [if_neg c]
    refine ⟨h.bd, fun q hq => ?_, fun _ => ?_, fun h => by simp at h⟩
    · rcases List.mem_append.1 hq with hq | hq
      · exact h.le q hq
      · rw [List.mem_singleton.1 hq]; omega
    · by_cases hA : A = []
      · have := h.none_ hA
        exact ⟨p, by simp, by omega⟩
      · obtain ⟨q, hq, e⟩ := h.at_ hA
        exact ⟨q, List.mem_append_left _ hq, e⟩
set_option maxHeartbeats 8000000 in
set_option maxRecDepth 100000 in
theorem nextC {b pb cb mb m u : Nat} {S : Nat → List Nat} {T : Nat → Tm} {L : Lks} {l : List (ByteArray × Nat)} {fr : List Nat} {xs : List Tm} {w : World} (h : LI w b pb cb mb m u S T L l fr xs) :
    Calls Try.prog 18 #[.pointer (some ⟨b, 0, none⟩)] w fun e w' => e = .returned (.tuple #[.int .i64 (nextV xs).1, .bool (nextV xs).2]) ∧ Up w w' := by
  have HL := Lib.hid (lenC h)
  have HH := Lib.hid h
  by_cases hx : xs = []
  · have E := Lib.hid (show nextV xs = (0, false) by subst hx; rfl)
    rw [E.out]
    have E2 := Lib.hid (show (xs.length : Int) = 0 by rw [hx]; rfl)
    rw [E2.out] at HL
    clear h hx
    go_enter Try.func18, Try.ntmps18
    go_wp2_with fail
    go_step3
    go_wp2_with fail
    refine HL.out.mono ?_
    rintro e w' ⟨rfl, rfl⟩
    go_wp2
    try rw [Exit.noGoto_ret]
    go_ret2
    exact ⟨rfl, Below.refl _ _⟩
  obtain ⟨N, hN⟩ : ∃ N, N = xs.length := ⟨_, rfl⟩
  have hN0 : 0 < N := by rw [hN]; exact List.length_pos_iff.2 hx
  rw [← hN] at HL
  have hNn : ((N : Int) == 0) = false := by simp; omega
  have hNe : ¬ N = 0 := by omega
  have HNE := Lib.hid (show ∃ s, s < 288 ∧ S s ≠ [] from by
    cases hxs : xs with
    | nil => exact absurd hxs hx
    | cons x r =>
      obtain ⟨p, A, B, q1, _, _, q4, _⟩ := h.wi.find (x := x) (by rw [hxs]; exact List.mem_cons_self ..)
      exact ⟨_, q4, fun e => by rw [e] at q1; simp at q1⟩)
  clear h hN hx hN0
  go_enter Try.func18, Try.ntmps18
  go_wp2_with fail
  go_step3
  go_wp2_with fail
  refine HL.out.mono ?_
  rintro e w' ⟨rfl, rfl⟩
  go_wp2_with fail
  go_step3
  go_wp2_with fail
  go_loopw [4, 12] (fun v z wr => ∃ (up : Nat), z = .int .i64 up ∧ v = .int .i64 17592186044416 ∧ up ≤ 9 ∧ Hid (∀ s, s < 32 * up → S s = []) ∧ Up w wr) (fun _ z _ => 9 - (RowKit.intOf z).toNat)
  case atStart => exact ⟨0, rfl, rfl, Nat.zero_le _, (show ∀ s, s < 32 * 0 → S s = [] from fun s hs => by omega), Below.refl _ _⟩
  case round =>
  obtain ⟨up, rfl, rfl, hup, HE, hu⟩ := hrel
  have hup9 : up < 9 := by
    rcases Nat.lt_or_ge up 9 with h | h
    · exact h
    · obtain ⟨s, hs, hne⟩ := HNE.out
      exact absurd (HE.out s (by omega)) hne
  have D1 : decide ((up : Int) < 9) = true := decide_eq_true (by omega)
  have U1 := Lib.hid hu
  clear hu
  go_wp2_with fail
  go_loopw [4, 15] (fun v z wq => ∃ (i : Nat), z = .int .i64 i ∧ v = .int .i64 17592186044416 ∧ i ≤ 32 ∧ Hid (∀ s, s < 32 * up + i → S s = []) ∧ Up w wq) (fun _ z _ => 32 - (RowKit.intOf z).toNat)
  case atStart => exact ⟨0, rfl, rfl, Nat.zero_le _, HE, U1.out⟩
  case round =>
  clear U1 HE
  obtain ⟨i, rfl, rfl, hi32, HE, hu⟩ := hrel
  have U1 := Lib.hid hu
  clear hu
  by_cases hi : i < 32
  case neg =>
    obtain rfl : i = 32 := by omega
    have W1 : IntKind.i64.wrap ((up : Int) + 1) = (up : Int) + 1 := by rw [IntKind.wrap_i64]; omega
    go_wp2
    go_roundw
    case rel => exact ⟨up + 1, by go_num, rfl, by omega, (show ∀ s, s < 32 * (up + 1) → S s = [] from fun s hs => HE.out s (by omega)), U1.out⟩
    case measure => simp [RowKit.intOf]; omega
  have D2 : decide ((i : Int) < 32) = true := decide_eq_true (by omega)
  obtain ⟨sc, hsc⟩ : ∃ sc, sc = 32 * up + i := ⟨_, rfl⟩
  have HS := Lib.hid (show 4 + up * 64 + i * 2 = sc * 2 + 4 by omega)
  rw [← hsc] at HE
  have hs288 : sc < 288 := by omega
  have HSC := Lib.hid hsc
  have c0 := (HH.out.lw.up U1.out).mem.c_fi hs288
  rw [HH.out.wi.lk.fi] at c0
  obtain ⟨v0, hv0⟩ : ∃ v0, pv pb (S sc).head? = .pointer v0 := pv_ptr _ _
  have HV0 := Lib.hid hv0
  rw [hv0] at c0
  clear hsc hv0
  go_upto_region 11 with fail
  rw [HS.out]
  go_wp2_with fail
  go_loopg [4, 8] ((S sc).length) (fun k v z wq => ∃ (A B : List Nat) (a : Int), v = .int .i64 a ∧ z = pv pb B.head? ∧ S sc = A ++ B ∧ k = B.length ∧ Ls T A a ∧ Up w wq)
  case atStart => exact ⟨[], S sc, 17592186044416, rfl, HV0.out.symm, rfl, rfl, Ls.nil_ _, U1.out⟩
  case round =>
  clear c0 HV0 U1
  obtain ⟨A, B, a, rfl, rfl, hAB, hgk, hls, hu⟩ := hrel
  have HAB := Lib.hid hAB; have HLS := Lib.hid hls; have U1 := Lib.hid hu
  have HGK := Lib.hid hgk
  clear hgk
  rcases B with _ | ⟨p, B'⟩
  · rw [show pv pb ([] : List Nat).head? = .pointer none from rfl]
    have hA : S sc = A := by rw [hAB, List.append_nil]
    have c1 := (HH.out.lw.up hu).mem.c_fi hs288
    rw [HH.out.wi.lk.fi, hA] at c1
    have HA := Lib.hid hA
    rcases A with _ | ⟨q, A'⟩
    · replace c1 : wr.cell? ⟨b, sc * 2 + 4, none⟩ = some (.pointer none) := c1
      obtain rfl := hls.none_ rfl
      have W1 : IntKind.i64.wrap ((i : Int) + 1) = (i : Int) + 1 := by rw [IntKind.wrap_i64]; omega
      clear hA hAB hls hu
      go_wp2
      go_roundw
      case rel => exact ⟨i + 1, by go_num, rfl, by omega, (show ∀ s, s < 32 * up + (i + 1) → S s = [] from fun s hs => by
        rcases Nat.lt_or_ge s sc with h | h
        · exact HE.out s h
        · rw [show s = sc by have := HSC.out; omega]; exact HA.out), U1.out⟩
      case measure => simp [RowKit.intOf]; omega
    · replace c1 : wr.cell? ⟨b, sc * 2 + 4, none⟩ = some (.pointer (some ⟨pb, q * 4, none⟩)) := c1
      have E := Lib.hid (show nextV xs = (a, true) from HH.out.wi.next HE.out (by rw [hA]; exact hls.le) (by rw [hA]; exact hls.at_ (by simp)))
      clear hA hAB hls hu
      go_wp2
      try rw [Exit.noGoto_ret]
      go_ret2
      exact ⟨by rw [E.out]; rfl, U1.out⟩
  rw [show pv pb (p :: B').head? = .pointer (some ⟨pb, p * 4, none⟩) from rfl]
  have hpS : p ∈ S sc := mid_mem hAB
  have hpm : p < m := HH.out.wi.lt sc p hpS
  have c1 := (HH.out.lw.up hu).mem.c_t hpm
  have c2 := (HH.out.lw.up hu).mem.c_nx hpm
  rw [(HH.out.wi.lk.at_ sc A p B' hAB).2] at c2
  obtain ⟨v2, hv2⟩ := pv_ptr pb B'.head?
  rw [hv2] at c2
  have HV2 := Lib.hid hv2
  have ht : 0 ≤ (T p).2 ∧ (T p).2 ≤ 17592186044416 := by have := HH.out.wi.tnat hpS; omega
  have HSt := Lib.hid (hls.step ht)
  have hlt := (HH.out.lw.up hu).mem.pb_.lt
  obtain ⟨t, htt⟩ : ∃ t, t = (T p).2 := ⟨_, rfl⟩
  rw [← htt] at c1 HSt
  clear hpS hpm hv2 ht htt hAB hls
  go_wp2_with fail
  refine (goLeast _ 2 2 [a, t] _ (fun _ => ⟨wr.heap.size, 0, rfl, by rw [World.size_alloc]; omega, fun k hk => by
    match k, hk with
    | 0, _ => exact (Box.new wr #[.int .i64 a, .int .i64 t] _).at 0 rfl
    | 1, _ => exact (Box.new wr #[.int .i64 a, .int .i64 t] _).at 1 rfl⟩) rfl (by unfold maxLen; omega)).mono ?_
  rintro e w5 ⟨rfl, u5⟩
  have u6 : Up wr w5 := Up.on (up_al _ (Below.refl _ _)) u5
  replace c2 := (u6.cell (p := ⟨pb, p * 4 + 3, none⟩) hlt).trans c2
  have U6 := Lib.hid (U1.out.on u6)
  clear c1 u5 u6 hlt hu
  go_wp2
  go_roundg (B'.length)
  case measure => rw [HGK.out]; simp
  case rel => exact ⟨A ++ [p], B', _, rfl, HV2.out.symm, by rw [HAB.out]; simp, rfl, HSt.out, U6.out⟩
theorem whS : WhS LW := { wh_ with
  stop := fun A c ks h hr hg hk => by
    obtain ⟨pb, cb, mb, m, u, S, T, L, l, fr, rfl, rfl, h, hF⟩ := h
    refine (stopAll A c ks h hr (fun g off e hw => hg g off e ((hF g).2 hw)) hk).mono ?_
    rintro e w' ⟨rfl, ⟨S', T', L', l', fr', q1⟩, q2⟩
    exact ⟨rfl, _, ⟨pb, cb, mb, m, u, S', T', L', l', fr', rfl, rfl, q1, hF⟩, only_F hF q2, fun k => .inl⟩
  at_ := fun key h => by
    obtain ⟨pb, cb, mb, m, u, S, T, L, l, fr, rfl, rfl, h, hF⟩ := h
    refine (atC key h).mono ?_
    rintro e w' ⟨rfl, q⟩
    exact ⟨rfl, _, ⟨pb, cb, mb, m, u, S, T, L, l, fr, rfl, rfl, h.up q, hF⟩, Only.up q, fun k => .inl⟩
  next := fun h => by
    obtain ⟨pb, cb, mb, m, u, S, T, L, l, fr, rfl, rfl, h, hF⟩ := h
    refine (nextC h).mono ?_
    rintro e w' ⟨rfl, q⟩
    exact ⟨rfl, _, ⟨pb, cb, mb, m, u, S, T, L, l, fr, rfl, rfl, h.up q, hF⟩, Only.up q, fun k => .inl⟩
  len := fun h => by
    obtain ⟨pb, cb, mb, m, u, S, T, L, l, fr, rfl, rfl, h, hF⟩ := h
    refine (lenC h).mono ?_
    rintro e w' ⟨rfl, rfl⟩
    exact ⟨rfl, Below.refl _ _⟩
  now_ := fun h => by
    obtain ⟨pb, cb, mb, m, u, S, T, L, l, fr, rfl, rfl, h, hF⟩ := h
    refine (nowC h).mono ?_
    rintro e w' ⟨rfl, rfl⟩
    exact ⟨rfl, Below.refl _ _⟩
  nilSet := nilSetC
  nilStop := nilStopC
  nilGo := nilGoC
  nilAt := nilAtC
  nilNext := nilNextC
  nilLen := nilLenC
  nilNow := nilNowC }
end Go.Proofs.Ytkgcnmloojnblaa.wlS
