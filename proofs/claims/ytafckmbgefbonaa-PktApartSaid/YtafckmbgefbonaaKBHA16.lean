/- B H A: contracts, part 16. Condition: as each says. -/
import Derived.Test.YtafckmbgefbonaaKBHA15
import Derived.RangeFuncRecord
set_option linter.unusedVariables false
set_option linter.unusedSimpArgs false
namespace Go.Proofs.Ytafckmbgefbonaa.op
open Go.RowKit Go.Shelf Go.Lib Go.Proofs.Ytafckmbgefbonaa.sm Go.Proofs.Ytafckmbgefbonaa.nb Go.Proofs.Ytafckmbgefbonaa.om
set_option linter.unusedVariables false

theorem conv_bytes (x : ByteArray) (w : World) : ∃ (cap : Nat) (W : World), (convert 9 44 (.string x)).run Try.prog w = .ok (.slice (some ⟨w.heap.size, 0, none⟩) x.size cap) W ∧ Up w W ∧ Box W w.heap.size (BC (L x)) ∧ x.size ≤ cap := by
  refine ⟨_, _, run_bytes_of_string w 9 44 5 x Try.underlying9 Try.underlying44 Try.underlying5, up_al _ (up_dr (Below.refl _ _)), ⟨by rw [World.size_alloc]; exact Nat.lt_succ_self _, fun i v hv => ?_⟩, grownCap_ge _ _ _ _⟩
  have hb : (w.drew.alloc (.cells (bytesRow x (grownCap w x.size 0 5)) 5 ((bytesRow x (grownCap w x.size 0 5)).size, (bytesRow x (grownCap w x.size 0 5)).size + 1))).heap[w.heap.size]? =
    some (.cells (bytesRow x (grownCap w x.size 0 5)) 5 ((bytesRow x (grownCap w x.size 0 5)).size, (bytesRow x (grownCap w x.size 0 5)).size + 1)) := World.alloc_heap_new w.drew _
  generalize grownCap w x.size 0 5 = c at *
  have hi : i < x.size := by
    have := (List.getElem?_eq_some_iff.1 hv).1
    simpa [BC, Lib.byteCells] using this
  have hz : x.size ≤ (bytesRow x c).size := by unfold bytesRow; rw [Array.size_append, Array.size_map]; show x.data.size ≤ _; omega
  refine ⟨?_, ?_⟩
  · simp only [World.cell?, hb]
    show (bytesRow x c)[i]? = _
    have h1 : i < (x.data.map (fun b => Value.int .u8 b.toNat)).size := by rw [Array.size_map]; exact hi
    unfold bytesRow
    rw [Array.getElem?_append_left h1, Array.getElem?_eq_getElem h1, Array.getElem_map, ← hv]
    have h2 : i < (L x).length := hi
    unfold BC Lib.byteCells
    rw [List.getElem?_map, List.getElem?_eq_getElem h2]
    rfl
  · simp only [World.frozen?, hb]
    simp
    omega
structure TMid (b v e : Nat) (s : List UInt8) (n : Nat) (w0 : World) (n0 nX nB cap : Nat) (pl : List Nat) (W : World) : Prop where
  len : (tT b v e s pl).length = n
  x : Box W nX (BC (tT b v e s pl))
  sl : Box W nB [.slice (some ⟨nX, 0, none⟩) n cap]
  b5 : Box W n0 [.int .u32 b]
  b6 : Box W (n0 + 1) [.int .u32 v]
  b7 : Box W (n0 + 1 + 1) [.int .u32 e]
  up : Up w0 W
theorem TMid.upon {b v e : Nat} {s : List UInt8} {n : Nat} {w0 : World} {n0 nX nB cap : Nat} {pl : List Nat} {W W' : World} (h : TMid b v e s n w0 n0 nX nB cap pl W) (k : Up W W') : TMid b v e s n w0 n0 nX nB cap pl W' :=
  ⟨h.len, h.x.up k, h.sl.up k, h.b5.up k, h.b6.up k, h.b7.up k, h.up.on k⟩
theorem tmid_own {Q : Nat → Prop} (b v e : Nat) (s : List UInt8) (n : Nat) (w0 : World) (n0 nX nB cap B : Nat) (hB : w0.heap.size ≤ B) : OwnFrom B (fun (pre : List (At_ Q)) W => TMid b v e s n w0 n0 nX nB cap (ps pre) W) := fun s W W' row h hg hr => by
  have k := CK.of hg (fun r e => (hr r e).2)
  exact ⟨h.len, Box.ck h.x k, Box.ck h.sl k, Box.ck h.b5 k, Box.ck h.b6 k, Box.ck h.b7 k, h.up.grown hg h.up.size (fun j e => Nat.le_trans hB (hr j e).1)⟩
set_option maxHeartbeats 4000000 in
set_option maxRecDepth 100000 in
theorem turn_bad (s : ByteArray) (b v e : Nat) (w : World) (hs : s.size ≤ 1048576) (he : err (L s) ≠ 0) :
    Calls Try.prog 24 #[.string s, .int .u32 b, .int .u32 v, .int .u32 e] w fun e_ w' => e_ = .returned (TV (L s) b v e) ∧ Up w w' := by
  obtain ⟨n, hn⟩ : ∃ n, err (L s) = n := ⟨_, rfl⟩
  rw [hn] at he
  have HT := Lib.hid (TV_no (b := b) (v := v) (e := e) hn he)
  have HN := Lib.hid hn
  have he' : ¬ (n : Int) = 0 := by omega
  clear hn
  have HD := Lib.hid (fun w => decC s w hs)
  go_enter Try.func24, Try.ntmps24
  go_upto_region 1 with fail
  have hu : Up w (((w.alloc (.cells #[.int .u32 b] 22)).alloc (.cells #[.int .u32 v] 22)).alloc (.cells #[.int .u32 e] 22)) := up_al _ (up_al _ (up_al _ (Below.refl _ _)))
  generalize (((w.alloc (.cells #[.int .u32 b] 22)).alloc (.cells #[.int .u32 v] 22)).alloc (.cells #[.int .u32 e] 22)) = w0 at hu ⊢
  go_wp2_with fail
  refine (HD.out w0).mono ?_
  rintro e_ w1 ⟨x, rfl, ⟨A, m, c, rfl, hm, hrd⟩, hv1⟩
  rw [HN.out]
  go_wp2
  go_ret2
  exact ⟨by rw [HT.out]; rfl, up_al _ (hu.on hv1)⟩
attribute [local go_sem] Oper.semAt_some
set_option maxHeartbeats 4000000 in
set_option maxRecDepth 100000 in
theorem turn_good (s : ByteArray) (b v e : Nat) (w : World) (hs : s.size ≤ 1048576) (he : err (L s) = 0) (hb : b < M32) (hv : v < M32) (hev : e < M32) :
    Calls Try.prog 24 #[.string s, .int .u32 b, .int .u32 v, .int .u32 e] w fun e_ w' => e_ = .returned (TV (L s) b v e) ∧ Up w w' := by
  have HT := Lib.hid (TV_ok (b := b) (v := v) (e := e) he)
  have HN := Lib.hid he
  obtain ⟨h40, od, hod, _⟩ := err_is0 he
  have hdn : om.dec (L s) ≠ none := by rw [hod]; exact fun h => by cases h
  clear hod he
  have HD := Lib.hid (fun w => decC s w hs)
  refine (callsIn_wide (n := 4)).1 ?_
  refine callsIn_of_wp_marks Try.func24 rfl trivial ?_ rfl
  simp only [Try.ntmps24, List.size_toArray, List.length_cons, List.length_nil, Nat.reduceAdd, Nat.reduceSub, Array.replicate_succ, Array.replicate_zero, List.push_toArray, List.append_toArray, List.nil_append, List.cons_append]
  gi_upto_region 1 with fail
  have h5 := ((Box.new w #[.int .u32 b] 22).alloc (.cells #[.int .u32 v] 22)).alloc (.cells #[.int .u32 e] 22)
  have h6 := (Box.new (w.alloc (.cells #[.int .u32 b] 22)) #[.int .u32 v] 22).alloc (.cells #[.int .u32 e] 22)
  have h7 := Box.new ((w.alloc (.cells #[.int .u32 b] 22)).alloc (.cells #[.int .u32 v] 22)) #[.int .u32 e] 22
  rw [show (w.alloc (.cells #[.int .u32 b] 22)).heap.size = w.heap.size + 1 by simp] at h6
  rw [show ((w.alloc (.cells #[.int .u32 b] 22)).alloc (.cells #[.int .u32 v] 22)).heap.size = w.heap.size + 1 + 1 by simp] at h7
  have hu : Up w (((w.alloc (.cells #[.int .u32 b] 22)).alloc (.cells #[.int .u32 v] 22)).alloc (.cells #[.int .u32 e] 22)) := up_al _ (up_al _ (up_al _ (Below.refl _ _)))
  generalize (((w.alloc (.cells #[.int .u32 b] 22)).alloc (.cells #[.int .u32 v] 22)).alloc (.cells #[.int .u32 e] 22)) = w0 at h5 h6 h7 hu ⊢
  obtain ⟨n0, hn0⟩ : ∃ n0, n0 = w.heap.size := ⟨_, rfl⟩
  have hle0 : w.heap.size ≤ n0 := by omega
  rw [← hn0] at h5 h6 h7 ⊢
  clear hn0
  gi_wp2_with fail
  refine ⟨trivial, ?_⟩
  refine (callsIn_wide.2 (HD.out w0)).mono ?_
  rintro e_ w1 ⟨x, rfl, ⟨A, m, c, rfl, hm, hrd⟩, hv1⟩
  rw [HN.out]
  have h5 := h5.up hv1; have h6 := h6.up hv1; have h7 := h7.up hv1
  have hu := hu.on hv1
  gi_upto_region 4 with fail
  have hu2 : Up w1 (w1.alloc (.cells #[.int .u16 od.mss, .int .i64 od.sc, .bool od.sk, .slice A m c, .bool od.tm, .int .u32 od.va, .int .u32 od.ec] 28)) := up_al _ (Below.refl _ _)
  generalize (w1.alloc (.cells #[.int .u16 od.mss, .int .i64 od.sc, .bool od.sk, .slice A m c, .bool od.tm, .int .u32 od.va, .int .u32 od.ec] 28)) = w2 at hu2 ⊢
  have h5 := h5.up hu2; have h6 := h6.up hu2; have h7 := h7.up hu2
  have hu := hu.on hu2
  clear hu2
  obtain ⟨cap, w3, hcv, hv3, hX, hcap⟩ := conv_bytes s w2
  have hXw : w.heap.size ≤ w2.heap.size := hu.size
  have hn7 : n0 + 1 + 1 < w2.heap.size := h7.1
  have h5 := h5.up hv3; have h6 := h6.up hv3; have h7 := h7.up hv3
  have hu := hu.on hv3
  generalize w2.heap.size = nX at hcv hX hXw hn7
  gi_upto_region 5 with fail
  have hS4 := Box.new w3 #[.slice (some ⟨nX, 0, none⟩) s.size cap] 44
  have hu4 : Up w3 (w3.alloc (.cells #[.slice (some ⟨nX, 0, none⟩) s.size cap] 44)) := up_al _ (Below.refl _ _)
  have hnB : nX < w3.heap.size := hX.1
  generalize (w3.alloc (.cells #[.slice (some ⟨nX, 0, none⟩) s.size cap] 44)) = w4 at hS4 hu4 ⊢
  have h5 := h5.up hu4; have h6 := h6.up hu4; have h7 := h7.up hu4; have hX := hX.up hu4
  have hu := hu.on hu4
  generalize w3.heap.size = nB at hS4 hnB ⊢
  clear hcv hv3 hu4
  gi_wp2_with fail
  refine ⟨trivial, ?_⟩
  refine (callsIn_wide.2 (optionsC s w4)).mono ?_
  rintro e_ w5 ⟨rfl, rfl⟩
  have hs5 := Box.new w4 #[.string s] 9
  have hu5 : Up w4 (w4.alloc (.cells #[.string s] 9)) := up_al _ (Below.refl _ _)
  have hz5 : (w4.alloc (.cells #[.string s] 9)).heap.size = w4.heap.size + 1 := by simp
  have hlt5 := hS4.1
  generalize (w4.alloc (.cells #[.string s] 9)) = w5 at hs5 hu5 hz5 ⊢
  have h5 := h5.up hu5; have h6 := h6.up hu5; have h7 := h7.up hu5; have hX := hX.up hu5; have hS := hS4.up hu5
  have hu := hu.on hu5
  generalize w4.heap.size = nS at hs5 hz5 hlt5 ⊢
  clear hS4 hu5
  have hXl : nX < w5.heap.size := by omega
  have hSl : nS < w5.heap.size := by omega
  have hneS : nS ≠ nX := by omega
  have hnBne : nB ≠ nX := by omega
  clear hz5 hlt5
  have hle5 : w.heap.size ≤ w5.heap.size := hu.size
  have HF := Lib.hid (fun pl p (h1 : OSteps (L s) pl p) (h2 : p < s.size) (h3 : 2 ≤ nb (L s) p) => (⟨h2, h3, fit_of_dec hdn h1 h2 h3⟩ : p < s.size ∧ 2 ≤ nb (L s) p ∧ fitb (L s) p = true))
  have HTT := Lib.hid (fun pl (h : OTold (L s) pl) => told_turn hdn h b v e)
  clear hdn hrd hm HN HD
  gi_wp2
  generalize w1.heap.size = n10
  refine wpIn_rangeFunc_ownH rfl (by omega) (gf := 72) (lb := #[.pointer (some ⟨nS, 0, none⟩)]) rfl trivial (enters_of Try.func72 (by kernel_rfl) rfl)
    (optionsTells (fun p => p < s.size ∧ 2 ≤ nb (L s) p ∧ fitb (L s) p = true) nX nS s hs HF.out w5 hSl hXl hneS (hs5.at 0 rfl)) Kx.t (fun W l o o' _ h ho _ => Kx.b W l o o' h ho) (Below.refl _ _) (fun _ => rfl)
    (fun pre W => TMid b v e (L s) s.size w n0 nX nB cap (ps pre) W)
    (fun _ _ _ => False)
    (tmid_own _ _ _ _ _ _ _ _ _ _ _ hle5) (fun _ _ _ _ _ h _ _ => h)
    ⟨rfl, hX, hS, h5, h6, h7, hu⟩
    (fun x a' W => ∃ Bx, nB < Bx ∧ Box W Bx [.int .u8 (nb (L s) x.1 : Nat), .int .i64 (osz (L s) x.1 : Nat), .int .i64 ((x.1 + 2 : Nat) : Int), .string (tx (osay (L s) x.1))] ∧
      a' = { tmps := #[.string s, .int .u32 b, .int .u32 v, .int .u32 e, undef, .pointer (some ⟨n0, 0, none⟩), .pointer (some ⟨n0 + 1, 0, none⟩), .pointer (some ⟨n0 + 1 + 1, 0, none⟩), .string { data := #[] }, .int .i64 0,
        .pointer (some ⟨n10, 0, none⟩), .int .i64 0, .pointer (some ⟨nB, 0, none⟩), .pointer (some ⟨Bx, 0, none⟩), undef, .tuple #[OA od.mss od.sc od.sk A m c od.tm od.va od.ec, .int .i64 0], .string s, .tuple #[OA od.mss od.sc od.sk A m c od.tm od.va od.ec, .int .i64 0],
        OA od.mss od.sc od.sk A m c od.tm od.va od.ec, .int .i64 0, .int .i64 0, .bool false, undef, .string s, .slice (some ⟨nX, 0, none⟩) s.size cap, .string s, .func (.func 72) #[] #[.pointer (some ⟨nS, 0, none⟩)], pv (L s) x.1, undef, undef, undef, undef, undef, undef, undef, undef, undef, undef, undef, undef, undef, undef, undef, undef, undef, undef, undef, undef, undef, undef, undef, undef, undef, undef, undef, undef, undef, undef, undef, undef, undef, undef, undef, undef], defers := [] })
    (fun x a' s' W W' row h hg hr => by obtain ⟨Bx, h1, h2, h3⟩ := h; exact ⟨Bx, h1, Box.ck h2 (CK.of hg (fun r e => (hr r e).2)), h3⟩) ?assign ?body ?done ?stop
  case assign =>
    intro l pre x W K hM hK
    have hnB2 : nB < W.heap.size := hM.sl.1
    gi_wp2
    exact hK _ _ ((KeepsOthers.alloc _ _).from _) (Kx.up (up_al _ (Below.refl _ _))) (hM.upon (up_al _ (Below.refl _ _))) ⟨W.heap.size, hnB2, Box.new _ _ _, rfl⟩
  case body =>
    rintro l pre x a' W hl ⟨r, hr⟩ hM ⟨Bx, hBx, hX, rfl⟩ hlen
    obtain ⟨p, hpl, hp2, hfit⟩ := x
    dsimp only at hX ⊢
    have hzb := osz_le (L s) p
    have hYS : (tx (osay (L s) p)).size = osz (L s) p - 2 := by rw [tx_size, osay_len]
    have H5 := Lib.hid (fun h => fit_5 hfit hp2 h)
    have H8 := Lib.hid (fun h => fit_8 hfit hp2 h)
    have hT' := Lib.hid (opT_len (t := tT b v e (L s) (ps pre)) hfit hp2 hM.len b v e)
    have hps : ps (pre ++ [⟨p, hpl, hp2, hfit⟩]) = ps pre ++ [p] := by simp [ps]
    have hSN := Lib.hid (tT_snoc b v e (L s) (ps pre) p)
    obtain ⟨K, hK⟩ : ∃ K, nb (L s) p = K := ⟨_, rfl⟩
    obtain ⟨Z, hZ⟩ : ∃ Z, osz (L s) p = Z := ⟨_, rfl⟩
    obtain ⟨Y, hY⟩ : ∃ Y, tx (osay (L s) p) = Y := ⟨_, rfl⟩
    have HPV : pv (L s) p = PV K Z (p + 2) Y := by unfold pv; rw [hK, hZ, hY]
    rw [HPV]
    rw [hK, hZ, hY] at hX
    rw [hZ, hY] at hYS
    rw [hK, hZ] at H5
    rw [hK] at H8
    have HK := Lib.hid hK
    have HZ := Lib.hid hZ
    clear HPV hzb hY hZ hK
    have hx0 := hX.at 0 rfl; have hx1 := hX.at 1 rfl; have hx2 := hX.at 2 rfl; have hx3 := hX.at 3 rfl
    obtain ⟨T, hTT⟩ : ∃ T, tT b v e (L s) (ps pre) = T := ⟨_, rfl⟩
    have hMx := hM.x
    have hTl := hM.len
    rw [hTT] at hMx hTl hT' hSN
    by_cases k5 : K = 5
    · subst k5
      obtain ⟨m, hm1, hm2, hm3, hm4⟩ := H5.out rfl
      have hYm : Y.size = 4 * m := by omega
      have HO := Lib.hid (show opT b v e (L s) T p = addN b T (p + 2) m by unfold opT; rw [HK.out, if_pos rfl, HZ.out, hm1, show (4 * m + 2 - 2) / 4 = m by omega])
      rw [L_len] at hm2
      clear H5 H8 hm1 hYS hm3
      have hYz : (Y.size : Int) = 4 * (m : Int) := by omega
      have qw : IntKind.i64.wrap ((p : Int) + 2 + (Y.size : Int)) = (p : Int) + 2 + (Y.size : Int) := IntWalk.i64_in _ (by omega)
      gi_wp2_with fail
      gi_loopw [14] (fun at_ wr => ∃ (i q : Nat), i ≤ m ∧ at_ = .int .i64 (q : Nat) ∧ Hid (q = p + 2 + 4 * i) ∧ Box wr nX (BC (addN b T (p + 2) i)) ∧ Hid (W.grownBy wr (some nX))) (fun at_ _ => p + 2 + 4 * m - (RowKit.intOf at_).toNat)
      case atStart => exact ⟨0, p + 2, Nat.zero_le _, rfl, rfl, hMx, World.grownBy.refl _ _⟩
      case round =>
        obtain ⟨i, q, hi, rfl, hq, hxr, hgr⟩ := hrel
        have hqq := hq.out
        have hsr := Box.grown hM.sl hgr.out hnBne
        have h5r := Box.grown hM.b5 hgr.out (by omega)
        have hXr := Box.grown hX hgr.out (by omega)
        clear hx0 hx1 hx2 hx3
        have hx0 := hXr.at 0 rfl; have hx1 := hXr.at 1 rfl; have hx2 := hXr.at 2 rfl; have hx3 := hXr.at 3 rfl
        have hs0 := hsr.at 0 rfl; have h50 := h5r.at 0 rfl
        by_cases him : i < m
        · have d1 : (q : Int) < (p : Int) + 2 + (Y.size : Int) := by omega
          have q4 : IntKind.i64.wrap ((q : Int) + 4) = (q : Int) + 4 := IntWalk.i64_in _ (by omega)
          have HA := Lib.hid (add32 nX s.size cap q b (addN b T (p + 2) i) wr hxr (by rw [addN_len _ _ _ _ (by omega)]; exact hTl) hcap hs (by omega) hb)
          have HE : addAt (addN b T (p + 2) i) q b = addN b T (p + 2) (i + 1) := by rw [hqq]; rfl
          rw [HE] at HA
          clear HE hqq
          gi_wp2_with fail
          refine ⟨trivial, ?_⟩
          refine (CallsIn.inRound l (callsIn_wide.2 HA.out)).mono ?_
          rintro e_ W2 ⟨⟨r', rfl⟩, hg2, hx2r⟩
          gi_wp2_with fail
          refine ⟨trivial, ?_⟩
          refine (CallsIn.inRound l (callsIn_wide.2 (size32 W2))).mono ?_
          rintro e_ W3 ⟨rfl, rfl⟩
          gi_wp2
          go_roundw
          case rel => exact ⟨i + 1, q + 4, by omega, by go_num, by unfold Hid; rw [hq.out]; omega, hx2r, Lib.hid (grown_trans hgr.out hg2)⟩
          case measure => have := hq.out; simp [RowKit.intOf]; omega
        · obtain rfl : i = m := by omega
          have d1 : ¬ (q : Int) < (p : Int) + 2 + (Y.size : Int) := by omega
          have hg3 := hgr.out
          clear hqq
          gi_wp2
          refine ⟨KeepsFrom.of_grownBy hg3 (fun j e => by cases e; exact hXl), Kx.of hg3, ?_⟩
          show TMid _ _ _ _ _ _ _ _ _ _ (ps (pre ++ [⟨p, hpl, hp2, hfit⟩])) _
          rw [hps]
          exact ⟨by rw [hSN.out]; exact hT'.out, by rw [hSN.out, HO.out]; exact hxr, Box.grown hM.sl hg3 hnBne, Box.grown hM.b5 hg3 (by omega), Box.grown hM.b6 hg3 (by omega), Box.grown hM.b7 hg3 (by omega), up_grown hM.up hg3 hXw⟩
    by_cases k8 : K = 8
    · subst k8
      have h10 := H8.out rfl
      rw [L_len] at h10
      have HO := Lib.hid (show opT b v e (L s) T p = addAt (addAt T (p + 2) v) (p + 6) e by unfold opT; rw [HK.out, if_neg (by decide), if_pos rfl])
      have q4 : IntKind.i64.wrap ((p : Int) + 2 + 4) = ((p + 6 : Nat) : Int) := by rw [IntWalk.i64_in _ (by omega)]; omega
      have HA := Lib.hid (add32 nX s.size cap (p + 2) v T W hMx hTl hcap hs (by omega) hv)
      have hs0 := hM.sl.at 0 rfl; have h60 := hM.b6.at 0 rfl
      clear H5 H8
      gi_wp2_with fail
      refine ⟨trivial, ?_⟩
      refine (CallsIn.inRound l (callsIn_wide.2 HA.out)).mono ?_
      rintro e_ W2 ⟨⟨r', rfl⟩, hg2, hx2r⟩
      have hs2 := (Box.grown hM.sl hg2 hnBne).at 0 rfl
      have h72 := (Box.grown hM.b7 hg2 (by omega)).at 0 rfl
      have hXr := Box.grown hX hg2 (by omega)
      clear hx0 hx1 hx2 hx3 hs0 h60
      have hx2 := hXr.at 2 rfl
      have HA2 := Lib.hid (add32 nX s.size cap (p + 6) e (addAt T (p + 2) v) W2 hx2r (by rw [addAt_len _ _ _ (by omega)]; exact hTl) hcap hs (by omega) hev)
      gi_wp2_with fail
      refine ⟨trivial, ?_⟩
      refine (CallsIn.inRound l (callsIn_wide.2 HA2.out)).mono ?_
      rintro e_ W3 ⟨⟨r'', rfl⟩, hg33, hx3r⟩
      have hg3 := grown_trans hg2 hg33
      gi_wp2
      refine ⟨KeepsFrom.of_grownBy hg3 (fun j e => by cases e; exact hXl), Kx.of hg3, ?_⟩
      show TMid _ _ _ _ _ _ _ _ _ _ (ps (pre ++ [⟨p, hpl, hp2, hfit⟩])) _
      rw [hps]
      exact ⟨by rw [hSN.out]; exact hT'.out, by rw [hSN.out, HO.out]; exact hx3r, Box.grown hM.sl hg3 hnBne, Box.grown hM.b5 hg3 (by omega), Box.grown hM.b6 hg3 (by omega), Box.grown hM.b7 hg3 (by omega), up_grown hM.up hg3 hXw⟩
    · have i5 : ¬ (K : Int) = 5 := by omega
      have i8 : ¬ (K : Int) = 8 := by omega
      have HO := Lib.hid (show opT b v e (L s) T p = T by unfold opT; rw [HK.out, if_neg k5, if_neg k8])
      have hg3 := World.grownBy.refl W (some nX)
      gi_wp2
      refine ⟨KeepsFrom.of_grownBy hg3 (fun j e => by cases e; exact hXl), Kx.of hg3, ?_⟩
      show TMid _ _ _ _ _ _ _ _ _ _ (ps (pre ++ [⟨p, hpl, hp2, hfit⟩])) _
      rw [hps]
      exact ⟨by rw [hSN.out]; exact hT'.out, by rw [hSN.out, HO.out]; exact hMx, Box.grown hM.sl hg3 hnBne, Box.grown hM.b5 hg3 (by omega), Box.grown hM.b6 hg3 (by omega), Box.grown hM.b7 hg3 (by omega), up_grown hM.up hg3 hXw⟩
  case done =>
    rintro D ys W hD hT hM hK
    have hTE : tT b v e (L s) (ps ys) = turnL b v e (L s) := HTT.out _ hT
    have hMx := hM.x
    have hMl := hM.len
    rw [hTE] at hMx hMl
    clear hTE hT
    have HV := Lib.hid HT.out
    clear HT
    generalize turnL b v e (L s) = T at hMx hMl HV
    have hcv := conv_row (cap := cap) hMl hMx
    have hs0 := hM.sl.at 0 rfl
    have hup := hM.up
    obtain ⟨R, hR⟩ : ∃ R, tx T = R := ⟨_, rfl⟩
    rw [hR] at hcv HV
    clear hR hMx hMl
    gi_wp2
    refine ⟨by simp, .inl ⟨_, _, rfl, run_takeDeferred hK, ?_⟩⟩
    have hu9 := hup.trans (belowK_b (w := w) (Nat.le_refl _) W D _ (.deferred none) (by omega) hK rfl rfl)
    refine ⟨_, results_tmp2 rfl _ _ _, ?_, hu9⟩
    rw [HV.out]; rfl
  case stop =>
    rintro D c pre W hD hP h
    exact h.elim
theorem turnC : TurnC := fun s b v e w hs hb hv he => by
  by_cases h : err (L s) = 0
  · exact turn_good s b v e w hs h hb hv he
  · exact turn_bad s b v e w hs h
end Go.Proofs.Ytafckmbgefbonaa.op

namespace Go.Proofs.Ytafckmbgefbonaa.pk
open Go.RowKit Go.Shelf Go.Lib Go.Proofs.Ytafckmbgefbonaa.sm Go.Proofs.Ytafckmbgefbonaa.nb Go.Proofs.Ytafckmbgefbonaa.pm
set_option linter.unusedVariables false

theorem an31 : ∀ f : Fin 256, bits .andNot .u8 ((f.val : Nat) : Int) 31 = ((f.val / 32 * 32 : Nat) : Int) := by decide +kernel
theorem an7 : ∀ f : Fin 256, f.val &&& 7 = f.val % 8 := by decide +kernel
def lowz (g : Nat) : Nat := g &&& (g + 255) % 256
theorem lowz_le : ∀ g : Fin 8, lowz g.val < 256 := by decide +kernel
theorem flg_is : ∀ f : Fin 256, flg f.val = (decide (f.val / 32 * 32 = 0) && decide (lowz (f.val % 8) = 0)) := by decide +kernel
theorem flg_nat (f : Nat) (h : f ≤ 255) : flg f = (decide (f / 32 * 32 = 0) && decide (lowz (f % 8) = 0)) := flg_is ⟨f, by omega⟩
theorem an31_nat (f : Nat) (h : f ≤ 255) : bits .andNot .u8 (f : Int) 31 = ((f / 32 * 32 : Nat) : Int) := an31 ⟨f, by omega⟩
set_option maxHeartbeats 2000000 in
set_option maxRecDepth 100000 in
theorem mayFlagsC (f : Nat) (w : World) (hf : f ≤ 255) :
    Calls Try.prog 23 #[.int .u8 f] w fun e w' => e = .returned (.bool (flg f)) ∧ w = w' := by
  have q7 : bits .and .u8 (f : Int) 7 = ((f % 8 : Nat) : Int) := by rw [show (7 : Int) = ((7 : Nat) : Int) from rfl, and8 f 7 (by omega) (by omega)]; exact congrArg Int.ofNat (an7 ⟨f, by omega⟩)
  have q31 := an31_nat f hf
  have HF := Lib.hid (flg_nat f hf)
  have hg : f % 8 < 8 := Nat.mod_lt _ (by decide)
  generalize f % 8 = g at q7 HF hg
  have hl := lowz_le ⟨g, hg⟩
  dsimp only at hl
  have q1 : IntKind.u8.wrap ((g : Int) - 1) = (((g + 255) % 256 : Nat) : Int) := by rw [IntKind.wrap_u8]; omega
  have q2 : ((g : Int) - 1) % 256 = (((g + 255) % 256 : Nat) : Int) := by omega
  have q3 : bits .and .u8 (g : Int) (((g + 255) % 256 : Nat) : Int) = ((lowz g : Nat) : Int) := by rw [and8 g _ (by omega) (by omega)]; rfl
  generalize (g + 255) % 256 = g' at q1 q2 q3
  generalize lowz g = z at q3 hl HF
  generalize f / 32 * 32 = d at q31 HF
  go_enter Try.func23, Try.ntmps23
  by_cases c0 : d = 0
  · subst c0
    by_cases c1 : z = 0
    · subst c1
      go_wp2
      go_ret
      exact ⟨ret_bool (by rw [HF.out]; rfl), rfl⟩
    · have c2 : ¬ (z : Int) = 0 := by omega
      have HD := Lib.hid (decide_eq_false c1)
      clear c1
      go_wp2
      go_ret
      exact ⟨ret_bool ((beq_eq_false_iff_ne.2 c2).trans (by rw [HF.out, HD.out]; rfl)), rfl⟩
  · have c2 : ¬ (d : Int) = 0 := by omega
    have HD := Lib.hid (decide_eq_false c0)
    clear c0
    go_wp2
    go_ret
    exact ⟨ret_bool (by rw [HF.out, HD.out]; rfl), rfl⟩
theorem bitsC (n : Int) (w : World) : Calls Try.prog 56 #[.int .i64 n] w fun e w' => e = .returned (.int .i64 (clamp n : Nat)) ∧ w = w' := by
  go_enter Try.func56, Try.ntmps56
  by_cases c0 : n < 0
  · have e := Lib.hid (show clamp n = 0 by unfold clamp; rw [if_pos c0])
    go_wp2
    go_ret
    exact ⟨ret_int (by rw [e.out]; first | rfl | omega), rfl⟩
  · by_cases c1 : 14 < n
    · have e := Lib.hid (show clamp n = 14 by unfold clamp; rw [if_neg c0, if_pos c1])
      go_wp2
      go_ret
      exact ⟨ret_int (by rw [e.out]; first | rfl | omega), rfl⟩
    · have e := Lib.hid (show clamp n = n.toNat by unfold clamp; rw [if_neg c0, if_neg c1])
      go_wp2
      go_ret
      exact ⟨ret_int (by rw [e.out]; omega), rfl⟩
theorem shl_32 (v k : Nat) (hv : v ≤ 65535) (hk : k ≤ 14) : IntKind.u32.wrap ((v : Int) * 2 ^ k) = ((v * 2 ^ k : Nat) : Int) := by
  have hz : v * 2 ^ k ≤ 1073741824 := Nat.le_trans (Nat.mul_le_mul hv (Nat.pow_le_pow_right (by decide) hk)) (by decide)
  have e : ((v * 2 ^ k : Nat) : Int) = (v : Int) * 2 ^ k := by simp
  rw [← e, IntKind.wrap_u32]
  omega
abbrev SHV (a1 p1 b1 q1 y1 z1 v1 e1 : Nat) (up dn : Int) : Value := .agg #[.int .u32 a1, .int .u16 p1, .int .u32 b1, .int .u16 q1, .int .u32 y1, .int .u32 z1, .int .u32 v1, .int .u32 e1, .int .i64 up, .int .i64 dn]
set_option maxHeartbeats 2000000 in
set_option maxRecDepth 100000 in
theorem turnedWindowC (v a1 p1 b1 q1 y1 z1 v1 e1 : Nat) (up dn : Int) (w : World) (hv : v ≤ 65535) :
    Calls Try.prog 29 #[.int .u16 v, SHV a1 p1 b1 q1 y1 z1 v1 e1 up dn] w fun e w' => e = .returned (.int .u16 (winT ⟨a1, b1, p1, q1, y1, z1, v1, e1, up, dn⟩ v : Nat)) ∧ Up w w' := by
  have hcu := clamp_le up
  have hcd := clamp_le dn
  have HW := Lib.hid (show winT ⟨a1, b1, p1, q1, y1, z1, v1, e1, up, dn⟩ v = min 65535 (v * 2 ^ clamp up / 2 ^ clamp dn) from rfl)
  have HU := Lib.hid (fun w => bitsC up w)
  have HN := Lib.hid (fun w => bitsC dn w)
  have s1 := shl_32 v (clamp up) hv hcu
  have hz : v * 2 ^ clamp up ≤ 1073741824 := Nat.le_trans (Nat.mul_le_mul hv (Nat.pow_le_pow_right (by decide) hcu)) (by decide)
  have s2 := shr_in (v * 2 ^ clamp up) (clamp dn)
  have hy : v * 2 ^ clamp up / 2 ^ clamp dn ≤ 1073741824 := Nat.le_trans (Nat.div_le_self _ _) hz
  generalize clamp up = k at *
  generalize clamp dn = k' at *
  generalize v * 2 ^ k = z at *
  generalize z / 2 ^ k' = y at *
  have HW' := Lib.hid (show ((winT ⟨a1, b1, p1, q1, y1, z1, v1, e1, up, dn⟩ v : Nat) : Int) = min 65535 (y : Int) by rw [HW.out]; omega)
  have d1 : ¬ (k : Int) < 0 := by omega
  have d2 : ¬ (k' : Int) < 0 := by omega
  have w1 : IntKind.u32.wrap (v : Int) = (v : Int) := by rw [IntKind.wrap_u32]; omega
  clear HW
  go_enter Try.func29, Try.ntmps29
  go_upto_region 1 with fail
  have hA := Box.new w #[.int .u32 a1, .int .u16 p1, .int .u32 b1, .int .u16 q1, .int .u32 y1, .int .u32 z1, .int .u32 v1, .int .u32 e1, .int .i64 up, .int .i64 dn] 32
  have hu := up_al (w := w) (.cells #[.int .u32 a1, .int .u16 p1, .int .u32 b1, .int .u16 q1, .int .u32 y1, .int .u32 z1, .int .u32 v1, .int .u32 e1, .int .i64 up, .int .i64 dn] 32) (Below.refl _ _)
  generalize (w.alloc (.cells #[.int .u32 a1, .int .u16 p1, .int .u32 b1, .int .u16 q1, .int .u32 y1, .int .u32 z1, .int .u32 v1, .int .u32 e1, .int .i64 up, .int .i64 dn] 32)) = w0 at hA hu ⊢
  generalize w.heap.size = n0 at hA ⊢
  have k8 := hA.at 8 rfl
  have k9 := hA.at 9 rfl
  clear hA
  by_cases c : 65535 < y
  · have c1 : (65535 : Int) < (y : Int) := by omega
    go_quiet ((first
      | exact Calls.quiet_of_same ((HU.out _).mono fun _ _ ⟨h1, h2⟩ => ⟨h1, h2.symm⟩)
      | exact Calls.quiet_of_same ((HN.out _).mono fun _ _ ⟨h1, h2⟩ => ⟨h1, h2.symm⟩)))
    generalize hdq : World.drewN w0 _ = wd
    have hu2 : Up w wd := hdq ▸ up_drN _ hu
    clear hdq
    go_wp2
    go_ret
    exact ⟨ret_int (by rw [HW'.out]; omega), hu2⟩
  · have c1 : ¬ (65535 : Int) < (y : Int) := by omega
    have q : IntKind.u16.wrap (y : Int) = (y : Int) := by rw [IntKind.wrap_u16]; omega
    go_quiet ((first
      | exact Calls.quiet_of_same ((HU.out _).mono fun _ _ ⟨h1, h2⟩ => ⟨h1, h2.symm⟩)
      | exact Calls.quiet_of_same ((HN.out _).mono fun _ _ ⟨h1, h2⟩ => ⟨h1, h2.symm⟩)))
    generalize hdq : World.drewN w0 _ = wd
    have hu2 : Up w wd := hdq ▸ up_drN _ hu
    clear hdq
    go_wp2
    go_ret
    exact ⟨ret_int (by rw [HW'.out]; omega), hu2⟩
end Go.Proofs.Ytafckmbgefbonaa.pk
