/- A: contracts, part 11. Condition: as each says. -/
import Derived.Test.YtkgcnmloojnblaaKA10
set_option linter.unusedVariables false
set_option linter.unusedSimpArgs false
namespace Go.Proofs.Ytkgcnmloojnblaa.wlU
open Go.RowKit Go.Shelf Go.Lib Go.Proofs.Ytkgcnmloojnblaa.nb Go.Proofs.Ytkgcnmloojnblaa.wh Go.Proofs.Ytkgcnmloojnblaa.wf
set_option linter.unusedVariables false

set_option maxHeartbeats 16000000 in
set_option maxRecDepth 100000 in
theorem symB (g c n : Nat) (P L R S : List Tm) (a m b mid : Nat) (IH : SymOk g c (L.length + R.length - 1)) (ha : a = P.length) (hm1 : m = a + L.length) (hb : b = m + R.length) (hmid : mid = (a + b) / 2) (hcm : ¬ mid < m) (hL : 1 < L.length) (hR : 1 < R.length) (uL : Up2 L) (uR : Up2 R) (hn : n = (P ++ (L ++ (R ++ S))).length) (hm : n < 4611686018427387904) (w : World) (h : Rw w g (P ++ (L ++ (R ++ S)))) :
    Calls Try.prog 64 #[.slice (some ⟨g, 0, none⟩) n c, .int .i64 a, .int .i64 m, .int .i64 b, .func (.func 51) #[] #[]] w fun e w' => e = .returned (.tuple #[]) ∧ ∃ M, St M (L ++ R) ∧ Rw w' g (P ++ (M ++ S)) ∧ Only (fun k => k = g) w w' := by
  obtain ⟨d, hd⟩ : ∃ d, d = m - a := ⟨_, rfl⟩
  obtain ⟨d', hd'⟩ : ∃ d', d' = b - m := ⟨_, rfl⟩
  have hbn : b ≤ n := by rw [hb, hn, hm1, ha]; simp; omega
  have hab : a ≤ b := by omega
  have W0 : IntKind.i64.wrap ((m : Int) - a) = (d : Int) := by rw [IntKind.wrap_i64]; omega
  have W0' : IntKind.i64.wrap ((b : Int) - m) = (d' : Int) := by rw [IntKind.wrap_i64]; omega
  have hd2 : ¬ d = 1 := by omega
  have hd1 : ((d : Int) == 1) = false := by simp; omega
  have hd3 : ((d' : Int) == 1) = false := by simp; omega
  have hd4 : ¬ d' = 1 := by omega
  have W1 : IntKind.i64.wrap ((a : Int) + b) = (a : Int) + b := by rw [IntKind.wrap_i64]; omega
  have HMID := Lib.hid (show ((a : Int) + b) / 2 = (mid : Int) by omega)
  obtain ⟨q, hq⟩ : ∃ q, q = mid + m := ⟨_, rfl⟩
  obtain ⟨p, hp⟩ : ∃ p, p = q - 1 := ⟨_, rfl⟩
  have W2 : IntKind.i64.wrap ((mid : Int) + m) = (q : Int) := by rw [IntKind.wrap_i64]; omega
  have W3 : IntKind.i64.wrap ((q : Int) - 1) = (p : Int) := by rw [IntKind.wrap_i64]; omega
  have W4 : q - b ≤ q := by omega
  have e1 : a ≤ a := by omega
  have e2 : m ≤ m := by omega
  have e3 : m ≤ mid := by omega
  have e4 : q ≤ a + b := by omega
  have e5 : a ≤ m := by omega
  have e6 := Lib.hid (show (a = a ∨ a + b = q) ∧ (m = mid ∨ m = m) by omega)
  have e7 : p + 1 = q := by omega
  have e8 := Lib.hid (show mid < b ∧ m < b ∧ a ≤ m by omega)
  have HQ := Lib.hid hq
  have HMI := Lib.hid hmid
  have HA := Lib.hid ha; have HM := Lib.hid hm1; have HB := Lib.hid hb; have HN := Lib.hid hn; have HR := Lib.hid h; have UL := Lib.hid uL; have UR := Lib.hid uR; have HL1 := Lib.hid hL; have HR1 := Lib.hid hR; have IH' := Lib.hid IH
  have LT := Lib.hid (fun c c' => less_on (P := P) (L := L) (R := R) (S := S) (a := a) (m := m) (b := b) (p := p) (c := c) (c' := c') ha hm1 hb uL uR)
  clear ha hm1 hb hn h hL hR uL uR hd hd' hq hp hmid IH 
  go_enter Try.func64, Try.ntmps64
  go_upto_region 25 with fail
  rw [HMID.out]
  go_wp2_with fail
  go_loopw [20, 21] (fun v u wr => ∃ (s r : Nat), v = .int .i64 s ∧ u = .int .i64 r ∧ a ≤ s ∧ s ≤ r ∧ r ≤ m ∧ SyI g (P ++ (L ++ (R ++ S))) p a m s r w wr) (fun v u _ => (intOf u).toNat - (intOf v).toNat)
  case atStart => exact ⟨a, m, rfl, rfl, Nat.le_refl _, e5, Nat.le_refl _, ⟨fun c h1 h2 => by omega, fun c h1 h2 => by omega, HR.out, Only.refl _ _⟩⟩
  case round =>
  clear W0 W0' hd1 hd2 hd3 hd4 W1 W2 W3 W4 HR
  obtain ⟨s, r, rfl, rfl, hs, hsr, hr, qq⟩ := hrel
  have I := Lib.hid qq
  clear qq
  have hmb := e8.out.2.1
  by_cases hlt : s < r
  case pos =>
    obtain ⟨cc, hcc⟩ : ∃ cc, cc = (s + r) / 2 := ⟨_, rfl⟩
    have X1 : IntKind.i64.wrap ((s : Int) + r) = (s : Int) + r := by rw [IntKind.wrap_i64]; omega
    have HCC := Lib.hid (show ((s : Int) + r) / 2 = (cc : Int) by omega)
    obtain ⟨pc, hpc⟩ : ∃ pc, pc = p - cc := ⟨_, rfl⟩
    have hsc : s ≤ cc := by omega
    have hcr : cc < r := by omega
    have X2 : IntKind.i64.wrap ((p : Int) - cc) = (pc : Int) := by rw [IntKind.wrap_i64]; have := HQ.out; omega
    have hcn : cc < n := by omega
    have hpb : m ≤ pc ∧ pc < b := by have := HQ.out; omega
    have hpn : pc < n := by omega
    have T := I.out.row.get2 (i := pc) (j := cc) (by rw [← HN.out]; exact hpn) (by rw [← HN.out]; exact hcn)
    obtain ⟨x, hx⟩ : ∃ x, x = (P ++ (L ++ (R ++ S))).getD pc d0 := ⟨_, rfl⟩
    obtain ⟨y, hy⟩ : ∃ y, y = (P ++ (L ++ (R ++ S))).getD cc d0 := ⟨_, rfl⟩
    rw [← hx, ← hy] at T
    have k1 := Kin.cell T.c1; have k2 := Kin.cell T.c2; have k3 := Kin.cell T.c3; have k4 := Kin.cell T.c4
    have LO := Lib.hid (show ¬ x.2 < y.2 → ∀ k, a ≤ k → k < cc + 1 → ¬ tAt (P ++ (L ++ (R ++ S))) (p - k) < tAt (P ++ (L ++ (R ++ S))) k from fun hxy k h1 h2 h3 => by
      have h4 := LT.out k cc (by omega) (by omega) (by omega) (by omega) (by have := HQ.out; omega) h3
      unfold tAt at h4
      rw [← hpc, ← hx, ← hy] at h4
      exact hxy h4)
    have HI := Lib.hid (show x.2 < y.2 → ∀ k, cc ≤ k → k < m → tAt (P ++ (L ++ (R ++ S))) (p - k) < tAt (P ++ (L ++ (R ++ S))) k from fun hxy k h1 h2 =>
      LT.out cc k (by omega) (by omega) (by omega) (by have := HQ.out; omega) (by have := HQ.out; omega) (by unfold tAt; rw [← hpc, ← hx, ← hy]; exact hxy))
    clear T hx hy hpc hcc hpb
    go_upto_region 35 with fail
    rw [HCC.out]
    by_cases hc : x.2 < y.2
    · have hc' := cmpZ_lt hc
      have HC := Lib.hid hc
      clear hc
      refine wp_region_kin (by kernel_rfl) (by kernel_rfl) ?_
      repeat (go_big_quiet_step ((go_at_call 51; exact Kin.call _ (cmpC _ _ _ _ _))))
      refine wpQuiet_nil ?_
      rintro w9 ⟨t9, e9⟩
      have uu := t9.below
      rw [← e9] at uu
      clear e9 t9
      clear k1 k2 k3 k4
      go_wp2
      go_roundw
      case rel => exact ⟨s, cc, rfl, rfl, hs, hsc, by omega, ⟨I.out.lo, HI.out HC.out, I.out.row.up uu, I.out.only.on uu⟩⟩
      case measure => simp [RowKit.intOf]; omega
    · have hc' := cmpZ_ge hc
      have HC := Lib.hid hc
      have X3 : IntKind.i64.wrap ((cc : Int) + 1) = (cc : Int) + 1 := by rw [IntKind.wrap_i64]; omega
      clear hc
      refine wp_region_kin (by kernel_rfl) (by kernel_rfl) ?_
      repeat (go_big_quiet_step ((go_at_call 51; exact Kin.call _ (cmpC _ _ _ _ _))))
      refine wpQuiet_nil ?_
      rintro w9 ⟨t9, e9⟩
      have uu := t9.below
      rw [← e9] at uu
      clear e9 t9
      clear k1 k2 k3 k4
      go_wp2
      go_roundw
      case rel => exact ⟨cc + 1, r, by go_num, rfl, by omega, by omega, hr, ⟨LO.out HC.out, I.out.hi, I.out.row.up uu, I.out.only.on uu⟩⟩
      case measure => simp [RowKit.intOf]; omega
  obtain rfl : s = r := by omega
  clear hlt hsr
  obtain ⟨e, he⟩ : ∃ e, e = q - s := ⟨_, rfl⟩
  have X1 : IntKind.i64.wrap ((q : Int) - s) = (e : Int) := by rw [IntKind.wrap_i64]; have := HQ.out; have := e8.out; omega
  have h1 : a ≤ s := by omega
  have h2 : s ≤ m := by omega
  have h3 : s ≤ mid := by omega
  have h4 : e ≤ b := by omega
  have TL0 := tail_of (g := g) (c := c) (n := n) (P := P) (L := L) (R := R) (S := S) (a := a) (m := m) (b := b) (mid := mid) (s := s) (e := e) IH'.out HA.out HM.out HB.out HMI.out UL.out UR.out HL1.out HR1.out HN.out hm h1 h2 h3 (by rw [he, HQ.out]) h4
    (fun g1 g2 => by have := I.out.hi s (Nat.le_refl _) (by rcases e6.out.2 with h | h <;> omega); rwa [show p - s = e - 1 by omega] at this)
    (fun g1 g2 => by have := I.out.lo (s - 1) (by rcases e6.out.1 with h | h <;> omega) (by omega); rw [show p - (s - 1) = e by omega] at this; omega)
  obtain ⟨A, B, C, D, TT0⟩ := TL0
  have TT := Lib.hid TT0
  clear TT0 he
  by_cases g1 : s < m
  · by_cases g2 : m < e
    · have CC := Lib.hid (TT.out.rot _ I.out.row g1 g2)
      go_wp2_with fail
      refine CC.out.mono ?_
      rintro ex w5 ⟨rfl, q1, q3⟩
      have S2 := Lib.hid q1; have S3 := Lib.hid q3
      clear q1 q3 CC
      have RW2 := Lib.hid S2.out
      have ON2 := Lib.hid (I.out.only.trans S3.out (fun k => .inl))
      by_cases g3 : a < s
      · by_cases g4 : s < mid
        · have CC := Lib.hid (TT.out.rec1 _ RW2.out g3 g4)
          go_wp2_with fail
          refine CC.out.mono ?_
          rintro ex w6 ⟨rfl, L', q1, q2, q3⟩
          have S1 := Lib.hid q1; have S2 := Lib.hid q2; have S3 := Lib.hid q3
          clear q1 q2 q3 CC
          have RW3 := Lib.hid S2.out
          have ON3 := Lib.hid (ON2.out.trans S3.out (fun k => .inl))
          by_cases g5 : mid < e
          · by_cases g6 : e < b
            · have CC := Lib.hid (TT.out.rec2 _ _ S1.out RW3.out g5 g6)
              go_wp2_with fail
              refine CC.out.mono ?_
              rintro ex w7 ⟨rfl, M, q1, q2, q3⟩
              have Q1 := Lib.hid q1; have Q2 := Lib.hid q2; have Q3 := Lib.hid q3
              clear q1 q2 q3
              go_wp2
              go_end0
              exact ⟨rfl, M, Q1.out, Q2.out, ON3.out.trans Q3.out (fun k => .inl)⟩
            · obtain ⟨M, q1, q2⟩ := TT.out.norec2 _ _ S1.out RW3.out (fun h => g6 h.2)
              have Q1 := Lib.hid q1; have Q2 := Lib.hid q2
              clear q1 q2
              go_wp2
              go_end0
              exact ⟨rfl, M, Q1.out, Q2.out, ON3.out⟩
          · obtain ⟨M, q1, q2⟩ := TT.out.norec2 _ _ S1.out RW3.out (fun h => g5 h.1)
            have Q1 := Lib.hid q1; have Q2 := Lib.hid q2
            clear q1 q2
            go_wp2
            go_end0
            exact ⟨rfl, M, Q1.out, Q2.out, ON3.out⟩
        · obtain ⟨L', q1, q2⟩ := TT.out.norec1 _ RW2.out (fun h => g4 h.2)
          have S1 := Lib.hid q1; have S2 := Lib.hid q2
          clear q1 q2
          have RW3 := Lib.hid S2.out
          have ON3 := Lib.hid ON2.out
          by_cases g5 : mid < e
          · by_cases g6 : e < b
            · have CC := Lib.hid (TT.out.rec2 _ _ S1.out RW3.out g5 g6)
              go_wp2_with fail
              refine CC.out.mono ?_
              rintro ex w7 ⟨rfl, M, q1, q2, q3⟩
              have Q1 := Lib.hid q1; have Q2 := Lib.hid q2; have Q3 := Lib.hid q3
              clear q1 q2 q3
              go_wp2
              go_end0
              exact ⟨rfl, M, Q1.out, Q2.out, ON3.out.trans Q3.out (fun k => .inl)⟩
            · obtain ⟨M, q1, q2⟩ := TT.out.norec2 _ _ S1.out RW3.out (fun h => g6 h.2)
              have Q1 := Lib.hid q1; have Q2 := Lib.hid q2
              clear q1 q2
              go_wp2
              go_end0
              exact ⟨rfl, M, Q1.out, Q2.out, ON3.out⟩
          · obtain ⟨M, q1, q2⟩ := TT.out.norec2 _ _ S1.out RW3.out (fun h => g5 h.1)
            have Q1 := Lib.hid q1; have Q2 := Lib.hid q2
            clear q1 q2
            go_wp2
            go_end0
            exact ⟨rfl, M, Q1.out, Q2.out, ON3.out⟩
      · obtain ⟨L', q1, q2⟩ := TT.out.norec1 _ RW2.out (fun h => g3 h.1)
        have S1 := Lib.hid q1; have S2 := Lib.hid q2
        clear q1 q2
        have RW3 := Lib.hid S2.out
        have ON3 := Lib.hid ON2.out
        by_cases g5 : mid < e
        · by_cases g6 : e < b
          · have CC := Lib.hid (TT.out.rec2 _ _ S1.out RW3.out g5 g6)
            go_wp2_with fail
            refine CC.out.mono ?_
            rintro ex w7 ⟨rfl, M, q1, q2, q3⟩
            have Q1 := Lib.hid q1; have Q2 := Lib.hid q2; have Q3 := Lib.hid q3
            clear q1 q2 q3
            go_wp2
            go_end0
            exact ⟨rfl, M, Q1.out, Q2.out, ON3.out.trans Q3.out (fun k => .inl)⟩
          · obtain ⟨M, q1, q2⟩ := TT.out.norec2 _ _ S1.out RW3.out (fun h => g6 h.2)
            have Q1 := Lib.hid q1; have Q2 := Lib.hid q2
            clear q1 q2
            go_wp2
            go_end0
            exact ⟨rfl, M, Q1.out, Q2.out, ON3.out⟩
        · obtain ⟨M, q1, q2⟩ := TT.out.norec2 _ _ S1.out RW3.out (fun h => g5 h.1)
          have Q1 := Lib.hid q1; have Q2 := Lib.hid q2
          clear q1 q2
          go_wp2
          go_end0
          exact ⟨rfl, M, Q1.out, Q2.out, ON3.out⟩
    · have S2 := Lib.hid (TT.out.norot _ I.out.row (fun h => g2 h.2))
      have RW2 := Lib.hid S2.out
      have ON2 := Lib.hid I.out.only
      by_cases g3 : a < s
      · by_cases g4 : s < mid
        · have CC := Lib.hid (TT.out.rec1 _ RW2.out g3 g4)
          go_wp2_with fail
          refine CC.out.mono ?_
          rintro ex w6 ⟨rfl, L', q1, q2, q3⟩
          have S1 := Lib.hid q1; have S2 := Lib.hid q2; have S3 := Lib.hid q3
          clear q1 q2 q3 CC
          have RW3 := Lib.hid S2.out
          have ON3 := Lib.hid (ON2.out.trans S3.out (fun k => .inl))
          by_cases g5 : mid < e
          · by_cases g6 : e < b
            · have CC := Lib.hid (TT.out.rec2 _ _ S1.out RW3.out g5 g6)
              go_wp2_with fail
              refine CC.out.mono ?_
              rintro ex w7 ⟨rfl, M, q1, q2, q3⟩
              have Q1 := Lib.hid q1; have Q2 := Lib.hid q2; have Q3 := Lib.hid q3
              clear q1 q2 q3
              go_wp2
              go_end0
              exact ⟨rfl, M, Q1.out, Q2.out, ON3.out.trans Q3.out (fun k => .inl)⟩
            · obtain ⟨M, q1, q2⟩ := TT.out.norec2 _ _ S1.out RW3.out (fun h => g6 h.2)
              have Q1 := Lib.hid q1; have Q2 := Lib.hid q2
              clear q1 q2
              go_wp2
              go_end0
              exact ⟨rfl, M, Q1.out, Q2.out, ON3.out⟩
          · obtain ⟨M, q1, q2⟩ := TT.out.norec2 _ _ S1.out RW3.out (fun h => g5 h.1)
            have Q1 := Lib.hid q1; have Q2 := Lib.hid q2
            clear q1 q2
            go_wp2
            go_end0
            exact ⟨rfl, M, Q1.out, Q2.out, ON3.out⟩
        · obtain ⟨L', q1, q2⟩ := TT.out.norec1 _ RW2.out (fun h => g4 h.2)
          have S1 := Lib.hid q1; have S2 := Lib.hid q2
          clear q1 q2
          have RW3 := Lib.hid S2.out
          have ON3 := Lib.hid ON2.out
          by_cases g5 : mid < e
          · by_cases g6 : e < b
            · have CC := Lib.hid (TT.out.rec2 _ _ S1.out RW3.out g5 g6)
              go_wp2_with fail
              refine CC.out.mono ?_
              rintro ex w7 ⟨rfl, M, q1, q2, q3⟩
              have Q1 := Lib.hid q1; have Q2 := Lib.hid q2; have Q3 := Lib.hid q3
              clear q1 q2 q3
              go_wp2
              go_end0
              exact ⟨rfl, M, Q1.out, Q2.out, ON3.out.trans Q3.out (fun k => .inl)⟩
            · obtain ⟨M, q1, q2⟩ := TT.out.norec2 _ _ S1.out RW3.out (fun h => g6 h.2)
              have Q1 := Lib.hid q1; have Q2 := Lib.hid q2
              clear q1 q2
              go_wp2
              go_end0
              exact ⟨rfl, M, Q1.out, Q2.out, ON3.out⟩
          · obtain ⟨M, q1, q2⟩ := TT.out.norec2 _ _ S1.out RW3.out (fun h => g5 h.1)
            have Q1 := Lib.hid q1; have Q2 := Lib.hid q2
            clear q1 q2
            go_wp2
            go_end0
            exact ⟨rfl, M, Q1.out, Q2.out, ON3.out⟩
      · obtain ⟨L', q1, q2⟩ := TT.out.norec1 _ RW2.out (fun h => g3 h.1)
        have S1 := Lib.hid q1; have S2 := Lib.hid q2
        clear q1 q2
        have RW3 := Lib.hid S2.out
        have ON3 := Lib.hid ON2.out
        by_cases g5 : mid < e
        · by_cases g6 : e < b
          · have CC := Lib.hid (TT.out.rec2 _ _ S1.out RW3.out g5 g6)
            go_wp2_with fail
            refine CC.out.mono ?_
            rintro ex w7 ⟨rfl, M, q1, q2, q3⟩
            have Q1 := Lib.hid q1; have Q2 := Lib.hid q2; have Q3 := Lib.hid q3
            clear q1 q2 q3
            go_wp2
            go_end0
            exact ⟨rfl, M, Q1.out, Q2.out, ON3.out.trans Q3.out (fun k => .inl)⟩
          · obtain ⟨M, q1, q2⟩ := TT.out.norec2 _ _ S1.out RW3.out (fun h => g6 h.2)
            have Q1 := Lib.hid q1; have Q2 := Lib.hid q2
            clear q1 q2
            go_wp2
            go_end0
            exact ⟨rfl, M, Q1.out, Q2.out, ON3.out⟩
        · obtain ⟨M, q1, q2⟩ := TT.out.norec2 _ _ S1.out RW3.out (fun h => g5 h.1)
          have Q1 := Lib.hid q1; have Q2 := Lib.hid q2
          clear q1 q2
          go_wp2
          go_end0
          exact ⟨rfl, M, Q1.out, Q2.out, ON3.out⟩
  · have S2 := Lib.hid (TT.out.norot _ I.out.row (fun h => g1 h.1))
    have RW2 := Lib.hid S2.out
    have ON2 := Lib.hid I.out.only
    by_cases g3 : a < s
    · by_cases g4 : s < mid
      · have CC := Lib.hid (TT.out.rec1 _ RW2.out g3 g4)
        go_wp2_with fail
        refine CC.out.mono ?_
        rintro ex w6 ⟨rfl, L', q1, q2, q3⟩
        have S1 := Lib.hid q1; have S2 := Lib.hid q2; have S3 := Lib.hid q3
        clear q1 q2 q3 CC
        have RW3 := Lib.hid S2.out
        have ON3 := Lib.hid (ON2.out.trans S3.out (fun k => .inl))
        by_cases g5 : mid < e
        · by_cases g6 : e < b
          · have CC := Lib.hid (TT.out.rec2 _ _ S1.out RW3.out g5 g6)
            go_wp2_with fail
            refine CC.out.mono ?_
            rintro ex w7 ⟨rfl, M, q1, q2, q3⟩
            have Q1 := Lib.hid q1; have Q2 := Lib.hid q2; have Q3 := Lib.hid q3
            clear q1 q2 q3
            go_wp2
            go_end0
            exact ⟨rfl, M, Q1.out, Q2.out, ON3.out.trans Q3.out (fun k => .inl)⟩
          · obtain ⟨M, q1, q2⟩ := TT.out.norec2 _ _ S1.out RW3.out (fun h => g6 h.2)
            have Q1 := Lib.hid q1; have Q2 := Lib.hid q2
            clear q1 q2
            go_wp2
            go_end0
            exact ⟨rfl, M, Q1.out, Q2.out, ON3.out⟩
        · obtain ⟨M, q1, q2⟩ := TT.out.norec2 _ _ S1.out RW3.out (fun h => g5 h.1)
          have Q1 := Lib.hid q1; have Q2 := Lib.hid q2
          clear q1 q2
          go_wp2
          go_end0
          exact ⟨rfl, M, Q1.out, Q2.out, ON3.out⟩
      · obtain ⟨L', q1, q2⟩ := TT.out.norec1 _ RW2.out (fun h => g4 h.2)
        have S1 := Lib.hid q1; have S2 := Lib.hid q2
        clear q1 q2
        have RW3 := Lib.hid S2.out
        have ON3 := Lib.hid ON2.out
        by_cases g5 : mid < e
        · by_cases g6 : e < b
          · have CC := Lib.hid (TT.out.rec2 _ _ S1.out RW3.out g5 g6)
            go_wp2_with fail
            refine CC.out.mono ?_
            rintro ex w7 ⟨rfl, M, q1, q2, q3⟩
            have Q1 := Lib.hid q1; have Q2 := Lib.hid q2; have Q3 := Lib.hid q3
            clear q1 q2 q3
            go_wp2
            go_end0
            exact ⟨rfl, M, Q1.out, Q2.out, ON3.out.trans Q3.out (fun k => .inl)⟩
          · obtain ⟨M, q1, q2⟩ := TT.out.norec2 _ _ S1.out RW3.out (fun h => g6 h.2)
            have Q1 := Lib.hid q1; have Q2 := Lib.hid q2
            clear q1 q2
            go_wp2
            go_end0
            exact ⟨rfl, M, Q1.out, Q2.out, ON3.out⟩
        · obtain ⟨M, q1, q2⟩ := TT.out.norec2 _ _ S1.out RW3.out (fun h => g5 h.1)
          have Q1 := Lib.hid q1; have Q2 := Lib.hid q2
          clear q1 q2
          go_wp2
          go_end0
          exact ⟨rfl, M, Q1.out, Q2.out, ON3.out⟩
    · obtain ⟨L', q1, q2⟩ := TT.out.norec1 _ RW2.out (fun h => g3 h.1)
      have S1 := Lib.hid q1; have S2 := Lib.hid q2
      clear q1 q2
      have RW3 := Lib.hid S2.out
      have ON3 := Lib.hid ON2.out
      by_cases g5 : mid < e
      · by_cases g6 : e < b
        · have CC := Lib.hid (TT.out.rec2 _ _ S1.out RW3.out g5 g6)
          go_wp2_with fail
          refine CC.out.mono ?_
          rintro ex w7 ⟨rfl, M, q1, q2, q3⟩
          have Q1 := Lib.hid q1; have Q2 := Lib.hid q2; have Q3 := Lib.hid q3
          clear q1 q2 q3
          go_wp2
          go_end0
          exact ⟨rfl, M, Q1.out, Q2.out, ON3.out.trans Q3.out (fun k => .inl)⟩
        · obtain ⟨M, q1, q2⟩ := TT.out.norec2 _ _ S1.out RW3.out (fun h => g6 h.2)
          have Q1 := Lib.hid q1; have Q2 := Lib.hid q2
          clear q1 q2
          go_wp2
          go_end0
          exact ⟨rfl, M, Q1.out, Q2.out, ON3.out⟩
      · obtain ⟨M, q1, q2⟩ := TT.out.norec2 _ _ S1.out RW3.out (fun h => g5 h.1)
        have Q1 := Lib.hid q1; have Q2 := Lib.hid q2
        clear q1 q2
        go_wp2
        go_end0
        exact ⟨rfl, M, Q1.out, Q2.out, ON3.out⟩
end Go.Proofs.Ytkgcnmloojnblaa.wlU

namespace Go.Proofs.Ytkgcnmloojnblaa.wlU
open Go.RowKit Go.Shelf Go.Lib Go.Proofs.Ytkgcnmloojnblaa.nb Go.Proofs.Ytkgcnmloojnblaa.wh Go.Proofs.Ytkgcnmloojnblaa.wf
set_option linter.unusedVariables false

theorem SymOk.mono {g c N N' : Nat} (h : SymOk g c N) (hN : N' ≤ N) : SymOk g c N' := fun n P L R S a m b w hl => h n P L R S a m b w (Nat.le_trans hl hN)
theorem symOk (g c : Nat) : ∀ N, SymOk g c N
  | 0 => fun n P L R S a m b w hl ha hm hb hL => by
    have := List.length_pos_iff.2 hL
    omega
  | N + 1 => fun n P L R S a m b w hl ha hm hb hL hR uL uR hn hnm h => by
    have l1 := List.length_pos_iff.2 hL
    have l2 := List.length_pos_iff.2 hR
    rcases Nat.lt_or_ge 1 L.length with h1 | h1
    · rcases Nat.lt_or_ge 1 R.length with h2 | h2
      · have IH : SymOk g c (L.length + R.length - 1) := (symOk g c N).mono (by omega)
        by_cases hc : (a + b) / 2 < m
        · exact symA g c n P L R S a m b _ IH ha hm hb rfl hc h1 h2 uL uR hn hnm w h
        · exact symB g c n P L R S a m b _ IH ha hm hb rfl hc h1 h2 uL uR hn hnm w h
      · obtain ⟨x, rfl⟩ := List.length_eq_one_iff.1 (show R.length = 1 by omega)
        exact sym2C g c n P L S x a m b ha hm (by simpa using hb) h1 uL hn hnm w h
    · obtain ⟨x, rfl⟩ := List.length_eq_one_iff.1 (show L.length = 1 by omega)
      exact sym1C g c n P R S x a m b ha (by simpa using hm) hb hR uR hn hnm w h
set_option maxHeartbeats 8000000 in
theorem stableC (g c n : Nat) (ds0 : List Tm) (hn : n = ds0.length) (hm : n ≤ 1048576) (w : World) (h : Rw w g ds0) :
    Calls Try.prog 59 #[.slice (some ⟨g, 0, none⟩) n c, .int .i64 n, .func (.func 51) #[] #[]] w fun e w' => e = .returned (.tuple #[]) ∧ ∃ M, St M ds0 ∧ Rw w' g M ∧ Only (fun k => k = g) w w' := by
  have HN := Lib.hid hn; have HR := Lib.hid h
  clear hn h
  go_enter Try.func59, Try.ntmps59
  go_wp2_with fail
  go_loopw [7, 8] (fun v u wr => ∃ (a b : Nat) (cs : List (List Tm)) (rest : List Tm), v = .int .i64 a ∧ u = .int .i64 b ∧ b = a + 20 ∧ a ≤ n ∧ a = cs.flatten.length ∧ Bks 20 cs ∧ (∀ t, ft t (cs.flatten ++ rest) = ft t ds0) ∧ Rw wr g (cs.flatten ++ rest) ∧ Only (fun k => k = g) w wr) (fun v u _ => n + 20 - (intOf u).toNat)
  case atStart => exact ⟨0, 20, [], ds0, rfl, rfl, rfl, Nat.zero_le _, rfl, Bks.nil_ _, fun t => rfl, HR.out, Only.refl _ _⟩
  case round =>
  obtain ⟨a, b, cs, rest, rfl, rfl, hab, han, ha, hbk, hft, hrow, honly⟩ := hrel
  have HA := Lib.hid ha; have HB := Lib.hid hbk; have HF := Lib.hid hft; have HRo := Lib.hid hrow; have HO := Lib.hid honly
  have hlen : n = a + rest.length := by have := (St.perm hft).length_eq; rw [List.length_append] at this; rw [HN.out, ← this, ha]
  have HL := Lib.hid hlen
  clear ha hbk hft hrow honly hlen
  by_cases hbn : b ≤ n
  · have CC := Lib.hid (insC g c n cs.flatten (rest.take 20) (rest.drop 20) a b HA.out (by rw [List.length_append, ← HA.out, List.length_take, Nat.min_eq_left (by have := HL.out; omega)]; exact hab) (by rw [List.take_append_drop, List.length_append, ← HA.out]; exact HL.out) (by omega) wr (by rw [List.take_append_drop]; exact HRo.out))
    have HAB := Lib.hid hab
    have W1 : IntKind.i64.wrap ((b : Int) + 20) = (b : Int) + 20 := by rw [IntKind.wrap_i64]; omega
    clear hab
    go_wp2_with fail
    refine CC.out.mono ?_
    rintro e w1 ⟨rfl, M, q1, q2, q3⟩
    have Q1 := Lib.hid q1; have Q2 := Lib.hid q2; have Q3 := Lib.hid q3
    have lM := Lib.hid (show M.length = 20 by rw [q1.len, List.length_take, Nat.min_eq_left (by have := HL.out; have := HAB.out; omega)])
    clear q1 q2 q3 CC
    go_wp2
    go_roundw
    case rel => exact ⟨b, b + 20, cs ++ [M], rest.drop 20, rfl, by go_num, rfl, hbn, by rw [flat_snoc, List.length_append, lM.out, ← HA.out]; exact HAB.out, HB.out.snoc Q1.out.1 lM.out, fun t => by
      rw [flat_snoc, ← HF.out t]; simp only [ft_app, Q1.out.2 t, List.append_assoc]; rw [← ft_app t (rest.take 20), List.take_append_drop], by rw [flat_snoc]; simpa using Q2.out, HO.out.trans Q3.out (fun k => .inl)⟩
    case measure => simp [RowKit.intOf]; omega
  have CC := Lib.hid (insC g c n cs.flatten rest [] a n HA.out (by rw [List.length_append, ← HA.out]; exact HL.out) (by rw [List.append_nil, List.length_append, ← HA.out]; exact HL.out) (by omega) wr (by rw [List.append_nil]; exact HRo.out))
  go_wp2_with fail
  refine CC.out.mono ?_
  rintro e w1 ⟨rfl, M, q1, q2, q3⟩
  have LL := Lib.hid (show Lay 20 (cs.flatten ++ M) ds0 cs M from ⟨rfl, HB.out, q1.1, by rw [q1.len]; have := HL.out; omega, fun t => by rw [← HF.out t]; simp only [ft_app, q1.2 t]⟩)
  have Q2 := Lib.hid (show Rw w1 g (cs.flatten ++ M) by simpa using q2); have Q3 := Lib.hid (HO.out.trans q3 (fun k => .inl))
  clear q1 q2 q3 CC hbn hab han
  go_wp2_with fail
  go_loopw [6] (fun v wr => ∃ (k : Nat) (ds : List Tm) (cs : List (List Tm)) (tl : List Tm), v = .int .i64 k ∧ 0 < k ∧ k ≤ 2097152 ∧ Lay k ds ds0 cs tl ∧ Rw wr g ds ∧ Only (fun k => k = g) w wr) (fun v _ => n - (intOf v).toNat)
  case atStart => exact ⟨20, _, cs, M, rfl, by omega, by omega, LL.out, Q2.out, Q3.out⟩
  case round =>
  clear LL Q2 Q3 HL HA HB HF HRo HO
  obtain ⟨k, ds, cs, tl, rfl, hk0, hk1, hlay, hrow, honly⟩ := hrel
  have HL := Lib.hid hlay; have HRo := Lib.hid hrow; have HO := Lib.hid honly
  clear hlay hrow honly
  by_cases hkn : k < n
  case neg =>
    have FIN := Lib.hid (HL.out.done (by rw [(St.perm HL.out.ft).length_eq, ← HN.out]; omega))
    go_wp2
    go_end0
    exact ⟨rfl, ds, FIN.out, HRo.out, HO.out⟩
  have W1 : IntKind.i64.wrap (2 * (k : Int)) = 2 * (k : Int) := by rw [IntKind.wrap_i64]; omega
  have W2 : IntKind.i64.wrap ((k : Int) * 2) = (k : Int) * 2 := by rw [IntKind.wrap_i64]; omega
  go_wp2_with fail
  go_loopw [7, 8] (fun v u wq => ∃ (a b : Nat) (ds : List Tm) (es cs : List (List Tm)) (tl : List Tm), v = .int .i64 a ∧ u = .int .i64 b ∧ b = a + 2 * k ∧ a ≤ n ∧ a = es.flatten.length ∧ Mid k ds ds0 es cs tl ∧ Rw wq g ds ∧ Only (fun k => k = g) w wq) (fun v u _ => n + 2 * k - (intOf u).toNat)
  case atStart => exact ⟨0, 2 * k, ds, [], cs, tl, rfl, by go_num, by omega, Nat.zero_le _, rfl, HL.out.mid, HRo.out, HO.out⟩
  case round =>
  clear HL HRo HO
  obtain ⟨a, b, ds, es, cs, tl, rfl, rfl, hab, han, ha, hmid, hrow, honly⟩ := hrel
  have HA := Lib.hid ha; have HM := Lib.hid hmid; have HRo := Lib.hid hrow; have HO := Lib.hid honly
  have hlen : n = a + (cs.flatten ++ tl).length := by have := (St.perm hmid.ft).length_eq; rw [HN.out, ← this, hmid.all, List.length_append, ha]
  have HL := Lib.hid hlen
  have htl := Lib.hid hmid.lt
  clear ha hmid hrow honly hlen
  have W3 : IntKind.i64.wrap ((a : Int) + k) = (a : Int) + k := by rw [IntKind.wrap_i64]; omega
  by_cases hbn : b ≤ n
  · rcases cs with _ | ⟨L, _ | ⟨R, cs⟩⟩
    · have h1 := HL.out; have h2 := htl.out; simp at h1; omega
    · have h1 := HL.out; have h2 := htl.out; have h3 := HM.out.bk.hd.2; simp at h1; omega
    obtain ⟨m, hmm⟩ : ∃ m, m = a + k := ⟨_, rfl⟩
    have hL := HM.out.bk.hd; have hR := HM.out.bk.tl.hd
    have CC := Lib.hid (symOk g c _ n es.flatten L R (cs.flatten ++ tl) a m b wr (Nat.le_refl _) HA.out (by omega) (by omega) (fun h => by rw [h] at hL; simp at hL; omega) (fun h => by rw [h] at hR; simp at hR; omega) hL.1 hR.1 (by rw [HL.out, HA.out]; simp) (by omega) (by have := HRo.out; rw [HM.out.all] at this; simpa using this))
    have W4 : IntKind.i64.wrap ((b : Int) + 2 * (k : Int)) = (b : Int) + 2 * (k : Int) := by rw [IntKind.wrap_i64]; omega
    have W5 : (a : Int) + k = (m : Int) := by omega
    have W6 : IntKind.i64.wrap ((a : Int) + k) = (m : Int) := by rw [W3]; exact W5
    clear W3
    have HAB := Lib.hid hab
    have HLL := Lib.hid (show L.length + R.length = 2 * k by omega)
    clear hL hR hab W5 hmm
    go_wp2_with fail
    refine CC.out.mono ?_
    rintro e w1 ⟨rfl, M, q1, q2, q3⟩
    have Q1 := Lib.hid q1; have Q2 := Lib.hid q2; have Q3 := Lib.hid q3
    clear q1 q2 q3 CC
    go_wp2
    go_roundw
    case rel => exact ⟨b, b + 2 * k, _, es ++ [M], cs, tl, rfl, by go_num, rfl, hbn, by rw [flat_snoc, List.length_append, Q1.out.len, List.length_append, HLL.out, ← HA.out]; exact HAB.out, HM.out.step Q1.out, Q2.out, HO.out.trans Q3.out (fun k => .inl)⟩
    case measure => simp [RowKit.intOf]; omega
  by_cases hc : a + k < n
  case neg =>
    have FIN := Lib.hid (HM.out.end_ (by have := HL.out; omega) hk0)
    go_wp2
    go_roundw
    case rel => exact ⟨2 * k, ds, es, _, by go_num, by omega, by omega, FIN.out, HRo.out, HO.out⟩
    case measure => simp [RowKit.intOf]; omega
  rcases cs with _ | ⟨L, _ | ⟨R, cs⟩⟩
  · have h1 := HL.out; have h2 := htl.out; simp at h1; omega
  · obtain ⟨m, hmm⟩ : ∃ m, m = a + k := ⟨_, rfl⟩
    have hL := HM.out.bk.hd
    have htl0 : tl ≠ [] := fun h => by have h1 := HL.out; rw [h] at h1; simp at h1; omega
    have CC := Lib.hid (symOk g c _ n es.flatten L tl [] a m n wr (Nat.le_refl _) HA.out (by omega) (by have h1 := HL.out; simp at h1; omega) (fun h => by rw [h] at hL; simp at hL; omega) htl0 hL.1 HM.out.up (by rw [HL.out, HA.out]; simp) (by omega) (by have := HRo.out; rw [HM.out.all] at this; simpa using this))
    have W5 : (a : Int) + k = (m : Int) := by omega
    have W6 : IntKind.i64.wrap ((a : Int) + k) = (m : Int) := by rw [W3]; exact W5
    clear W3
    have hmn : m < n := by omega
    clear hL hab W5 hmm htl0 hc
    go_wp2_with fail
    refine CC.out.mono ?_
    rintro e w1 ⟨rfl, M, q1, q2, q3⟩
    have FIN := Lib.hid (HM.out.last q1)
    have Q2 := Lib.hid (show Rw w1 g (es.flatten ++ M) by simpa using q2); have Q3 := Lib.hid q3
    clear q1 q2 q3 CC
    go_wp2
    go_roundw
    case rel => exact ⟨2 * k, _, es, _, by go_num, by omega, by omega, FIN.out, Q2.out, HO.out.trans Q3.out (fun k => .inl)⟩
    case measure => simp [RowKit.intOf]; omega
  · have h1 := HL.out; have h2 := HM.out.bk.hd.2; have h3 := HM.out.bk.tl.hd.2; simp at h1; omega
theorem sortC (g c n : Nat) (ds0 : List Tm) (hn : n = ds0.length) (hm : n ≤ 1048576) (w : World) (h : Rw w g ds0) :
    Calls Try.prog 50 #[.slice (some ⟨g, 0, none⟩) n c, .func (.func 51) #[] #[]] w fun e w' => e = .returned (.tuple #[]) ∧ ∃ M, St M ds0 ∧ Rw w' g M ∧ Only (fun k => k = g) w w' := by
  have CC := Lib.hid (stableC g c n ds0 hn hm w h)
  clear hn h
  go_enter Try.func50, Try.ntmps50
  go_wp2_with fail
  refine CC.out.mono ?_
  rintro e w1 ⟨rfl, M, q1, q2, q3⟩
  go_wp2
  go_end0
  exact ⟨rfl, M, q1, q2, q3⟩
end Go.Proofs.Ytkgcnmloojnblaa.wlU
