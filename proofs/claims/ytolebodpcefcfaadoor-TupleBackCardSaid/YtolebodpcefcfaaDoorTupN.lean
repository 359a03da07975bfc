/- Package tuple: the address that a text is. Condition: the library's variables lie as laid. -/
import Derived.Test.YtolebodpcefcfaaDoorTupL
namespace Go.Proofs.YtolebodpcefcfaaDoor.tu
open Go.RowKit Go.Shelf Go.Proofs.YtolebodpcefcfaaDoor.tm
set_option linter.unusedVariables false

set_option maxHeartbeats 2000000 in
set_option maxRecDepth 100000 in
theorem parseC (s : ByteArray) (w : World) (hs : s.size ≤ 1024) (E : Env w) :
    Calls Tryd.prog 6 #[.string s] w (ParseOut s w) := by
  go_enter Tryd.func6, Tryd.ntmps6
  go_upto_region 1 with fail
  have R0 := Box.new w 0 0
  have hu : Up w (w.alloc (.cells #[.int .u32 0, .int .u16 0] 25)) := up_al _ (Below.refl _ _)
  generalize (w.alloc (.cells #[.int .u32 0, .int .u16 0] 25)) = w0 at R0 hu ⊢
  have E0 := E.up hu
  go_wp2_with (first
    | (go_at_call 17; refine (cutC s w0 hs E0).mono ?_; rintro e w1 ⟨x, y, b, rfl, hx, hy, hu1⟩; have E1 := E0.up hu1; have HX := Lib.hid hx; have HY := Lib.hid hy; clear hx hy; have hys : y.size ≤ 1024 := by { have := (cut1_len (L s) [58]).2; rw [← HY.out, L_len, L_len] at this; omega }; have hxs : x.size ≤ 1024 := by { have := (cut1_len (L s) [58]).1; rw [← HX.out, L_len, L_len] at this; omega })
    | (go_at_call 18; refine (told16 y w1 (by omega) E1).mono ?_; rintro e w2 ⟨hu2, p, ok, rfl, hp⟩; have HP := Lib.hid hp; clear hp; have R2 := (R0.up hu1).up hu2; have U2 := (hu.on hu1).on hu2; have E2 := E1.up hu2; refine Hid.out ?_))
  refine Lib.hid ?_
  cases ok
  · have HA : Hid (pa (L s) = (0, 0, 8)) := pa_eq (no_port (by
      rcases HP.out with ⟨h, _⟩ | ⟨_, _, h⟩
      · cases h
      · rw [← HY.out]; exact h))
    have R2' := Lib.hid R2
    obtain ⟨r0, r1, r2, r3, r4⟩ := R2
    go_wp2
    (try simp only [Exit.inBlock, Exit.then])
    refine bodyPost_ret (v := AE (0, 0, 8)) ?_ rfl ⟨by rw [HA.out], up_set (up_set U2 (Nat.le_refl _)) (Nat.le_refl _)⟩
    have BF := (R2'.out.set0 0).set1 0
    obtain ⟨f0, f1, -⟩ := BF
    rw [results_cell_tmp rfl]
    generalize World.setCell (World.setCell _ _ _) _ _ = WF at f0 f1 ⊢
    go_simp
  · have HPd : Hid (p ≤ 65535 ∧ D p = L y) := by
      rcases HP.out with ⟨_, h1, h2⟩ | ⟨h, _⟩
      · exact ⟨h1, h2⟩
      · cases h
    have hp65 := HPd.out.1
    go_wp2_with (go_at_call 19; refine (splitC x w2 hxs E2).mono ?_; rintro e w3 ⟨ps, n, c, g, rfl, hn, hnc, hn4, hps, hcell, hg, hu3⟩; have HN := Lib.hid hn; have HPS := Lib.hid hps; have HC := Lib.hid hcell; clear hn hps hcell; have R3 := Lib.hid (R2.up hu3); have U3 := U2.on hu3; have E3 := E2.up hu3; refine Hid.out ?_)
    refine Lib.hid ?_
    clear R2
    have hg0 : w.heap.size < w3.heap.size := R3.out.2.2.2.2
    go_wp2
    go_loopw [9, 31] (fun v i wr => ∃ (k : Nat) (ns : List Nat), k ≤ n ∧ i = .int .i64 (k : Nat) ∧ OwnB wr w3.heap.size v (ns.map oct) ∧ Hid (ns.length = k ∧ ns.map D = (ps.take k).map L ∧ ∀ m, m ∈ ns → m ≤ 255) ∧ Below w3.heap.size w3 wr) (fun _ i _ => n - (intOf i).toNat)
    case atStart => exact ⟨0, [], Nat.zero_le _, rfl, OwnB.nil_ _ _, ⟨rfl, rfl, fun m hm => by cases hm⟩, Below.refl _ _⟩
    case round =>
      obtain ⟨k, ns, hk, rfl, ho, hns, hb⟩ := hrel
      have hB1 := hb.size
      have E4 := E3.up hb
      have U4 := U3.on hb
      have hl : (ns.map oct).length = k := by rw [List.length_map]; exact hns.out.1
      by_cases hkn : k < n
      · have hkp : k < ps.length := by rw [HN.out]; exact hkn
        obtain ⟨q, hq⟩ : ∃ q, q = ps[k] := ⟨_, rfl⟩
        have c0 : wr.cell? ⟨g, k, none⟩ = some (.string q) := by rw [hq]; exact (hb.cell (p := ⟨g, k, none⟩) hg).trans (HC.out k hkp)
        have hqs : q.size ≤ 1099511627776 := by have := piece_le HPS.out hkp; rw [← hq] at this; omega
        have HQ := Lib.hid hq; clear hq
        have HL := Lib.hid hl; clear hl
        go_wp2_with (go_at_call 20; refine (told8 q wr hqs E4).mono ?_; rintro e w5 ⟨hu5, m, ok, rfl, hm⟩; have HM := Lib.hid hm; clear hm; have E5 := E4.up hu5; have U5 := U4.on hu5; have hb5 : Below w3.heap.size w3 w5 := hb.trans (hu5.mono hb.size); have ho5 := ho.up hu5; refine Hid.out ?_)
        refine Lib.hid ?_
        cases ok
        · have HA : Hid (pa (L s) = (0, 0, 8)) := pa_eq (no_piece HX.out HPS.out hkp (by
            rcases HM.out with ⟨h, _⟩ | ⟨_, _, h⟩
            · cases h
            · rw [← HQ.out]; exact h))
          have R5' := Lib.hid (R3.out.below hb5 hg0)
          obtain ⟨r0, r1, r2, r3, r4⟩ := R5'.out
          go_wp2
          (try simp only [Exit.inBlock, Exit.then])
          refine bodyPost_ret (v := AE (0, 0, 8)) ?_ rfl ⟨by rw [HA.out], up_set (up_set U5 (Nat.le_refl _)) (Nat.le_refl _)⟩
          have BF := (R5'.out.set0 0).set1 0
          obtain ⟨f0, f1, -⟩ := BF
          rw [results_cell_tmp rfl]
          generalize World.setCell (World.setCell _ _ _) _ _ = WF at f0 f1 ⊢
          go_simp
        · have hm255 : m ≤ 255 := by
            rcases HM.out with ⟨_, h1, _⟩ | ⟨h, _⟩
            · exact h1
            · cases h
          have HR : Hid ((ns ++ [m]).length = k + 1 ∧ (ns ++ [m]).map D = (ps.take (k + 1)).map L ∧ ∀ m', m' ∈ ns ++ [m] → m' ≤ 255) := by
            obtain ⟨h1, h2, h3⟩ := hns.out
            refine ⟨by rw [List.length_append, h1]; rfl, ?_, fun m' hm' => ?_⟩
            · rw [List.map_append, h2, List.take_add_one, List.getElem?_eq_getElem hkp, List.map_append]
              congr 1
              rcases HM.out with ⟨_, _, h⟩ | ⟨h, _⟩
              · show [D m] = [L ps[k]]
                rw [h, HQ.out]
              · cases h
            · rcases List.mem_append.1 hm' with h | h
              · exact h3 m' h
              · obtain rfl := List.mem_singleton.1 h; exact hm255
          have hB5 := hb5.size
          have hl5 : (ns.map oct).length ≤ 1024 := by rw [HL.out]; omega
          go_wp2_with (go_at_call 21; refine (lay8 w3.heap.size _ (ns.map oct) m w5 hm255 ho5 hl5 hB5).mono ?_; rintro e w6 ⟨⟨v6, rfl, ho6⟩, hb6⟩; have hb7 := hb5.trans hb6)
          go_roundw
          case rel => exact ⟨k + 1, ns ++ [m], by omega, by go_num, by rw [List.map_append]; exact ho6, HR.out, hb7⟩
          case measure => simp [intOf]; omega
      · obtain rfl : k = n := by omega
        have HA : Hid (pa (L s) = rd (ns.map oct ++ B16 p)) := by
          have h1 := hns.out.2.1
          rw [show ps.take k = ps by rw [← HN.out, List.take_length]] at h1
          have := all_pieces HX.out HY.out HPS.out h1 hns.out.2.2 hp65 HPd.out.2
          exact pa_eq this
        obtain ⟨z, hz⟩ : ∃ z : ByteArray, z = ⟨(ns.map oct ++ B16 p).toArray⟩ := ⟨_, rfl⟩
        have hzl : (ns.map oct ++ B16 p).length = k + 2 := by rw [List.length_append, hl]; rfl
        have hzs : z.size ≤ 1099511627776 := by rw [← L_len, hz]; simp only [L_mk]; rw [hzl]; omega
        obtain ⟨nn, hnn⟩ : ∃ nn, k + 2 = nn := ⟨_, rfl⟩
        rw [hnn] at hzl
        have hn0 : 0 < nn := by omega
        have hR : ∀ W, Calls Tryd.prog 8 #[.string z] W fun e w' => e = .returned (AE (pa (L s))) ∧ Up W w' := fun W => by
          have := readC z W hzs
          rw [show rd (L z) = pa (L s) by rw [HA.out, hz, L_mk]] at this
          exact this
        have HRD := Lib.hid hR
        have HZ := Lib.hid hz
        have HZL := Lib.hid hzl
        have HNN := Lib.hid hnn
        have hl1 : (ns.map oct).length ≤ 1024 := by rw [hl]; omega
        clear hR hz hzl hnn hl
        obtain ⟨ii, hii⟩ : ∃ ii, ii = (pa (L s)).1 := ⟨_, rfl⟩
        obtain ⟨jj, hjj⟩ : ∃ jj, jj = (pa (L s)).2.1 := ⟨_, rfl⟩
        obtain ⟨er, her⟩ : ∃ er, er = (pa (L s)).2.2 := ⟨_, rfl⟩
        have hAE : AE (pa (L s)) = .tuple #[.agg #[.int .u32 (ii : Nat), .int .u16 (jj : Nat)], .int .i64 (er : Nat)] := by rw [hii, hjj, her]
        have HAE := Lib.hid hAE
        clear hAE hii hjj her
        go_wp2_with (first
          | (go_at_call 22; refine (lay16 w3.heap.size _ (ns.map oct) p wr hp65 ho hl1 hB1).mono ?_; rintro e w6 ⟨⟨v6, rfl, ho6⟩, hb6⟩; obtain ⟨g', cap', rfl, -, hcv, -⟩ := conv_own ho6 nn HZL.out hn0; rw [← HZ.out] at hcv; have hb7 := hb.trans hb6; clear ho6)
          | (go_at_call 8; refine (HRD.out _).mono ?_; rintro e w7 ⟨he, hu7⟩; rw [HAE.out] at he; subst he; have hb8 : Below w3.heap.size w3 w7 := hb7.trans (hu7.mono hb7.size); have U8 := U3.on hb8; have R8 := Lib.hid (R3.out.below hb8 hg0); obtain ⟨r0, r1, r2, r3, r4⟩ := R8.out))
        (try simp only [Exit.inBlock, Exit.then])
        refine bodyPost_ret (v := .tuple #[.agg #[.int .u32 (ii : Nat), .int .u16 (jj : Nat)], .int .i64 (er : Nat)]) ?_ rfl ⟨by rw [HAE.out], up_set (up_set U8 (Nat.le_refl _)) (Nat.le_refl _)⟩
        have BF := (R8.out.set0 (ii : Nat)).set1 (jj : Nat)
        obtain ⟨f0, f1, -⟩ := BF
        rw [results_cell_tmp rfl]
        generalize World.setCell (World.setCell _ _ _) _ _ = WF at f0 f1 ⊢
        go_simp
end Go.Proofs.YtolebodpcefcfaaDoor.tu
