/- B H A: contracts, part 20. Condition: as each says. -/
import Derived.Test.YtafckmbgefbonaaKBHA19
import Derived.Lib.SlBuf
set_option linter.unusedVariables false
set_option linter.unusedSimpArgs false
namespace Go.Proofs.Ytafckmbgefbonaa.pk
open Go.RowKit Go.Shelf Go.Lib Go.Proofs.Ytafckmbgefbonaa.sm Go.Proofs.Ytafckmbgefbonaa.nb Go.Proofs.Ytafckmbgefbonaa.pm
set_option linter.unusedVariables false

structure Tur (c B V : Nat) (l' : List UInt8) (w w' : World) : Prop where
  c_ : Box w' c [.int .u16 V]
  x : Box w' B (BC l')
  keep : ∀ b vs, b ≠ c → b ≠ B → Box w b vs → Box w' b vs
  up : ∀ w0 : World, Up w0 w → w0.heap.size ≤ c → w0.heap.size ≤ B → Up w0 w'
theorem turnsW (v : Nat) (was now : ByteArray) (w : World) (hv : v ≤ 65535) (hz : was.size = now.size) (hz1 : now.size ≤ 1048576) :
    Calls Try.prog 52 #[.int .u16 v, .string was, .string now] w fun e w' => e = .returned (.int .u16 (T v (L was) (L now) : Nat)) ∧ Up w w' := by
  refine (su.turnsC v was now now.size w ⟨by omega, by omega⟩ (by rw [hz]; simp) (by omega) (by omega)).mono ?_
  rintro e w' ⟨rfl, hb⟩
  refine ⟨?_, hb⟩
  have e1 : was.extract 0 now.size = was := by rw [← hz]; exact su.whole was
  rw [e1, su.whole now, ← (T_nat v (L was) (L now) hv).1, show (now.size + 1) / 2 = ((L was).length + 1) / 2 by rw [L_len, hz]]
set_option maxHeartbeats 1000000 in
set_option maxRecDepth 100000 in
theorem cloC (c s p B n cap k v : Nat) (l : List UInt8) (was now : ByteArray) (w : World) (hC : Box w c [.int .u16 v]) (hS : Box w s [.slice (some ⟨B, 0, none⟩) n cap]) (hP : Box w p [.int .i64 k]) (hB : Box w B (BC l))
    (hn : l.length = n) (hc : n ≤ cap) (hn1 : n ≤ 1048576) (hk : k + 2 ≤ n) (hv : v ≤ 65535) (hz : was.size = now.size) (hz1 : now.size ≤ 1048576) (h1 : c ≠ s) (h2 : c ≠ p) (h3 : c ≠ B) :
    Calls Try.prog 51 #[.string was, .string now, .pointer (some ⟨c, 0, none⟩), .pointer (some ⟨s, 0, none⟩), .pointer (some ⟨p, 0, none⟩)] w fun e w' => (∃ r, e = .returned r) ∧ Tur c B (T v (L was) (L now)) (spl l k (B16 (T v (L was) (L now)))) w w' := by
  have HT := Lib.hid (turnsW v was now w hv hz hz1)
  have hV := (T_nat v (L was) (L now) hv).2
  generalize T v (L was) (L now) = V at HT hV ⊢
  have k0 := hC.at 0 rfl
  go_enter Try.func51, Try.ntmps51
  go_wp2_with fail
  refine HT.out.mono ?_
  rintro e w1 ⟨rfl, hv1⟩
  have hC1 := hC.up hv1; have hS1 := hS.up hv1; have hP1 := hP.up hv1; have hB1 := hB.up hv1
  clear k0
  have k0 := hC1.at 0 rfl
  have r0 := hC1.fr 0 rfl
  go_upto_region 1 with fail
  have hC2 : Box (w1.setCell ⟨c, 0, none⟩ (.int .u16 V)) c [.int .u16 V] := hC1.set 0 _
  have hS2 := hS1.far h1 (o := 0) (.int .u16 V)
  have hP2 := hP1.far h2 (o := 0) (.int .u16 V)
  have hB2 := hB1.far h3 (o := 0) (.int .u16 V)
  have hk2 : ∀ b vs, b ≠ c → Box w b vs → Box (w1.setCell ⟨c, 0, none⟩ (.int .u16 V)) b vs := fun b vs hb h => (h.up hv1).far (Ne.symm hb) (o := 0) (.int .u16 V)
  have hu2 : ∀ w0 : World, Up w0 w → w0.heap.size ≤ c → Up w0 (w1.setCell ⟨c, 0, none⟩ (.int .u16 V)) := fun w0 h hc => up_set (h.on hv1) hc
  generalize (w1.setCell ⟨c, 0, none⟩ (.int .u16 V)) = w2 at hC2 hS2 hP2 hB2 hk2 hu2 ⊢
  clear k0 r0 hC1 hS1 hP1 hB1 hv1 w1
  have k0 := hC2.at 0 rfl; have k1 := hS2.at 0 rfl; have k2 := hP2.at 0 rfl
  go_wp2_with fail
  refine (put16w B n cap k V l w2 hB2 hn hc hn1 hk hV).mono ?_
  rintro e w3 ⟨⟨r, rfl⟩, hg, hB3⟩
  clear k0 k1 k2
  go_wp2
  go_end0
  exact ⟨⟨_, rfl⟩, op.Box.grown hC2 hg h3, hB3, fun b vs hb hb' h => op.Box.grown (hk2 b vs hb h) hg hb', fun w0 h hc hB => op.up_grown (hu2 w0 h hc) hg hB⟩

/-! ### a packet in its memory, as it is rewritten -/
structure RF (w0 : World) (B n cap ch sh ph cg sg pg b6 : Nat) : Prop where
  nc : n ≤ cap
  n38 : 38 ≤ n
  nm : n ≤ 1048576
  h1 : ch ≠ sh
  h2 : ch ≠ ph
  h3 : ch ≠ cg
  h4 : ch ≠ sg
  h5 : ch ≠ pg
  h6 : ch ≠ b6
  h7 : ch ≠ B
  g1 : cg ≠ sh
  g2 : cg ≠ ph
  g4 : cg ≠ sg
  g5 : cg ≠ pg
  g6 : cg ≠ b6
  g7 : cg ≠ B
  b1 : B ≠ sh
  b2 : B ≠ ph
  b4 : B ≠ sg
  b5 : B ≠ pg
  b6_ : B ≠ b6
  uh : w0.heap.size ≤ ch
  ug : w0.heap.size ≤ cg
  uB : w0.heap.size ≤ B
structure RS (w0 : World) (B n cap ch sh ph cg sg pg b6 : Nat) (vs : List Value) (t : St) (W : World) : Prop where
  x : Box W B (BC t.l)
  len : t.l.length = n
  vh : t.vh ≤ 65535
  vg : t.vg ≤ 65535
  h1 : Box W ch [.int .u16 t.vh]
  h2 : Box W sh [.slice (some ⟨B, 0, none⟩) n cap]
  h3 : Box W ph [.int .i64 ((10 : Nat) : Int)]
  g1 : Box W cg [.int .u16 t.vg]
  g2 : Box W sg [.slice (some ⟨B, 0, none⟩) n cap]
  g3 : Box W pg [.int .i64 ((36 : Nat) : Int)]
  sg_ : Box W b6 vs
  up : Up w0 W
section
variable {w0 : World} {B n cap ch sh ph cg sg pg b6 : Nat} {vs : List Value} {t : St} {W W' : World}
theorem RS.on (h : RS w0 B n cap ch sh ph cg sg pg b6 vs t W) (u : Up W W') : RS w0 B n cap ch sh ph cg sg pg b6 vs t W' :=
  ⟨h.x.up u, h.len, h.vh, h.vg, h.h1.up u, h.h2.up u, h.h3.up u, h.g1.up u, h.g2.up u, h.g3.up u, h.sg_.up u, h.up.on u⟩
abbrev clo (ch sh ph cg sg pg : Nat) (κ : Bool) : Value := if κ then cloV ch sh ph else cloV cg sg pg
theorem turC (hf : RF w0 B n cap ch sh ph cg sg pg b6) (hs : RS w0 B n cap ch sh ph cg sg pg b6 vs t W) (was now : ByteArray) (hz : was.size = now.size) (hz1 : now.size ≤ 1048576) (q : Nat) (us : List Value) (hq : Box W q us) (q1 : q ≠ ch) (q2 : q ≠ cg) (q3 : q ≠ B) :
    (Calls Try.prog 51 #[.string was, .string now, .pointer (some ⟨ch, 0, none⟩), .pointer (some ⟨sh, 0, none⟩), .pointer (some ⟨ph, 0, none⟩)] W fun e W' => (∃ r, e = .returned r) ∧ RS w0 B n cap ch sh ph cg sg pg b6 vs (tur (L was) (L now) true t) W' ∧ Box W' q us) ∧
    (Calls Try.prog 51 #[.string was, .string now, .pointer (some ⟨cg, 0, none⟩), .pointer (some ⟨sg, 0, none⟩), .pointer (some ⟨pg, 0, none⟩)] W fun e W' => (∃ r, e = .returned r) ∧ RS w0 B n cap ch sh ph cg sg pg b6 vs (tur (L was) (L now) false t) W' ∧ Box W' q us) := by
  have h38 := hf.n38
  refine ⟨(cloC ch sh ph B n cap 10 t.vh t.l was now W hs.h1 hs.h2 hs.h3 hs.x hs.len hf.nc hf.nm (by omega) hs.vh hz hz1 hf.h1 hf.h2 hf.h7).mono ?_, (cloC cg sg pg B n cap 36 t.vg t.l was now W hs.g1 hs.g2 hs.g3 hs.x hs.len hf.nc hf.nm (by omega) hs.vg hz hz1 hf.g4 hf.g5 hf.g7).mono ?_⟩
  · rintro e W' ⟨hr, h⟩
    have hle := spl_len t.l 10 (B16 (T t.vh (L was) (L now))) (by rw [hs.len]; show 10 + 2 ≤ n; omega)
    exact ⟨hr, ⟨h.x, hle.trans hs.len, (T_nat _ _ _ hs.vh).2, hs.vg, h.c_, h.keep _ _ hf.h1.symm hf.b1.symm hs.h2, h.keep _ _ hf.h2.symm hf.b2.symm hs.h3, h.keep _ _ hf.h3.symm hf.g7 hs.g1, h.keep _ _ hf.h4.symm hf.b4.symm hs.g2, h.keep _ _ hf.h5.symm hf.b5.symm hs.g3, h.keep _ _ hf.h6.symm hf.b6_.symm hs.sg_, h.up _ hs.up hf.uh hf.uB⟩, h.keep _ _ q1 q3 hq⟩
  · rintro e W' ⟨hr, h⟩
    have hle := spl_len t.l 36 (B16 (T t.vg (L was) (L now))) (by rw [hs.len]; show 36 + 2 ≤ n; omega)
    exact ⟨hr, ⟨h.x, hle.trans hs.len, hs.vh, (T_nat _ _ _ hs.vg).2, h.keep _ _ hf.h3 hf.h7 hs.h1, h.keep _ _ hf.g1.symm hf.b1.symm hs.h2, h.keep _ _ hf.g2.symm hf.b2.symm hs.h3, h.c_, h.keep _ _ hf.g4.symm hf.b4.symm hs.g2, h.keep _ _ hf.g5.symm hf.b5.symm hs.g3, h.keep _ _ hf.g6.symm hf.b6_.symm hs.sg_, h.up _ hs.up hf.ug hf.uB⟩, h.keep _ _ q2 q3 hq⟩
end
theorem conv_part {l : List UInt8} {B k m cap : Nat} {W : World} (h : Box W B (BC l)) (hk : k + m ≤ l.length) :
    (convert 44 9 (.slice (some ⟨B, k, none⟩) m cap)).run Try.prog W = .ok (.string (tx ((l.drop k).take m))) W := by
  have hm : ((l.drop k).take m).length = m := by rw [List.length_take, List.length_drop]; omega
  have := run_convert_bytes_back (P := Try.prog) W 44 9 5 ⟨B, k, none⟩ cap ((l.drop k).take m) Try.underlying44 Try.underlying5 Try.underlying9
    (fun j hj => by
      rw [show (⟨B, k, none⟩ : Addr).add j = ⟨B, k + j, none⟩ by unfold Addr.add; split <;> simp_all]
      refine h.at (k + j) ?_
      have hj' : j < m := by rw [hm] at hj; exact hj
      have e : ((l.drop k).take m)[j] = l[k + j]'(by omega) := by rw [List.getElem_take, List.getElem_drop]
      rw [e]
      unfold BC Lib.byteCells
      rw [List.getElem?_map, List.getElem?_eq_getElem (by omega)]
      rfl)
  rw [hm] at this
  exact this
theorem size1 (w : World) : (Go.sizeOf 5).run Try.prog w = .ok 1 w := by kernel_rfl
set_option maxHeartbeats 2000000 in
set_option maxRecDepth 100000 in
theorem layC (ks : List Bool) {w0 : World} {B n cap ch sh ph cg sg pg b6 : Nat} {vs : List Value} {t : St} {W : World} (k : Nat) (N : ByteArray) (q : Nat)
    (hf : RF w0 B n cap ch sh ph cg sg pg b6) (hs : RS w0 B n cap ch sh ph cg sg pg b6 vs t W) (hq : Box W q (ks.map (clo ch sh ph cg sg pg))) (q1 : q ≠ ch) (q2 : q ≠ cg) (q3 : q ≠ B)
    (m : Nat) (hm : N.size = m) (hk : k + m ≤ n) (hkc : k ≠ cap) (z : Nat) (hz : ks.length = z) (hz2 : z ≤ 1024) :
    Calls Try.prog 28 #[.slice (some ⟨B, 0, none⟩) n cap, .int .i64 k, .string N, .slice (some ⟨q, 0, none⟩) z z] W fun e W' => (∃ r, e = .returned r) ∧ RS w0 B n cap ch sh ph cg sg pg b6 vs (layS ks k (L N) t) W' := by
  have nm := hf.nm; have nc := hf.nc; have hlen := hs.len
  obtain ⟨A, hA⟩ : ∃ A, A = tx ((t.l.drop k).take m) := ⟨_, rfl⟩
  have hAz : A.size = m := by rw [hA, tx_size, List.length_take, List.length_drop]; omega
  have qc := conv_part (cap := cap - k) hs.x (show k + m ≤ t.l.length by omega)
  rw [← hA] at qc
  have HA : Hid (L A = (t.l.drop k).take (L N).length) := by rw [L_len, hm, hA, L_tx]; exact Lib.hid rfl
  clear hA
  have hcp : (Builtin.copy_ #[44, 9] 3 #[.slice (some ⟨B, k, none⟩) (n - k) (cap - k), .string N]).run Try.prog W = .ok (goInt N.size) (W.setCells B k (BC (L N))) := run_copy_string (P := Try.prog) W 44 9 3 5 B k (n - k) (cap - k) N Try.underlying44 size1 (by omega)
    (fun j hj => by obtain ⟨x, hx⟩ := lt_BC t.l (k + j) (by omega); rw [(hs.x.2 (k + j) x hx).1]; rfl) (fun j hj => by obtain ⟨x, hx⟩ := lt_BC t.l (k + j) (by omega); exact (hs.x.2 (k + j) x hx).2)
  have hg := grown_puts B (BC (L N)) k W
  have hs1 : RS w0 B n cap ch sh ph cg sg pg b6 vs ⟨t.vh, t.vg, spl t.l k (L N)⟩ (W.setCells B k (BC (L N))) :=
    ⟨box_puts (L N) t.l k W hs.x (by rw [L_len]; omega), (spl_len t.l k (L N) (by rw [L_len]; omega)).trans hlen, hs.vh, hs.vg, op.Box.grown hs.h1 hg hf.h7, op.Box.grown hs.h2 hg hf.b1.symm, op.Box.grown hs.h3 hg hf.b2.symm, op.Box.grown hs.g1 hg hf.g7, op.Box.grown hs.g2 hg hf.b4.symm, op.Box.grown hs.g3 hg hf.b5.symm, op.Box.grown hs.sg_ hg hf.b6_.symm, op.up_grown hs.up hg hf.uB⟩
  have hq1 := op.Box.grown hq hg q3
  have c2 : (k : Int) ≤ (n : Int) := by omega
  have c3 : (k : Int) ≤ (cap : Int) := by omega
  have c4 : (0 : Int) ≤ (k : Int) := by omega
  have c5 : ¬ (cap : Int) = (k : Int) := by omega
  have c1 : ¬ cap = k := by omega
  have c6 : IntKind.i64.wrap ((k : Int) + (N.size : Int)) = (k : Int) + (N.size : Int) := IntWalk.i64_in _ (by omega)
  have c7 : (k : Int) + (N.size : Int) ≤ (cap : Int) := by omega
  have c8 : (k : Int) ≤ (k : Int) + (N.size : Int) := by omega
  go_enter Try.func28, Try.ntmps28
  go_upto_region 1 with fail
  rw [Nat.add_sub_cancel_left]
  go_wp2_with (at_builtin; refine Lib.wpList_copy_run W rfl (.tmp 21) (.tmp 22) 44 9 rfl _ _ rfl rfl hcp ?_)
  generalize hW1 : World.setCells W B k _ = W1 at hs1 hq1 ⊢
  clear hW1 hcp hg hq qc c2 c3 c4 c5 c1 c6 c7 c8
  obtain ⟨S0, hS0⟩ : ∃ S0 : Nat → St, S0 = fun j => (ks.take j).foldl (fun u κ => tur (L A) (L N) κ u) ⟨t.vh, t.vg, spl t.l k (L N)⟩ := ⟨_, rfl⟩
  have e0 : S0 0 = ⟨t.vh, t.vg, spl t.l k (L N)⟩ := by rw [hS0]; rfl
  have eN : S0 z = layS ks k (L N) t := by rw [hS0]; dsimp only; rw [List.take_of_length_le (by omega), HA.out]; rfl
  have eS : ∀ j (h : j < z) κ, ks[j]? = some κ → S0 (j + 1) = tur (L A) (L N) κ (S0 j) := fun j h κ hκ => by
    rw [hS0]; dsimp only
    obtain ⟨h1, h2⟩ := List.getElem?_eq_some_iff.1 hκ
    rw [List.take_succ_eq_append_getElem h1, List.foldl_append, h2]; rfl
  rw [← e0] at hs1
  have HEN := Lib.hid eN
  have ES := Lib.hid eS
  have HKS : Hid (∀ j, j < z → ∃ κ, ks[j]? = some κ) := fun j h => ⟨_, List.getElem?_eq_getElem (by omega)⟩
  clear eS e0 eN hS0 HA hs
  go_upto_region 3 with fail
  go_loopw [10, 26] (fun v10 iv wr => ∃ j : Nat, j ≤ z ∧ iv = .int .i64 j ∧ RS w0 B n cap ch sh ph cg sg pg b6 vs (S0 j) wr ∧ Box wr q (ks.map (clo ch sh ph cg sg pg))) (fun _ iv _ => z - (RowKit.intOf iv).toNat)
  case atStart => exact ⟨0, Nat.zero_le _, rfl, hs1, hq1⟩
  case round =>
    obtain ⟨j, hj, rfl, hs2, hq2⟩ := hrel
    by_cases hlt : j < z
    · obtain ⟨κ, hκ⟩ := HKS.out j hlt
      have HE := Lib.hid (ES.out j hlt κ hκ)
      have hj0 := hq2.at j (v := clo ch sh ph cg sg pg κ) (by rw [List.getElem?_map, hκ]; rfl)
      have hT := turC hf hs2 A N (by omega) (by omega) q _ hq2 q1 q2 q3
      have i1 : (j : Int) < (z : Int) := by omega
      clear hκ
      cases κ with
      | true =>
        have HT := Lib.hid hT.1
        have hj1 : wr.cell? ⟨q, j, none⟩ = some (.func (.func 51) #[] #[.pointer (some ⟨ch, 0, none⟩), .pointer (some ⟨sh, 0, none⟩), .pointer (some ⟨ph, 0, none⟩)]) := hj0
        clear hT hj0
        go_wp2_with fail
        refine HT.out.mono ?_
        rintro e w5 ⟨⟨r, rfl⟩, hs3, hq3⟩
        rw [← HE.out] at hs3
        clear HE HT
        go_wp2
        go_roundw
        case rel => exact ⟨j + 1, by omega, by go_num, hs3, hq3⟩
        case measure => simp [RowKit.intOf]; omega
      | false =>
        have HT := Lib.hid hT.2
        have hj1 : wr.cell? ⟨q, j, none⟩ = some (.func (.func 51) #[] #[.pointer (some ⟨cg, 0, none⟩), .pointer (some ⟨sg, 0, none⟩), .pointer (some ⟨pg, 0, none⟩)]) := hj0
        clear hT hj0
        go_wp2_with fail
        refine HT.out.mono ?_
        rintro e w5 ⟨⟨r, rfl⟩, hs3, hq3⟩
        rw [← HE.out] at hs3
        clear HE HT
        go_wp2
        go_roundw
        case rel => exact ⟨j + 1, by omega, by go_num, hs3, hq3⟩
        case measure => simp [RowKit.intOf]; omega
    · obtain rfl : j = z := by omega
      go_wp2
      go_end0
      rw [HEN.out] at hs2
      exact ⟨⟨_, rfl⟩, hs2⟩
end Go.Proofs.Ytafckmbgefbonaa.pk
