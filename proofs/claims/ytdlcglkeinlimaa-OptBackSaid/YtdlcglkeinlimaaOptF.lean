/- The document's answer for opt: which options bytes are. Condition: at most 2^20 bytes. -/
import Derived.Test.YtdlcglkeinlimaaOptE
import Derived.Test.YtdlcglkeinlimaaNetRelF
namespace Go.Proofs.Ytdlcglkeinlimaa.op
open Go.RowKit Go.Shelf Go.Lib Go.Proofs.Ytdlcglkeinlimaa.sm Go.Proofs.Ytdlcglkeinlimaa.nb Go.Proofs.Ytdlcglkeinlimaa.om
set_option linter.unusedVariables false

theorem own_apart {W : World} {A : Option Addr} {n c b : Nat} {xs : List (Nat × Nat)} {a : Int} {r : List Value} (h : OwnK W 0 (.slice A n c) xs) (hx : xs = [] → A = none) (hB : Box W b (.int .u16 a :: r)) : (Value.slice A n c).ownBlock ≠ some b := by
  cases A with
  | none => simp [Value.ownBlock]
  | some ad =>
    cases xs with
    | nil => cases hx rfl
    | cons x t =>
      rcases own_form h with ⟨he, _⟩ | ⟨g, cap, he, _⟩
      · cases he
      · cases he
        have hc := World.ownsRow.cellAt h 0 (by simp)
        intro hb
        have hg : g = b := by simpa [Value.ownBlock] using hb
        subst hg
        rw [hB.at 0 rfl] at hc
        simp [cells] at hc
theorem own7x {W : World} {b : Nat} {x : Value} {xs : List (Nat × Nat)} (h : OwnK W 0 x xs) (hb : x.ownBlock ≠ some b) (y0 y1 y2 y3 y4 y5 y6 : Value) : OwnK (((((((W.setCell ⟨b, 0, none⟩ y0).setCell ⟨b, 1, none⟩ y1).setCell ⟨b, 2, none⟩ y2).setCell ⟨b, 3, none⟩ y3).setCell ⟨b, 4, none⟩ y4).setCell ⟨b, 5, none⟩ y5).setCell ⟨b, 6, none⟩ y6) 0 x xs :=
  ownsRow_setCell_other (ownsRow_setCell_other (ownsRow_setCell_other (ownsRow_setCell_other (ownsRow_setCell_other (ownsRow_setCell_other (ownsRow_setCell_other h (a := ⟨b, 0, none⟩) hb _) (a := ⟨b, 1, none⟩) hb _) (a := ⟨b, 2, none⟩) hb _) (a := ⟨b, 3, none⟩) hb _) (a := ⟨b, 4, none⟩) hb _) (a := ⟨b, 5, none⟩) hb _) (a := ⟨b, 6, none⟩) hb _
/-- a value is options of the call's own -/
def OpV (o : Opz) (x : Value) (W : World) : Prop := ∃ A n c, x = OV o A n c ∧ OwnK W 0 (.slice A n c) o.bl ∧ o.bl.length = n ∧ (o.bl = [] → A = none ∧ n = 0 ∧ c = 0)
theorem OpV.st (o : Opz) : ∀ v w w', OpV o v w → Up w w' → OpV o v w' := fun _ _ _ ⟨A, n, c, h1, h2, h3, h4⟩ hu => ⟨A, n, c, h1, h2.up hu, h3, h4⟩
def TkV (o : Opz) (bz : Bool) (x : Value) (W : World) : Prop := ∃ y, x = .tuple #[y, .bool bz] ∧ OpV o y W
theorem TkV.st (o : Opz) (bz : Bool) : ∀ v w w', TkV o bz v w → Up w w' → TkV o bz v w' := fun _ _ _ ⟨y, h1, h2⟩ hu => ⟨y, h1, OpV.st o _ _ _ h2 hu⟩
/-- what Decode answers -/
def DecZ (l : List UInt8) (w : World) (e_ : Ending) (w' : World) : Prop := ∃ x, e_ = .returned (.tuple #[x, .int .i64 (err l : Nat)]) ∧ OptV w' x (decO l) ∧ Up w w'
theorem DecZ.bad {l : List UInt8} {n : Nat} {w : World} {e_ : Ending} {w' : World} (h : err l = n ∧ decO l = zero_) (he : e_ = .returned (.tuple #[OA 0 0 false none 0 0 false 0 0, .int .i64 n])) (hu : Up w w') : DecZ l w e_ w' := by
  refine ⟨_, by rw [he, h.1], ?_, hu⟩
  rw [h.2]
  exact ⟨none, 0, 0, rfl, rfl, fun h => absurd rfl h⟩
theorem fold_bl : ∀ (its : List om.Item) (o : Opz), (∀ x ∈ its, x.1 ≠ 5) → (its.foldl put o).bl = o.bl
  | [], _, _ => rfl
  | x :: t, o, h => by
    rw [List.foldl_cons, fold_bl t _ (fun y hy => h y (by simp [hy]))]
    have := h x (by simp)
    unfold put
    (repeat' split) <;> first | rfl | (exfalso; omega)
/-- how far Decode has come -/
structure Dn (s : List UInt8) (pl : List Nat) (j : Nat) (o : Opz) : Prop where
  val : o = ((pl.take j).map (itm s)).foldl put none_
  noz : ∀ q ∈ pl.take j, NoZ (itm s q)
theorem Dn.start (s : List UInt8) (pl : List Nat) : Dn s pl 0 none_ := ⟨rfl, fun q hq => by simp at hq⟩
theorem Dn.next {s : List UInt8} {pl : List Nat} {j p : Nat} {o : Opz} (h : Dn s pl j o) (hp : pl[j]? = some p) (hz : NoZ (itm s p)) : Dn s pl (j + 1) (put o (itm s p)) := by
  obtain ⟨hj, he⟩ := List.getElem?_eq_some_iff.1 hp
  have e : pl.take (j + 1) = pl.take j ++ [p] := by rw [List.take_succ_eq_append_getElem hj, he]
  refine ⟨by rw [e, List.map_append, List.foldl_append, ← h.val]; rfl, ?_⟩
  rw [e]
  intro q hq
  rcases List.mem_append.1 hq with hq | hq
  · exact h.noz q hq
  · simp at hq; subst hq; exact hz
theorem Dn.fin {s : List UInt8} {pl : List Nat} {j : Nat} {o : Opz} (h : Dn s pl j o) (hg : om.Good s pl) (hj : pl.length ≤ j) : om.dec s = some o := by
  have e : pl.take j = pl := List.take_of_length_le hj
  rw [h.val, e]
  exact hg.dec (fun q hq => h.noz q (by rw [e]; exact hq))
theorem Dn.five {s : List UInt8} {pl : List Nat} {j p : Nat} {o : Opz} (h : Dn s pl j o) (hg : om.Good s pl) (hp : pl[j]? = some p) (h5 : nb s p = 5) : o.bl = [] := by
  obtain ⟨hj, he⟩ := List.getElem?_eq_some_iff.1 hp
  rw [h.val, fold_bl]
  · rfl
  · intro x hx hx5
    obtain ⟨q, hq, rfl⟩ := List.mem_map.1 hx
    have hcl := hg.cl
    rw [List.pairwise_map] at hcl
    have hpl : pl = pl.take j ++ pl.drop j := (List.take_append_drop j pl).symm
    rw [hpl, List.pairwise_append] at hcl
    have := hcl.2.2 q hq p (by rw [List.drop_eq_getElem_cons hj, he]; simp)
    have hq5 : nb s q = 5 := hx5
    exact this (show known (nb s q) = true by rw [hq5]; rfl) (show nb s q = nb s p by omega)
set_option maxHeartbeats 4000000 in
set_option maxRecDepth 100000 in
theorem decode0 (s : ByteArray) (w : World) (hs : s.size ≤ 1048576) (hl : 40 < s.size) :
    Calls Try.prog 12 #[.string s] w fun e_ w' => DecZ (L s) w e_ w' := by
  have HD := Lib.hid (err_4 (l := L s) (by rw [L_len]; exact hl))
  go_enter Try.func12, Try.ntmps12
  go_upto_region 1 with fail
  have hB := Box.new w #[.int .u16 0, .int .i64 0, .bool false, .slice none 0 0, .bool false, .int .u32 0, .int .u32 0] 26
  have hu : Up w (w.alloc (.cells #[.int .u16 0, .int .i64 0, .bool false, .slice none 0 0, .bool false, .int .u32 0, .int .u32 0] 26)) := up_al _ (Below.refl _ _)
  generalize (w.alloc (.cells #[.int .u16 0, .int .i64 0, .bool false, .slice none 0 0, .bool false, .int .u32 0, .int .u32 0] 26)) = w0 at hB hu ⊢
  obtain ⟨k0, k1, k2, k3, k4, k5, k6, f0, f1, f2, f3, f4, f5, f6⟩ := Box.c7 hB
  go_wp2_with fail
  have hBB := put7 hB (.int .u16 0) (.int .i64 0) (.bool false) (.slice none 0 0) (.bool false) (.int .u32 0) (.int .u32 0)
  have huu := ups7 (b := w.heap.size) hu (Nat.le_refl _) (.int .u16 0) (.int .i64 0) (.bool false) (.slice none 0 0) (.bool false) (.int .u32 0) (.int .u32 0)
  generalize World.setCell _ ⟨w.heap.size, 6, none⟩ _ = W9 at hBB huu ⊢
  clear k0 f0 k1 f1 k2 f2 k3 f3 k4 f4 k5 f5 k6 f6
  obtain ⟨k0, k1, k2, k3, k4, k5, k6, f0, f1, f2, f3, f4, f5, f6⟩ := Box.c7 hBB
  (try simp only [Exit.inBlock, Exit.then])
  refine bodyPost_ret (v := .tuple #[.agg #[.int .u16 0, .int .i64 0, .bool false, .slice none 0 0, .bool false, .int .u32 0, .int .u32 0], .int .i64 4]) ?_ rfl (DecZ.bad HD.out rfl huu)
  rw [results_cell_tmp rfl]; go_simp
set_option maxHeartbeats 4000000 in
set_option maxRecDepth 100000 in
theorem refDecode (s : ByteArray) (w : World) (hs : s.size ≤ 1048576) :
    Calls Try.prog 12 #[.string s] w fun e_ w' => DecZ (L s) w e_ w' := by
  by_cases hl : 40 < s.size
  · exact decode0 s w hs hl
  have i0 : ¬ (40 : Int) < (s.size : Int) := by omega
  have H4 := Lib.hid (show (L s).length ≤ 40 by rw [L_len]; omega)
  have HP := Lib.hid (fun w => refPlaces s w hs)
  go_enter Try.func12, Try.ntmps12
  go_upto_region 1 with fail
  have hB := Box.new w #[.int .u16 0, .int .i64 0, .bool false, .slice none 0 0, .bool false, .int .u32 0, .int .u32 0] 26
  have hu : Up w (w.alloc (.cells #[.int .u16 0, .int .i64 0, .bool false, .slice none 0 0, .bool false, .int .u32 0, .int .u32 0] 26)) := up_al _ (Below.refl _ _)
  generalize (w.alloc (.cells #[.int .u16 0, .int .i64 0, .bool false, .slice none 0 0, .bool false, .int .u32 0, .int .u32 0] 26)) = w0 at hB hu ⊢
  obtain ⟨n0, hn0⟩ : ∃ n0, n0 = w.heap.size := ⟨_, rfl⟩
  have hle0 : w.heap.size ≤ n0 := by omega
  rw [← hn0] at hB ⊢
  clear hn0
  go_wp2_with fail
  refine (HP.out w0).mono ?_
  rintro e_ w1 ⟨hv, ⟨x1, pl, rfl, hO1, hG, hpn⟩ | ⟨rfl, hbad⟩⟩
  case inr =>
    have HD := Lib.hid (err_70 hbad H4.out)
    have hB1 := hB.up hv
    have hu1 := hu.on hv
    clear hB hu hv
    obtain ⟨k0, k1, k2, k3, k4, k5, k6, f0, f1, f2, f3, f4, f5, f6⟩ := Box.c7 hB1
    go_wp2_with fail
    have hBB := put7 hB1 (.int .u16 0) (.int .i64 0) (.bool false) (.slice none 0 0) (.bool false) (.int .u32 0) (.int .u32 0)
    have huu := ups7 (b := n0) hu1 hle0 (.int .u16 0) (.int .i64 0) (.bool false) (.slice none 0 0) (.bool false) (.int .u32 0) (.int .u32 0)
    generalize World.setCell _ ⟨n0, 6, none⟩ _ = W9 at hBB huu ⊢
    clear k0 f0 k1 f1 k2 f2 k3 f3 k4 f4 k5 f5 k6 f6
    obtain ⟨k0, k1, k2, k3, k4, k5, k6, f0, f1, f2, f3, f4, f5, f6⟩ := Box.c7 hBB
    (try simp only [Exit.inBlock, Exit.then])
    refine bodyPost_ret (v := .tuple #[.agg #[.int .u16 0, .int .i64 0, .bool false, .slice none 0 0, .bool false, .int .u32 0, .int .u32 0], .int .i64 70]) ?_ rfl (DecZ.bad HD.out rfl huu)
    rw [results_cell_tmp rfl]; go_simp
  case inl =>
    have hB1 := hB.up hv
    have hu1 := hu.on hv
    have hlt1 := hB1.1
    clear hB hu hv
    obtain ⟨Al, cl, rfl, hR1⟩ := hO1.rd
    obtain ⟨np, hnp⟩ : ∃ np, pl.length = np := ⟨_, rfl⟩
    rw [hnp]
    have HNP := Lib.hid hnp
    have hnp2 : np ≤ 1048576 := by omega
    clear hO1 hnp
    go_wp2_with fail
    refine (refNone w1).mono ?_
    rintro e_ w2 ⟨rfl, hv2⟩
    go_upto_region 7 with fail
    have hC0 := Box.new w2 #[.int .u16 0, .int .i64 (-1), .bool false, .slice none 0 0, .bool false, .int .u32 0, .int .u32 0] 26
    have hB2 := (hB1.up hv2).alloc (.cells #[.int .u16 0, .int .i64 (-1), .bool false, .slice none 0 0, .bool false, .int .u32 0, .int .u32 0] 26)
    have hR2 := hR1.up hv2
    have hu2 : Up w w2 := hu1.on hv2
    have hur0 : Up w2 (w2.alloc (.cells #[.int .u16 0, .int .i64 (-1), .bool false, .slice none 0 0, .bool false, .int .u32 0, .int .u32 0] 26)) := up_al _ (Below.refl _ _)
    have hlt2 : n0 < w2.heap.size := Nat.lt_of_lt_of_le hlt1 hv2.size
    generalize (w2.alloc (.cells #[.int .u16 0, .int .i64 (-1), .bool false, .slice none 0 0, .bool false, .int .u32 0, .int .u32 0] 26)) = w3 at hC0 hB2 hur0 ⊢
    obtain ⟨n1, hn1⟩ : ∃ n1, n1 = w2.heap.size := ⟨_, rfl⟩
    rw [← hn1] at hC0 hlt2 ⊢
    have hle1 : w.heap.size ≤ n1 := by omega
    have hle2 : w2.heap.size ≤ n1 := by omega
    have hne : n0 ≠ n1 := by omega
    have hne' : n1 ≠ n0 := by omega
    clear hn1 hB1 hR1 hu1 hv2 hlt1
    have HS := Lib.hid hs; clear hs hl i0 HP
    go_wp2_with fail
    go_loopw [7] (fun i wr => ∃ (j : Nat) (m : Nat) (s' : Int) (k : Bool) (b : List (Nat × Nat)) (t : Bool) (v e : Nat) (A : Option Addr) (n c : Nat), j ≤ np ∧ i = .int .i64 j ∧ Box wr n1 [.int .u16 (m : Nat), .int .i64 s', .bool k, .slice A n c, .bool t, .int .u32 (v : Nat), .int .u32 (e : Nat)]
      ∧ OwnK wr 0 (.slice A n c) b ∧ b.length = n ∧ (b = [] → A = none ∧ n = 0 ∧ c = 0) ∧ Dn (L s) pl j ⟨m, s', k, b, t, v, e⟩ ∧ Box wr n0 [.int .u16 0, .int .i64 0, .bool false, .slice none 0 0, .bool false, .int .u32 0, .int .u32 0] ∧ Up w2 wr) (fun i _ => np - (intOf i).toNat)
    case atStart => exact ⟨0, 0, -1, false, [], false, 0, 0, none, 0, 0, Nat.zero_le _, rfl, hC0, World.ownsRow_nil _ _ _ _, rfl, fun _ => ⟨rfl, rfl, rfl⟩, Dn.start _ _, hB2, hur0⟩
    case round =>
      obtain ⟨j, m, s', k, b, t, v, e, A, n, c, hj, rfl, hO, hK1, hlen, hnil, hDn, hBr, hur⟩ := hrel
      have hR := hR2.up hur
      clear hC0 hB2 hR2
      by_cases hlt : j < np
      case neg =>
        have HF := Lib.hid (err_0 (hDn.fin hG (by rw [HNP.out]; omega)) H4.out)
        clear hDn
        obtain ⟨k0, k1, k2, k3, k4, k5, k6, f0, f1, f2, f3, f4, f5, f6⟩ := Box.c7 hO
        obtain ⟨m0, m1, m2, m3, m4, m5, m6, g0, g1, g2, g3, g4, g5, g6⟩ := Box.c7 hBr
        go_wp2_with fail
        have hBB := put7 hBr (.int .u16 (m : Nat)) (.int .i64 s') (.bool k) (.slice A n c) (.bool t) (.int .u32 (v : Nat)) (.int .u32 (e : Nat))
        have huu := ups7 (b := n0) (hu2.on hur) hle0 (.int .u16 (m : Nat)) (.int .i64 s') (.bool k) (.slice A n c) (.bool t) (.int .u32 (v : Nat)) (.int .u32 (e : Nat))
        have hKK := own7x hK1 (own_apart hK1 (fun h => (hnil h).1) hBr) (.int .u16 (m : Nat)) (.int .i64 s') (.bool k) (.slice A n c) (.bool t) (.int .u32 (v : Nat)) (.int .u32 (e : Nat))
        generalize World.setCell _ ⟨n0, 6, none⟩ _ = W9 at hBB huu hKK ⊢
        clear k0 f0 k1 f1 k2 f2 k3 f3 k4 f4 k5 f5 k6 f6 m0 g0 m1 g1 m2 g2 m3 g3 m4 g4 m5 g5 m6 g6
        obtain ⟨m0, m1, m2, m3, m4, m5, m6, g0, g1, g2, g3, g4, g5, g6⟩ := Box.c7 hBB
        (try simp only [Exit.inBlock, Exit.then])
        refine bodyPost_ret (v := .tuple #[.agg #[.int .u16 (m : Nat), .int .i64 s', .bool k, .slice A n c, .bool t, .int .u32 (v : Nat), .int .u32 (e : Nat)], .int .i64 0]) ?_ rfl ⟨OA m s' k A n c t v e, ?_, ?_, huu⟩
        · rw [results_cell_tmp rfl]; go_simp
        · rw [HF.out.1]; rfl
        · rw [HF.out.2]
          obtain ⟨A2, c2, he, hr2⟩ := hKK.rd
          rw [hlen] at he
          cases he
          exact ⟨A, n, c, rfl, hlen, hr2⟩
      case pos =>
        obtain ⟨g, off, hA, hg, p, c1, hp⟩ := hR.at_ (k := j) (by rw [HNP.out]; exact hlt)
        have hAt := hG.all p (List.mem_of_getElem? hp.out)
        obtain ⟨hK2, hlk, hpn2⟩ := hAt
        have hN2 := lenOk_two hlk
        rw [L_len] at hpn2
        have hl0 : p < s.size := by omega
        have hl1 : p + 1 < s.size := by omega
        have HA0 := Lib.hid (at_nb s p hl0)
        have HA1 := Lib.hid (at_nb s (p + 1) hl1)
        obtain ⟨K, hKd⟩ : ∃ K, K = nb (L s) p := ⟨_, rfl⟩
        obtain ⟨N, hNd⟩ : ∃ N, N = nb (L s) (p + 1) := ⟨_, rfl⟩
        have ha0 : (s[p]'hl0).toNat = K := by rw [HA0.out, hKd]
        have ha1 : (s[p + 1]'hl1).toNat = N := by rw [HA1.out, hNd]
        have hwk : IntKind.i64.wrap (K : Int) = (K : Int) := IntWalk.i64_in _ (by have := nb_le (L s) p; omega)
        have hwn : IntKind.i64.wrap (N : Int) = (N : Int) := IntWalk.i64_in _ (by have := nb_le (L s) (p + 1); omega)
        have hKb : K ≤ 255 := by rw [hKd]; exact nb_le _ _
        have hNb : N ≤ 255 := by rw [hNd]; exact nb_le _ _
        rw [← hKd] at hlk hK2
        rw [← hNd] at hlk hpn2 hN2
        obtain ⟨X, hX⟩ : ∃ X, X = s.extract (p + 2) (p + N) := ⟨_, rfl⟩
        have zX : X.size + 2 = N := by rw [hX]; simp; omega
        have hit : itm (L s) p = (K, L X) := by
          unfold itm; rw [hX, L_extract, ← hKd, ← hNd, show p + N - (p + 2) = N - 2 by omega]
        have h5 : K = 5 → b = [] := fun h => hDn.five hG hp.out (by rw [← hKd]; exact h)
        obtain ⟨bz, hbz⟩ : ∃ bz, bz = nzb K (L X) := ⟨_, rfl⟩
        obtain ⟨oz, hoz⟩ : ∃ oz, oz = put ⟨m, s', k, b, t, v, e⟩ (K, L X) := ⟨_, rfl⟩
        have HX := Lib.hid hX
        have HTk : Hid (∀ W, Up wr W → Calls Try.prog 29 #[OA m s' k A n c t v e, .int .i64 (K : Nat), .string X] W fun e_ w' => ∃ x, e_ = .returned x ∧ TkV oz bz x w' ∧ Up W w') := fun W hW =>
          (refTake m s' k t v e A n c b K X W (by rw [zX]; exact hlk) (hK1.up hW) hlen hnil h5).mono fun e_ w' ⟨A', n', c', h1, h2, h3, h4, h6⟩ => ⟨_, h1, ⟨_, by rw [hbz], ⟨A', n', c', by rw [hoz], by rw [hoz]; exact h2, by rw [hoz]; exact h3, by rw [hoz]; exact h4⟩⟩, h6⟩
        have HNX : Hid (bz = true → Dn (L s) pl (j + 1) oz) := fun h => by
          rw [hoz, ← hit]
          exact hDn.next hp.out (nzb_t (by rw [hit]; show nzb K (L X) = true; rw [← hbz]; exact h))
        have HBD : Hid (bz = false → err (L s) = 70 ∧ decO (L s) = zero_) := fun h =>
          err_70 (hG.bad (List.mem_of_getElem? hp.out) (nzb_f (by rw [hit]; show nzb K (L X) = false; rw [← hbz]; exact h))) H4.out
        have hpi : (p : Int) < (s.size : Int) := by omega
        have hpi1 : (p : Int) + 1 < (s.size : Int) := by omega
        have d1 : ((p : Int) + 1).toNat = p + 1 := by omega
        have d2 : ((p : Int) + 2).toNat = p + 2 := by omega
        have d3 : ((p : Int) + (N : Int)).toNat = p + N := by omega
        have d4 : (0 : Int) ≤ (p : Int) + 1 := by omega
        have d5 : (0 : Int) ≤ (p : Int) + 2 := by omega
        have d6 : (p : Int) + 2 ≤ (p : Int) + (N : Int) := by omega
        have d7 : (p : Int) + (N : Int) ≤ (s.size : Int) := by omega
        have d8 : (0 : Int) ≤ (p : Int) + (N : Int) := by omega
        have hps := HS.out
        have wq1 : IntKind.i64.wrap ((p : Int) + 1) = (p : Int) + 1 := IntWalk.i64_in _ (by omega)
        have wq2 : IntKind.i64.wrap ((p : Int) + 2) = (p : Int) + 2 := IntWalk.i64_in _ (by omega)
        have wq3 : IntKind.i64.wrap ((p : Int) + (N : Int)) = (p : Int) + (N : Int) := IntWalk.i64_in _ (by omega)
        subst hA
        clear hK2 hlk hpn2 hN2 hX zX hit h5 hbz hoz hKd hNd HA0 HA1 hDn hp
        go_upto_region 10 with fail
        have hO0 := hO.1
        have hBr0 := hBr.1
        refine wp_region_rel6 33 31 (fun W => Up wr W) (fun W W' => Up W W') (Ys [Det (.agg #[.int .u16 (m : Nat), .int .i64 s', .bool k, .slice A n c, .bool t, .int .u32 (v : Nat), .int .u32 (e : Nat)]),
    Det (.string s),
    Det (.slice (some ⟨g, off, none⟩) np cl),
    Det (.int .i64 (j : Nat)),
    Det (.pointer (some ⟨g, off + j, none⟩)),
    Det (.int .i64 (p : Nat)),
    Det (.int .u8 (K : Nat)),
    Det (.int .i64 (K : Nat)),
    Det (.string s),
    Det (.slice (some ⟨g, off, none⟩) np cl),
    Det (.int .i64 (j : Nat)),
    Det (.pointer (some ⟨g, off + j, none⟩)),
    Det (.int .i64 (p : Nat)),
    Det (.int .i64 ((p : Int) + 2)),
    Det (.slice (some ⟨g, off, none⟩) np cl),
    Det (.int .i64 (j : Nat)),
    Det (.pointer (some ⟨g, off + j, none⟩)),
    Det (.int .i64 (p : Nat)),
    Det (.string s),
    Det (.slice (some ⟨g, off, none⟩) np cl),
    Det (.int .i64 (j : Nat)),
    Det (.pointer (some ⟨g, off + j, none⟩)),
    Det (.int .i64 (p : Nat)),
    Det (.int .i64 ((p : Int) + 1)),
    Det (.int .u8 (N : Nat)),
    Det (.int .i64 (N : Nat)),
    Det (.int .i64 ((p : Int) + (N : Int))),
    Det (.string X),
    TkV oz bz,
    TkV oz bz,
    OpV oz,
    Det (.bool bz),
    New wr.heap.size [.int .u16 0, .int .i64 0, .bool false, .slice none 0 0, .bool false, .int .u32 0, .int .u32 0]]) (by kernel_rfl) (by kernel_rfl) (by kernel_rfl) (up_dr (Below.refl _ _)) (Stable.ys ⟨Det.st _, Det.st _, Det.st _, Det.st _, Det.st _, Det.st _, Det.st _, Det.st _, Det.st _, Det.st _, Det.st _, Det.st _, Det.st _, Det.st _, Det.st _, Det.st _, Det.st _, Det.st _, Det.st _, Det.st _, Det.st _, Det.st _, Det.st _, Det.st _, Det.st _, Det.st _, Det.st _, Det.st _, TkV.st _ _, TkV.st _ _, OpV.st _, Det.st _, New.st _ _, trivial⟩) ?_ ?_ ?_
        all_goals simp only [List.take_succ_cons, List.take_zero, List.drop_succ_cons, List.drop_zero, List.set_cons_zero, List.set_cons_succ, List.headD_cons, List.cons_append, List.nil_append]
        ·
          -- 0: Op.load 26 t6
          refine obligs_cons ?_ ?_
          · intro aa ww hC hdep hvar KK hK
            have d6 : aa.tmps.getD 6 undef = .pointer (some ⟨n1, 0, none⟩) := hvar 6 (slotOk_spec (by kernel_rfl))
            have d6_ := d6; rw [Array.getD_eq_getD_getElem?] at d6_
            clear hdep hvar
            have hb := hO.up hC
            have c0 := hb.at 0 rfl; have c1 := hb.at 1 rfl; have c2 := hb.at 2 rfl; have c3 := hb.at 3 rfl; have c4 := hb.at 4 rfl; have c5 := hb.at 5 rfl; have c6 := hb.at 6 rfl
            simp (config := { decide := true }) [go_sem, opTo, opUpon, *]
            exact hK _ _ rfl hC (Below.refl _ _)
          -- 1: Op.move t0
          refine obligs_cons ?_ ?_
          · intro aa ww hC hdep hvar KK hK
            have d0 : aa.tmps.getD 0 undef = .string s := hvar 0 (slotOk_spec (by kernel_rfl))
            have d0_ := d0; rw [Array.getD_eq_getD_getElem?] at d0_
            clear hdep hvar
            simp (config := { decide := true }) [go_sem, opTo, opUpon, *]
            exact hK _ _ rfl hC (Below.refl _ _)
          -- 2: Op.move t4
          refine obligs_cons ?_ ?_
          · intro aa ww hC hdep hvar KK hK
            have d4 : aa.tmps.getD 4 undef = .slice (some ⟨g, off, none⟩) np cl := hvar 4 (slotOk_spec (by kernel_rfl))
            have d4_ := d4; rw [Array.getD_eq_getD_getElem?] at d4_
            clear hdep hvar
            simp (config := { decide := true }) [go_sem, opTo, opUpon, *]
            exact hK _ _ rfl hC (Below.refl _ _)
          -- 3: Op.move t7
          refine obligs_cons ?_ ?_
          · intro aa ww hC hdep hvar KK hK
            have d7 : aa.tmps.getD 7 undef = .int .i64 (j : Nat) := hvar 7 (slotOk_spec (by kernel_rfl))
            have d7_ := d7; rw [Array.getD_eq_getD_getElem?] at d7_
            clear hdep hvar
            simp (config := { decide := true }) [go_sem, opTo, opUpon, *]
            exact hK _ _ rfl hC (Below.refl _ _)
          -- 4: Op.indexAddr 57 t32 t33
          refine obligs_cons ?_ ?_
          · intro aa ww hC hdep hvar KK hK
            have d32 : aa.tmps.getD 32 undef = .slice (some ⟨g, off, none⟩) np cl := dep_of hdep 2 32 (by kernel_rfl)
            have d33 : aa.tmps.getD 33 undef = .int .i64 (j : Nat) := dep_of hdep 3 33 (by kernel_rfl)
            have d32_ := d32; rw [Array.getD_eq_getD_getElem?] at d32_
            have d33_ := d33; rw [Array.getD_eq_getD_getElem?] at d33_
            clear hdep hvar
            (unfold opTo; go_simp; try simp only [opUpon])
            exact hK _ _ rfl hC (Below.refl _ _)
          -- 5: Op.load 3 t34
          refine obligs_cons ?_ ?_
          · intro aa ww hC hdep hvar KK hK
            have d34 : aa.tmps.getD 34 undef = .pointer (some ⟨g, off + j, none⟩) := dep_of hdep 4 34 (by kernel_rfl)
            have d34_ := d34; rw [Array.getD_eq_getD_getElem?] at d34_
            clear hdep hvar
            have cc := (hC.cell (p := ⟨g, off + j, none⟩) hg).trans c1
            (unfold opTo; go_simp; try simp only [opUpon])
            exact hK _ _ rfl hC (Below.refl _ _)
          -- 6: Op.index 9 t31 t35
          refine obligs_cons ?_ ?_
          · intro aa ww hC hdep hvar KK hK
            have d31 : aa.tmps.getD 31 undef = .string s := dep_of hdep 1 31 (by kernel_rfl)
            have d35 : aa.tmps.getD 35 undef = .int .i64 (p : Nat) := dep_of hdep 5 35 (by kernel_rfl)
            have d31_ := d31; rw [Array.getD_eq_getD_getElem?] at d31_
            have d35_ := d35; rw [Array.getD_eq_getD_getElem?] at d35_
            clear hdep hvar
            (unfold opTo; go_simp; try simp only [opUpon])
            exact hK _ _ rfl hC (Below.refl _ _)
          -- 7: Op.convert 5 3 t36
          refine obligs_cons ?_ ?_
          · intro aa ww hC hdep hvar KK hK
            have d36 : aa.tmps.getD 36 undef = .int .u8 (K : Nat) := dep_of hdep 6 36 (by kernel_rfl)
            have d36_ := d36; rw [Array.getD_eq_getD_getElem?] at d36_
            clear hdep hvar
            (unfold opTo; go_simp; try simp only [opUpon])
            exact hK _ _ rfl hC (Below.refl _ _)
          -- 8: Op.move t0
          refine obligs_cons ?_ ?_
          · intro aa ww hC hdep hvar KK hK
            have d0 : aa.tmps.getD 0 undef = .string s := hvar 0 (slotOk_spec (by kernel_rfl))
            have d0_ := d0; rw [Array.getD_eq_getD_getElem?] at d0_
            clear hdep hvar
            simp (config := { decide := true }) [go_sem, opTo, opUpon, *]
            exact hK _ _ rfl hC (Below.refl _ _)
          -- 9: Op.move t4
          refine obligs_cons ?_ ?_
          · intro aa ww hC hdep hvar KK hK
            have d4 : aa.tmps.getD 4 undef = .slice (some ⟨g, off, none⟩) np cl := hvar 4 (slotOk_spec (by kernel_rfl))
            have d4_ := d4; rw [Array.getD_eq_getD_getElem?] at d4_
            clear hdep hvar
            simp (config := { decide := true }) [go_sem, opTo, opUpon, *]
            exact hK _ _ rfl hC (Below.refl _ _)
          -- 10: Op.move t7
          refine obligs_cons ?_ ?_
          · intro aa ww hC hdep hvar KK hK
            have d7 : aa.tmps.getD 7 undef = .int .i64 (j : Nat) := hvar 7 (slotOk_spec (by kernel_rfl))
            have d7_ := d7; rw [Array.getD_eq_getD_getElem?] at d7_
            clear hdep hvar
            simp (config := { decide := true }) [go_sem, opTo, opUpon, *]
            exact hK _ _ rfl hC (Below.refl _ _)
          -- 11: Op.indexAddr 57 t39 t40
          refine obligs_cons ?_ ?_
          · intro aa ww hC hdep hvar KK hK
            have d39 : aa.tmps.getD 39 undef = .slice (some ⟨g, off, none⟩) np cl := dep_of hdep 9 39 (by kernel_rfl)
            have d40 : aa.tmps.getD 40 undef = .int .i64 (j : Nat) := dep_of hdep 10 40 (by kernel_rfl)
            have d39_ := d39; rw [Array.getD_eq_getD_getElem?] at d39_
            have d40_ := d40; rw [Array.getD_eq_getD_getElem?] at d40_
            clear hdep hvar
            (unfold opTo; go_simp; try simp only [opUpon])
            exact hK _ _ rfl hC (Below.refl _ _)
          -- 12: Op.load 3 t41
          refine obligs_cons ?_ ?_
          · intro aa ww hC hdep hvar KK hK
            have d41 : aa.tmps.getD 41 undef = .pointer (some ⟨g, off + j, none⟩) := dep_of hdep 11 41 (by kernel_rfl)
            have d41_ := d41; rw [Array.getD_eq_getD_getElem?] at d41_
            clear hdep hvar
            have cc := (hC.cell (p := ⟨g, off + j, none⟩) hg).trans c1
            (unfold opTo; go_simp; try simp only [opUpon])
            exact hK _ _ rfl hC (Below.refl _ _)
          -- 13: Op.binOp BinOp.add 3 t42 (const (2:i64)) 3
          refine obligs_cons ?_ ?_
          · intro aa ww hC hdep hvar KK hK
            have d42 : aa.tmps.getD 42 undef = .int .i64 (p : Nat) := dep_of hdep 12 42 (by kernel_rfl)
            have d42_ := d42; rw [Array.getD_eq_getD_getElem?] at d42_
            clear hdep hvar
            (unfold opTo; go_simp; try simp only [opUpon])
            exact hK _ _ rfl hC (Below.refl _ _)
          -- 14: Op.move t4
          refine obligs_cons ?_ ?_
          · intro aa ww hC hdep hvar KK hK
            have d4 : aa.tmps.getD 4 undef = .slice (some ⟨g, off, none⟩) np cl := hvar 4 (slotOk_spec (by kernel_rfl))
            have d4_ := d4; rw [Array.getD_eq_getD_getElem?] at d4_
            clear hdep hvar
            simp (config := { decide := true }) [go_sem, opTo, opUpon, *]
            exact hK _ _ rfl hC (Below.refl _ _)
          -- 15: Op.move t7
          refine obligs_cons ?_ ?_
          · intro aa ww hC hdep hvar KK hK
            have d7 : aa.tmps.getD 7 undef = .int .i64 (j : Nat) := hvar 7 (slotOk_spec (by kernel_rfl))
            have d7_ := d7; rw [Array.getD_eq_getD_getElem?] at d7_
            clear hdep hvar
            simp (config := { decide := true }) [go_sem, opTo, opUpon, *]
            exact hK _ _ rfl hC (Below.refl _ _)
          -- 16: Op.indexAddr 57 t44 t45
          refine obligs_cons ?_ ?_
          · intro aa ww hC hdep hvar KK hK
            have d44 : aa.tmps.getD 44 undef = .slice (some ⟨g, off, none⟩) np cl := dep_of hdep 14 44 (by kernel_rfl)
            have d45 : aa.tmps.getD 45 undef = .int .i64 (j : Nat) := dep_of hdep 15 45 (by kernel_rfl)
            have d44_ := d44; rw [Array.getD_eq_getD_getElem?] at d44_
            have d45_ := d45; rw [Array.getD_eq_getD_getElem?] at d45_
            clear hdep hvar
            (unfold opTo; go_simp; try simp only [opUpon])
            exact hK _ _ rfl hC (Below.refl _ _)
          -- 17: Op.load 3 t46
          refine obligs_cons ?_ ?_
          · intro aa ww hC hdep hvar KK hK
            have d46 : aa.tmps.getD 46 undef = .pointer (some ⟨g, off + j, none⟩) := dep_of hdep 16 46 (by kernel_rfl)
            have d46_ := d46; rw [Array.getD_eq_getD_getElem?] at d46_
            clear hdep hvar
            have cc := (hC.cell (p := ⟨g, off + j, none⟩) hg).trans c1
            (unfold opTo; go_simp; try simp only [opUpon])
            exact hK _ _ rfl hC (Below.refl _ _)
          -- 18: Op.move t0
          refine obligs_cons ?_ ?_
          · intro aa ww hC hdep hvar KK hK
            have d0 : aa.tmps.getD 0 undef = .string s := hvar 0 (slotOk_spec (by kernel_rfl))
            have d0_ := d0; rw [Array.getD_eq_getD_getElem?] at d0_
            clear hdep hvar
            simp (config := { decide := true }) [go_sem, opTo, opUpon, *]
            exact hK _ _ rfl hC (Below.refl _ _)
          -- 19: Op.move t4
          refine obligs_cons ?_ ?_
          · intro aa ww hC hdep hvar KK hK
            have d4 : aa.tmps.getD 4 undef = .slice (some ⟨g, off, none⟩) np cl := hvar 4 (slotOk_spec (by kernel_rfl))
            have d4_ := d4; rw [Array.getD_eq_getD_getElem?] at d4_
            clear hdep hvar
            simp (config := { decide := true }) [go_sem, opTo, opUpon, *]
            exact hK _ _ rfl hC (Below.refl _ _)
          -- 20: Op.move t7
          refine obligs_cons ?_ ?_
          · intro aa ww hC hdep hvar KK hK
            have d7 : aa.tmps.getD 7 undef = .int .i64 (j : Nat) := hvar 7 (slotOk_spec (by kernel_rfl))
            have d7_ := d7; rw [Array.getD_eq_getD_getElem?] at d7_
            clear hdep hvar
            simp (config := { decide := true }) [go_sem, opTo, opUpon, *]
            exact hK _ _ rfl hC (Below.refl _ _)
          -- 21: Op.indexAddr 57 t49 t50
          refine obligs_cons ?_ ?_
          · intro aa ww hC hdep hvar KK hK
            have d49 : aa.tmps.getD 49 undef = .slice (some ⟨g, off, none⟩) np cl := dep_of hdep 19 49 (by kernel_rfl)
            have d50 : aa.tmps.getD 50 undef = .int .i64 (j : Nat) := dep_of hdep 20 50 (by kernel_rfl)
            have d49_ := d49; rw [Array.getD_eq_getD_getElem?] at d49_
            have d50_ := d50; rw [Array.getD_eq_getD_getElem?] at d50_
            clear hdep hvar
            (unfold opTo; go_simp; try simp only [opUpon])
            exact hK _ _ rfl hC (Below.refl _ _)
          -- 22: Op.load 3 t51
          refine obligs_cons ?_ ?_
          · intro aa ww hC hdep hvar KK hK
            have d51 : aa.tmps.getD 51 undef = .pointer (some ⟨g, off + j, none⟩) := dep_of hdep 21 51 (by kernel_rfl)
            have d51_ := d51; rw [Array.getD_eq_getD_getElem?] at d51_
            clear hdep hvar
            have cc := (hC.cell (p := ⟨g, off + j, none⟩) hg).trans c1
            (unfold opTo; go_simp; try simp only [opUpon])
            exact hK _ _ rfl hC (Below.refl _ _)
          -- 23: Op.binOp BinOp.add 3 t52 (const (1:i64)) 3
          refine obligs_cons ?_ ?_
          · intro aa ww hC hdep hvar KK hK
            have d52 : aa.tmps.getD 52 undef = .int .i64 (p : Nat) := dep_of hdep 22 52 (by kernel_rfl)
            have d52_ := d52; rw [Array.getD_eq_getD_getElem?] at d52_
            clear hdep hvar
            (unfold opTo; go_simp; try simp only [opUpon])
            exact hK _ _ rfl hC (Below.refl _ _)
          -- 24: Op.index 9 t48 t53
          refine obligs_cons ?_ ?_
          · intro aa ww hC hdep hvar KK hK
            have d48 : aa.tmps.getD 48 undef = .string s := dep_of hdep 18 48 (by kernel_rfl)
            have d53 : aa.tmps.getD 53 undef = .int .i64 ((p : Int) + 1) := dep_of hdep 23 53 (by kernel_rfl)
            have d48_ := d48; rw [Array.getD_eq_getD_getElem?] at d48_
            have d53_ := d53; rw [Array.getD_eq_getD_getElem?] at d53_
            clear hdep hvar
            (unfold opTo; go_simp; try simp only [opUpon])
            exact hK _ _ rfl hC (Below.refl _ _)
          -- 25: Op.convert 5 3 t54
          refine obligs_cons ?_ ?_
          · intro aa ww hC hdep hvar KK hK
            have d54 : aa.tmps.getD 54 undef = .int .u8 (N : Nat) := dep_of hdep 24 54 (by kernel_rfl)
            have d54_ := d54; rw [Array.getD_eq_getD_getElem?] at d54_
            clear hdep hvar
            (unfold opTo; go_simp; try simp only [opUpon])
            exact hK _ _ rfl hC (Below.refl _ _)
          -- 26: Op.binOp BinOp.add 3 t47 t55 3
          refine obligs_cons ?_ ?_
          · intro aa ww hC hdep hvar KK hK
            have d47 : aa.tmps.getD 47 undef = .int .i64 (p : Nat) := dep_of hdep 17 47 (by kernel_rfl)
            have d55 : aa.tmps.getD 55 undef = .int .i64 (N : Nat) := dep_of hdep 25 55 (by kernel_rfl)
            have d47_ := d47; rw [Array.getD_eq_getD_getElem?] at d47_
            have d55_ := d55; rw [Array.getD_eq_getD_getElem?] at d55_
            clear hdep hvar
            (unfold opTo; go_simp; try simp only [opUpon])
            exact hK _ _ rfl hC (Below.refl _ _)
          -- 27: Op.slice 9 t38 (some t43) (some t56) none
          refine obligs_cons ?_ ?_
          · intro aa ww hC hdep hvar KK hK
            have d38 : aa.tmps.getD 38 undef = .string s := dep_of hdep 8 38 (by kernel_rfl)
            have d43 : aa.tmps.getD 43 undef = .int .i64 ((p : Int) + 2) := dep_of hdep 13 43 (by kernel_rfl)
            have d56 : aa.tmps.getD 56 undef = .int .i64 ((p : Int) + (N : Int)) := dep_of hdep 26 56 (by kernel_rfl)
            have d38_ := d38; rw [Array.getD_eq_getD_getElem?] at d38_
            have d43_ := d43; rw [Array.getD_eq_getD_getElem?] at d43_
            have d56_ := d56; rw [Array.getD_eq_getD_getElem?] at d56_
            clear hdep hvar
            (unfold opTo; go_simp; try simp only [opUpon])
            rw [← HX.out]
            exact hK _ _ rfl hC (Below.refl _ _)
          -- 28: Op.call { value (Operand.func 29), args := #[t30, t37, t57], argTypes := #[26, 3, 9] }
          refine obligs_cons ?_ ?_
          · intro aa ww hC hdep hvar KK hK
            have d30 : aa.tmps.getD 30 undef = .agg #[.int .u16 (m : Nat), .int .i64 s', .bool k, .slice A n c, .bool t, .int .u32 (v : Nat), .int .u32 (e : Nat)] := dep_of hdep 0 30 (by kernel_rfl)
            have d37 : aa.tmps.getD 37 undef = .int .i64 (K : Nat) := dep_of hdep 7 37 (by kernel_rfl)
            have d57 : aa.tmps.getD 57 undef = .string X := dep_of hdep 27 57 (by kernel_rfl)
            have d30_ := d30; rw [Array.getD_eq_getD_getElem?] at d30_
            have d37_ := d37; rw [Array.getD_eq_getD_getElem?] at d37_
            have d57_ := d57; rw [Array.getD_eq_getD_getElem?] at d57_
            clear hdep hvar
            (unfold opTo; go_simp; try simp only [opUpon])
            exact (HTk.out _ hC).mono fun e_ w2 ⟨x, h1, h2, h3⟩ => ⟨_, h1, hK _ _ h2 (Up.on hC h3) h3⟩
          -- 29: Op.move t58
          refine obligs_cons ?_ ?_
          · intro aa ww hC hdep hvar KK hK
            obtain ⟨x58, d58, p58⟩ : TkV oz bz (aa.tmps.getD 58 undef) ww := dep_of hdep 28 58 (by kernel_rfl)
            have d58_ := d58; rw [Array.getD_eq_getD_getElem?] at d58_
            clear hdep hvar
            (unfold opTo; go_simp; try simp only [opUpon])
            exact hK _ _ ⟨_, rfl, p58⟩ hC (Below.refl _ _)
          -- 30: Op.extract t29 0
          refine obligs_cons ?_ ?_
          · intro aa ww hC hdep hvar KK hK
            obtain ⟨x29, d29, p29⟩ : TkV oz bz (aa.tmps.getD 29 undef) ww := dep_of hdep 29 29 (by kernel_rfl)
            have d29_ := d29; rw [Array.getD_eq_getD_getElem?] at d29_
            clear hdep hvar
            (unfold opTo; go_simp; try simp only [opUpon])
            exact hK _ _ p29 hC (Below.refl _ _)
          -- 31: Op.extract t29 1
          refine obligs_cons ?_ ?_
          · intro aa ww hC hdep hvar KK hK
            obtain ⟨x29, d29, p29⟩ : TkV oz bz (aa.tmps.getD 29 undef) ww := dep_of hdep 29 29 (by kernel_rfl)
            have d29_ := d29; rw [Array.getD_eq_getD_getElem?] at d29_
            clear hdep hvar
            (unfold opTo; go_simp; try simp only [opUpon])
            exact hK _ _ rfl hC (Below.refl _ _)
          -- 32: Op.alloc 26
          refine obligs_cons ?_ ?_
          · intro aa ww hC hdep hvar KK hK
            clear hdep hvar
            simp (config := { decide := true }) [go_sem, opTo, opUpon, *]
            exact hK _ _ ⟨_, rfl, hC.size, Box.new _ _ _⟩ (up_al _ hC) (up_al _ (Below.refl _ _))
          exact obligs_nil
        ·
          intro vals ww hC hY
          have e0 : vals 0 = .agg #[.int .u16 (m : Nat), .int .i64 s', .bool k, .slice A n c, .bool t, .int .u32 (v : Nat), .int .u32 (e : Nat)] := hY 0 _ _ rfl rfl
          have e1 : vals 1 = .string s := hY 1 _ _ rfl rfl
          have e2 : vals 2 = .slice (some ⟨g, off, none⟩) np cl := hY 2 _ _ rfl rfl
          have e3 : vals 3 = .int .i64 (j : Nat) := hY 3 _ _ rfl rfl
          have e4 : vals 4 = .pointer (some ⟨g, off + j, none⟩) := hY 4 _ _ rfl rfl
          have e5 : vals 5 = .int .i64 (p : Nat) := hY 5 _ _ rfl rfl
          have e6 : vals 6 = .int .u8 (K : Nat) := hY 6 _ _ rfl rfl
          have e7 : vals 7 = .int .i64 (K : Nat) := hY 7 _ _ rfl rfl
          have e8 : vals 8 = .string s := hY 8 _ _ rfl rfl
          have e9 : vals 9 = .slice (some ⟨g, off, none⟩) np cl := hY 9 _ _ rfl rfl
          have e10 : vals 10 = .int .i64 (j : Nat) := hY 10 _ _ rfl rfl
          have e11 : vals 11 = .pointer (some ⟨g, off + j, none⟩) := hY 11 _ _ rfl rfl
          have e12 : vals 12 = .int .i64 (p : Nat) := hY 12 _ _ rfl rfl
          have e13 : vals 13 = .int .i64 ((p : Int) + 2) := hY 13 _ _ rfl rfl
          have e14 : vals 14 = .slice (some ⟨g, off, none⟩) np cl := hY 14 _ _ rfl rfl
          have e15 : vals 15 = .int .i64 (j : Nat) := hY 15 _ _ rfl rfl
          have e16 : vals 16 = .pointer (some ⟨g, off + j, none⟩) := hY 16 _ _ rfl rfl
          have e17 : vals 17 = .int .i64 (p : Nat) := hY 17 _ _ rfl rfl
          have e18 : vals 18 = .string s := hY 18 _ _ rfl rfl
          have e19 : vals 19 = .slice (some ⟨g, off, none⟩) np cl := hY 19 _ _ rfl rfl
          have e20 : vals 20 = .int .i64 (j : Nat) := hY 20 _ _ rfl rfl
          have e21 : vals 21 = .pointer (some ⟨g, off + j, none⟩) := hY 21 _ _ rfl rfl
          have e22 : vals 22 = .int .i64 (p : Nat) := hY 22 _ _ rfl rfl
          have e23 : vals 23 = .int .i64 ((p : Int) + 1) := hY 23 _ _ rfl rfl
          have e24 : vals 24 = .int .u8 (N : Nat) := hY 24 _ _ rfl rfl
          have e25 : vals 25 = .int .i64 (N : Nat) := hY 25 _ _ rfl rfl
          have e26 : vals 26 = .int .i64 ((p : Int) + (N : Int)) := hY 26 _ _ rfl rfl
          have e27 : vals 27 = .string X := hY 27 _ _ rfl rfl
          obtain ⟨x29, e29, t29⟩ : TkV oz bz (vals 29) ww := hY 29 _ _ rfl rfl
          obtain ⟨A1, N1, C1, e30, r1, r2, r3⟩ : OpV oz (vals 30) ww := hY 30 _ _ rfl rfl
          have e31 : vals 31 = .bool bz := hY 31 _ _ rfl rfl
          obtain ⟨n8, e32, hM8, hN8⟩ : New wr.heap.size [.int .u16 0, .int .i64 0, .bool false, .slice none 0 0, .bool false, .int .u32 0, .int .u32 0] (vals 32) ww := hY 32 _ _ rfl rfl
          clear hY
          simp only [putAll, Act.put, List.setIfInBounds_toArray, List.set_cons_zero, List.set_cons_succ, e0, e1, e2, e3, e4, e5, e6, e7, e8, e9, e10, e11, e12, e13, e14, e15, e16, e17, e18, e19, e20, e21, e22, e23, e24, e25, e26, e27, e29, e30, e31, e32]
          clear e0 e1 e2 e3 e4 e5 e6 e7 e8 e9 e10 e11 e12 e13 e14 e15 e16 e17 e18 e19 e20 e21 e22 e23 e24 e25 e26 e27 e29 e30 e31 e32
          have hO2 := hO.up hC
          have hB3 := hBr.up hC
          have hur2 := hur.on hC
          clear hO hBr hC hR hK1
          obtain ⟨p0, p1, p2, p3, p4, p5, p6, q0, q1, q2, q3, q4, q5, q6⟩ := Box.c7 hN8
          go_upto_region 11 with fail
          have hlt8 : n1 < n8 := Nat.lt_of_lt_of_le hO0 hM8
          have hlt8' : n0 < n8 := Nat.lt_of_lt_of_le hBr0 hM8
          have hX8 := put7 hN8 (.int .u16 (oz.mss : Nat)) (.int .i64 oz.sc) (.bool oz.sk) (.slice A1 N1 C1) (.bool oz.tm) (.int .u32 (oz.va : Nat)) (.int .u32 (oz.ec : Nat))
          have hO3 := far7 hO2 (c := n8) (by omega) (.int .u16 (oz.mss : Nat)) (.int .i64 oz.sc) (.bool oz.sk) (.slice A1 N1 C1) (.bool oz.tm) (.int .u32 (oz.va : Nat)) (.int .u32 (oz.ec : Nat))
          have hB4 := far7 hB3 (c := n8) (by omega) (.int .u16 (oz.mss : Nat)) (.int .i64 oz.sc) (.bool oz.sk) (.slice A1 N1 C1) (.bool oz.tm) (.int .u32 (oz.va : Nat)) (.int .u32 (oz.ec : Nat))
          have hu3 := ups7 (b := n8) (hur2) (Nat.le_trans hur.size hM8) (.int .u16 (oz.mss : Nat)) (.int .i64 oz.sc) (.bool oz.sk) (.slice A1 N1 C1) (.bool oz.tm) (.int .u32 (oz.va : Nat)) (.int .u32 (oz.ec : Nat))
          have hK3 := own7x r1 (own_apart r1 (fun h => (r3 h).1) hN8) (.int .u16 (oz.mss : Nat)) (.int .i64 oz.sc) (.bool oz.sk) (.slice A1 N1 C1) (.bool oz.tm) (.int .u32 (oz.va : Nat)) (.int .u32 (oz.ec : Nat))
          clear p0 q0 p1 q1 p2 q2 p3 q3 p4 q4 p5 q5 p6 q6 hN8 hO2 hB3 hur2
          generalize World.setCell _ ⟨n8, 6, none⟩ _ = w8 at hX8 hO3 hB4 hu3 hK3 ⊢
          cases bz
          case false =>
            have HD := Lib.hid (HBD.out rfl)
            obtain ⟨m0, m1, m2, m3, m4, m5, m6, g0, g1, g2, g3, g4, g5, g6⟩ := Box.c7 hB4
            go_wp2_with fail
            have hBB := put7 hB4 (.int .u16 0) (.int .i64 0) (.bool false) (.slice none 0 0) (.bool false) (.int .u32 0) (.int .u32 0)
            have huu := ups7 (b := n0) (hu2.on hu3) hle0 (.int .u16 0) (.int .i64 0) (.bool false) (.slice none 0 0) (.bool false) (.int .u32 0) (.int .u32 0)
            generalize World.setCell _ ⟨n0, 6, none⟩ _ = W9 at hBB huu ⊢
            clear m0 g0 m1 g1 m2 g2 m3 g3 m4 g4 m5 g5 m6 g6
            obtain ⟨m0, m1, m2, m3, m4, m5, m6, g0, g1, g2, g3, g4, g5, g6⟩ := Box.c7 hBB
            (try simp only [Exit.inBlock, Exit.then])
            refine bodyPost_ret (v := .tuple #[.agg #[.int .u16 0, .int .i64 0, .bool false, .slice none 0 0, .bool false, .int .u32 0, .int .u32 0], .int .i64 70]) ?_ rfl (DecZ.bad HD.out rfl huu)
            rw [results_cell_tmp rfl]; go_simp
          case true =>
            have HDn := Lib.hid (HNX.out rfl)
            obtain ⟨k0, k1, k2, k3, k4, k5, k6, f0, f1, f2, f3, f4, f5, f6⟩ := Box.c7 hO3
            obtain ⟨p0, p1, p2, p3, p4, p5, p6, q0, q1, q2, q3, q4, q5, q6⟩ := Box.c7 hX8
            go_wp2_with fail
            have hO4 := put7 hO3 (.int .u16 (oz.mss : Nat)) (.int .i64 oz.sc) (.bool oz.sk) (.slice A1 N1 C1) (.bool oz.tm) (.int .u32 (oz.va : Nat)) (.int .u32 (oz.ec : Nat))
            have hB5 := far7 hB4 (c := n1) hne' (.int .u16 (oz.mss : Nat)) (.int .i64 oz.sc) (.bool oz.sk) (.slice A1 N1 C1) (.bool oz.tm) (.int .u32 (oz.va : Nat)) (.int .u32 (oz.ec : Nat))
            have hu4 := ups7 (b := n1) hu3 hle2 (.int .u16 (oz.mss : Nat)) (.int .i64 oz.sc) (.bool oz.sk) (.slice A1 N1 C1) (.bool oz.tm) (.int .u32 (oz.va : Nat)) (.int .u32 (oz.ec : Nat))
            have hK4 := own7x hK3 (own_apart hK3 (fun h => (r3 h).1) hO3) (.int .u16 (oz.mss : Nat)) (.int .i64 oz.sc) (.bool oz.sk) (.slice A1 N1 C1) (.bool oz.tm) (.int .u32 (oz.va : Nat)) (.int .u32 (oz.ec : Nat))
            generalize World.setCell _ ⟨n1, 6, none⟩ _ = w9 at hO4 hB5 hu4 hK4 ⊢
            go_roundw
            case rel => exact ⟨j + 1, oz.mss, oz.sc, oz.sk, oz.bl, oz.tm, oz.va, oz.ec, A1, N1, C1, by omega, by go_num, hO4, hK4, r2, r3, HDn.out, hB5, hu4⟩
            case measure => simp [intOf]; omega
        ·
          intro vals ww hC hY
          have e0 : vals 0 = .agg #[.int .u16 (m : Nat), .int .i64 s', .bool k, .slice A n c, .bool t, .int .u32 (v : Nat), .int .u32 (e : Nat)] := hY 0 _ _ (by decide) rfl rfl
          have e1 : vals 1 = .string s := hY 1 _ _ (by decide) rfl rfl
          have e2 : vals 2 = .slice (some ⟨g, off, none⟩) np cl := hY 2 _ _ (by decide) rfl rfl
          have e3 : vals 3 = .int .i64 (j : Nat) := hY 3 _ _ (by decide) rfl rfl
          have e4 : vals 4 = .pointer (some ⟨g, off + j, none⟩) := hY 4 _ _ (by decide) rfl rfl
          have e5 : vals 5 = .int .i64 (p : Nat) := hY 5 _ _ (by decide) rfl rfl
          have e6 : vals 6 = .int .u8 (K : Nat) := hY 6 _ _ (by decide) rfl rfl
          have e7 : vals 7 = .int .i64 (K : Nat) := hY 7 _ _ (by decide) rfl rfl
          have e8 : vals 8 = .string s := hY 8 _ _ (by decide) rfl rfl
          have e9 : vals 9 = .slice (some ⟨g, off, none⟩) np cl := hY 9 _ _ (by decide) rfl rfl
          have e10 : vals 10 = .int .i64 (j : Nat) := hY 10 _ _ (by decide) rfl rfl
          have e11 : vals 11 = .pointer (some ⟨g, off + j, none⟩) := hY 11 _ _ (by decide) rfl rfl
          have e12 : vals 12 = .int .i64 (p : Nat) := hY 12 _ _ (by decide) rfl rfl
          have e13 : vals 13 = .int .i64 ((p : Int) + 2) := hY 13 _ _ (by decide) rfl rfl
          have e14 : vals 14 = .slice (some ⟨g, off, none⟩) np cl := hY 14 _ _ (by decide) rfl rfl
          have e15 : vals 15 = .int .i64 (j : Nat) := hY 15 _ _ (by decide) rfl rfl
          have e16 : vals 16 = .pointer (some ⟨g, off + j, none⟩) := hY 16 _ _ (by decide) rfl rfl
          have e17 : vals 17 = .int .i64 (p : Nat) := hY 17 _ _ (by decide) rfl rfl
          have e18 : vals 18 = .string s := hY 18 _ _ (by decide) rfl rfl
          have e19 : vals 19 = .slice (some ⟨g, off, none⟩) np cl := hY 19 _ _ (by decide) rfl rfl
          have e20 : vals 20 = .int .i64 (j : Nat) := hY 20 _ _ (by decide) rfl rfl
          have e21 : vals 21 = .pointer (some ⟨g, off + j, none⟩) := hY 21 _ _ (by decide) rfl rfl
          have e22 : vals 22 = .int .i64 (p : Nat) := hY 22 _ _ (by decide) rfl rfl
          have e23 : vals 23 = .int .i64 ((p : Int) + 1) := hY 23 _ _ (by decide) rfl rfl
          have e24 : vals 24 = .int .u8 (N : Nat) := hY 24 _ _ (by decide) rfl rfl
          have e25 : vals 25 = .int .i64 (N : Nat) := hY 25 _ _ (by decide) rfl rfl
          have e26 : vals 26 = .int .i64 ((p : Int) + (N : Int)) := hY 26 _ _ (by decide) rfl rfl
          have e27 : vals 27 = .string X := hY 27 _ _ (by decide) rfl rfl
          obtain ⟨x29, e29, t29⟩ : TkV oz bz (vals 29) ww := hY 29 _ _ (by decide) rfl rfl
          obtain ⟨A1, N1, C1, e30, r1, r2, r3⟩ : OpV oz (vals 30) ww := hY 30 _ _ (by decide) rfl rfl
          obtain ⟨n8, e32, hM8, hN8⟩ : New wr.heap.size [.int .u16 0, .int .i64 0, .bool false, .slice none 0 0, .bool false, .int .u32 0, .int .u32 0] (vals 32) ww := hY 32 _ _ (by decide) rfl rfl
          clear hY
          simp only [putAll, Act.put, List.setIfInBounds_toArray, List.set_cons_zero, List.set_cons_succ, e0, e1, e2, e3, e4, e5, e6, e7, e8, e9, e10, e11, e12, e13, e14, e15, e16, e17, e18, e19, e20, e21, e22, e23, e24, e25, e26, e27, e29, e30, e32]
          clear e0 e1 e2 e3 e4 e5 e6 e7 e8 e9 e10 e11 e12 e13 e14 e15 e16 e17 e18 e19 e20 e21 e22 e23 e24 e25 e26 e27 e29 e30 e32
          have hO2 := hO.up hC
          have hB3 := hBr.up hC
          have hur2 := hur.on hC
          clear hO hBr hC hR hK1
          obtain ⟨p0, p1, p2, p3, p4, p5, p6, q0, q1, q2, q3, q4, q5, q6⟩ := Box.c7 hN8
          go_upto_region 11 with fail
          have hlt8 : n1 < n8 := Nat.lt_of_lt_of_le hO0 hM8
          have hlt8' : n0 < n8 := Nat.lt_of_lt_of_le hBr0 hM8
          have hX8 := put7 hN8 (.int .u16 (oz.mss : Nat)) (.int .i64 oz.sc) (.bool oz.sk) (.slice A1 N1 C1) (.bool oz.tm) (.int .u32 (oz.va : Nat)) (.int .u32 (oz.ec : Nat))
          have hO3 := far7 hO2 (c := n8) (by omega) (.int .u16 (oz.mss : Nat)) (.int .i64 oz.sc) (.bool oz.sk) (.slice A1 N1 C1) (.bool oz.tm) (.int .u32 (oz.va : Nat)) (.int .u32 (oz.ec : Nat))
          have hB4 := far7 hB3 (c := n8) (by omega) (.int .u16 (oz.mss : Nat)) (.int .i64 oz.sc) (.bool oz.sk) (.slice A1 N1 C1) (.bool oz.tm) (.int .u32 (oz.va : Nat)) (.int .u32 (oz.ec : Nat))
          have hu3 := ups7 (b := n8) (hur2) (Nat.le_trans hur.size hM8) (.int .u16 (oz.mss : Nat)) (.int .i64 oz.sc) (.bool oz.sk) (.slice A1 N1 C1) (.bool oz.tm) (.int .u32 (oz.va : Nat)) (.int .u32 (oz.ec : Nat))
          have hK3 := own7x r1 (own_apart r1 (fun h => (r3 h).1) hN8) (.int .u16 (oz.mss : Nat)) (.int .i64 oz.sc) (.bool oz.sk) (.slice A1 N1 C1) (.bool oz.tm) (.int .u32 (oz.va : Nat)) (.int .u32 (oz.ec : Nat))
          clear p0 q0 p1 q1 p2 q2 p3 q3 p4 q4 p5 q5 p6 q6 hN8 hO2 hB3 hur2
          generalize World.setCell _ ⟨n8, 6, none⟩ _ = w8 at hX8 hO3 hB4 hu3 hK3 ⊢
          cases bz
          case false =>
            have HD := Lib.hid (HBD.out rfl)
            obtain ⟨m0, m1, m2, m3, m4, m5, m6, g0, g1, g2, g3, g4, g5, g6⟩ := Box.c7 hB4
            go_wp2_with fail
            have hBB := put7 hB4 (.int .u16 0) (.int .i64 0) (.bool false) (.slice none 0 0) (.bool false) (.int .u32 0) (.int .u32 0)
            have huu := ups7 (b := n0) (hu2.on hu3) hle0 (.int .u16 0) (.int .i64 0) (.bool false) (.slice none 0 0) (.bool false) (.int .u32 0) (.int .u32 0)
            generalize World.setCell _ ⟨n0, 6, none⟩ _ = W9 at hBB huu ⊢
            clear m0 g0 m1 g1 m2 g2 m3 g3 m4 g4 m5 g5 m6 g6
            obtain ⟨m0, m1, m2, m3, m4, m5, m6, g0, g1, g2, g3, g4, g5, g6⟩ := Box.c7 hBB
            (try simp only [Exit.inBlock, Exit.then])
            refine bodyPost_ret (v := .tuple #[.agg #[.int .u16 0, .int .i64 0, .bool false, .slice none 0 0, .bool false, .int .u32 0, .int .u32 0], .int .i64 70]) ?_ rfl (DecZ.bad HD.out rfl huu)
            rw [results_cell_tmp rfl]; go_simp
          case true =>
            have HDn := Lib.hid (HNX.out rfl)
            obtain ⟨k0, k1, k2, k3, k4, k5, k6, f0, f1, f2, f3, f4, f5, f6⟩ := Box.c7 hO3
            obtain ⟨p0, p1, p2, p3, p4, p5, p6, q0, q1, q2, q3, q4, q5, q6⟩ := Box.c7 hX8
            go_wp2_with fail
            have hO4 := put7 hO3 (.int .u16 (oz.mss : Nat)) (.int .i64 oz.sc) (.bool oz.sk) (.slice A1 N1 C1) (.bool oz.tm) (.int .u32 (oz.va : Nat)) (.int .u32 (oz.ec : Nat))
            have hB5 := far7 hB4 (c := n1) hne' (.int .u16 (oz.mss : Nat)) (.int .i64 oz.sc) (.bool oz.sk) (.slice A1 N1 C1) (.bool oz.tm) (.int .u32 (oz.va : Nat)) (.int .u32 (oz.ec : Nat))
            have hu4 := ups7 (b := n1) hu3 hle2 (.int .u16 (oz.mss : Nat)) (.int .i64 oz.sc) (.bool oz.sk) (.slice A1 N1 C1) (.bool oz.tm) (.int .u32 (oz.va : Nat)) (.int .u32 (oz.ec : Nat))
            have hK4 := own7x hK3 (own_apart hK3 (fun h => (r3 h).1) hO3) (.int .u16 (oz.mss : Nat)) (.int .i64 oz.sc) (.bool oz.sk) (.slice A1 N1 C1) (.bool oz.tm) (.int .u32 (oz.va : Nat)) (.int .u32 (oz.ec : Nat))
            generalize World.setCell _ ⟨n1, 6, none⟩ _ = w9 at hO4 hB5 hu4 hK4 ⊢
            go_roundw
            case rel => exact ⟨j + 1, oz.mss, oz.sc, oz.sk, oz.bl, oz.tm, oz.va, oz.ec, A1, N1, C1, by omega, by go_num, hO4, hK4, r2, r3, HDn.out, hB5, hu4⟩
            case measure => simp [intOf]; omega
end Go.Proofs.Ytdlcglkeinlimaa.op
