/- B H A: contracts, part 11. Condition: as each says. -/
import Derived.Test.YtafckmbgefbonaaKBHA8
import Derived.Test.YtafckmbgefbonaaKBHA10
import Derived.Laws.IdiomCopy
import Derived.RangeFuncNested
import Derived.RangeFuncBound
import Derived.RangeFuncCalls
import Derived.RangeFuncLeaves
import Derived.RangeFuncBox
import Derived.Shelf.RegionOpen
import Derived.OwnWalkIn
import Derived.TacticsInMore
import Derived.LoopNIn
import Derived.LoopIn
set_option linter.unusedVariables false
set_option linter.unusedSimpArgs false
namespace Go.Proofs.Ytafckmbgefbonaa.op
open Go.RowKit Go.Shelf Go.Lib Go.Proofs.Ytafckmbgefbonaa.sm Go.Proofs.Ytafckmbgefbonaa.nb Go.Proofs.Ytafckmbgefbonaa.om
set_option linter.unusedVariables false

theorem or8 (x : Nat) (hx : x < 256) : bits .or .u8 0 (x : Int) = (x : Int) := by
  have h1 : (BitVec.ofInt 8 (x : Int)).toNat = x := by rw [BitVec.ofInt_natCast, BitVec.toNat_ofNat]; exact Nat.mod_eq_of_lt (by omega)
  show IntKind.u8.wrap ((BitVec.ofInt 8 0 ||| BitVec.ofInt 8 (x : Int)).toNat : Int) = _
  rw [BitVec.toNat_or, h1, show (BitVec.ofInt 8 0).toNat = 0 by decide, Nat.zero_or, IntKind.wrap_u8]
  omega
set_option maxHeartbeats 1000000 in
set_option maxRecDepth 100000 in
theorem at8 (s : ByteArray) (p : Nat) (w : World) (hs : s.size ≤ 1099511627776) (hp : p + 1 ≤ s.size) :
    Calls Try.prog 74 #[.string s, .int .i64 p] w fun e w' => e = .returned (.int .u8 (bt (L s) p)) ∧ w = w' := by
  have b0 := bt_bd (L s) p
  have e0 := bt_at s p (by omega)
  rw [← e0] at b0
  have o0 := or8 (s[p].toNat) (by omega)
  have E0 := Lib.hid e0
  clear e0
  go_enter Try.func74, Try.ntmps74
  go_wp2_with (go_at_call 80; refine (size8 w).mono ?_; rintro e w' ⟨rfl, rfl⟩)
  go_loop [6, 20] (fun n i => ∃ (k : Nat), k ≤ 1 ∧ i = .int .i64 (k : Nat) ∧ Hid (n = .int .u8 (if k = 0 then 0 else (s[p].toNat : Int)))) (fun _ i => 1 - (RowKit.intOf i).toNat)
  case atStart => exact ⟨0, by omega, rfl, rfl⟩
  case round =>
    obtain ⟨k, hk, rfl, hn⟩ := hrel
    rcases (by omega : k = 0 ∨ k = 1) with rfl | rfl
    · obtain rfl := hn.out
      go_wp2
      go_round
      case rel => exact ⟨1, by omega, by go_num, by unfold Hid; simp [o0]⟩
      case measure => simp [RowKit.intOf]
    · obtain rfl := hn.out
      go_wp2
      go_ret
      exact ⟨ret_int E0.out, rfl⟩
theorem at8i (s : ByteArray) (p : Int) (w : World) (hs : s.size ≤ 1099511627776) (hp : 0 ≤ p ∧ p + 1 ≤ (s.size : Int)) :
    Calls Try.prog 74 #[.string s, .int .i64 p] w fun e w' => e = .returned (.int .u8 (bt (L s) p.toNat)) ∧ w = w' := by
  obtain ⟨n, rfl⟩ := Int.eq_ofNat_of_zero_le hp.1
  exact at8 s n w hs (by omega)

/-! ### worlds in which one block alone has turned -/
theorem grown_trans {A B C : World} {X : Nat} (h : A.grownBy B (some X)) (k : B.grownBy C (some X)) : A.grownBy C (some X) :=
  ⟨k.os.trans h.os, k.tape.trans h.tape, k.output.trans h.output, Nat.le_trans h.size k.size, fun i hi hne => (k.block i (Nat.lt_of_lt_of_le hi h.size) hne).trans (h.block i hi hne)⟩
theorem grown_up {A B : World} {X : Nat} (h : Up A B) : A.grownBy B (some X) := ⟨h.os, h.tape, h.output, h.size, fun i hi _ => h.block i hi⟩
theorem grown_set (W : World) (X o : Nat) (v : Value) : W.grownBy (W.setCell ⟨X, o, none⟩ v) (some X) :=
  ⟨rfl, rfl, rfl, (KeepsWalks.setCell W _ v).size, fun k _ hk => Below.heap_setCell _ _ _ k (fun e => hk (by rw [e]))⟩
theorem up_grown {w A B : World} {X : Nat} (h : Up w A) (k : A.grownBy B (some X)) (hX : w.heap.size ≤ X) : Up w B := h.grown k h.size (fun j e => by cases e; exact hX)
theorem Box.grown {A B : World} {X b : Nat} {vs : List Value} (h : Box A b vs) (k : A.grownBy B (some X)) (hne : b ≠ X) : Box B b vs :=
  ⟨Nat.lt_of_lt_of_le h.1 k.size, fun j v hv => by
    have e := k.block b h.1 (by intro e; cases e; exact hne rfl)
    exact ⟨(World.cell?_of_block (a := ⟨b, j, none⟩) e).trans (h.2 j v hv).1, (World.frozen?_of_block (a := ⟨b, j, none⟩) e).trans (h.2 j v hv).2⟩⟩

/-! ### bytes laid over bytes -/
theorem BC_set (l : List UInt8) (k : Nat) (c : UInt8) : BC (l.set k c) = (BC l).set k (.int .u8 (c.toNat : Int)) := by
  simp [BC, Lib.byteCells, List.map_set]
theorem set4 (l : List UInt8) (p : Nat) (a b c d : UInt8) (h : p + 4 ≤ l.length) : (((l.set p a).set (p + 1) b).set (p + 2) c).set (p + 3) d = l.take p ++ ([a, b, c, d] ++ l.drop (p + 4)) := by
  apply List.ext_getElem
  · simp; omega
  · intro i h1 h2
    simp only [List.getElem_set, List.getElem_append, List.length_take, List.getElem_take, List.getElem_drop]
    have hmin : min p l.length = p := by omega
    simp only [hmin]
    by_cases i0 : i < p
    · simp [i0, show ¬ (p + 3 = i) by omega, show ¬ (p + 2 = i) by omega, show ¬ (p + 1 = i) by omega, show ¬ (p = i) by omega]
    · rcases (by omega : i = p ∨ i = p + 1 ∨ i = p + 2 ∨ i = p + 3 ∨ p + 4 ≤ i) with rfl | rfl | rfl | rfl | h5
      · simp
      · simp; intro h; omega
      · simp; intro h; omega
      · simp; intro h; omega
      · simp [i0, show ¬ (p + 3 = i) by omega, show ¬ (p + 2 = i) by omega, show ¬ (p + 1 = i) by omega, show ¬ (p = i) by omega, show ¬ (i - p < 4) by omega]
        congr 1; omega
theorem Box.put4 {W : World} {X : Nat} {l : List UInt8} (h : Box W X (BC l)) (p : Nat) (v : Nat) (hp : p + 4 ≤ l.length) :
    Box (W.setCells X p (BC (B32 v))) X (BC (l.take p ++ (B32 v ++ l.drop (p + 4)))) := by
  have h1 := (((h.set p (.int .u8 ((oct (q3 v)).toNat : Int))).set (p + 1) (.int .u8 ((oct (q2 v)).toNat : Int))).set (p + 2) (.int .u8 ((oct (q1 v)).toNat : Int))).set (p + 3) (.int .u8 ((oct (q0 v)).toNat : Int))
  rw [← BC_set, ← BC_set, ← BC_set, ← BC_set, set4 _ _ _ _ _ _ hp] at h1
  exact h1
theorem grown_put4 (W : World) (X p v : Nat) : W.grownBy (W.setCells X p (BC (B32 v))) (some X) :=
  grown_trans (grown_trans (grown_trans (grown_set W X p _) (grown_set _ X (p + 1) _)) (grown_set _ X (p + 2) _)) (grown_set _ X (p + 3) _)
theorem info5s : (Try.prog.info? 5).map (·.size) = some 1 := by kernel_rfl
theorem copy4 {ops : Array Oper} {o : Oper} {a : Act} {w : World} {K : Act → World → Prop} {Q : Exit → Act → World → Prop} {E : Prop} (d s : Operand) (hgd : o.guard = none)
    (ho : o.op = .call { callee := .builtin .copy, args := #[d, s], argTypes := #[44, 44] }) (X p g dLen dCap cap v : Nat) (l : List UInt8) (hp : p + 4 ≤ l.length) (hd4 : 4 ≤ dLen)
    (hB : Box w X (BC l)) (hS : ∃ B, OwnB w B (.slice (some ⟨g, 0, none⟩) 4 cap) (B32 v))
    (hd : a.eval d = .slice (some ⟨X, p, none⟩) dLen dCap) (hs : a.eval s = .slice (some ⟨g, 0, none⟩) 4 cap)
    (h : ∀ w', w.grownBy w' (some X) → Box w' X (BC (l.take p ++ (B32 v ++ l.drop (p + 4)))) → K (a.put o.dst (goInt 4)) w') :
    if Region.wanted o (yielded ops a.tmps) = true then Oper.wp Try.prog o a w K Q else E := by
  have hw : Region.wanted o (yielded ops a.tmps) = true := by simp [Region.wanted, hgd]
  rw [if_pos hw]
  have hl4 : (BC (B32 v)).length = 4 := rfl
  have hb : ∀ j, j < 4 → ∃ x, (BC l)[p + j]? = some x := fun j hj => ⟨_, List.getElem?_eq_getElem (by simp [BC, Lib.byteCells]; omega)⟩
  have hrun := run_copy_cells (P := Try.prog) w 44 44 o.type 5 X p dLen dCap ⟨g, 0, none⟩ 4 cap (BC (B32 v)) Try.underlying44 info5s (by rw [hl4]; exact (Nat.min_eq_left hd4).symm)
    (fun j u hj => by obtain ⟨B, hS⟩ := hS; exact World.ownsRow.cells hS (g := g) rfl j _ hj)
    (fun j hj => by obtain ⟨x, hx⟩ := hb j (by omega); rw [(hB.2 (p + j) x hx).1]; rfl)
    (fun j hj => by obtain ⟨x, hx⟩ := hb j (by omega); exact (hB.2 (p + j) x hx).2) (fun u hu => by simp [BC, Lib.byteCells] at hu; obtain ⟨c, _, rfl⟩ := hu; rfl)
  rw [hl4] at hrun
  unfold Oper.wp
  simp [execOp, ho, resolve, invoke, builtin, hd, hs, hrun, Result.andThen]
  exact h _ (grown_put4 w X p v) (Box.put4 hB p v hp)

set_option maxHeartbeats 1000000 in
set_option maxRecDepth 100000 in
theorem put32 (X n cap p v : Nat) (l : List UInt8) (w : World) (hB : Box w X (BC l)) (hn : l.length = n) (hc : n ≤ cap) (hn1 : n ≤ 1048576) (hp : p + 4 ≤ n) (hv : v < M32) :
    Calls Try.prog 76 #[.slice (some ⟨X, 0, none⟩) n cap, .int .i64 p, .int .u32 v] w fun e w' => (∃ r, e = .returned r) ∧ w.grownBy w' (some X) ∧ Box w' X (BC (l.take p ++ (B32 v ++ l.drop (p + 4)))) := by
  have d1 : ¬ (p : Int) < 0 := by omega
  have d2 : IntKind.i64.wrap ((n : Int) - 4) = (n : Int) - 4 := IntWalk.i64_in _ (by omega)
  have d3 : ¬ (n : Int) - 4 < (p : Int) := by omega
  have HL := Lib.hid (fun w => lay32 w.heap.size (.slice none 0 0) [] v w (by unfold M32 at hv; omega) (OwnB.nil_ _ _) (by simp) (Nat.le_refl _))
  go_enter Try.func76, Try.ntmps76
  go_wp2_with (go_at_call 48; refine (size32 w).mono ?_; rintro e w' ⟨rfl, rfl⟩)
  have c1 : ¬ cap = p := by omega
  have c2 : (p : Int) ≤ (n : Int) := by omega
  have c3 : (p : Int) ≤ (cap : Int) := by omega
  have c4 : (0 : Int) ≤ (p : Int) := by omega
  have c5 : ¬ (cap : Int) = (p : Int) := by omega
  clear d2 d1 d3
  go_region_law (first
    | (go_simp; go_at_call 54; refine (HL.out _).mono ?_; rintro e_ w2 ⟨⟨v2, rfl, hO2⟩, hb2⟩; obtain ⟨g2, cap2, rfl, _⟩ := conv_own hO2 4 rfl (by decide))
    | (refine copy4 (.tmp 18) (.tmp 20) rfl rfl X p _ (n - p) (cap - p) _ v l (by omega) (by omega) (by first | exact hB.up hb2 | exact hB.drew.up hb2) ⟨_, hO2⟩ rfl rfl ?_; intro w3 hg3 hB3; have hg4 : w.grownBy w3 (some X) := grown_trans (by first | exact grown_up hb2 | exact grown_up ((up_dr (Below.refl _ _)).on hb2)) hg3))
  go_wp2
  go_end0
  exact ⟨⟨_, rfl⟩, hg4, hB3⟩
theorem conv_row {xs : List UInt8} {g n cap : Nat} {W : World} (hn : xs.length = n) (h : Box W g (BC xs)) :
    (convert 44 9 (.slice (some ⟨g, 0, none⟩) n cap)).run Try.prog W = .ok (.string (tx xs)) W := by
  subst hn
  exact run_convert_bytes_back (P := Try.prog) W 44 9 5 ⟨g, 0, none⟩ cap xs Try.underlying44 Try.underlying5 Try.underlying9
    (fun j hj => by
      rw [show (⟨g, 0, none⟩ : Addr).add j = ⟨g, j, none⟩ by unfold Addr.add; split <;> simp_all]
      exact h.at j (by simp [BC, Lib.byteCells, hj]))
set_option maxHeartbeats 1000000 in
set_option maxRecDepth 100000 in
theorem add32 (X n cap p by_ : Nat) (l : List UInt8) (w : World) (hB : Box w X (BC l)) (hn : l.length = n) (hc : n ≤ cap) (hn1 : n ≤ 1048576) (hp : p + 4 ≤ n) (hv : by_ < M32) :
    Calls Try.prog 49 #[.slice (some ⟨X, 0, none⟩) n cap, .int .i64 p, .int .u32 by_] w fun e w' => (∃ r, e = .returned r) ∧ w.grownBy w' (some X) ∧ Box w' X (BC (addAt l p by_)) := by
  have q := conv_row (cap := cap) hn hB
  have HA := Lib.hid (at32 (tx l) p w (by rw [tx_size]; omega) (by rw [tx_size]; omega))
  rw [L_tx] at HA
  obtain ⟨z, hz⟩ := Int.eq_ofNat_of_zero_le (qd_bd l p).1
  have hzb := (qd_bd l p).2
  rw [hz] at HA hzb
  have q2 : IntKind.u32.wrap ((z : Int) + (by_ : Int)) = ((addM z by_ : Nat) : Int) := by rw [IntKind.wrap_u32]; unfold addM M32; omega
  have HP := Lib.hid (put32 X n cap p (addM z by_) l w hB hn hc hn1 hp (addM_lt _ _))
  have hE : addAt l p by_ = l.take p ++ (B32 (addM z by_) ++ l.drop (p + 4)) := by unfold addAt; rw [hz]; rfl
  rw [← hE] at HP
  clear hE
  generalize addM z by_ = y at q2 HP
  go_enter Try.func49, Try.ntmps49
  go_wp2_with fail
  refine HA.out.mono ?_
  rintro e_ w2 ⟨rfl, rfl⟩
  go_wp2_with fail
  refine HP.out.mono ?_
  rintro e_ w2 ⟨⟨r, rfl⟩, hg, hB2⟩
  go_wp2
  go_end0
  exact ⟨⟨_, rfl⟩, hg, hB2⟩
end Go.Proofs.Ytafckmbgefbonaa.op

namespace Go.Proofs.Ytafckmbgefbonaa.op
open Go.RowKit Go.Shelf Go.Lib Go.Proofs.Ytafckmbgefbonaa.sm Go.Proofs.Ytafckmbgefbonaa.nb Go.Proofs.Ytafckmbgefbonaa.om
set_option linter.unusedVariables false

abbrev PV (k z p : Nat) (S : ByteArray) : Value := .agg #[.int .u8 k, .int .i64 z, .int .i64 p, .string S]
theorem Box.e4 {W : World} {b : Nat} {x0 x1 x2 x3 : Value} (h : Box W b [x0, x1, x2, x3]) : W.cell? ⟨b, 0, none⟩ = some x0 ∧ W.cell? ⟨b, 1, none⟩ = some x1 ∧ W.cell? ⟨b, 2, none⟩ = some x2 ∧ W.cell? ⟨b, 3, none⟩ = some x3 :=
  ⟨h.at 0 rfl, h.at 1 rfl, h.at 2 rfl, h.at 3 rfl⟩
theorem Box.f4 {W : World} {b : Nat} {x0 x1 x2 x3 : Value} (h : Box W b [x0, x1, x2, x3]) : W.frozen? ⟨b, 0, none⟩ = false ∧ W.frozen? ⟨b, 1, none⟩ = false ∧ W.frozen? ⟨b, 2, none⟩ = false ∧ W.frozen? ⟨b, 3, none⟩ = false :=
  ⟨h.fr 0 rfl, h.fr 1 rfl, h.fr 2 rfl, h.fr 3 rfl⟩
theorem put4s {W : World} {b : Nat} {x0 x1 x2 x3 : Value} (hB : Box W b [x0, x1, x2, x3]) (y0 y1 y2 y3 : Value) : Box ((((W.setCell ⟨b, 0, none⟩ y0).setCell ⟨b, 1, none⟩ y1).setCell ⟨b, 2, none⟩ y2).setCell ⟨b, 3, none⟩ y3) b [y0, y1, y2, y3] :=
  (((hB.set 0 y0).set 1 y1).set 2 y2).set 3 y3
theorem ups4 {w W : World} {b : Nat} (hu : Up w W) (hb : w.heap.size ≤ b) (y0 y1 y2 y3 : Value) : Up w ((((W.setCell ⟨b, 0, none⟩ y0).setCell ⟨b, 1, none⟩ y1).setCell ⟨b, 2, none⟩ y2).setCell ⟨b, 3, none⟩ y3) :=
  up_set (up_set (up_set (up_set hu hb) hb) hb) hb
set_option maxHeartbeats 4000000 in
set_option maxRecDepth 100000 in
theorem optionAtC (s : ByteArray) (p : Nat) (w : World) (hp : p < s.size) (hs : s.size ≤ 1048576) :
    Calls Try.prog 73 #[.string s, .int .i64 p] w fun e w' => e = .returned (PV (nb (L s) p) (osz (L s) p) (p + 2) (tx (osay (L s) p))) ∧ Up w w' := by
  have e0 := bt_at s p hp
  have b0 := bt_bd (L s) p
  rw [nb_bt] at e0 b0
  obtain ⟨K, hK⟩ : ∃ K, nb (L s) p = K := ⟨_, rfl⟩
  rw [hK] at e0 b0 ⊢
  obtain ⟨Z, hZ⟩ : ∃ Z, osz (L s) p = Z := ⟨_, rfl⟩
  obtain ⟨Y, hY⟩ : ∃ Y, tx (osay (L s) p) = Y := ⟨_, rfl⟩
  rw [hZ, hY]
  have HZ := Lib.hid hZ
  have HY := Lib.hid hY
  clear hZ hY hK
  have q1 : IntKind.i64.wrap ((p : Int) + 2) = ((p + 2 : Nat) : Int) := by rw [IntWalk.i64_in _ (by omega)]; omega
  go_enter Try.func73, Try.ntmps73
  go_upto_region 1 with fail
  have hA := Box.new w #[.int .u8 0, .int .i64 0, .int .i64 0, .string { data := #[] }] 95
  have hu : Up w (w.alloc (.cells #[.int .u8 0, .int .i64 0, .int .i64 0, .string { data := #[] }] 95)) := up_al _ (Below.refl _ _)
  generalize (w.alloc (.cells #[.int .u8 0, .int .i64 0, .int .i64 0, .string { data := #[] }] 95)) = w0 at hA hu ⊢
  obtain ⟨n0, hn0⟩ : ∃ n0, n0 = w.heap.size := ⟨_, rfl⟩
  have hle0 : w.heap.size ≤ n0 := by omega
  rw [← hn0] at hA ⊢
  clear hn0
  have i0 : (p : Int) < (s.size : Int) := by omega
  have hlt0 := hA.1
  have hne : n0 ≠ w0.heap.size := by omega
  go_upto_region 2 with fail
  have hX := Box.new w0 #[.int .u8 K, .int .i64 0, .int .i64 ((p : Int) + 2), .string { data := #[] }] 95
  have hu1 : Up w (w0.alloc (.cells #[.int .u8 K, .int .i64 0, .int .i64 ((p : Int) + 2), .string { data := #[] }] 95)) := up_al _ hu
  have hA1 := hA.alloc (.cells #[.int .u8 K, .int .i64 0, .int .i64 ((p : Int) + 2), .string { data := #[] }] 95)
  generalize (w0.alloc (.cells #[.int .u8 K, .int .i64 0, .int .i64 ((p : Int) + 2), .string { data := #[] }] 95)) = w1 at hX hu1 hA1 ⊢
  have hle2 : w.heap.size ≤ w0.heap.size := hu.size
  generalize w0.heap.size = n1 at hX hne hle2 ⊢
  clear hA hu hlt0
  have hA := hA1
  have hu := hu1
  clear hA1 hu1
  have hle1 : p ≤ 1048576 := by omega
  by_cases h1 : p + 2 ≤ s.size
  case neg =>
    have i1 : (s.size : Int) < (p : Int) + 2 := by omega
    have EZ := Lib.hid (show Z = 0 by rw [← HZ.out]; unfold osz; rw [if_neg (by rw [L_len]; omega)])
    have EY := Lib.hid (show Y = { data := #[] } by rw [← HY.out]; unfold osay; rw [HZ.out, EZ.out]; rfl)
    obtain ⟨k0, k1, k2, k3⟩ := Box.e4 hX
    obtain ⟨m0, m1, m2, m3⟩ := Box.e4 hA
    obtain ⟨f0, f1, f2, f3⟩ := Box.f4 hA
    go_wp2
    have hAA := put4s hA (.int .u8 K) (.int .i64 0) (.int .i64 ((p : Int) + 2)) (.string { data := #[] })
    have huu := ups4 hu hle0 (.int .u8 K) (.int .i64 0) (.int .i64 ((p : Int) + 2)) (.string { data := #[] })
    generalize World.setCell _ ⟨n0, 3, none⟩ _ = W3 at hAA huu ⊢
    clear k0 k1 k2 k3 m0 m1 m2 m3 f0 f1 f2 f3 hA hu
    obtain ⟨k0, k1, k2, k3⟩ := Box.e4 hAA
    (try simp only [Exit.inBlock, Exit.then])
    refine bodyPost_ret (v := PV K 0 (p + 2) { data := #[] }) ?_ rfl ⟨by rw [EZ.out, EY.out], huu⟩
    rw [results_cell1 rfl]; go_simp
  case pos =>
    have e1 := bt_at s (p + 1) (by omega)
    have b1 := bt_bd (L s) (p + 1)
    rw [nb_bt] at e1 b1
    obtain ⟨z, hz⟩ : ∃ z, nb (L s) (p + 1) = z := ⟨_, rfl⟩
    rw [hz] at e1 b1
    have HN := Lib.hid hz
    clear hz
    have i1 : ¬ (s.size : Int) < (p : Int) + 2 := by omega
    have i2 : (p : Int) + 1 < (s.size : Int) := by omega
    have q3 : IntKind.i64.wrap ((p : Int) + 1) = (p : Int) + 1 := IntWalk.i64_in _ (by omega)
    have q4 : IntKind.i64.wrap ((s.size : Int) - (p : Int)) = (s.size : Int) - (p : Int) := IntWalk.i64_in _ (by omega)
    by_cases h2 : z + p ≤ s.size
    case neg =>
      have i3 : (s.size : Int) - (p : Int) < (z : Int) := by omega
      have EZ := Lib.hid (show Z = 0 by rw [← HZ.out]; unfold osz; rw [HN.out, if_neg (by rw [L_len]; omega)])
      have EY := Lib.hid (show Y = { data := #[] } by rw [← HY.out]; unfold osay; rw [HZ.out, EZ.out]; rfl)
      obtain ⟨k0, k1, k2, k3⟩ := Box.e4 hX
      obtain ⟨m0, m1, m2, m3⟩ := Box.e4 hA
      obtain ⟨f0, f1, f2, f3⟩ := Box.f4 hA
      go_wp2
      have hAA := put4s hA (.int .u8 K) (.int .i64 0) (.int .i64 ((p : Int) + 2)) (.string { data := #[] })
      have huu := ups4 hu hle0 (.int .u8 K) (.int .i64 0) (.int .i64 ((p : Int) + 2)) (.string { data := #[] })
      generalize World.setCell _ ⟨n0, 3, none⟩ _ = W3 at hAA huu ⊢
      clear k0 k1 k2 k3 m0 m1 m2 m3 f0 f1 f2 f3 hA hu
      obtain ⟨k0, k1, k2, k3⟩ := Box.e4 hAA
      (try simp only [Exit.inBlock, Exit.then])
      refine bodyPost_ret (v := PV K 0 (p + 2) { data := #[] }) ?_ rfl ⟨by rw [EZ.out, EY.out], huu⟩
      rw [results_cell1 rfl]; go_simp
    case pos =>
      have i3 : ¬ (s.size : Int) - (p : Int) < (z : Int) := by omega
      have EZ := Lib.hid (show Z = z by rw [← HZ.out]; unfold osz; rw [HN.out, if_pos (by rw [L_len]; omega)])
      obtain ⟨c0, c1, c2, c3⟩ := Box.e4 hX
      obtain ⟨d0, d1, d2, d3⟩ := Box.f4 hX
      go_upto_region 8 with fail
      have hX1 : Box (w1.setCell ⟨n1, 1, none⟩ (.int .i64 z)) n1 [.int .u8 K, .int .i64 z, .int .i64 ((p : Int) + 2), .string { data := #[] }] := hX.set 1 (.int .i64 z)
      have hA1 := hA.far (Ne.symm hne) (o := 1) (.int .i64 z)
      have hu1 : Up w (w1.setCell ⟨n1, 1, none⟩ (.int .i64 z)) := up_set hu hle2
      generalize (w1.setCell ⟨n1, 1, none⟩ (.int .i64 z)) = w2 at hX1 hA1 hu1 ⊢
      clear c0 c1 c2 c3 d0 d1 d2 d3 hX hA hu
      have hA := hA1
      have hu := hu1
      clear hA1 hu1
      by_cases h3 : 2 ≤ z
      case neg =>
        have i4 : ¬ (2 : Int) ≤ (z : Int) := by omega
        have i5 : (z : Int) < 2 := by omega
        have EY := Lib.hid (show Y = { data := #[] } by rw [← HY.out]; unfold osay; rw [HZ.out, EZ.out, show z - 2 = 0 by omega]; rfl)
        obtain ⟨k0, k1, k2, k3⟩ := Box.e4 hX1
        obtain ⟨m0, m1, m2, m3⟩ := Box.e4 hA
        obtain ⟨f0, f1, f2, f3⟩ := Box.f4 hA
        go_wp2
        have hAA := put4s hA (.int .u8 K) (.int .i64 z) (.int .i64 ((p : Int) + 2)) (.string { data := #[] })
        have huu := ups4 hu hle0 (.int .u8 K) (.int .i64 z) (.int .i64 ((p : Int) + 2)) (.string { data := #[] })
        generalize World.setCell _ ⟨n0, 3, none⟩ _ = W3 at hAA huu ⊢
        clear k0 k1 k2 k3 m0 m1 m2 m3 f0 f1 f2 f3 hA hu
        obtain ⟨k0, k1, k2, k3⟩ := Box.e4 hAA
        (try simp only [Exit.inBlock, Exit.then])
        refine bodyPost_ret (v := PV K z (p + 2) { data := #[] }) ?_ rfl ⟨by rw [EZ.out, EY.out], huu⟩
        rw [results_cell1 rfl]; go_simp
      case pos =>
        have i4 : (2 : Int) ≤ (z : Int) := by omega
        have i6 : (p : Int) + 2 ≤ (p : Int) + (z : Int) := by omega
        have i7 : (p : Int) + (z : Int) ≤ (s.size : Int) := by omega
        have i8 : (0 : Int) ≤ (p : Int) + 2 := by omega
        have q5 : IntKind.i64.wrap ((p : Int) + (z : Int)) = (p : Int) + (z : Int) := IntWalk.i64_in _ (by omega)
        have j1 : ((p : Int) + 2).toNat = p + 2 := by omega
        have j2 : ((p : Int) + (z : Int)).toNat = p + z := by omega
        obtain ⟨T, hT⟩ : ∃ T, s.extract (p + 2) (p + z) = T := ⟨_, rfl⟩
        have EY := Lib.hid (show Y = T by
          rw [← HY.out, ← hT]; unfold osay; rw [HZ.out, EZ.out, tx_extract, show p + z - (p + 2) = z - 2 by omega])
        obtain ⟨c0, c1, c2, c3⟩ := Box.e4 hX1
        obtain ⟨d0, d1, d2, d3⟩ := Box.f4 hX1
        go_upto_region 10 with fail
        have hX2 : Box (w2.setCell ⟨n1, 3, none⟩ (.string T)) n1 [.int .u8 K, .int .i64 z, .int .i64 ((p : Int) + 2), .string T] := hX1.set 3 (.string T)
        have hA1 := hA.far (Ne.symm hne) (o := 3) (.string T)
        have hu1 : Up w (w2.setCell ⟨n1, 3, none⟩ (.string T)) := up_set hu hle2
        generalize (w2.setCell ⟨n1, 3, none⟩ (.string T)) = w3 at hX2 hA1 hu1 ⊢
        clear c0 c1 c2 c3 d0 d1 d2 d3 hX1 hA hu hT
        have hA := hA1
        have hu := hu1
        clear hA1 hu1
        obtain ⟨k0, k1, k2, k3⟩ := Box.e4 hX2
        obtain ⟨m0, m1, m2, m3⟩ := Box.e4 hA
        obtain ⟨f0, f1, f2, f3⟩ := Box.f4 hA
        go_wp2
        have hAA := put4s hA (.int .u8 K) (.int .i64 z) (.int .i64 ((p : Int) + 2)) (.string T)
        have huu := ups4 hu hle0 (.int .u8 K) (.int .i64 z) (.int .i64 ((p : Int) + 2)) (.string T)
        generalize World.setCell _ ⟨n0, 3, none⟩ _ = W3 at hAA huu ⊢
        clear k0 k1 k2 k3 m0 m1 m2 m3 f0 f1 f2 f3 hA hu
        obtain ⟨k0, k1, k2, k3⟩ := Box.e4 hAA
        (try simp only [Exit.inBlock, Exit.then])
        refine bodyPost_ret (v := PV K z (p + 2) T) ?_ rfl ⟨by rw [EZ.out, EY.out], huu⟩
        rw [results_cell1 rfl]; go_simp
end Go.Proofs.Ytafckmbgefbonaa.op
