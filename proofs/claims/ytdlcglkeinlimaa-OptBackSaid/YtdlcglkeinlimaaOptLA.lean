/- Numbers laid where they stand: package wire's Put, package opt's add; a number of one byte. Condition: the place lies within. -/
import Derived.Test.YtdlcglkeinlimaaOptLM
import Derived.Test.YtdlcglkeinlimaaOptG
import Derived.Test.YtdlcglkeinlimaaNetWire
import Derived.Laws.IdiomCopy
import Derived.Deep.RegionLaw
import Derived.RangeFuncNested
import Derived.RangeFuncBound
import Derived.RangeFuncCalls
import Derived.RangeFuncLeaves
import Derived.RangeFuncBox
import Derived.Shelf.RegionOpen
import Derived.OwnWalkIn
import Derived.TacticsInMore
import Derived.LoopNIn
import Derived.LoopIn
namespace Go.Proofs.Ytdlcglkeinlimaa.op
open Go.RowKit Go.Shelf Go.Lib Go.Proofs.Ytdlcglkeinlimaa.sm Go.Proofs.Ytdlcglkeinlimaa.nb Go.Proofs.Ytdlcglkeinlimaa.om
set_option linter.unusedVariables false

theorem or8 (x : Nat) (hx : x < 256) : bits .or .u8 0 (x : Int) = (x : Int) := by
  have h1 : (BitVec.ofInt 8 (x : Int)).toNat = x := by rw [BitVec.ofInt_natCast, BitVec.toNat_ofNat]; exact Nat.mod_eq_of_lt (by omega)
  show IntKind.u8.wrap ((BitVec.ofInt 8 0 ||| BitVec.ofInt 8 (x : Int)).toNat : Int) = _
  rw [BitVec.toNat_or, h1, show (BitVec.ofInt 8 0).toNat = 0 by decide, Nat.zero_or, IntKind.wrap_u8]
  omega
set_option maxHeartbeats 1000000 in
set_option maxRecDepth 100000 in
theorem at8 (s : ByteArray) (p : Nat) (w : World) (hs : s.size ≤ 1099511627776) (hp : p + 1 ≤ s.size) :
    Calls Try.prog 42 #[.string s, .int .i64 p] w fun e w' => e = .returned (.int .u8 (bt (L s) p)) ∧ w = w' := by
  have b0 := bt_bd (L s) p
  have e0 := bt_at s p (by omega)
  rw [← e0] at b0
  have o0 := or8 (s[p].toNat) (by omega)
  have E0 := Lib.hid e0
  clear e0
  go_enter Try.func42, Try.ntmps42
  go_wp2_with (go_at_call 50; refine (size8 w).mono ?_; rintro e w' ⟨rfl, rfl⟩)
  go_loop [6, 20] (fun n i => ∃ (k : Nat), k ≤ 1 ∧ i = .int .i64 (k : Nat) ∧ Hid (n = .int .u8 (if k = 0 then 0 else (s[p].toNat : Int)))) (fun _ i => 1 - (RowKit.intOf i).toNat)
  case atStart => exact ⟨0, by omega, rfl, rfl⟩
  case round =>
    obtain ⟨k, hk, rfl, hn⟩ := hrel
    rcases (by omega : k = 0 ∨ k = 1) with rfl | rfl
    · obtain rfl := hn.out
      go_wp2
      go_round
      case rel => exact ⟨1, by omega, by go_num, by unfold Hid; simp [o0]⟩
      case measure => simp [RowKit.intOf]
    · obtain rfl := hn.out
      go_wp2
      go_ret
      exact ⟨ret_int E0.out, rfl⟩
theorem at8i (s : ByteArray) (p : Int) (w : World) (hs : s.size ≤ 1099511627776) (hp : 0 ≤ p ∧ p + 1 ≤ (s.size : Int)) :
    Calls Try.prog 42 #[.string s, .int .i64 p] w fun e w' => e = .returned (.int .u8 (bt (L s) p.toNat)) ∧ w = w' := by
  obtain ⟨n, rfl⟩ := Int.eq_ofNat_of_zero_le hp.1
  exact at8 s n w hs (by omega)

/-! ### worlds in which one block alone has turned -/
theorem grown_trans {A B C : World} {X : Nat} (h : A.grownBy B (some X)) (k : B.grownBy C (some X)) : A.grownBy C (some X) :=
  ⟨k.os.trans h.os, k.tape.trans h.tape, k.output.trans h.output, Nat.le_trans h.size k.size, fun i hi hne => (k.block i (Nat.lt_of_lt_of_le hi h.size) hne).trans (h.block i hi hne)⟩
theorem grown_up {A B : World} {X : Nat} (h : Up A B) : A.grownBy B (some X) := ⟨h.os, h.tape, h.output, h.size, fun i hi _ => h.block i hi⟩
theorem grown_set (W : World) (X o : Nat) (v : Value) : W.grownBy (W.setCell ⟨X, o, none⟩ v) (some X) :=
  ⟨rfl, rfl, rfl, (KeepsWalks.setCell W _ v).size, fun k _ hk => Below.heap_setCell _ _ _ k (fun e => hk (by rw [e]))⟩
theorem up_grown {w A B : World} {X : Nat} (h : Up w A) (k : A.grownBy B (some X)) (hX : w.heap.size ≤ X) : Up w B := h.grown k h.size (fun j e => by cases e; exact hX)
theorem Box.grown {A B : World} {X b : Nat} {vs : List Value} (h : Box A b vs) (k : A.grownBy B (some X)) (hne : b ≠ X) : Box B b vs :=
  ⟨Nat.lt_of_lt_of_le h.1 k.size, fun j v hv => by
    have e := k.block b h.1 (by intro e; cases e; exact hne rfl)
    exact ⟨(World.cell?_of_block (a := ⟨b, j, none⟩) e).trans (h.2 j v hv).1, (World.frozen?_of_block (a := ⟨b, j, none⟩) e).trans (h.2 j v hv).2⟩⟩

/-! ### bytes laid over bytes -/
theorem BC_set (l : List UInt8) (k : Nat) (c : UInt8) : BC (l.set k c) = (BC l).set k (.int .u8 (c.toNat : Int)) := by
  simp [BC, Lib.byteCells, List.map_set]
theorem set4 (l : List UInt8) (p : Nat) (a b c d : UInt8) (h : p + 4 ≤ l.length) : (((l.set p a).set (p + 1) b).set (p + 2) c).set (p + 3) d = l.take p ++ ([a, b, c, d] ++ l.drop (p + 4)) := by
  apply List.ext_getElem
  · simp; omega
  · intro i h1 h2
    simp only [List.getElem_set, List.getElem_append, List.length_take, List.getElem_take, List.getElem_drop]
    have hmin : min p l.length = p := by omega
    simp only [hmin]
    by_cases i0 : i < p
    · simp [i0, show ¬ (p + 3 = i) by omega, show ¬ (p + 2 = i) by omega, show ¬ (p + 1 = i) by omega, show ¬ (p = i) by omega]
    · rcases (by omega : i = p ∨ i = p + 1 ∨ i = p + 2 ∨ i = p + 3 ∨ p + 4 ≤ i) with rfl | rfl | rfl | rfl | h5
      · simp
      · simp; intro h; omega
      · simp; intro h; omega
      · simp; intro h; omega
      · simp [i0, show ¬ (p + 3 = i) by omega, show ¬ (p + 2 = i) by omega, show ¬ (p + 1 = i) by omega, show ¬ (p = i) by omega, show ¬ (i - p < 4) by omega]
        congr 1; omega
theorem Box.put4 {W : World} {X : Nat} {l : List UInt8} (h : Box W X (BC l)) (p : Nat) (v : Nat) (hp : p + 4 ≤ l.length) :
    Box (W.setCells X p (BC (B32 v))) X (BC (l.take p ++ (B32 v ++ l.drop (p + 4)))) := by
  have h1 := (((h.set p (.int .u8 ((oct (q3 v)).toNat : Int))).set (p + 1) (.int .u8 ((oct (q2 v)).toNat : Int))).set (p + 2) (.int .u8 ((oct (q1 v)).toNat : Int))).set (p + 3) (.int .u8 ((oct (q0 v)).toNat : Int))
  rw [← BC_set, ← BC_set, ← BC_set, ← BC_set, set4 _ _ _ _ _ _ hp] at h1
  exact h1
theorem grown_put4 (W : World) (X p v : Nat) : W.grownBy (W.setCells X p (BC (B32 v))) (some X) :=
  grown_trans (grown_trans (grown_trans (grown_set W X p _) (grown_set _ X (p + 1) _)) (grown_set _ X (p + 2) _)) (grown_set _ X (p + 3) _)
theorem info5s : (Try.prog.info? 5).map (·.size) = some 1 := by kernel_rfl
/-- 'copy' of a number's bytes onto bytes -/
theorem copy4 {ops : Array Oper} {o : Oper} {a : Act} {w : World} {K : Act → World → Prop} {Q : Exit → Act → World → Prop} {E : Prop} (d s : Operand) (hgd : o.guard = none)
    (ho : o.op = .call { callee := .builtin .copy, args := #[d, s], argTypes := #[46, 46] }) (X p g dLen dCap cap v : Nat) (l : List UInt8) (hp : p + 4 ≤ l.length) (hd4 : 4 ≤ dLen)
    (hB : Box w X (BC l)) (hS : ∃ B, OwnB w B (.slice (some ⟨g, 0, none⟩) 4 cap) (B32 v))
    (hd : a.eval d = .slice (some ⟨X, p, none⟩) dLen dCap) (hs : a.eval s = .slice (some ⟨g, 0, none⟩) 4 cap)
    (h : ∀ w', w.grownBy w' (some X) → Box w' X (BC (l.take p ++ (B32 v ++ l.drop (p + 4)))) → K (a.put o.dst (goInt 4)) w') :
    if Region.wanted o (yielded ops a.tmps) = true then Oper.wp Try.prog o a w K Q else E := by
  have hw : Region.wanted o (yielded ops a.tmps) = true := by simp [Region.wanted, hgd]
  rw [if_pos hw]
  have hl4 : (BC (B32 v)).length = 4 := rfl
  have hb : ∀ j, j < 4 → ∃ x, (BC l)[p + j]? = some x := fun j hj => ⟨_, List.getElem?_eq_getElem (by simp [BC, Lib.byteCells]; omega)⟩
  have hrun := run_copy_cells (P := Try.prog) w 46 46 o.type 5 X p dLen dCap ⟨g, 0, none⟩ 4 cap (BC (B32 v)) Try.underlying46 info5s (by rw [hl4]; exact (Nat.min_eq_left hd4).symm)
    (fun j u hj => by obtain ⟨B, hS⟩ := hS; exact World.ownsRow.cells hS (g := g) rfl j _ hj)
    (fun j hj => by obtain ⟨x, hx⟩ := hb j (by omega); rw [(hB.2 (p + j) x hx).1]; rfl)
    (fun j hj => by obtain ⟨x, hx⟩ := hb j (by omega); exact (hB.2 (p + j) x hx).2) (fun u hu => by simp [BC, Lib.byteCells] at hu; obtain ⟨c, _, rfl⟩ := hu; rfl)
  rw [hl4] at hrun
  unfold Oper.wp
  simp [execOp, ho, resolve, invoke, builtin, hd, hs, hrun, Result.andThen]
  exact h _ (grown_put4 w X p v) (Box.put4 hB p v hp)

set_option maxHeartbeats 1000000 in
set_option maxRecDepth 100000 in
theorem put32 (X n cap p v : Nat) (l : List UInt8) (w : World) (hB : Box w X (BC l)) (hn : l.length = n) (hc : n ≤ cap) (hn1 : n ≤ 1048576) (hp : p + 4 ≤ n) (hv : v < M32) :
    Calls Try.prog 48 #[.slice (some ⟨X, 0, none⟩) n cap, .int .i64 (p : Nat), .int .u32 (v : Nat)] w fun e w' => (∃ r, e = .returned r) ∧ w.grownBy w' (some X) ∧ Box w' X (BC (l.take p ++ (B32 v ++ l.drop (p + 4)))) := by
  have d1 : ¬ (p : Int) < 0 := by omega
  have d2 : IntKind.i64.wrap ((n : Int) - 4) = (n : Int) - 4 := IntWalk.i64_in _ (by omega)
  have d3 : ¬ (n : Int) - 4 < (p : Int) := by omega
  have HL := Lib.hid (fun w => lay32 w.heap.size (.slice none 0 0) [] v w (by unfold M32 at hv; omega) (OwnB.nil_ _ _) (by simp) (Nat.le_refl _))
  go_enter Try.func48, Try.ntmps48
  go_wp2_with (go_at_call 31; refine (size32 w).mono ?_; rintro e w' ⟨rfl, rfl⟩)
  have c1 : ¬ cap = p := by omega
  have c2 : (p : Int) ≤ (n : Int) := by omega
  have c3 : (p : Int) ≤ (cap : Int) := by omega
  have c4 : (0 : Int) ≤ (p : Int) := by omega
  have c5 : ¬ (cap : Int) = (p : Int) := by omega
  clear d2 d1 d3
  go_region_law (first
    | (go_simp; go_at_call 36; refine (HL.out _).mono ?_; rintro e_ w2 ⟨⟨v2, rfl, hO2⟩, hb2⟩; obtain ⟨g2, cap2, rfl, _⟩ := conv_own hO2 4 rfl (by decide))
    | (refine copy4 (.tmp 18) (.tmp 20) rfl rfl X p _ (n - p) (cap - p) _ v l (by omega) (by omega) (by first | exact hB.up hb2 | exact hB.drew.up hb2) ⟨_, hO2⟩ rfl rfl ?_; intro w3 hg3 hB3; have hg4 : w.grownBy w3 (some X) := grown_trans (by first | exact grown_up hb2 | exact grown_up ((up_dr (Below.refl _ _)).on hb2)) hg3))
  go_wp2
  go_end0
  exact ⟨⟨_, rfl⟩, hg4, hB3⟩
theorem conv_row {xs : List UInt8} {g n cap : Nat} {W : World} (hn : xs.length = n) (h : Box W g (BC xs)) :
    (convert 46 9 (.slice (some ⟨g, 0, none⟩) n cap)).run Try.prog W = .ok (.string (tx xs)) W := by
  subst hn
  exact run_convert_bytes_back (P := Try.prog) W 46 9 5 ⟨g, 0, none⟩ cap xs Try.underlying46 Try.underlying5 Try.underlying9
    (fun j hj => by
      rw [show (⟨g, 0, none⟩ : Addr).add j = ⟨g, j, none⟩ by unfold Addr.add; split <;> simp_all]
      exact h.at j (by simp [BC, Lib.byteCells, hj]))
set_option maxHeartbeats 1000000 in
set_option maxRecDepth 100000 in
theorem add32 (X n cap p by_ : Nat) (l : List UInt8) (w : World) (hB : Box w X (BC l)) (hn : l.length = n) (hc : n ≤ cap) (hn1 : n ≤ 1048576) (hp : p + 4 ≤ n) (hv : by_ < M32) :
    Calls Try.prog 32 #[.slice (some ⟨X, 0, none⟩) n cap, .int .i64 (p : Nat), .int .u32 (by_ : Nat)] w fun e w' => (∃ r, e = .returned r) ∧ w.grownBy w' (some X) ∧ Box w' X (BC (addAt l p by_)) := by
  have q := conv_row (cap := cap) hn hB
  have HA := Lib.hid (at32 (tx l) p w (by rw [tx_size]; omega) (by rw [tx_size]; omega))
  rw [L_tx] at HA
  obtain ⟨z, hz⟩ := Int.eq_ofNat_of_zero_le (qd_bd l p).1
  have hzb := (qd_bd l p).2
  rw [hz] at HA hzb
  have q2 : IntKind.u32.wrap ((z : Int) + (by_ : Int)) = ((addM z by_ : Nat) : Int) := by rw [IntKind.wrap_u32]; unfold addM M32; omega
  have HP := Lib.hid (put32 X n cap p (addM z by_) l w hB hn hc hn1 hp (addM_lt _ _))
  have hE : addAt l p by_ = l.take p ++ (B32 (addM z by_) ++ l.drop (p + 4)) := by unfold addAt; rw [hz]; rfl
  rw [← hE] at HP
  clear hE
  generalize addM z by_ = y at q2 HP
  go_enter Try.func32, Try.ntmps32
  go_wp2_with fail
  refine HA.out.mono ?_
  rintro e_ w2 ⟨rfl, rfl⟩
  go_wp2_with fail
  refine HP.out.mono ?_
  rintro e_ w2 ⟨⟨r, rfl⟩, hg, hB2⟩
  go_wp2
  go_end0
  exact ⟨⟨_, rfl⟩, hg, hB2⟩
end Go.Proofs.Ytdlcglkeinlimaa.op
