/- Package sum: the words of texts' parts, told by an iterator; Of, Right. Condition: the parts are together at most 2^40 bytes. -/
import Derived.Test.YtecogakledajkaaNetSumB
import Derived.Deep.Draws
import Derived.Sort.CutIn
namespace Go.Proofs.Ytecogakledajkaa.su
open Go.RowKit Go.Shelf Go.Proofs.Ytecogakledajkaa.sm Go.Proofs.Ytecogakledajkaa.nb
set_option linter.unusedVariables false
attribute [local go_sem] Oper.semAt_some

/-- texts put together -/
def cat : List ByteArray → List UInt8
  | [] => []
  | p :: t => L p ++ cat t
theorem cat_drop (ps : List ByteArray) (k : Nat) (h : k < ps.length) : cat (ps.drop k) = L (ps[k]) ++ cat (ps.drop (k + 1)) := by
  rw [List.drop_eq_getElem_cons h]; rfl
theorem L_append (a b : ByteArray) : L (a ++ b) = L a ++ L b := L_app a b
theorem L_extract (a : ByteArray) (i : Nat) : L (a.extract i a.size) = (L a).drop i := by
  have h : (L a).length = a.size := rfl
  rw [nb.L_extract, List.take_of_length_le (by rw [List.length_drop, h]; exact Nat.le_refl _)]
theorem size_extract (a : ByteArray) (i : Nat) : (a.extract i a.size).size = a.size - i := by simp
theorem L_nil (a : ByteArray) (h : a.size = 0) : L a = [] := List.length_eq_zero_iff.1 h
theorem toL (a : ByteArray) : a.toList.isEmpty = decide (a.size = 0) := by
  have e : a.data.toList.length = a.size := rfl
  rw [Bool.eq_iff_iff, ByteArray.toList_eq, List.isEmpty_iff_length_eq_zero, decide_eq_true_eq, e]
theorem wsum_two (l m : List UInt8) (h : 1 < l.length) : wsum (l ++ m) = wd l 0 + wsum (l.drop 2 ++ m) := by
  match l, h with
  | a :: b :: t, _ => simp [wsum, wd, bt]
theorem wsum_both (a b : UInt8) (m : List UInt8) : wsum (a :: b :: m) = (a.toNat : Int) * 256 + b.toNat + wsum m := rfl
theorem grown_drewN (W : World) (n : Nat) : W.grownBy (W.drewN n) none := ⟨rfl, rfl, rfl, Nat.le_refl _, fun _ _ _ => rfl⟩
theorem abide_drewN {β : Type} {B : Nat} {J : β → World → Prop} (h : AbidesFrom B J) {s : β} {W : World} (hs : J s W) (n : Nat) : J s (W.drewN n) :=
  h s W _ none hs (grown_drewN W n) (fun r e => by cases e)
theorem below_dr {B : Nat} {a w : World} (h : Below B a w) (n : Nat) : Below B a (w.drewN n) := h.trans ⟨rfl, rfl, rfl, Nat.le_refl _, fun _ _ => rfl⟩
theorem drewN_one (W : World) : W.drew = W.drewN 1 := rfl
/-- how a round ends: it goes on, or no more are wanted -/
def Out (J Jx : List U16 → World → Prop) (n₀ : Nat) (xs : List U16) (W1 : World) (b : Bool) (W' : World) : Prop :=
  (b = true ∧ J xs W' ∧ Below n₀ W1 W') ∨ (b = false ∧ Jx xs W')
theorem out_of {J Jx : List U16 → World → Prop} {n₀ : Nat} {xs : List U16} {W1 : World} {e : Ending} {W' : World}
    (h : (e = .returned (.bool true) ∧ J xs W' ∧ Below n₀ W1 W') ∨ (e = .returned (.bool false) ∧ Jx xs W')) : ∃ b, e = .returned (.bool b) ∧ Out J Jx n₀ xs W1 b W' := by
  rcases h with ⟨h1, h2⟩ | ⟨h1, h2⟩
  · exact ⟨true, h1, .inl ⟨rfl, h2⟩⟩
  · exact ⟨false, h1, .inr ⟨rfl, h2⟩⟩
/-- what is still to come: a byte that waits, a text's rest, the texts behind it -/
def Left (T : Int) (N : Nat) (pre : List U16) (rest : List UInt8) : Prop := tot pre + wsum rest = T ∧ pre.length + rest.length ≤ N
theorem Left.two {T : Int} {N : Nat} {pre : List U16} {q : ByteArray} {rest : List UInt8} (h : Left T N pre (L q ++ rest)) (hq : 1 < q.size) (hw : 0 ≤ wd (L q) 0 ∧ wd (L q) 0 ≤ 65535) :
    Left T N (pre ++ [⟨wd (L q) 0, hw⟩]) (L (q.extract 2 q.size) ++ rest) := by
  obtain ⟨h1, h2⟩ := h
  have h3 := wsum_two (L q) rest hq
  have hl : (L q).length = q.size := rfl
  rw [L_extract]
  refine ⟨by rw [tot_snoc]; dsimp only; omega, ?_⟩
  simp only [List.length_append, List.length_drop, List.length_cons, List.length_nil] at h2 ⊢
  omega
theorem Left.less {T : Int} {N : Nat} {pre : List U16} {q : ByteArray} {rest : List UInt8} (h : Left T N pre (L q ++ rest)) (hq : 0 < q.size) : pre.length < N := by
  obtain ⟨_, h2⟩ := h
  have hl : (L q).length = q.size := rfl
  simp only [List.length_append] at h2
  omega
theorem first_aux (A P rest : List UInt8) (hA : A.length = 1) (hP : 0 < P.length) :
    wsum (A ++ (P ++ rest)) = bt A 0 * 256 + bt P 0 + wsum (P.drop 1 ++ rest) ∧ (A ++ (P ++ rest)).length = 2 + (P.drop 1 ++ rest).length := by
  match A, P, hA, hP with
  | [x], y :: t, _, _ => simp [wsum, bt]; omega
theorem Left.first {T : Int} {N : Nat} {pre : List U16} {a p : ByteArray} {rest : List UInt8} (h : Left T N pre (L a ++ (L p ++ rest))) (ha : a.size = 1) (hp : 0 < p.size)
    (hw : 0 ≤ bt (L a) 0 * 256 + bt (L p) 0 ∧ bt (L a) 0 * 256 + bt (L p) 0 ≤ 65535) :
    Left T N (pre ++ [⟨bt (L a) 0 * 256 + bt (L p) 0, hw⟩]) (L (p.extract 1 p.size) ++ rest) := by
  obtain ⟨h1, h2⟩ := h
  obtain ⟨h3, h4⟩ := first_aux (L a) (L p) rest ha hp
  rw [h3] at h1
  rw [h4] at h2
  rw [L_extract]
  refine ⟨by rw [tot_snoc]; dsimp only; omega, ?_⟩
  have h5 : (pre ++ [(⟨bt (L a) 0 * 256 + bt (L p) 0, hw⟩ : U16)]).length = pre.length + 1 := by simp
  omega

theorem Left.last {T : Int} {N : Nat} {pre : List U16} {a : ByteArray} (h : Left T N pre (L a ++ [])) (ha : a.size = 1) (hw : 0 ≤ wd (L a) 0 ∧ wd (L a) 0 ≤ 65535) :
    tot (pre ++ [⟨wd (L a) 0, hw⟩]) = T ∧ pre.length < N := by
  obtain ⟨h1, h2⟩ := h
  rw [List.append_nil] at h1 h2
  have hla : (L a).length = 1 := ha
  have h3 := wsum_drop (L a) 0 (by omega)
  rw [List.drop_zero, wsum_end (L a) (0 + 2) (by omega)] at h3
  rw [tot_snoc]
  exact ⟨by dsimp only; omega, by omega⟩
theorem Left.none {T : Int} {N : Nat} {pre : List U16} {a : ByteArray} (h : Left T N pre (L a ++ [])) (ha : a.size = 0) : tot pre = T := by
  obtain ⟨h1, _⟩ := h
  rw [L_nil a ha] at h1
  simpa [wsum] using h1
theorem wordAt0 (s : ByteArray) (w : World) (hs : s.size ≤ 1099511627776) (hk : 0 < s.size) :
    Calls Try.prog 44 #[.string s, .int .i64 0] w (Quiet (.int .u16 (wd (L s) 0)) w) := wordAt_in s 0 w hs hk
theorem emp_t {a : ByteArray} (h : a.size = 0) : a.toList.isEmpty = true := by rw [toL]; exact decide_eq_true h
theorem emp_f {a : ByteArray} (h : 0 < a.size) : a.toList.isEmpty = false := by rw [toL]; exact decide_eq_false (by omega)

set_option maxRecDepth 100000 in
set_option maxHeartbeats 2000000 in
/-- the closure of words -/
theorem wordsTells (Bs n₀ b off cap : Nat) (ps : List ByteArray) (hlen : ps.length ≤ 1099511627776) (hsz : (cat ps).length ≤ 1099511627776) (hb : b < n₀) (w : World) (hn : n₀ ≤ w.heap.size) (hBs : Bs < w.heap.size)
    (hS : w.cell? ⟨Bs, 0, none⟩ = some (.slice (some ⟨b, off, none⟩) ps.length cap)) (hc : ∀ j (h : j < ps.length), w.cell? ⟨b, off + j, none⟩ = some (.string (ps[j]))) :
    Tells Try.prog 42 #[.pointer (some ⟨Bs, 0, none⟩)] n₀ (wsum (cat ps)) (cat ps).length w := fun l J Jx W hW hJ hJx hY h0 => by
  have hS' := (hW.cell (p := ⟨Bs, 0, none⟩) hBs).trans hS
  have hnW : n₀ ≤ W.heap.size := Nat.le_trans hn hW.size
  have hc' : ∀ j (h : j < ps.length), W.cell? ⟨b, off + j, none⟩ = some (.string (ps[j])) := fun j h => (hW.cell (p := ⟨b, off + j, none⟩) (by show b < _; omega)).trans (hc j h)
  clear hS hc hW
  have hmx : Try.prog.follows .mixedOrders = true := by kernel_rfl
  refine callsIn_of_wp Try.func42 rfl trivial ?_ rfl
  simp only [Try.ntmps42, List.size_toArray, List.length_cons, List.length_nil, Nat.reduceAdd, Nat.reduceSub, Array.replicate_succ, Array.replicate_zero, List.push_toArray, List.append_toArray, List.nil_append, List.cons_append]
  have HC := Lib.hid hc'; clear hc'
  gi_wp2
  gi_loopw [3, 8] (fun al i wr => ∃ (k : Nat) (pre : List U16) (a : ByteArray), k ≤ ps.length ∧ i = .int .i64 k ∧ al = .string a ∧ a.size ≤ 1 ∧ J pre wr ∧ Below n₀ W wr ∧
      Hid (Left (wsum (cat ps)) (cat ps).length pre (L a ++ cat (ps.drop k))))
    (fun _ i _ => ps.length - (intOf i).toNat)
  case atStart => exact ⟨0, [], ByteArray.empty, Nat.zero_le _, rfl, rfl, by simp, h0, Below.refl _ _, Lib.hid (by simp [Left, tot, L])⟩
  case round =>
    obtain ⟨k, pre, a, hk, rfl, rfl, ha, hJs, hnx, hLeft⟩ := hrel
    by_cases hlt : k < ps.length
    · have hcx := (hnx.cell (p := ⟨b, off + k, none⟩) hb).trans (HC.out k hlt)
      have hd := cat_drop ps k hlt
      rw [hd] at hLeft
      clear hd
      have hps : (ps[k]).size ≤ 1099511627776 := by have := hLeft.out.2; have e : (L ps[k]).length = (ps[k]).size := rfl; simp only [List.length_append] at this; omega
      generalize ps[k] = p at *
      obtain ⟨rest, hrest⟩ : ∃ rest, Hid (cat (ps.drop (k + 1)) = rest) := ⟨_, Lib.hid rfl⟩
      rw [hrest.out] at hLeft
      obtain ⟨c, hcb⟩ : ∃ c : Bool, Hid (c = decide (a.size = 1 ∧ 0 < p.size)) := ⟨_, Lib.hid rfl⟩
      gi_upto_region 4 with fail
      gi_cut [17] from 48 (fun v17 wc => v17 = .bool c ∧ wr = wc)
      case first =>
        by_cases ha0 : a.size = 0
        · have s1 : a.toList.isEmpty = true := emp_t ha0
          have hc1 : c = false := by rw [hcb.out]; exact decide_eq_false (by omega)
          clear hcb
          subst hc1
          gi_wp2
          gi_meet
          case rel => exact ⟨rfl, rfl⟩
        · have s1 : a.toList.isEmpty = false := emp_f (by omega)
          by_cases hp0 : p.size = 0
          · have s2 : p.toList.isEmpty = true := emp_t hp0
            have hc1 : c = false := by rw [hcb.out]; exact decide_eq_false (by omega)
            clear hcb
            subst hc1
            gi_wp2
            gi_meet
            case rel => exact ⟨rfl, rfl⟩
          · have s2 : p.toList.isEmpty = false := emp_f (by omega)
            have hc1 : c = true := by rw [hcb.out]; exact decide_eq_true (by omega)
            clear hcb
            subst hc1
            gi_wp2
            gi_meet
            case rel => exact ⟨rfl, rfl⟩
      case rest =>
      obtain ⟨rfl, rfl⟩ := hcut
      gi_upto_if 17 with fail
      gi_cut [3, 5] from 48 (fun v3 v5 wc => ∃ (pre : List U16) (a2 p2 : ByteArray), v3 = .string a2 ∧ v5 = .string p2 ∧ a2.size ≤ 1 ∧ p2.size ≤ 1099511627776 ∧ (a2.size = 0 ∨ p2.size = 0) ∧ J pre wc ∧ Below n₀ W wc ∧
        Hid (Left (wsum (cat ps)) (cat ps).length pre (L a2 ++ (L p2 ++ rest))))
      case first =>
        cases c
        · have hno : a.size = 0 ∨ p.size = 0 := by have := hcb.out; simp only [Bool.false_eq, decide_eq_false_iff_not] at this; omega
          gi_wp2
          gi_meet
          case rel => exact ⟨pre, a, p, rfl, rfl, ha, hps, hno, hJs, hnx, hLeft⟩
        · have hyes : a.size = 1 ∧ 0 < p.size := by have := hcb.out; simpa only [Bool.true_eq, decide_eq_true_eq] using this
          obtain ⟨ha1, hp1⟩ := hyes
          have b0 := bt_bd (L a) 0
          have b1 := bt_bd (L p) 0
          have hw : 0 ≤ bt (L a) 0 * 256 + bt (L p) 0 ∧ bt (L a) 0 * 256 + bt (L p) 0 ≤ 65535 := by omega
          have hLeft2 := Lib.hid (hLeft.out.first ha1 hp1 hw)
          have hl := Lib.hid (show pre.length < (cat ps).length by have := hLeft.out.2; have e : (L a).length = a.size := rfl; simp only [List.length_append] at this; omega)
          obtain ⟨fn, tmps, assign, body, hy, hR⟩ := hY pre ⟨_, hw⟩ wr.drew (abide_drewN hJ hJs 1) hl.out
          have e0 := bt_at a 0 (by omega)
          have e1 := bt_at p 0 (by omega)
          dsimp only at hy
          have hR2 := hR.mono (fun e W' h => out_of h)
          clear hR
          rw [← e0, ← e1] at hy
          rw [← e0] at b0
          rw [← e1] at b1
          clear e0 e1
          have hn1 : Below n₀ W wr.drew := hnx.drew
          gi_wp2
          gi_region_with_o (first
            | (refine ⟨trivial, ?_⟩; gi_at_call 43; refine (callsIn_wide.2 (word8 _ _ _ b0 b1)).mono ?_; rintro e w' ⟨rfl, rfl⟩)
            | (refine hR2.mono ?_; rintro e W3 ⟨b3, rfl, hO⟩))
          all_goals
            rcases hO with ⟨rfl, hJ3, hk3⟩ | ⟨rfl, hJx3⟩
            · gi_wp2
              gi_region
              gi_wp2
              gi_meet
              case rel => exact ⟨_, ByteArray.empty, _, rfl, rfl, by simp, by rw [size_extract]; omega, .inl rfl, abide_drewN hJ hJ3 1, (hn1.trans hk3).drew, hLeft2⟩
            · gi_wp2
              refine bodyPost_ret (results_none rfl _ _ _) rfl ?_
              exact ⟨⟨_, rfl⟩, .inr ⟨_, trivial, hJx3⟩⟩
      case rest =>
        clear hLeft hJs hnx hcx hcb
        obtain ⟨pre2, a2, p2, rfl, rfl, ha2, hp2, hor, hJ2, hn2, hLeft2⟩ := hcut
        gi_wp2
        gi_loopw [5] (fun v wx => ∃ (pre : List U16) (q : ByteArray), v = .string q ∧ q.size ≤ 1099511627776 ∧ (a2.size = 0 ∨ q.size = 0) ∧ J pre wx ∧ Below n₀ W wx ∧
            Hid (Left (wsum (cat ps)) (cat ps).length pre (L a2 ++ (L q ++ rest))))
          (fun v _ => match v with | .string q => q.size | _ => 0)
        case atStart => exact ⟨pre2, p2, rfl, hp2, hor, hJ2, hn2, hLeft2⟩
        case round =>
          obtain ⟨pre3, q, rfl, hqs, hor3, hJ3, hn3, hLeft3⟩ := hrel
          by_cases hq : 1 < q.size
          · have ha0 : a2.size = 0 := by omega
            have hw := wd_bd (L q) 0
            have hl3 := Lib.hid (show Left (wsum (cat ps)) (cat ps).length pre3 (L q ++ rest) by have := hLeft3.out; rw [L_nil a2 ha0] at this; exact this)
            gi_wp2_with fail
            refine ⟨trivial, ?_⟩
            gi_at_call 44
            refine (callsIn_wide.2 (wordAt0 q _ hqs (by omega))).mono ?_
            rintro e w' ⟨rfl, n, rfl⟩
            obtain ⟨fn, tmps, assign, body, hy, hR⟩ := hY pre3 ⟨_, hw⟩ (_root_.Go.World.drewN _ n) (abide_drewN hJ hJ3 n) (hl3.out.less (by omega))
            dsimp only at hy
            have hn4 := below_dr hn3 n
            have hL4 := Lib.hid (hl3.out.two hq hw)
            gi_wp2
            refine hR.mono ?_
            rintro e W4 (⟨rfl, hJ4, hk4⟩ | ⟨rfl, hJx4⟩)
            · gi_wp2
              go_roundw
              case rel => exact ⟨_, _, rfl, by rw [size_extract]; omega, .inl ha0, hJ4, hn4.trans hk4, by have := hL4.out; rw [L_nil a2 ha0]; exact this⟩
              case measure => simp only [size_extract]; omega
            · gi_wp2
              refine bodyPost_ret (results_none rfl _ _ _) rfl ?_
              exact ⟨⟨_, rfl⟩, .inr ⟨_, trivial, hJx4⟩⟩
          · gi_wp2
            go_roundw
            case rel => exact ⟨k + 1, pre3, a2 ++ q, by omega, by simp, rfl, by rw [ByteArray.size_append]; omega, hJ3, hn3, by have := hLeft3.out; rw [hrest.out, L_append, List.append_assoc]; exact this⟩
            case measure => simp [intOf]; omega
    · obtain rfl : k = ps.length := by omega
      have hLe := Lib.hid (show Left (wsum (cat ps)) (cat ps).length pre (L a ++ []) by have := hLeft.out; rw [List.drop_length] at this; exact this)
      by_cases ha0 : a.size = 0
      · have s1 : a.toList.isEmpty = true := emp_t ha0
        gi_wp2
        go_end0
        exact ⟨⟨_, rfl⟩, .inl ⟨_, hLe.out.none ha0, hJs⟩⟩
      · have s1 : a.toList.isEmpty = false := emp_f (by omega)
        have hw := wd_bd (L a) 0
        have hE := Lib.hid (hLe.out.last (by omega) hw)
        gi_wp2_with fail
        refine ⟨trivial, ?_⟩
        gi_at_call 44
        refine (callsIn_wide.2 (wordAt0 a _ (by omega) (by omega))).mono ?_
        rintro e w' ⟨rfl, n, rfl⟩
        obtain ⟨fn, tmps, assign, body, hy, hR⟩ := hY pre ⟨_, hw⟩ (_root_.Go.World.drewN _ n) (abide_drewN hJ hJs n) hE.out.2
        dsimp only at hy
        gi_wp2
        refine hR.mono ?_
        rintro e W4 (⟨rfl, hJ4, hk4⟩ | ⟨rfl, hJx4⟩)
        · gi_wp2
          go_end0
          exact ⟨⟨_, rfl⟩, .inl ⟨_, hE.out.1, hJ4⟩⟩
        · gi_wp2
          go_end0
          exact ⟨⟨_, rfl⟩, .inr ⟨_, trivial, hJx4⟩⟩
end Go.Proofs.Ytecogakledajkaa.su
