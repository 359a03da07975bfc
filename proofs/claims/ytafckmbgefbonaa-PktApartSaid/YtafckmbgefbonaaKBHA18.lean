/- B H A: contracts, part 18. Condition: as each says. -/
import Derived.Test.YtafckmbgefbonaaKBHA17
import Derived.Deep.Draws
import Derived.Sort.CutIn
set_option linter.unusedVariables false
set_option linter.unusedSimpArgs false
namespace Go.Proofs.Ytafckmbgefbonaa.su
open Go.RowKit Go.Shelf Go.Proofs.Ytafckmbgefbonaa.sm Go.Proofs.Ytafckmbgefbonaa.nb
set_option linter.unusedVariables false
attribute [local go_sem] Oper.semAt_some

def cat : List ByteArray → List UInt8
  | [] => []
  | p :: t => L p ++ cat t
theorem cat_drop (ps : List ByteArray) (k : Nat) (h : k < ps.length) : cat (ps.drop k) = L (ps[k]) ++ cat (ps.drop (k + 1)) := by
  rw [List.drop_eq_getElem_cons h]; rfl
theorem L_append (a b : ByteArray) : L (a ++ b) = L a ++ L b := L_app a b
theorem L_extract (a : ByteArray) (i : Nat) : L (a.extract i a.size) = (L a).drop i := by
  have h : (L a).length = a.size := rfl
  rw [nb.L_extract, List.take_of_length_le (by rw [List.length_drop, h]; exact Nat.le_refl _)]
theorem size_extract (a : ByteArray) (i : Nat) : (a.extract i a.size).size = a.size - i := by simp
theorem L_nil (a : ByteArray) (h : a.size = 0) : L a = [] := List.length_eq_zero_iff.1 h
theorem toL (a : ByteArray) : a.toList.isEmpty = decide (a.size = 0) := by
  have e : a.data.toList.length = a.size := rfl
  rw [Bool.eq_iff_iff, ByteArray.toList_eq, List.isEmpty_iff_length_eq_zero, decide_eq_true_eq, e]
theorem wsum_two (l m : List UInt8) (h : 1 < l.length) : wsum (l ++ m) = wd l 0 + wsum (l.drop 2 ++ m) := by
  match l, h with
  | a :: b :: t, _ => simp [wsum, wd, bt]
theorem grown_drewN (W : World) (n : Nat) : W.grownBy (W.drewN n) none := ⟨rfl, rfl, rfl, Nat.le_refl _, fun _ _ _ => rfl⟩
theorem abide_drewN {β : Type} {B : Nat} {J : β → World → Prop} (h : AbidesFrom B J) {s : β} {W : World} (hs : J s W) (n : Nat) : J s (W.drewN n) :=
  h s W _ none hs (grown_drewN W n) (fun r e => by cases e)
theorem below_dr {B : Nat} {a w : World} (h : Below B a w) (n : Nat) : Below B a (w.drewN n) := h.trans ⟨rfl, rfl, rfl, Nat.le_refl _, fun _ _ => rfl⟩
def Out (J Jx : List U16 → World → Prop) (n₀ : Nat) (xs : List U16) (W1 : World) (b : Bool) (W' : World) : Prop :=
  (b = true ∧ J xs W' ∧ Below n₀ W1 W') ∨ (b = false ∧ Jx xs W')
theorem out_of {J Jx : List U16 → World → Prop} {n₀ : Nat} {xs : List U16} {W1 : World} {e : Ending} {W' : World}
    (h : (e = .returned (.bool true) ∧ J xs W' ∧ Below n₀ W1 W') ∨ (e = .returned (.bool false) ∧ Jx xs W')) : ∃ b, e = .returned (.bool b) ∧ Out J Jx n₀ xs W1 b W' := by
  rcases h with ⟨h1, h2⟩ | ⟨h1, h2⟩
  · exact ⟨true, h1, .inl ⟨rfl, h2⟩⟩
  · exact ⟨false, h1, .inr ⟨rfl, h2⟩⟩
def Left (T : Int) (N : Nat) (pre : List U16) (rest : List UInt8) : Prop := tot pre + wsum rest = T ∧ pre.length + rest.length ≤ N
theorem Left.two {T : Int} {N : Nat} {pre : List U16} {q : ByteArray} {rest : List UInt8} (h : Left T N pre (L q ++ rest)) (hq : 1 < q.size) (hw : 0 ≤ wd (L q) 0 ∧ wd (L q) 0 ≤ 65535) :
    Left T N (pre ++ [⟨wd (L q) 0, hw⟩]) (L (q.extract 2 q.size) ++ rest) := by
  obtain ⟨h1, h2⟩ := h
  have h3 := wsum_two (L q) rest hq
  have hl : (L q).length = q.size := rfl
  rw [L_extract]
  refine ⟨by rw [tot_snoc]; dsimp only; omega, ?_⟩
  simp only [List.length_append, List.length_drop, List.length_cons, List.length_nil] at h2 ⊢
  omega
theorem Left.less {T : Int} {N : Nat} {pre : List U16} {q : ByteArray} {rest : List UInt8} (h : Left T N pre (L q ++ rest)) (hq : 0 < q.size) : pre.length < N := by
  obtain ⟨_, h2⟩ := h
  have hl : (L q).length = q.size := rfl
  simp only [List.length_append] at h2
  omega
theorem first_aux (A P rest : List UInt8) (hA : A.length = 1) (hP : 0 < P.length) :
    wsum (A ++ (P ++ rest)) = bt A 0 * 256 + bt P 0 + wsum (P.drop 1 ++ rest) ∧ (A ++ (P ++ rest)).length = 2 + (P.drop 1 ++ rest).length := by
  match A, P, hA, hP with
  | [x], y :: t, _, _ => simp [wsum, bt]; omega
theorem Left.first {T : Int} {N : Nat} {pre : List U16} {a p : ByteArray} {rest : List UInt8} (h : Left T N pre (L a ++ (L p ++ rest))) (ha : a.size = 1) (hp : 0 < p.size)
    (hw : 0 ≤ bt (L a) 0 * 256 + bt (L p) 0 ∧ bt (L a) 0 * 256 + bt (L p) 0 ≤ 65535) :
    Left T N (pre ++ [⟨bt (L a) 0 * 256 + bt (L p) 0, hw⟩]) (L (p.extract 1 p.size) ++ rest) := by
  obtain ⟨h1, h2⟩ := h
  obtain ⟨h3, h4⟩ := first_aux (L a) (L p) rest ha hp
  rw [h3] at h1
  rw [h4] at h2
  rw [L_extract]
  refine ⟨by rw [tot_snoc]; dsimp only; omega, ?_⟩
  have h5 : (pre ++ [(⟨bt (L a) 0 * 256 + bt (L p) 0, hw⟩ : U16)]).length = pre.length + 1 := by simp
  omega

theorem Left.last {T : Int} {N : Nat} {pre : List U16} {a : ByteArray} (h : Left T N pre (L a ++ [])) (ha : a.size = 1) (hw : 0 ≤ wd (L a) 0 ∧ wd (L a) 0 ≤ 65535) :
    tot (pre ++ [⟨wd (L a) 0, hw⟩]) = T ∧ pre.length < N := by
  obtain ⟨h1, h2⟩ := h
  rw [List.append_nil] at h1 h2
  have hla : (L a).length = 1 := ha
  have h3 := wsum_drop (L a) 0 (by omega)
  rw [List.drop_zero, wsum_end (L a) (0 + 2) (by omega)] at h3
  rw [tot_snoc]
  exact ⟨by dsimp only; omega, by omega⟩
theorem Left.none {T : Int} {N : Nat} {pre : List U16} {a : ByteArray} (h : Left T N pre (L a ++ [])) (ha : a.size = 0) : tot pre = T := by
  obtain ⟨h1, _⟩ := h
  rw [L_nil a ha] at h1
  simpa [wsum] using h1
theorem wordAt0 (s : ByteArray) (w : World) (hs : s.size ≤ 1099511627776) (hk : 0 < s.size) :
    Calls Try.prog 84 #[.string s, .int .i64 0] w (Quiet (.int .u16 (wd (L s) 0)) w) := wordAt_in s 0 w hs hk
theorem emp_t {a : ByteArray} (h : a.size = 0) : a.toList.isEmpty = true := by rw [toL]; exact decide_eq_true h
theorem emp_f {a : ByteArray} (h : 0 < a.size) : a.toList.isEmpty = false := by rw [toL]; exact decide_eq_false (by omega)

set_option maxRecDepth 100000 in
set_option maxHeartbeats 2000000 in
theorem wordsTells (Bs n₀ b off cap : Nat) (ps : List ByteArray) (hlen : ps.length ≤ 1099511627776) (hsz : (cat ps).length ≤ 1099511627776) (hb : b < n₀) (w : World) (hn : n₀ ≤ w.heap.size) (hBs : Bs < w.heap.size)
    (hS : w.cell? ⟨Bs, 0, none⟩ = some (.slice (some ⟨b, off, none⟩) ps.length cap)) (hc : ∀ j (h : j < ps.length), w.cell? ⟨b, off + j, none⟩ = some (.string (ps[j]))) :
    Tells Try.prog 82 #[.pointer (some ⟨Bs, 0, none⟩)] n₀ (wsum (cat ps)) (cat ps).length w := fun l J Jx W hW hJ hJx hY h0 => by
  have hS' := (hW.cell (p := ⟨Bs, 0, none⟩) hBs).trans hS
  have hnW : n₀ ≤ W.heap.size := Nat.le_trans hn hW.size
  have hc' : ∀ j (h : j < ps.length), W.cell? ⟨b, off + j, none⟩ = some (.string (ps[j])) := fun j h => (hW.cell (p := ⟨b, off + j, none⟩) (by show b < _; omega)).trans (hc j h)
  clear hS hc hW
  have hmx : Try.prog.follows .mixedOrders = true := by kernel_rfl
  refine callsIn_of_wp Try.func82 rfl trivial ?_ rfl
  simp only [Try.ntmps82, List.size_toArray, List.length_cons, List.length_nil, Nat.reduceAdd, Nat.reduceSub, Array.replicate_succ, Array.replicate_zero, List.push_toArray, List.append_toArray, List.nil_append, List.cons_append]
  have HC := Lib.hid hc'; clear hc'
  gi_wp2
  gi_loopw [3, 8] (fun al i wr => ∃ (k : Nat) (pre : List U16) (a : ByteArray), k ≤ ps.length ∧ i = .int .i64 k ∧ al = .string a ∧ a.size ≤ 1 ∧ J pre wr ∧ Below n₀ W wr ∧
      Hid (Left (wsum (cat ps)) (cat ps).length pre (L a ++ cat (ps.drop k))))
    (fun _ i _ => ps.length - (intOf i).toNat)
  case atStart => exact ⟨0, [], ByteArray.empty, Nat.zero_le _, rfl, rfl, by simp, h0, Below.refl _ _, Lib.hid (by simp [Left, tot, L])⟩
  case round =>
    obtain ⟨k, pre, a, hk, rfl, rfl, ha, hJs, hnx, hLeft⟩ := hrel
    by_cases hlt : k < ps.length
    · have hcx := (hnx.cell (p := ⟨b, off + k, none⟩) hb).trans (HC.out k hlt)
      have hd := cat_drop ps k hlt
      rw [hd] at hLeft
      clear hd
      have hps : (ps[k]).size ≤ 1099511627776 := by have := hLeft.out.2; have e : (L ps[k]).length = (ps[k]).size := rfl; simp only [List.length_append] at this; omega
      generalize ps[k] = p at *
      obtain ⟨rest, hrest⟩ : ∃ rest, Hid (cat (ps.drop (k + 1)) = rest) := ⟨_, Lib.hid rfl⟩
      rw [hrest.out] at hLeft
      obtain ⟨c, hcb⟩ : ∃ c : Bool, Hid (c = decide (a.size = 1 ∧ 0 < p.size)) := ⟨_, Lib.hid rfl⟩
      gi_upto_region 4 with fail
      gi_cut [17] from 48 (fun v17 wc => v17 = .bool c ∧ wr = wc)
      case first =>
        by_cases ha0 : a.size = 0
        · have s1 : a.toList.isEmpty = true := emp_t ha0
          have hc1 : c = false := by rw [hcb.out]; exact decide_eq_false (by omega)
          clear hcb
          subst hc1
          gi_wp2
          gi_meet
          case rel => exact ⟨rfl, rfl⟩
        · have s1 : a.toList.isEmpty = false := emp_f (by omega)
          by_cases hp0 : p.size = 0
          · have s2 : p.toList.isEmpty = true := emp_t hp0
            have hc1 : c = false := by rw [hcb.out]; exact decide_eq_false (by omega)
            clear hcb
            subst hc1
            gi_wp2
            gi_meet
            case rel => exact ⟨rfl, rfl⟩
          · have s2 : p.toList.isEmpty = false := emp_f (by omega)
            have hc1 : c = true := by rw [hcb.out]; exact decide_eq_true (by omega)
            clear hcb
            subst hc1
            gi_wp2
            gi_meet
            case rel => exact ⟨rfl, rfl⟩
      case rest =>
      obtain ⟨rfl, rfl⟩ := hcut
      gi_upto_if 17 with fail
      gi_cut [3, 5] from 48 (fun v3 v5 wc => ∃ (pre : List U16) (a2 p2 : ByteArray), v3 = .string a2 ∧ v5 = .string p2 ∧ a2.size ≤ 1 ∧ p2.size ≤ 1099511627776 ∧ (a2.size = 0 ∨ p2.size = 0) ∧ J pre wc ∧ Below n₀ W wc ∧
        Hid (Left (wsum (cat ps)) (cat ps).length pre (L a2 ++ (L p2 ++ rest))))
      case first =>
        cases c
        · have hno : a.size = 0 ∨ p.size = 0 := by have := hcb.out; simp only [Bool.false_eq, decide_eq_false_iff_not] at this; omega
          gi_wp2
          gi_meet
          case rel => exact ⟨pre, a, p, rfl, rfl, ha, hps, hno, hJs, hnx, hLeft⟩
        · have hyes : a.size = 1 ∧ 0 < p.size := by have := hcb.out; simpa only [Bool.true_eq, decide_eq_true_eq] using this
          obtain ⟨ha1, hp1⟩ := hyes
          have b0 := bt_bd (L a) 0
          have b1 := bt_bd (L p) 0
          have hw : 0 ≤ bt (L a) 0 * 256 + bt (L p) 0 ∧ bt (L a) 0 * 256 + bt (L p) 0 ≤ 65535 := by omega
          have hLeft2 := Lib.hid (hLeft.out.first ha1 hp1 hw)
          have hl := Lib.hid (show pre.length < (cat ps).length by have := hLeft.out.2; have e : (L a).length = a.size := rfl; simp only [List.length_append] at this; omega)
          obtain ⟨fn, tmps, assign, body, hy, hR⟩ := hY pre ⟨_, hw⟩ wr.drew (abide_drewN hJ hJs 1) hl.out
          have e0 := bt_at a 0 (by omega)
          have e1 := bt_at p 0 (by omega)
          dsimp only at hy
          have hR2 := hR.mono (fun e W' h => out_of h)
          clear hR
          rw [← e0, ← e1] at hy
          rw [← e0] at b0
          rw [← e1] at b1
          clear e0 e1
          have hn1 : Below n₀ W wr.drew := hnx.drew
          gi_wp2
          gi_region_with_o (first
            | (refine ⟨trivial, ?_⟩; gi_at_call 83; refine (callsIn_wide.2 (word8 _ _ _ b0 b1)).mono ?_; rintro e w' ⟨rfl, rfl⟩)
            | (refine hR2.mono ?_; rintro e W3 ⟨b3, rfl, hO⟩))
          all_goals
            rcases hO with ⟨rfl, hJ3, hk3⟩ | ⟨rfl, hJx3⟩
            · gi_wp2
              gi_region
              gi_wp2
              gi_meet
              case rel => exact ⟨_, ByteArray.empty, _, rfl, rfl, by simp, by rw [size_extract]; omega, .inl rfl, abide_drewN hJ hJ3 1, (hn1.trans hk3).drew, hLeft2⟩
            · gi_wp2
              refine bodyPost_ret (results_none rfl _ _ _) rfl ?_
              exact ⟨⟨_, rfl⟩, .inr ⟨_, trivial, hJx3⟩⟩
      case rest =>
        clear hLeft hJs hnx hcx hcb
        obtain ⟨pre2, a2, p2, rfl, rfl, ha2, hp2, hor, hJ2, hn2, hLeft2⟩ := hcut
        gi_wp2
        gi_loopw [5] (fun v wx => ∃ (pre : List U16) (q : ByteArray), v = .string q ∧ q.size ≤ 1099511627776 ∧ (a2.size = 0 ∨ q.size = 0) ∧ J pre wx ∧ Below n₀ W wx ∧
            Hid (Left (wsum (cat ps)) (cat ps).length pre (L a2 ++ (L q ++ rest))))
          (fun v _ => match v with | .string q => q.size | _ => 0)
        case atStart => exact ⟨pre2, p2, rfl, hp2, hor, hJ2, hn2, hLeft2⟩
        case round =>
          obtain ⟨pre3, q, rfl, hqs, hor3, hJ3, hn3, hLeft3⟩ := hrel
          by_cases hq : 1 < q.size
          · have ha0 : a2.size = 0 := by omega
            have hw := wd_bd (L q) 0
            have hl3 := Lib.hid (show Left (wsum (cat ps)) (cat ps).length pre3 (L q ++ rest) by have := hLeft3.out; rw [L_nil a2 ha0] at this; exact this)
            gi_wp2_with fail
            refine ⟨trivial, ?_⟩
            gi_at_call 84
            refine (callsIn_wide.2 (wordAt0 q _ hqs (by omega))).mono ?_
            rintro e w' ⟨rfl, n, rfl⟩
            obtain ⟨fn, tmps, assign, body, hy, hR⟩ := hY pre3 ⟨_, hw⟩ (_root_.Go.World.drewN _ n) (abide_drewN hJ hJ3 n) (hl3.out.less (by omega))
            dsimp only at hy
            have hn4 := below_dr hn3 n
            have hL4 := Lib.hid (hl3.out.two hq hw)
            gi_wp2
            refine hR.mono ?_
            rintro e W4 (⟨rfl, hJ4, hk4⟩ | ⟨rfl, hJx4⟩)
            · gi_wp2
              go_roundw
              case rel => exact ⟨_, _, rfl, by rw [size_extract]; omega, .inl ha0, hJ4, hn4.trans hk4, by have := hL4.out; rw [L_nil a2 ha0]; exact this⟩
              case measure => simp only [size_extract]; omega
            · gi_wp2
              refine bodyPost_ret (results_none rfl _ _ _) rfl ?_
              exact ⟨⟨_, rfl⟩, .inr ⟨_, trivial, hJx4⟩⟩
          · gi_wp2
            go_roundw
            case rel => exact ⟨k + 1, pre3, a2 ++ q, by omega, by simp, rfl, by rw [ByteArray.size_append]; omega, hJ3, hn3, by have := hLeft3.out; rw [hrest.out, L_append, List.append_assoc]; exact this⟩
            case measure => simp [intOf]; omega
    · obtain rfl : k = ps.length := by omega
      have hLe := Lib.hid (show Left (wsum (cat ps)) (cat ps).length pre (L a ++ []) by have := hLeft.out; rw [List.drop_length] at this; exact this)
      by_cases ha0 : a.size = 0
      · have s1 : a.toList.isEmpty = true := emp_t ha0
        gi_wp2
        go_end0
        exact ⟨⟨_, rfl⟩, .inl ⟨_, hLe.out.none ha0, hJs⟩⟩
      · have s1 : a.toList.isEmpty = false := emp_f (by omega)
        have hw := wd_bd (L a) 0
        have hE := Lib.hid (hLe.out.last (by omega) hw)
        gi_wp2_with fail
        refine ⟨trivial, ?_⟩
        gi_at_call 84
        refine (callsIn_wide.2 (wordAt0 a _ (by omega) (by omega))).mono ?_
        rintro e w' ⟨rfl, n, rfl⟩
        obtain ⟨fn, tmps, assign, body, hy, hR⟩ := hY pre ⟨_, hw⟩ (_root_.Go.World.drewN _ n) (abide_drewN hJ hJs n) hE.out.2
        dsimp only at hy
        gi_wp2
        refine hR.mono ?_
        rintro e W4 (⟨rfl, hJ4, hk4⟩ | ⟨rfl, hJx4⟩)
        · gi_wp2
          go_end0
          exact ⟨⟨_, rfl⟩, .inl ⟨_, hE.out.1, hJ4⟩⟩
        · gi_wp2
          go_end0
          exact ⟨⟨_, rfl⟩, .inr ⟨_, trivial, hJx4⟩⟩
end Go.Proofs.Ytafckmbgefbonaa.su

namespace Go.Proofs.Ytafckmbgefbonaa.su
open Go.RowKit Go.Shelf Go.Proofs.Ytafckmbgefbonaa.sm Go.Proofs.Ytafckmbgefbonaa.nb
set_option linter.unusedVariables false
attribute [local go_sem] Oper.semAt_some

set_option maxRecDepth 100000 in
set_option maxHeartbeats 2000000 in
theorem wordsTells0 (Bs n₀ cap : Nat) (A : Option Addr) (w : World) (hBs : Bs < w.heap.size) (hS : w.cell? ⟨Bs, 0, none⟩ = some (.slice A 0 cap)) :
    Tells Try.prog 82 #[.pointer (some ⟨Bs, 0, none⟩)] n₀ 0 0 w := fun l J Jx W hW hJ hJx hY h0 => by
  have hS' := (hW.cell (p := ⟨Bs, 0, none⟩) hBs).trans hS
  have s1 : ByteArray.empty.toList.isEmpty = true := emp_t rfl
  refine callsIn_of_wp Try.func82 rfl trivial ?_ rfl
  simp only [Try.ntmps82, List.size_toArray, List.length_cons, List.length_nil, Nat.reduceAdd, Nat.reduceSub, Array.replicate_succ, Array.replicate_zero, List.push_toArray, List.append_toArray, List.nil_append, List.cons_append]
  gi_wp2
  gi_loopw [3, 8] (fun al i wr => al = .string ByteArray.empty ∧ i = .int .i64 0 ∧ J [] wr) (fun _ _ _ => 0)
  case atStart => exact ⟨rfl, rfl, h0⟩
  case round =>
    obtain ⟨rfl, rfl, hJs⟩ := hrel
    gi_wp2
    go_end0
    exact ⟨⟨_, rfl⟩, .inl ⟨_, rfl, hJs⟩⟩

theorem wordsC (A : Option Addr) (len cap : Nat) (w : World) :
    Calls Try.prog 63 #[.slice A len cap] w fun e w' => e = .returned (.func (.func 82) #[] #[.pointer (some ⟨w.heap.size, 0, none⟩)]) ∧ w' = w.alloc (.cells #[.slice A len cap] 112) := by
  go_enter Try.func63, Try.ntmps63
  go_wp2
  go_ret
  exact ⟨rfl, rfl⟩

def Txt (w : World) (A : Option Addr) (ps : List ByteArray) : Prop :=
  ps ≠ [] → ∃ b off, A = some ⟨b, off, none⟩ ∧ b < w.heap.size ∧ ∀ j (h : j < ps.length), w.cell? ⟨b, off + j, none⟩ = some (.string (ps[j]))

theorem sumC (A : Option Addr) (len cap : Nat) (ps : List ByteArray) (hlen : ps.length = len) (hl : ps.length ≤ 1099511627776) (hsz : (cat ps).length ≤ 1099511627776) (w : World) (ht : Txt w A ps) :
    Calls Try.prog 62 #[.func (.func 82) #[] #[.pointer (some ⟨w.heap.size, 0, none⟩)]] (w.alloc (.cells #[.slice A len cap] 112))
      fun e w' => e = .returned (.int .u16 (ck (wsum (cat ps)))) ∧ Below w.heap.size w w' := by
  subst hlen
  have eg := fun args w => enters_of (P := Try.prog) Try.func82 (by kernel_rfl) rfl args w
  have hbx := (Boxed.new w 112 (.slice A ps.length cap)).cell
  have hT := wsum_bd (cat ps)
  have hB0 : Below w.heap.size w (w.alloc (.cells #[.slice A ps.length cap] 112)) := (Below.refl _ w).alloc (Nat.le_refl _) _
  by_cases h0 : ps = []
  · subst h0
    refine (checksum_in 82 eg _ 0 0 (by omega) _ (wordsTells0 w.heap.size _ cap A _ (by simp) hbx) (by omega) (by omega)).mono ?_
    rintro e w' ⟨rfl, hb⟩
    exact ⟨rfl, hB0.trans (hb.mono (by simp))⟩
  · obtain ⟨b, off, rfl, hb, hc⟩ := ht h0
    refine (checksum_in 82 eg _ (wsum (cat ps)) (cat ps).length (by omega) _
      (wordsTells w.heap.size _ b off cap ps hl hsz (by simp; omega) _ (Nat.le_refl _) (by simp) hbx (fun j hj => (hB0.cell (p := ⟨b, off + j, none⟩) hb).trans (hc j hj))) hT.1 hT.2).mono ?_
    rintro e w' ⟨rfl, hb⟩
    exact ⟨rfl, hB0.trans (hb.mono (by simp))⟩

theorem ofC (A : Option Addr) (len cap : Nat) (ps : List ByteArray) (hlen : ps.length = len) (hl : ps.length ≤ 1099511627776) (hsz : (cat ps).length ≤ 1099511627776) (w : World) (ht : Txt w A ps) :
    Calls Try.prog 37 #[.slice A len cap] w fun e w' => e = .returned (.int .u16 (ck (wsum (cat ps)))) ∧ Below w.heap.size w w' := by
  have hc := Lib.hid (sumC A len cap ps hlen hl hsz w ht)
  go_enter Try.func37, Try.ntmps37
  go_wp2_with (fail)
  refine (wordsC _ _ _ _).mono ?_
  rintro e w1 ⟨rfl, rfl⟩
  go_wp2_with (fail)
  refine hc.out.mono ?_
  rintro e w1 ⟨rfl, hb1⟩
  go_wp2
  go_ret
  exact ⟨rfl, hb1⟩
end Go.Proofs.Ytafckmbgefbonaa.su

namespace Go.Proofs.Ytafckmbgefbonaa.su
open Go.RowKit Go.Shelf Go.Proofs.Ytafckmbgefbonaa.sm Go.Proofs.Ytafckmbgefbonaa.nb
set_option linter.unusedVariables false

theorem size_take (x : ByteArray) (n : Nat) (h : n ≤ x.size) : (x.extract 0 n).size = n := by simp [h]
end Go.Proofs.Ytafckmbgefbonaa.su

namespace Go.Proofs.Ytafckmbgefbonaa.su
open Go.RowKit Go.Shelf Go.Proofs.Ytafckmbgefbonaa.sm Go.Proofs.Ytafckmbgefbonaa.nb
set_option linter.unusedVariables false
attribute [local go_sem] Oper.semAt_some

def prs (X Y : List UInt8) : Nat → List (U16 × U16)
  | 0 => []
  | k + 1 => prs X Y k ++ [(⟨wd X (2 * k), wd_bd X _⟩, ⟨wd Y (2 * k), wd_bd Y _⟩)]
theorem prs_len (X Y : List UInt8) : ∀ k, (prs X Y k).length = k
  | 0 => rfl
  | k + 1 => by simp [prs, prs_len X Y k]
def turnsL (c : Int) (l : List (U16 × U16)) : Int := l.foldl (fun c x => turn c x.1.1 x.2.1) c
theorem turnsL_snoc (c : Int) (l : List (U16 × U16)) (x : U16 × U16) : turnsL c (l ++ [x]) = turn (turnsL c l) x.1.1 x.2.1 := by simp [turnsL]
theorem turnsL_prs (c : Int) (X Y : List UInt8) : ∀ k, turnsL c (prs X Y k) = turns c X Y k
  | 0 => rfl
  | k + 1 => by rw [prs, turnsL_snoc, turnsL_prs c X Y k]; rfl
theorem turnsL_bd (c : Int) (h : 0 ≤ c ∧ c ≤ 65535) : ∀ l : List (U16 × U16), 0 ≤ turnsL c l ∧ turnsL c l ≤ 65535 := by
  intro l
  induction l generalizing c with
  | nil => exact h
  | cons x t ih => exact ih _ (turn_bd _ _ _ h.2 x.1.2.2 x.2.2.1)

def PairsOut (w : World) (x y : ByteArray) (n : Nat) (e : Ending) (w' : World) : Prop :=
  e = .returned (.func (.func 85) #[] #[.pointer (some ⟨w.heap.size + 2, 0, none⟩), .pointer (some ⟨w.heap.size, 0, none⟩), .pointer (some ⟨w.heap.size + 1, 0, none⟩)]) ∧ Below w.heap.size w w' ∧
    w'.heap.size = w.heap.size + 3 ∧ Boxed w' w.heap.size 9 (.string (x.extract 0 n)) ∧ Boxed w' (w.heap.size + 1) 9 (.string (y.extract 0 n)) ∧ Boxed w' (w.heap.size + 2) 3 (.int .i64 n)
theorem three_boxes (w : World) (a b c : Value) (t1 t2 t3 : TypeId) :
    Boxed (((w.alloc (.cells #[a] t1)).alloc (.cells #[b] t2)).alloc (.cells #[c] t3)).drew w.heap.size t1 a ∧
    Boxed (((w.alloc (.cells #[a] t1)).alloc (.cells #[b] t2)).alloc (.cells #[c] t3)).drew (w.heap.size + 1) t2 b ∧
    Boxed (((w.alloc (.cells #[a] t1)).alloc (.cells #[b] t2)).alloc (.cells #[c] t3)).drew (w.heap.size + 2) t3 c := by
  have h1 := ((Boxed.new w t1 a).alloc (.cells #[b] t2)).alloc (.cells #[c] t3)
  have h2 := Boxed.new (w.alloc (.cells #[a] t1)) t2 b
  rw [World.size_alloc] at h2
  have h3 := Boxed.new ((w.alloc (.cells #[a] t1)).alloc (.cells #[b] t2)) t3 c
  rw [World.size_alloc, World.size_alloc] at h3
  exact ⟨h1, h2.alloc _, h3⟩
theorem whole (y : ByteArray) : y.extract 0 y.size = y := by simp
theorem pairsC (x y : ByteArray) (n : Nat) (w : World) (hn : n = min x.size y.size) (hx : x.size ≤ 1099511627776) (hy : y.size ≤ 1099511627776) :
    Calls Try.prog 78 #[.string x, .string y] w (PairsOut w x y n) := by
  have hnx : n ≤ x.size := by omega
  have hny : n ≤ y.size := by omega
  have hcase : (y.size < x.size ∧ n = y.size) ∨ (¬ y.size < x.size ∧ n = x.size) := by omega
  clear hn
  have hB := fun a b c => ((((Below.refl w.heap.size w).alloc (Nat.le_refl _) (.cells #[a] 9)).alloc (by simp) (.cells #[b] 9)).alloc (by simp; omega) (.cells #[c] 3)).drew
  rcases hcase with ⟨h1, hne⟩ | ⟨h1, hne⟩
  · subst hne
    go_enter Try.func78, Try.ntmps78
    go_wp2
    go_region
    all_goals go_wp2
    all_goals go_ret
    obtain ⟨b1, b2, b3⟩ := three_boxes w (.string (x.extract 0 y.size)) (.string y) (.int .i64 y.size) 9 9 3
    exact ⟨rfl, hB _ _ _, by simp [World.drew], b1, by rw [whole]; exact b2, b3⟩
  · subst hne
    go_enter Try.func78, Try.ntmps78
    go_wp2
    go_region
    all_goals go_wp2
    all_goals go_ret
    obtain ⟨b1, b2, b3⟩ := three_boxes w (.string x) (.string (y.extract 0 x.size)) (.int .i64 x.size) 9 9 3
    exact ⟨rfl, hB _ _ _, by simp [World.drew], by rw [whole]; exact b1, b2, b3⟩

def Keeps3 (B : Nat) (W W' : World) : Prop := ∀ k, B ≤ k → k < B + 3 → W'.heap[k]? = W.heap[k]?
abbrev Tells2 (P : Program) (g : Nat) (lb : Array Value) (B : Nat) (zs : List (U16 × U16)) (w : World) : Prop :=
  SeqStopsK Fence.wide 3 P g lb (fun x : U16 × U16 => #[Value.int .u16 x.1.1, Value.int .u16 x.2.1]) (Keeps3 B) (fun xs => xs = zs) (fun _ => True) zs.length w
theorem Keeps3.boxed {B k : Nat} {W W' : World} {t : TypeId} {v : Value} (h : Keeps3 B W W') (h1 : B ≤ k) (h2 : k < B + 3) (hb : Boxed W k t v) : Boxed W' k t v := (h k h1 h2).trans hb

theorem yield_all {m : Nat} {P : Program} {l : Nat} {args : Array Value} {W : World} {R R' : Nat → Ending → World → Prop} (h : ∀ q, YieldAt Fence.wide m P l args (W.drewN q) (R q)) (hR : ∀ q e w, R q e w → R' q e w) :
    ∃ (fn : Nat → FuncId) (tmps : Nat → Array Value) (assign body : Nat → Code), (∀ q, (Instr.yield l args).run P (W.drewN q) = .ok (.round l (fn q) (tmps q) (assign q) (body q)) (W.drewN q)) ∧
      ∀ q, RoundIn Fence.wide m P l (fn q) (tmps q) (assign q) (body q) (W.drewN q) (R' q) := by
  have h' : ∀ q, ∃ x : FuncId × Array Value × Code × Code, (Instr.yield l args).run P (W.drewN q) = .ok (.round l x.1 x.2.1 x.2.2.1 x.2.2.2) (W.drewN q) ∧ RoundIn Fence.wide m P l x.1 x.2.1 x.2.2.1 x.2.2.2 (W.drewN q) (R' q) := fun q => by
    obtain ⟨fn, tmps, assign, body, h1, h2⟩ := h q
    exact ⟨(fn, tmps, assign, body), h1, h2.mono (hR q)⟩
  obtain ⟨f, hf⟩ := Classical.axiomOfChoice h'
  exact ⟨fun q => (f q).1, fun q => (f q).2.1, fun q => (f q).2.2.1, fun q => (f q).2.2.2, fun q => (hf q).1, fun q => (hf q).2⟩
def Out2 (J Jx : List (U16 × U16) → World → Prop) (B : Nat) (xs : List (U16 × U16)) (W1 : World) (b : Bool) (W' : World) : Prop :=
  (b = true ∧ J xs W' ∧ Keeps3 B W1 W') ∨ (b = false ∧ Jx xs W')
theorem out2_of {J Jx : List (U16 × U16) → World → Prop} {B : Nat} {xs : List (U16 × U16)} {W1 : World} {e : Ending} {W' : World}
    (h : (e = .returned (.bool true) ∧ J xs W' ∧ Keeps3 B W1 W') ∨ (e = .returned (.bool false) ∧ Jx xs W')) : ∃ b, e = .returned (.bool b) ∧ Out2 J Jx B xs W1 b W' := by
  rcases h with ⟨h1, h2⟩ | ⟨h1, h2⟩
  · exact ⟨true, h1, .inl ⟨rfl, h2⟩⟩
  · exact ⟨false, h1, .inr ⟨rfl, h2⟩⟩
theorem wordAtQ (s : ByteArray) (k : Nat) (w : World) (h : s.size ≤ 1099511627776 ∧ k < s.size) :
    Calls Try.prog 84 #[.string s, .int .i64 k] w (Quiet (.int .u16 (wd (L s) k)) w) := wordAt_in s k w h.1 h.2

set_option maxRecDepth 100000 in
set_option maxHeartbeats 2000000 in
theorem pairsTells (B n : Nat) (X Y : ByteArray) (w : World) (hX : X.size = n) (hY : Y.size = n) (hn : n ≤ 1099511627776) (hsz : B + 3 ≤ w.heap.size)
    (b1 : Boxed w B 9 (.string X)) (b2 : Boxed w (B + 1) 9 (.string Y)) (b3 : Boxed w (B + 2) 3 (.int .i64 n)) :
    Tells2 Try.prog 85 #[.pointer (some ⟨B + 2, 0, none⟩), .pointer (some ⟨B, 0, none⟩), .pointer (some ⟨B + 1, 0, none⟩)] B (prs (L X) (L Y) ((n + 1) / 2)) w := fun l J Jx W hW hJ hJx hY' h0 => by
  have k0 : Keeps3 B w W := fun k h1 h2 => hW.block k (by omega)
  have c1 := k0.boxed (by omega) (by omega) b1
  have c2 := k0.boxed (by omega) (by omega) b2
  have c3 := k0.boxed (by omega) (by omega) b3
  have hmx : Try.prog.follows .mixedOrders = true := by kernel_rfl
  rw [prs_len] at hY'
  have HX := Lib.hid hX
  have HY := Lib.hid hY
  have C1 := Lib.hid c1
  have C2 := Lib.hid c2
  have C3 := Lib.hid c3
  clear hX hY b1 b2 b3 c1 c2 c3 k0 hW
  refine callsIn_of_wp Try.func85 rfl trivial ?_ rfl
  simp only [Try.ntmps85, List.size_toArray, List.length_cons, List.length_nil, Nat.reduceAdd, Nat.reduceSub, Array.replicate_succ, Array.replicate_zero, List.push_toArray, List.append_toArray, List.nil_append, List.cons_append]
  gi_wp2
  gi_loopw [5] (fun i wr => ∃ j : Nat, j ≤ n + 1 ∧ Hid (j % 2 = 0) ∧ i = .int .i64 j ∧ J (prs (L X) (L Y) (j / 2)) wr ∧ Keeps3 B W wr)
    (fun i _ => n + 1 - (intOf i).toNat)
  case atStart => exact ⟨0, by omega, rfl, rfl, h0, fun _ _ _ => rfl⟩
  case round =>
    obtain ⟨j, hj, hm, rfl, hJs, hk⟩ := hrel
    have b1 := hk.boxed (by omega) (by omega) C1.out
    have b2 := hk.boxed (by omega) (by omega) C2.out
    have b3 := hk.boxed (by omega) (by omega) C3.out
    have d1 := b1.cell
    have d2 := b2.cell
    have d3 := b3.cell
    by_cases hlt : j < n
    · have hw1 := wd_bd (L X) j
      have hw2 := wd_bd (L Y) j
      have hnext : Hid (prs (L X) (L Y) ((j + 2) / 2) = prs (L X) (L Y) (j / 2) ++ [(⟨wd (L X) j, hw1⟩, ⟨wd (L Y) j, hw2⟩)]) := by
        show _ = _
        rw [show (j + 2) / 2 = j / 2 + 1 by omega]
        have e : 2 * (j / 2) = j := by have := hm.out; omega
        simp only [prs, e]
      have f1 : X.size ≤ 1099511627776 ∧ j < X.size := ⟨by have := HX.out; omega, by have := HX.out; omega⟩
      have f2 : Y.size ≤ 1099511627776 ∧ j < Y.size := ⟨by have := HY.out; omega, by have := HY.out; omega⟩
      have hall := yield_all (W := wr) (fun q => hY' _ (⟨wd (L X) j, hw1⟩, ⟨wd (L Y) j, hw2⟩) (wr.drewN q) (abide_drewN hJ hJs q) (by rw [prs_len]; have := hm.out; omega))
        (R' := fun q e W' => ∃ b, e = .returned (.bool b) ∧ Out2 J Jx B (prs (L X) (L Y) (j / 2) ++ [(⟨wd (L X) j, hw1⟩, ⟨wd (L Y) j, hw2⟩)]) wr b W') (fun q e W' h => out2_of h)
      obtain ⟨fn, tmps, assign, body, hy, hR⟩ := hall
      dsimp only at hy
      clear b1 b2 b3
      gi_wp2
      gi_region_with_o (first
        | (refine ⟨trivial, ?_⟩; gi_at_call 84; refine (callsIn_wide.2 (wordAtQ _ _ _ (by first | exact f1 | exact f2))).mono ?_; rintro e w' ⟨rfl, nq, rfl⟩)
        | (refine (hR _).mono ?_; rintro e W3 ⟨b3, rfl, hO⟩))
      all_goals
        rcases hO with ⟨rfl, hJ3, hk3⟩ | ⟨rfl, hJx3⟩
        · gi_wp2
          go_roundw
          case rel => exact ⟨j + 2, by omega, by show _ = _; have := hm.out; omega, by go_num, by rw [hnext.out]; exact hJ3, fun k h1 h2 => (hk3 k h1 h2).trans (hk k h1 h2)⟩
          case measure => simp [intOf]; omega
        · gi_wp2
          refine bodyPost_ret (results_none rfl _ _ _) rfl ?_
          exact ⟨⟨_, rfl⟩, .inr ⟨_, trivial, hJx3⟩⟩
    · have hend : Hid (prs (L X) (L Y) (j / 2) = prs (L X) (L Y) ((n + 1) / 2)) := by show _ = _; have := hm.out; rw [show j / 2 = (n + 1) / 2 by omega]
      gi_wp2
      go_end0
      exact ⟨⟨_, rfl⟩, .inl ⟨_, hend.out, hJs⟩⟩
end Go.Proofs.Ytafckmbgefbonaa.su

namespace Go.Proofs.Ytafckmbgefbonaa.su
open Go.RowKit Go.Shelf Go.Proofs.Ytafckmbgefbonaa.sm Go.Proofs.Ytafckmbgefbonaa.nb
set_option linter.unusedVariables false
attribute [local go_sem] Oper.semAt_some

theorem take_snoc' (zs : List U16) (k : Nat) (h : k < zs.length) : zs.take (k + 1) = zs.take k ++ [zs[k]] := by
  rw [List.take_succ_eq_append_getElem h]

set_option maxRecDepth 100000 in
set_option maxHeartbeats 2000000 in
theorem valuesTells (Bs n₀ b off cap : Nat) (zs : List U16) (hlen : zs.length ≤ 1000) (hb : b < n₀) (w : World) (hn : n₀ ≤ w.heap.size) (hBs : Bs < w.heap.size)
    (hS : w.cell? ⟨Bs, 0, none⟩ = some (.slice (some ⟨b, off, none⟩) zs.length cap)) (hc : ∀ j (h : j < zs.length), w.cell? ⟨b, off + j, none⟩ = some (.int .u16 (zs[j]).1)) :
    Tells Try.prog 86 #[.pointer (some ⟨Bs, 0, none⟩)] n₀ (tot zs) zs.length w := fun l J Jx W hW _ _ hY h0 => by
  have hS' := (hW.cell (p := ⟨Bs, 0, none⟩) hBs).trans hS
  have hnW : n₀ ≤ W.heap.size := Nat.le_trans hn hW.size
  have hc' : ∀ j (h : j < zs.length), W.cell? ⟨b, off + j, none⟩ = some (.int .u16 (zs[j]).1) := fun j h => (hW.cell (p := ⟨b, off + j, none⟩) (by show b < _; omega)).trans (hc j h)
  clear hS hc hW
  refine callsIn_of_wp Try.func86 rfl trivial ?_ rfl
  simp only [Try.ntmps86, List.size_toArray, List.length_cons, List.length_nil, Nat.reduceAdd, Nat.reduceSub, Array.replicate_succ, Array.replicate_zero, List.push_toArray, List.append_toArray, List.nil_append, List.cons_append]
  have HC := Lib.hid hc'; clear hc'
  gi_wp2
  gi_loopw [7] (fun i wr => ∃ k : Nat, k ≤ zs.length ∧ i = .int .i64 k ∧ J (zs.take k) wr ∧ Below n₀ W wr)
    (fun i _ => zs.length - (intOf i).toNat)
  case atStart => exact ⟨0, Nat.zero_le _, rfl, h0, Below.refl _ _⟩
  case round =>
    obtain ⟨k, hk, rfl, hJs, hnx⟩ := hrel
    by_cases hlt : k < zs.length
    · obtain ⟨fn, tmps, assign, body, hy, hR⟩ := hY _ (zs[k]) wr hJs (by simp; omega)
      have hcx := (hnx.cell (p := ⟨b, off + k, none⟩) hb).trans (HC.out k hlt)
      have ht := Lib.hid (take_snoc' zs k hlt)
      gi_wp2
      refine hR.mono ?_
      rintro e W3 (⟨rfl, hJ3, hk3⟩ | ⟨rfl, hJx3⟩)
      · gi_wp2
        go_roundw
        case rel => exact ⟨k + 1, by omega, by simp, by rw [ht.out]; exact hJ3, hnx.trans hk3⟩
        case measure => simp [intOf]; omega
      · gi_wp2
        refine bodyPost_ret (results_none rfl _ _ _) rfl ?_
        exact ⟨⟨_, rfl⟩, .inr ⟨_, trivial, hJx3⟩⟩
    · obtain rfl : k = zs.length := by omega
      gi_wp2
      go_end0
      exact ⟨⟨_, rfl⟩, .inl ⟨_, by rw [List.take_length], hJs⟩⟩
set_option maxHeartbeats 1000000 in
theorem valuesC (a : Option Addr) (len cap : Nat) (w : World) :
    Calls Try.prog 81 #[.slice a len cap] w fun e w' => e = .returned (.func (.func 86) #[] #[.pointer (some ⟨w.heap.size, 0, none⟩)]) ∧ w' = w.alloc (.cells #[.slice a len cap] 131) := by
  go_enter Try.func81, Try.ntmps81
  go_wp2
  go_ret
  exact ⟨rfl, rfl⟩

theorem valuesSum (xs : Array Value) (zs : List U16) (t2 : TypeId) (hz : zs.length ≤ 1000) (hxs : ∀ j (h : j < zs.length), xs[j]? = some (.int .u16 (zs[j]).1)) (n : Nat) (hn : n = zs.length) (w : World) :
    Calls Try.prog 62 #[.func (.func 86) #[] #[.pointer (some ⟨w.heap.size + 1, 0, none⟩)]]
      ((w.alloc (.cells xs 23)).alloc (.cells #[.slice (some ⟨w.heap.size, 0, none⟩) n n] 131)) fun e w' => e = .returned (.int .u16 (ck (tot zs))) ∧ Below w.heap.size w w' := by
  subst hn
  have hT := tot_bd zs
  refine (checksum_in 86 (enters_of Try.func86 (by kernel_rfl) rfl) _ (tot zs) zs.length (by omega) _
    (valuesTells (w.heap.size + 1) _ w.heap.size 0 zs.length zs hz (by simp; omega) _ (Nat.le_refl _) (by simp) ?_ ?_) hT.1 hT.2).mono ?_
  · have := Boxed.new (w.alloc (.cells xs 23)) 131 (.slice (some ⟨w.heap.size, 0, none⟩) zs.length zs.length)
    rw [World.size_alloc] at this
    exact this.cell
  · intro j hj
    have h1 : (w.alloc (.cells xs 23)).cell? ⟨w.heap.size, 0 + j, none⟩ = some (.int .u16 (zs[j]).1) := by
      rw [Nat.zero_add]
      simp only [World.cell?, World.alloc_heap_new]
      exact hxs j hj
    exact ((Below.refl _ (w.alloc (.cells xs 23))).alloc (Nat.le_refl _) _).cell (p := ⟨w.heap.size, 0 + j, none⟩) (by simp) |>.trans h1
  · rintro e w' ⟨rfl, hb⟩
    exact ⟨rfl, (((Below.refl w.heap.size w).alloc (Nat.le_refl _) _).alloc (by simp) _).trans (hb.mono (by simp; omega))⟩

theorem joinC (a b : Int) (w : World) (ha : 0 ≤ a ∧ a ≤ 65535) (hb : 0 ≤ b ∧ b ≤ 65535) :
    Calls Try.prog 61 #[.int .u16 a, .int .u16 b] w fun e w' => e = .returned (.int .u16 (ck (131070 - a - b))) ∧ Below w.heap.size w w' := by
  have qa := flip16 a ha
  have qb := flip16 b hb
  have hV := fun (w : World) => valuesSum #[.int .u16 (65535 - a), .int .u16 (65535 - b)] [⟨65535 - a, by omega⟩, ⟨65535 - b, by omega⟩] 0 (by simp)
    (fun j hj => by match j, hj with | 0, _ => rfl | 1, _ => rfl | j + 2, h => (simp only [List.length_cons, List.length_nil] at h; omega)) 2 rfl w
  have HE := Lib.hid (show ck (tot [⟨65535 - a, by omega⟩, ⟨65535 - b, by omega⟩]) = ck (131070 - a - b) by unfold tot tot tot; congr 1; dsimp only; omega)
  go_enter Try.func61, Try.ntmps61
  go_wp2_with (fail)
  refine (valuesC _ _ _ _).mono ?_
  rintro e w1 ⟨rfl, rfl⟩
  go_wp2_with (fail)
  refine (hV w).mono ?_
  rintro e w1 ⟨rfl, hb1⟩
  rw [HE.out]
  go_wp2
  go_ret
  exact ⟨rfl, hb1⟩
end Go.Proofs.Ytafckmbgefbonaa.su

namespace Go.Proofs.Ytafckmbgefbonaa.su
open Go.RowKit Go.Shelf Go.Proofs.Ytafckmbgefbonaa.sm Go.Proofs.Ytafckmbgefbonaa.nb
set_option linter.unusedVariables false
attribute [local go_sem] Oper.semAt_some

theorem turnC (a b c : Int) (w : World) (ha : 0 ≤ a ∧ a ≤ 65535) (hb : 0 ≤ b ∧ b ≤ 65535) (hc : 0 ≤ c ∧ c ≤ 65535) :
    Calls Try.prog 79 #[.int .u16 a, .int .u16 b, .int .u16 c] w fun e w' => e = .returned (.int .u16 (turn a b c)) ∧ Below w.heap.size w w' := by
  have qa := flip16 a ha
  have qb := flip16 b hb
  have hV := fun (w : World) => valuesSum #[.int .u16 (65535 - a), .int .u16 (65535 - b), .int .u16 c] [⟨65535 - a, by omega⟩, ⟨65535 - b, by omega⟩, ⟨c, hc⟩] 0 (by simp)
    (fun j hj => by match j, hj with | 0, _ => rfl | 1, _ => rfl | 2, _ => rfl | j + 3, h => (simp only [List.length_cons, List.length_nil] at h; omega)) 3 rfl w
  have HE := Lib.hid (show ck (tot [⟨65535 - a, by omega⟩, ⟨65535 - b, by omega⟩, ⟨c, hc⟩]) = turn a b c by unfold turn tot tot tot tot; congr 1; dsimp only; omega)
  go_enter Try.func79, Try.ntmps79
  go_wp2_with (fail)
  refine (valuesC _ _ _ _).mono ?_
  rintro e w1 ⟨rfl, rfl⟩
  go_wp2_with (fail)
  refine (hV w).mono ?_
  rintro e w1 ⟨rfl, hb1⟩
  rw [HE.out]
  go_wp2
  go_ret
  exact ⟨rfl, hb1⟩
end Go.Proofs.Ytafckmbgefbonaa.su

namespace Go.Proofs.Ytafckmbgefbonaa.su
open Go.RowKit Go.Shelf Go.Proofs.Ytafckmbgefbonaa.sm Go.Proofs.Ytafckmbgefbonaa.nb
set_option linter.unusedVariables false
attribute [local go_sem] Oper.semAt_some

theorem below_boxed {B k : Nat} {W W' : World} {t : TypeId} {v : Value} (h : Below B W W') (hk : k < B) (hb : Boxed W k t v) : Boxed W' k t v := (h.block k hk).trans hb
theorem keepsFrom_below {B : Nat} {W W' : World} (h : Below W.heap.size W W') : KeepsFrom B W W' :=
  ⟨h.size, fun k o _ hk _ => (h.block k (Array.getElem?_eq_some_iff.1 hk).1).trans hk⟩
set_option maxRecDepth 100000 in
set_option maxHeartbeats 2000000 in
theorem turnsC (c : Int) (x y : ByteArray) (n : Nat) (w : World) (hc : 0 ≤ c ∧ c ≤ 65535) (hn : n = min x.size y.size) (hx : x.size ≤ 1099511627776) (hy : y.size ≤ 1099511627776) :
    Calls Try.prog 52 #[.int .u16 c, .string x, .string y] w fun e w' => e = .returned (.int .u16 (turns c (L (x.extract 0 n)) (L (y.extract 0 n)) ((n + 1) / 2))) ∧ Below w.heap.size w w' := by
  have hP := Lib.hid (fun (W : World) => pairsC x y n W hn hx hy)
  have hsx := Lib.hid (size_take x n (by omega))
  have hsy := Lib.hid (size_take y n (by omega))
  have hnb : n ≤ 1099511627776 := by omega
  have hbd := Lib.hid (fun l => turnsL_bd c hc l)
  clear hn
  refine (callsIn_wide (n := 4)).1 ?_
  refine callsIn_of_wp_marks Try.func52 rfl trivial ?_ rfl
  simp only [Try.ntmps52, List.size_toArray, List.length_cons, List.length_nil, Nat.reduceAdd, Nat.reduceSub, Array.replicate_succ, Array.replicate_zero, List.push_toArray, List.append_toArray, List.nil_append, List.cons_append]
  gi_wp2_with (refine ⟨trivial, ?_⟩; gi_at_call 78; refine (callsIn_wide.2 (hP.out _)).mono ?_; rintro e w1 ⟨rfl, hb1, hz1, x1, x2, x3⟩)
  have bS := Boxed.new w 23 (.int .u16 c)
  rw [World.size_alloc] at hb1 hz1 x1 x2 x3
  have bS1 := below_boxed hb1 (by omega) bS
  have hB0 : Below w.heap.size w w1 := ((Below.refl _ w).alloc (Nat.le_refl _) _).trans (hb1.mono (by simp))
  have hsz : w.heap.size + 1 + 3 ≤ w1.heap.size := by omega
  refine wpIn_rangeFunc_ownG rfl (by omega) (gf := 85) (lb := #[.pointer (some ⟨w.heap.size + 1 + 2, 0, none⟩), .pointer (some ⟨w.heap.size + 1, 0, none⟩), .pointer (some ⟨w.heap.size + 1 + 1, 0, none⟩)]) rfl trivial
    (enters_of Try.func85 (by kernel_rfl) rfl)
    (pairsTells (w.heap.size + 1) n (x.extract 0 n) (y.extract 0 n) w1 hsx.out hsy.out hnb hsz x1 x2 x3)
    (fun h k i h1 h2 => (k i h1 h2).trans (h i h1 h2))
    (fun W l o o' hl _ _ _ k h1 h2 => World.putObj_heap_other (by omega))
    (Below.refl _ _) (fun _ => rfl)
    (fun pre W => Boxed W w.heap.size 23 (.int .u16 (turnsL c pre)) ∧ Below w.heap.size w W ∧ w1.heap.size ≤ W.heap.size)
    (fun _ _ _ => False)
    (OwnFrom.and (Own.from (boxed_own _ _ _) _) (OwnFrom.and (ownFrom_below (Nat.le_refl _) (by omega)) (fun _ _ _ _ hs hg _ => Nat.le_trans hs hg.size)))
    (fun _ _ _ _ _ hs _ _ => hs)
    ⟨bS1, hB0, Nat.le_refl _⟩
    (fun z => { tmps := #[.int .u16 c, .string x, .string y, .pointer (some ⟨w.heap.size, 0, none⟩), undef, undef, .int .u16 0, .int .u16 z.1.1, .int .u16 z.2.1, .string x, .string y,
      .func (.func 85) #[] #[.pointer (some ⟨w.heap.size + 1 + 2, 0, none⟩), .pointer (some ⟨w.heap.size + 1, 0, none⟩), .pointer (some ⟨w.heap.size + 1 + 1, 0, none⟩)], .int .u16 z.1.1, .int .u16 z.2.1, undef, undef, undef, undef, undef], defers := [] }) ?assign ?body ?done ?stop
  case assign =>
    intro l z W K hK
    gi_wp2
    exact hK
  case body =>
    rintro l pre z W ⟨hb, hB, hs⟩ hl
    have hcb := hb.cell
    have hz1' := z.1.2
    have hz2' := z.2.2
    have ht := hbd.out pre
    have hlt : w.heap.size < W.heap.size := by omega
    gi_wp2_with (refine ⟨trivial, ?_⟩; gi_at_call 79; refine (CallsIn.inRound l (callsIn_wide.2 (turnC _ _ _ _ ht hz1' hz2'))).mono ?_; rintro e w2 ⟨rfl, hb2⟩; have bx2 := below_boxed hb2 hlt hb; have hc2 := bx2.cell; have hf2 := bx2.frozen)
    have bx2 := below_boxed hb2 hlt hb
    refine ⟨(keepsFrom_below hb2).trans ((KeepsOthers.setCell _ _ _).from _), fun k h1 h2 => ?_, by rw [turnsL_snoc]; exact bx2.set _, (hB.trans (hb2.mono (by omega))).setCell (p := ⟨w.heap.size, 0, none⟩) (Nat.le_refl _) _, ?_⟩
    · refine Eq.trans ?_ (hb2.block k (by omega))
      exact (grownBy_setCell' _ w.heap.size _).block k (by have := hb2.size; omega) (fun e => by cases e; omega)
    · rw [World.size_setCell]; exact Nat.le_trans hs hb2.size
  case done =>
    rintro D ys W hD rfl ⟨hb, hB, hs⟩ hK
    have hcb := hb.cell
    gi_wp2
    refine ⟨by simp, .inl ⟨_, _, rfl, run_takeDeferred hK, ?_⟩⟩
    exact ⟨_, results_tmp rfl _ _ _, by rw [turnsL_prs]; rfl, hB.trans (belowK_b (w := w) (Nat.le_refl _) W D _ _ (by omega) hK rfl rfl)⟩
  case stop =>
    rintro D c pre W _ _ h _
    exact h.elim
end Go.Proofs.Ytafckmbgefbonaa.su

namespace Go.Proofs.Ytafckmbgefbonaa.su
open Go.RowKit Go.Shelf Go.Proofs.Ytafckmbgefbonaa.sm Go.Proofs.Ytafckmbgefbonaa.nb
set_option linter.unusedVariables false
attribute [local go_sem] Oper.semAt_some

theorem rightC (A : Option Addr) (len cap : Nat) (ps : List ByteArray) (hlen : ps.length = len) (hl : ps.length ≤ 1099511627776) (hsz : (cat ps).length ≤ 1099511627776) (w : World) (ht : Txt w A ps) :
    Calls Try.prog 69 #[.slice A len cap] w fun e w' => e = .returned (.bool (ck (wsum (cat ps)) == 0)) ∧ Below w.heap.size w w' := by
  have hc := Lib.hid (ofC A len cap ps hlen hl hsz w ht)
  go_enter Try.func69, Try.ntmps69
  go_wp2_with (fail)
  refine hc.out.mono ?_
  rintro e w1 ⟨rfl, hb1⟩
  go_wp2
  go_ret
  exact ⟨rfl, hb1⟩
end Go.Proofs.Ytafckmbgefbonaa.su
