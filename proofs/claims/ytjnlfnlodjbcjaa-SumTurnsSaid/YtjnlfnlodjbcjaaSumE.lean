/- Package sum: Of, Right; the document's Turns. Condition: the parts are together at most 2^40 bytes. -/
import Derived.Test.YtjnlfnlodjbcjaaSumD
namespace Go.Proofs.Ytjnlfnlodjbcjaa.su
open Go.RowKit Go.Shelf Go.Proofs.Ytjnlfnlodjbcjaa.sm
set_option linter.unusedVariables false
attribute [local go_sem] Oper.semAt_some

set_option maxRecDepth 100000 in
set_option maxHeartbeats 2000000 in
/-- the closure of words, of no parts -/
theorem wordsTells0 (Bs n₀ cap : Nat) (A : Option Addr) (w : World) (hBs : Bs < w.heap.size) (hS : w.cell? ⟨Bs, 0, none⟩ = some (.slice A 0 cap)) :
    Tells Try.prog 23 #[.pointer (some ⟨Bs, 0, none⟩)] n₀ 0 0 w := fun l J Jx W hW hJ hJx hY h0 => by
  have hS' := (hW.cell (p := ⟨Bs, 0, none⟩) hBs).trans hS
  have s1 : ByteArray.empty.toList.isEmpty = true := emp_t rfl
  refine callsIn_of_wp Try.func23 rfl trivial ?_ rfl
  simp only [Try.ntmps23, List.size_toArray, List.length_cons, List.length_nil, Nat.reduceAdd, Nat.reduceSub, Array.replicate_succ, Array.replicate_zero, List.push_toArray, List.append_toArray, List.nil_append, List.cons_append]
  gi_wp2
  gi_loopw [3, 8] (fun al i wr => al = .string ByteArray.empty ∧ i = .int .i64 0 ∧ J [] wr) (fun _ _ _ => 0)
  case atStart => exact ⟨rfl, rfl, h0⟩
  case round =>
    obtain ⟨rfl, rfl, hJs⟩ := hrel
    gi_wp2
    go_end0
    exact ⟨⟨_, rfl⟩, .inl ⟨_, rfl, hJs⟩⟩

theorem wordsC (A : Option Addr) (len cap : Nat) (w : World) :
    Calls Try.prog 18 #[.slice A len cap] w fun e w' => e = .returned (.func (.func 23) #[] #[.pointer (some ⟨w.heap.size, 0, none⟩)]) ∧ w' = w.alloc (.cells #[.slice A len cap] 22) := by
  go_enter Try.func18, Try.ntmps18
  go_wp2
  go_ret
  exact ⟨rfl, rfl⟩

/-- texts as they lie in a world -/
def Txt (w : World) (A : Option Addr) (ps : List ByteArray) : Prop :=
  ps ≠ [] → ∃ b off, A = some ⟨b, off, none⟩ ∧ b < w.heap.size ∧ ∀ j (h : j < ps.length), w.cell? ⟨b, off + j, none⟩ = some (.string (ps[j]))

theorem sumC (A : Option Addr) (len cap : Nat) (ps : List ByteArray) (hlen : ps.length = len) (hl : ps.length ≤ 1099511627776) (hsz : (cat ps).length ≤ 1099511627776) (w : World) (ht : Txt w A ps) :
    Calls Try.prog 17 #[.func (.func 23) #[] #[.pointer (some ⟨w.heap.size, 0, none⟩)]] (w.alloc (.cells #[.slice A len cap] 22))
      fun e w' => e = .returned (.int .u16 (ck (wsum (cat ps)))) ∧ Below w.heap.size w w' := by
  subst hlen
  have eg := fun args w => enters_of (P := Try.prog) Try.func23 (by kernel_rfl) rfl args w
  have hbx := (Boxed.new w 22 (.slice A ps.length cap)).cell
  have hT := wsum_bd (cat ps)
  have hB0 : Below w.heap.size w (w.alloc (.cells #[.slice A ps.length cap] 22)) := (Below.refl _ w).alloc (Nat.le_refl _) _
  by_cases h0 : ps = []
  · subst h0
    refine (checksum_in 23 eg _ 0 0 (by omega) _ (wordsTells0 w.heap.size _ cap A _ (by simp) hbx) (by omega) (by omega)).mono ?_
    rintro e w' ⟨rfl, hb⟩
    exact ⟨rfl, hB0.trans (hb.mono (by simp))⟩
  · obtain ⟨b, off, rfl, hb, hc⟩ := ht h0
    refine (checksum_in 23 eg _ (wsum (cat ps)) (cat ps).length (by omega) _
      (wordsTells w.heap.size _ b off cap ps hl hsz (by simp; omega) _ (Nat.le_refl _) (by simp) hbx (fun j hj => (hB0.cell (p := ⟨b, off + j, none⟩) hb).trans (hc j hj))) hT.1 hT.2).mono ?_
    rintro e w' ⟨rfl, hb⟩
    exact ⟨rfl, hB0.trans (hb.mono (by simp))⟩

theorem ofC (A : Option Addr) (len cap : Nat) (ps : List ByteArray) (hlen : ps.length = len) (hl : ps.length ≤ 1099511627776) (hsz : (cat ps).length ≤ 1099511627776) (w : World) (ht : Txt w A ps) :
    Calls Try.prog 8 #[.slice A len cap] w fun e w' => e = .returned (.int .u16 (ck (wsum (cat ps)))) ∧ Below w.heap.size w w' := by
  have hc := Lib.hid (sumC A len cap ps hlen hl hsz w ht)
  go_enter Try.func8, Try.ntmps8
  go_wp2_with (fail)
  refine (wordsC _ _ _ _).mono ?_
  rintro e w1 ⟨rfl, rfl⟩
  go_wp2_with (fail)
  refine hc.out.mono ?_
  rintro e w1 ⟨rfl, hb1⟩
  go_wp2
  go_ret
  exact ⟨rfl, hb1⟩
theorem rightC (A : Option Addr) (len cap : Nat) (ps : List ByteArray) (hlen : ps.length = len) (hl : ps.length ≤ 1099511627776) (hsz : (cat ps).length ≤ 1099511627776) (w : World) (ht : Txt w A ps) :
    Calls Try.prog 10 #[.slice A len cap] w fun e w' => e = .returned (.bool (ck (wsum (cat ps)) == 0)) ∧ Below w.heap.size w w' := by
  have hc := Lib.hid (ofC A len cap ps hlen hl hsz w ht)
  go_enter Try.func10, Try.ntmps10
  go_wp2_with (fail)
  refine hc.out.mono ?_
  rintro e w1 ⟨rfl, hb1⟩
  go_wp2
  go_ret
  exact ⟨rfl, hb1⟩

theorem turns_next (c : Int) (X Y : List UInt8) (j : Nat) (h : j % 2 = 0) : turns c X Y ((j + 2) / 2) = turn (turns c X Y (j / 2)) (wd X j) (wd Y j) := by
  rw [show (j + 2) / 2 = j / 2 + 1 by omega]
  show turn _ (wd X (2 * (j / 2))) (wd Y (2 * (j / 2))) = _
  rw [show 2 * (j / 2) = j by omega]
theorem L_take (x : ByteArray) (n : Nat) : L (x.extract 0 n) = (L x).take n := by simp [L]
theorem size_take (x : ByteArray) (n : Nat) (h : n ≤ x.size) : (x.extract 0 n).size = n := by simp [h]
theorem refWordQ (s : ByteArray) (k : Nat) (w : World) (h : s.size ≤ 1099511627776 ∧ k < s.size) :
    Calls Try.prog 19 #[.string s, .int .i64 k] w fun e w' => e = .returned (.int .u64 (wd (L s) k)) ∧ w' = w :=
  (refWord s k w h.1 h.2).mono fun _ _ ⟨h1, h2⟩ => ⟨h1, h2.symm⟩
set_option maxHeartbeats 1000000 in
theorem refTurns_n (c : Int) (x y : ByteArray) (n : Nat) (w : World) (hc : 0 ≤ c ∧ c ≤ 65535) (hn : n = min x.size y.size) (hnn : n ≤ 1099511627776) :
    Calls Try.prog 16 #[.int .u16 c, .string x, .string y] w (Quiet (.int .u16 (turns c (L (x.extract 0 n)) (L (y.extract 0 n)) ((n + 1) / 2))) w) := by
  have hnx : n ≤ x.size := by omega
  have hny : n ≤ y.size := by omega
  have hsx := size_take x n hnx
  have hsy := size_take y n hny
  obtain ⟨X, hX⟩ : ∃ X, X = x.extract 0 n := ⟨_, rfl⟩
  obtain ⟨Y, hY⟩ : ∃ Y, Y = y.extract 0 n := ⟨_, rfl⟩
  rw [← hX] at hsx
  rw [← hY] at hsy
  rw [← hX, ← hY]
  have hx' : X.size ≤ 1099511627776 := by omega
  have hy' : Y.size ≤ 1099511627776 := by omega
  have HX := Lib.hid hsx
  have HY := Lib.hid hsy
  clear hsx hsy
  have hcase : (y.size < x.size ∧ n = y.size) ∨ (¬ y.size < x.size ∧ n = x.size) := by omega
  clear hn
  rcases hcase with ⟨h1, hne⟩ | ⟨h1, hne⟩
  all_goals
    have HN := Lib.hid hne; clear hne
    have HX2 := Lib.hid hX; clear hX
    have HY2 := Lib.hid hY; clear hY
    go_enter Try.func16, Try.ntmps16
    go_wp2
    rw [← HN.out]
    go_loopw [0, 8] (fun v i wr => ∃ (j : Nat), j ≤ n + 1 ∧ Hid (j % 2 = 0) ∧ i = .int .i64 j ∧ v = .int .u16 (turns c (L X) (L Y) (j / 2)) ∧ Hid (∃ q, wr = w.drewN q)) (fun _ i _ => n + 1 - (intOf i).toNat)
    case atStart => exact ⟨0, by omega, rfl, rfl, rfl, ⟨0, rfl⟩⟩
    case round =>
      obtain ⟨j, hj, hm, rfl, rfl, hq⟩ := hrel
      have ht := turns_bd c (L X) (L Y) hc (j / 2)
      by_cases hlt : j < n
      · have hw1 := wd_bd (L X) j
        have hw2 := wd_bd (L Y) j
        have hnx' := Lib.hid (turns_next c (L X) (L Y) j hm.out)
        have f1 : X.size ≤ 1099511627776 ∧ j < X.size := ⟨hx', by have := HX.out; omega⟩
        have f2 : Y.size ≤ 1099511627776 ∧ j < Y.size := ⟨hy', by have := HY.out; omega⟩
        have e1 : x.extract 0 n = X := HX2.out.symm
        have e2 : y.extract 0 n = Y := HY2.out.symm
        have q1 : IntKind.u16.wrap (wd (L X) j) = wd (L X) j := by rw [IntKind.wrap_u16]; omega
        have q2 : IntKind.u16.wrap (wd (L Y) j) = wd (L Y) j := by rw [IntKind.wrap_u16]; omega
        go_wp2
        go_quiet ((first
          | (go_at_call 19; exact Calls.quiet_of_same (refWordQ _ _ _ (by first | exact f1 | exact f2)))
          | (go_at_call 14; exact Calls.quiet_of_same ((refTurn _ _ _ _ ht hw1 hw2).mono fun _ _ ⟨h1, h2⟩ => ⟨h1, h2.symm⟩))))
        clear q1 q2
        go_wp2
        go_roundw
        case rel => exact ⟨j + 2, by omega, by show _ = _; have := hm.out; omega, by go_num, by rw [hnx'.out], by obtain ⟨q, e⟩ := hq.out; exact ⟨q + nq, by rw [e, World.drewN_drewN]⟩⟩
        case measure => simp [intOf]; omega
      · have hend : Hid (turns c (L X) (L Y) (j / 2) = turns c (L X) (L Y) ((n + 1) / 2)) := by show _ = _; have := hm.out; rw [show j / 2 = (n + 1) / 2 by omega]
        go_wp2
        go_ret
        exact ⟨ret_int hend.out, hq.out⟩
end Go.Proofs.Ytjnlfnlodjbcjaa.su
