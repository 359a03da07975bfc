/- The law of times, sums and the least. Condition: the numbers fit. -/
import Derived.Test.YtebihfojebdfbaaClkE
import Derived.Laws.AppendOwnNone
namespace Go.Proofs.Ytebihfojebdfbaa.ck
open Go.RowKit Go.Shelf Go.Lib Go.Proofs.Ytebihfojebdfbaa.nb
set_option linter.unusedVariables false

/-- an operation whose guard holds runs as one without a guard -/
theorem list_on {P : Program} {ops : Array Oper} {rest : List Oper} {o : Oper} {a : Act} {Q : Exit → Act → World → Prop} {w : World} (hw : Region.wanted o (yielded ops a.tmps) = true) (h : wpList P ops Q ({ o with guard := none } :: rest) a w) : wpList P ops Q (o :: rest) a w := by
  simp only [wpList] at h ⊢
  rw [if_pos hw]
  rw [if_pos (show Region.wanted { o with guard := none } (yielded ops a.tmps) = true from rfl)] at h
  exact h
theorem infoI : (Try.prog.info? 2).map (fun i => (i.zero, i.size, i.bytes)) = some (some (.int .i64 0), 1, 8) := by kernel_rfl
/-- a row's copy: 'append' of it to nil -/
theorem copyI {ops : Array Oper} {rest : List Oper} {o : Oper} {a : Act} {Q : Exit → Act → World → Prop} {w : World} (x : Operand) (hw : Region.wanted o (yielded ops a.tmps) = true)
    (ho : o.op = .call { callee := .builtin .append, args := #[.const (.slice none 0 0), x], argTypes := #[22, 22] }) (A : Option Addr) (n c : Nat) (xs : List Int) (hx : a.eval x = .slice A n c) (hA : A = none → n = 0 ∧ c = 0) (hr : RdI w A xs) (hn : xs.length = n) (hm : n ≤ 1000)
    (h : ∀ A' c' w', RdI w' A' xs → Up w w' → wpList Try.prog ops Q rest (a.put o.dst (.slice A' n c')) w') : wpList Try.prog ops Q (o :: rest) a w := by
  obtain ⟨i0, hi, hz0, hz1, hz2⟩ := info_parts infoI
  refine list_on hw ?_
  have hnil := World.ownsRow_nil w w.heap.size 2 1
  cases A with
  | none =>
    obtain ⟨rfl, rfl⟩ := hA rfl
    obtain rfl : xs = [] := List.eq_nil_of_length_eq_zero hn
    refine wpList_append_own_none rfl (.const (.slice none 0 0)) x 22 ho w.heap.size 2 i0 1 Try.underlying22 hi (.slice none 0 0) 0 [] rfl hnil hx ?_
    exact h none 0 w (fun h0 => absurd rfl h0) (Below.refl _ _)
  | some ad =>
    refine wpList_append_own w rfl (.const (.slice none 0 0)) x 22 ho w.heap.size 2 i0 (.int .i64 0) 1 8 Try.underlying22 hi hz0 hz1 hz2 rfl (by decide) (.slice none 0 0) 0 [] rfl hnil ad n c (xs.map (.int .i64 ·)) hx (by rw [List.length_map, hn, Nat.mul_one]) ?_ ?_ (by unfold maxLen; omega) (by omega) (Nat.le_refl _) ?_
    · intro j u hj
      rw [List.getElem?_map] at hj
      cases hq : xs[j]? with
      | none => rw [hq] at hj; cases hj
      | some y =>
        rw [hq] at hj
        obtain ⟨hk, e⟩ := List.getElem?_eq_some_iff.1 hq
        obtain ⟨g, off, y', hA', hc, hy⟩ := hr.at_ hk
        cases hA'
        rw [hq] at hy
        cases hy; cases hj
        rw [show (⟨g, off, none⟩ : Addr).add j = ⟨g, off + j, none⟩ by unfold Addr.add; split <;> simp_all]
        exact hc
    · intro u hu
      obtain ⟨y, _, rfl⟩ := List.mem_map.1 hu
      rfl
    · intro v' w' ho' hg _
      rw [Nat.zero_add, List.nil_append] at ho'
      have hb : Up w w' := (Below.refl w.heap.size w).grown hg (Nat.le_refl _) (fun k hk => (hnil.lt k hk).1)
      have hRd : ∀ g, v'.ownBlock = some g → g < w'.heap.size → RdI w' (some ⟨g, 0, none⟩) xs := fun g hgb hgl h0 => ⟨g, 0, rfl, hgl, fun k hk => by
        have := ho'.cells hgb k (.int .i64 (xs.getD k 0)) (by rw [List.getElem?_map, List.getElem?_eq_getElem hk, List.getD_eq_getElem?_getD, List.getElem?_eq_getElem hk]; rfl)
        rw [show (⟨g, 0, none⟩ : Addr).add k = ⟨g, 0 + k, none⟩ by unfold Addr.add; split <;> simp_all] at this
        exact this⟩
      rcases own_form ho' with ⟨rfl, h0⟩ | ⟨g, cap, rfl, _, hgl, _, _⟩
      · obtain rfl : xs = [] := List.eq_nil_of_length_eq_zero (by omega)
        subst h0
        exact h none 0 w' (fun h0 => absurd rfl h0) hb
      · exact h _ cap w' (hRd g rfl hgl) hb

set_option maxHeartbeats 8000000 in
set_option maxRecDepth 100000 in
theorem lawTells (t b : Int) (A : Option Addr) (n c : Nat) (xs : List Int) (w : World) (ht : I64 t) (hb : I64 b) (hA : A = none → n = 0 ∧ c = 0) (hr : RdI w A xs) (hn : xs.length = n) (hm : n ≤ maxLen) :
    Calls Try.prog 3 #[.int .i64 t, .int .i64 b, .slice A n c] w fun e w' => e = .returned (.bool true) ∧ Up w w' := by
  have hn2 : n ≤ 9223372036854775807 := by unfold maxLen at hm; omega
  have HR := Lib.hid hr; have HN := Lib.hid hn; have HM := Lib.hid hm; have HI := Lib.hid hA
  clear hr hn hm hA
  by_cases cn : n ≤ 1000
  case neg =>
    go_enter Try.func3, Try.ntmps3
    go_wp2_with fail
    refine (works _).mono ?_
    rintro e w1 ⟨rfl, u1⟩
    go_wp2
    go_ret
    exact ⟨rfl, u1⟩
  have HA := Lib.hid (fun w => goAdd t b w ht hb)
  have HB := Lib.hid (fun w => refAdd t b w ht hb)
  have HC := Lib.hid (fun w => goMay t w)
  have HD := Lib.hid (fun w => refMay t w)
  generalize (addV t b).2 = k at *
  generalize (addV t b).1 = s at *
  generalize mayB t = m at *
  go_enter Try.func3, Try.ntmps3
  go_wp2_with fail
  refine (HA.out _).mono ?_
  rintro e w' ⟨rfl, rfl⟩
  go_wp2_with fail
  refine (HB.out _).mono ?_
  rintro e w' ⟨rfl, rfl⟩
  go_wp2_with fail
  refine (HC.out _).mono ?_
  rintro e w' ⟨rfl, rfl⟩
  go_wp2_with fail
  refine (HD.out _).mono ?_
  rintro e w' ⟨rfl, rfl⟩
  go_wp2_with (at_builtin; refine copyI (.tmp 43) rfl rfl A n c xs rfl HI.out HR.out HN.out cn ?_; intro A2 c2 w2 hr2 u2)
  refine (goLeast A2 n c2 xs _ hr2 HN.out HM.out).mono ?_
  rintro e w3 ⟨rfl, u3⟩
  have u4 := u2.on u3
  go_wp2_with fail
  refine (refLeast A n c xs _ (HR.out.up u4) HN.out HM.out).mono ?_
  rintro e w5 ⟨rfl, u5⟩
  have u6 := u4.on u5
  go_wp2_with fail
  refine (works _).mono ?_
  rintro e w7 ⟨rfl, u7⟩
  have u8 := u6.on u7
  go_wp2
  go_ret
  exact ⟨rfl, u8⟩
end Go.Proofs.Ytebihfojebdfbaa.ck
