/- P O A N: contracts, part 14. Condition: as each says. -/
import Derived.Test.YtkgcnmloojnblaaKPOAN3
import Derived.Test.YtkgcnmloojnblaaKPOAN13
set_option linter.unusedVariables false
set_option linter.unusedSimpArgs false
namespace Go.Proofs.Ytkgcnmloojnblaa.wlS
open Go.RowKit Go.Shelf Go.Lib Go.Proofs.Ytkgcnmloojnblaa.nb Go.Proofs.Ytkgcnmloojnblaa.wh Go.Proofs.Ytkgcnmloojnblaa.wf
set_option linter.unusedVariables false

def cmpZ (a b : Int) : Int := if a < b then -1 else if b < a then 1 else 0
theorem nanC (a : Int) (w : World) : Calls Try.prog 56 #[.int .i64 a] w fun e w' => e = .returned (.bool false) ∧ w = w' := by
  have h : (a != a) = false := by simp
  go_enter Try.func56, Try.ntmps56
  go_wp2
  go_ret
  exact ⟨rfl, rfl⟩
theorem compareC (a b : Int) (w : World) : Calls Try.prog 39 #[.int .i64 a, .int .i64 b] w fun e w' => e = .returned (.int .i64 (cmpZ a b)) ∧ w = w' := by
  by_cases h1 : a < b
  · have E := Lib.hid (show cmpZ a b = -1 by unfold cmpZ; rw [if_pos h1])
    rw [E.out]
    go_enter Try.func39, Try.ntmps39
    go_wp2_with fail
    refine (nanC _ _).mono ?_
    rintro e w' ⟨rfl, rfl⟩
    go_wp2_with fail
    refine (nanC _ _).mono ?_
    rintro e w' ⟨rfl, rfl⟩
    go_wp2
    go_ret
    exact ⟨rfl, rfl⟩
  · by_cases h2 : b < a
    · have E := Lib.hid (show cmpZ a b = 1 by unfold cmpZ; rw [if_neg h1, if_pos h2])
      rw [E.out]
      go_enter Try.func39, Try.ntmps39
      go_wp2_with fail
      refine (nanC _ _).mono ?_
      rintro e w' ⟨rfl, rfl⟩
      go_wp2_with fail
      refine (nanC _ _).mono ?_
      rintro e w' ⟨rfl, rfl⟩
      go_wp2
      go_ret
      exact ⟨rfl, rfl⟩
    · have E := Lib.hid (show cmpZ a b = 0 by unfold cmpZ; rw [if_neg h1, if_neg h2])
      rw [E.out]
      go_enter Try.func39, Try.ntmps39
      go_wp2_with fail
      refine (nanC _ _).mono ?_
      rintro e w' ⟨rfl, rfl⟩
      go_wp2_with fail
      refine (nanC _ _).mono ?_
      rintro e w' ⟨rfl, rfl⟩
      go_wp2
      go_ret
      exact ⟨rfl, rfl⟩
theorem cmpC (s : ByteArray) (a : Int) (r : ByteArray) (b : Int) (w : World) : Calls Try.prog 38 #[.agg #[.string (s), .int .i64 a], .agg #[.string (r), .int .i64 b]] w fun e w' => e = .returned (.int .i64 (cmpZ a b)) ∧ Up w w' := by
  go_enter Try.func38, Try.ntmps38
  go_wp2_with fail
  refine (compareC _ _ _).mono ?_
  rintro e w' ⟨rfl, rfl⟩
  go_wp2
  go_ret
  exact ⟨rfl, by repeat (first | exact Below.refl _ _ | apply up_al)⟩

def Rw (w : World) (g : Nat) (ds : List Tm) : Prop := g < w.heap.size ∧ ∀ k, k < ds.length → (w.cell? ⟨g, k * 2, none⟩ = some (.string ((ds.getD k d0).1)) ∧ w.frozen? ⟨g, k * 2, none⟩ = false) ∧ w.cell? ⟨g, k * 2 + 1, none⟩ = some (.int .i64 (ds.getD k d0).2) ∧ w.frozen? ⟨g, k * 2 + 1, none⟩ = false
theorem Rw.only {F : Nat → Prop} {w w' : World} {g : Nat} {ds : List Tm} (h : Rw w g ds) (o : Only F w w') (hF : ¬ F g) : Rw w' g ds :=
  ⟨Nat.lt_of_lt_of_le h.1 o.size, fun k hk => ⟨⟨(o.cell (p := ⟨g, k * 2, none⟩) h.1 hF).trans (h.2 k hk).1.1, (o.frozen (p := ⟨g, k * 2, none⟩) h.1 hF).trans (h.2 k hk).1.2⟩, (o.cell (p := ⟨g, k * 2 + 1, none⟩) h.1 hF).trans (h.2 k hk).2.1, (o.frozen (p := ⟨g, k * 2 + 1, none⟩) h.1 hF).trans (h.2 k hk).2.2⟩⟩
theorem Rw.up {w w' : World} {g : Nat} {ds : List Tm} (h : Rw w g ds) (u : Up w w') : Rw w' g ds := h.only (Only.up (F := fun _ => False) u) id
end Go.Proofs.Ytkgcnmloojnblaa.wlS

namespace Go.Proofs.Ytkgcnmloojnblaa.wlS
open Go.RowKit Go.Shelf Go.Lib Go.Proofs.Ytkgcnmloojnblaa.nb Go.Proofs.Ytkgcnmloojnblaa.wh Go.Proofs.Ytkgcnmloojnblaa.wf
set_option linter.unusedVariables false

theorem Rw.at_ {w : World} {g : Nat} {A B : List Tm} {x : Tm} (h : Rw w g (A ++ x :: B)) {k : Nat} (hk : k = A.length) : (w.cell? ⟨g, k * 2, none⟩ = some (.string (x.1)) ∧ w.frozen? ⟨g, k * 2, none⟩ = false) ∧ w.cell? ⟨g, k * 2 + 1, none⟩ = some (.int .i64 x.2) ∧ w.frozen? ⟨g, k * 2 + 1, none⟩ = false := by
  subst hk
  have := h.2 A.length (by rw [List.length_append, List.length_cons]; omega)
  rwa [getD_mid] at this
theorem Rw.put {w : World} {g : Nat} {ds : List Tm} (h : Rw w g ds) (k : Nat) (x : Tm) : Rw ((w.setCell ⟨g, k * 2, none⟩ (.string (x.1))).setCell ⟨g, k * 2 + 1, none⟩ (.int .i64 x.2)) g (ds.set k x) := by
  refine ⟨by simpa [World.setCell] using h.1, fun j hj => ?_⟩
  rw [List.length_set] at hj
  obtain ⟨⟨c1, f1⟩, c2, f2⟩ := h.2 j hj
  by_cases e : j = k
  · subst e
    have e1 : (ds.set j x).getD j d0 = x := by rw [List.getD_eq_getElem?_getD, List.getElem?_set_self hj]; rfl
    rw [e1]
    refine ⟨⟨?_, ?_⟩, ?_, ?_⟩ <;> simp [go_sem, c1, c2, f1, f2]
  · have e1 : (ds.set k x).getD j d0 = ds.getD j d0 := by rw [List.getD_eq_getElem?_getD, List.getD_eq_getElem?_getD, List.getElem?_set_ne (fun h => e h.symm)]
    rw [e1]
    have n1 : ¬ k * 2 = j * 2 := by omega
    have n2 : ¬ k * 2 + 1 = j * 2 := by omega
    have n3 : ¬ k * 2 = j * 2 + 1 := by omega
    have n4 : ¬ k * 2 + 1 = j * 2 + 1 := by omega
    have m1 : ¬ j * 2 = k * 2 := by omega
    have m2 : ¬ j * 2 = k * 2 + 1 := by omega
    have m3 : ¬ j * 2 + 1 = k * 2 := by omega
    have m4 : ¬ j * 2 + 1 = k * 2 + 1 := by omega
    refine ⟨⟨?_, ?_⟩, ?_, ?_⟩ <;> simp [go_sem, c1, c2, f1, f2, n1, n2, n3, n4, m1, m2, m3, m4, e, Ne.symm e]
theorem Rw.swap {w : World} {g : Nat} {A B C : List Tm} {x y : Tm} (h : Rw w g (A ++ y :: (B ++ x :: C))) {i j : Nat} (hi : i = A.length) (hj : j = (A ++ y :: B).length) :
    Rw ((((w.setCell ⟨g, i * 2, none⟩ (.string (x.1))).setCell ⟨g, i * 2 + 1, none⟩ (.int .i64 x.2)).setCell ⟨g, j * 2, none⟩ (.string (y.1))).setCell ⟨g, j * 2 + 1, none⟩ (.int .i64 y.2)) g (A ++ x :: (B ++ y :: C))
    ∧ Rw ((((w.setCell ⟨g, j * 2, none⟩ (.string (y.1))).setCell ⟨g, j * 2 + 1, none⟩ (.int .i64 y.2)).setCell ⟨g, i * 2, none⟩ (.string (x.1))).setCell ⟨g, i * 2 + 1, none⟩ (.int .i64 x.2)) g (A ++ x :: (B ++ y :: C)) := by
  have e1 := (swp_at A y B x C).1
  have e2 := (swp_at A y B x C).2
  have g1 : (A ++ y :: (B ++ x :: C)).getD A.length d0 = y := getD_mid A y _
  have g2 : (A ++ y :: (B ++ x :: C)).getD (A ++ y :: B).length d0 = x := by
    have := getD_mid (A ++ y :: B) x C
    rwa [List.append_assoc, List.cons_append] at this
  unfold swp at e1 e2
  rw [g1, g2] at e1 e2
  refine ⟨?_, ?_⟩
  · have := (h.put i x).put j y
    subst hi hj
    rwa [e1] at this
  · have := (h.put j y).put i x
    subst hi hj
    rwa [e2] at this
structure Two (w : World) (g : Nat) (i j : Nat) (y x : Tm) : Prop where
  lt : g < w.heap.size
  c1 : w.cell? ⟨g, i * 2, none⟩ = some (.string (y.1))
  f1 : w.frozen? ⟨g, i * 2, none⟩ = false
  c2 : w.cell? ⟨g, i * 2 + 1, none⟩ = some (.int .i64 y.2)
  f2 : w.frozen? ⟨g, i * 2 + 1, none⟩ = false
  c3 : w.cell? ⟨g, j * 2, none⟩ = some (.string (x.1))
  f3 : w.frozen? ⟨g, j * 2, none⟩ = false
  c4 : w.cell? ⟨g, j * 2 + 1, none⟩ = some (.int .i64 x.2)
  f4 : w.frozen? ⟨g, j * 2 + 1, none⟩ = false
theorem Rw.two {w : World} {g : Nat} {A B C : List Tm} {x y : Tm} (h : Rw w g (A ++ y :: (B ++ x :: C))) {i j : Nat} (hi : i = A.length) (hj : j = (A ++ y :: B).length) : Two w g i j y x := by
  obtain ⟨⟨c1, f1⟩, c2, f2⟩ := Rw.at_ h hi
  obtain ⟨⟨c3, f3⟩, c4, f4⟩ := Rw.at_ (show Rw w g ((A ++ y :: B) ++ x :: C) by rw [List.append_assoc]; exact h) hj
  exact ⟨h.1, c1, f1, c2, f2, c3, f3, c4, f4⟩
theorem Two.up {w w' : World} {g i j : Nat} {y x : Tm} (t : Two w g i j y x) (u : Up w w') : Two w' g i j y x :=
  ⟨Nat.lt_of_lt_of_le t.lt u.size, (u.cell (p := ⟨g, _, none⟩) t.lt).trans t.c1, (u.frozen (p := ⟨g, _, none⟩) t.lt).trans t.f1, (u.cell (p := ⟨g, _, none⟩) t.lt).trans t.c2, (u.frozen (p := ⟨g, _, none⟩) t.lt).trans t.f2, (u.cell (p := ⟨g, _, none⟩) t.lt).trans t.c3, (u.frozen (p := ⟨g, _, none⟩) t.lt).trans t.f3, (u.cell (p := ⟨g, _, none⟩) t.lt).trans t.c4, (u.frozen (p := ⟨g, _, none⟩) t.lt).trans t.f4⟩
theorem only_put {F : Nat → Prop} {w w' : World} {g : Nat} (h : Only F w w') (hg : F g) (i j : Nat) (a b c d : Value) : Only F w ((((w'.setCell ⟨g, i * 2, none⟩ a).setCell ⟨g, i * 2 + 1, none⟩ b).setCell ⟨g, j * 2, none⟩ c).setCell ⟨g, j * 2 + 1, none⟩ d) :=
  (((h.set (p := ⟨g, _, none⟩) (.inl hg) _).set (p := ⟨g, _, none⟩) (.inl hg) _).set (p := ⟨g, _, none⟩) (.inl hg) _).set (p := ⟨g, _, none⟩) (.inl hg) _
theorem cmpZ_lt {a b : Int} (h : a < b) : decide (cmpZ a b < 0) = true := by unfold cmpZ; rw [if_pos h]; decide
theorem cmpZ_ge {a b : Int} (h : ¬ a < b) : decide (cmpZ a b < 0) = false := by unfold cmpZ; rw [if_neg h]; split <;> decide
end Go.Proofs.Ytkgcnmloojnblaa.wlS

namespace Go.Proofs.Ytkgcnmloojnblaa.wlS
open Go.RowKit Go.Shelf Go.Lib Go.Proofs.Ytkgcnmloojnblaa.nb Go.Proofs.Ytkgcnmloojnblaa.wh Go.Proofs.Ytkgcnmloojnblaa.wf
set_option linter.unusedVariables false

structure InI (w0 : World) (g : Nat) (P A : List Tm) (x : Tm) (Bs : List Tm) (j : Nat) (wr : World) (A1 A2 : List Tm) : Prop where
  at_ : j = (P ++ A1).length
  all : A1 ++ A2 = A
  gt : ∀ y ∈ A2, x.2 < y.2
  row : Rw wr g (P ++ A1 ++ x :: (A2 ++ Bs))
  only : Only (fun k => k = g) w0 wr
structure OutI (w0 : World) (g : Nat) (P M S : List Tm) (i : Nat) (wr : World) (A D B : List Tm) : Prop where
  at_ : i = (P ++ A).length
  all : M = D ++ B
  st : St A D
  row : Rw wr g (P ++ A ++ (B ++ S))
  only : Only (fun k => k = g) w0 wr
set_option maxHeartbeats 8000000 in
theorem insC (g c n : Nat) (P M S : List Tm) (a b : Nat) (ha : a = P.length) (hb : b = (P ++ M).length) (hn : n = (P ++ (M ++ S)).length) (hm : n < 4611686018427387904) (w : World) (h : Rw w g (P ++ (M ++ S))) :
    Calls Try.prog 61 #[.slice (some ⟨g, 0, none⟩) n c, .int .i64 a, .int .i64 b, .func (.func 38) #[] #[]] w fun e w' => e = .returned (.tuple #[]) ∧ ∃ M', St M' M ∧ Rw w' g (P ++ (M' ++ S)) ∧ Only (fun k => k = g) w w' := by
  have hbn : b ≤ n := by rw [hb, hn]; simp
  have HA := Lib.hid ha; have HB := Lib.hid hb; have HN := Lib.hid hn; have HR := Lib.hid h
  have hab : a ≤ b := by rw [hb, ha]; simp
  clear ha hb hn h
  rcases M with _ | ⟨x0, M0⟩
  · have e : b = a := by rw [HA.out, HB.out]; simp
    have e2 : ¬ a + 1 < b := by omega
    have W0 : IntKind.i64.wrap ((a : Int) + 1) = (a : Int) + 1 := by rw [IntKind.wrap_i64]; omega
    have e1 := Lib.hid e
    clear e
    go_enter Try.func61, Try.ntmps61
    go_wp2_with fail
    go_loopw [8] (fun v wr => v = .int .i64 (a + 1 : Nat) ∧ wr = w) (fun _ _ => 0)
    case atStart => exact ⟨by go_num, rfl⟩
    case round =>
      obtain ⟨rfl, rfl⟩ := hrel
      go_wp2
      go_end0
      exact ⟨rfl, [], St.refl up2_nil, HR.out, Only.refl _ _⟩
  have W0 : IntKind.i64.wrap ((a : Int) + 1) = (a : Int) + 1 := by rw [IntKind.wrap_i64]; omega
  go_enter Try.func61, Try.ntmps61
  go_wp2_with fail
  go_loopw [8] (fun v wr => ∃ (i : Nat) (A D B : List Tm), v = .int .i64 i ∧ OutI w g P (x0 :: M0) S i wr A D B) (fun v _ => n - (intOf v).toNat)
  case atStart => exact ⟨a + 1, [x0], [x0], M0, by go_num, ⟨by rw [HA.out]; simp, rfl, St.refl (up2_one _), by simpa using HR.out, Only.refl _ _⟩⟩
  case round =>
  clear W0
  obtain ⟨i, A, D, B, rfl, q⟩ := hrel
  have I := Lib.hid q
  have hlen : b = i + B.length := by rw [HB.out, q.at_, q.all]; have := q.st.len; simp; omega
  have hai : a ≤ i := by rw [HA.out, q.at_]; simp
  clear q
  rcases B with _ | ⟨x, B'⟩
  · have hib : ¬ i < b := by rw [hlen]; simp
    clear hlen
    go_wp2
    go_end0
    exact ⟨rfl, A, by have := I.out.st; rwa [show D = x0 :: M0 by rw [I.out.all, List.append_nil]] at this, by simpa using I.out.row, I.out.only⟩
  have hib : i < b := by rw [hlen]; simp
  have L0 := Lib.hid hlen
  clear hlen
  go_wp2_with fail
  go_loopw [9] (fun v wq => ∃ (j : Nat) (A1 A2 : List Tm), v = .int .i64 j ∧ InI w g P A x (B' ++ S) j wq A1 A2) (fun v _ => (intOf v).toNat)
  case atStart => exact ⟨i, A, [], rfl, ⟨I.out.at_, List.append_nil A, (fun y hy => absurd hy List.not_mem_nil), I.out.row, I.out.only⟩⟩
  case round =>
  obtain ⟨j, A1, A2, rfl, q⟩ := hrel
  have J := Lib.hid q
  have hji : j ≤ i := by rw [q.at_, I.out.at_, ← q.all]; simp
  have haj : a ≤ j := by rw [q.at_, HA.out]; simp
  have OUT : (∀ y ∈ A1, ¬ x.2 < y.2) → OutI w g P (x0 :: M0) S (i + 1) wr (A1 ++ x :: A2) (D ++ [x]) B' := fun hA1 => by
    have hu : Up2 (A1 ++ A2) := by rw [q.all]; exact I.out.st.1
    refine ⟨by rw [I.out.at_, ← q.all]; simp; omega, by rw [I.out.all]; simp, (put_right hu hA1 q.gt).trans (fun t => ?_), ?_, q.only⟩
    · rw [q.all, ft_app, ft_app, I.out.st.2 t]
    · have := q.row
      simpa using this
  have OO := Lib.hid OUT
  clear OUT
  have W1 : IntKind.i64.wrap ((i : Int) + 1) = (i : Int) + 1 := by rw [IntKind.wrap_i64]; omega
  rcases List.eq_nil_or_concat A1 with rfl | ⟨A1', y, rfl⟩
  · have hj : ¬ a < j := by rw [HA.out, q.at_]; simp
    clear q
    go_upto_region 4 with fail
    refine wp_region_kin (by kernel_rfl) (by kernel_rfl) ?_
    repeat (go_big_quiet_step (fail))
    refine wpQuiet_nil ?_
    rintro w9 ⟨t9, e9⟩
    have uu := t9.below
    rw [← e9] at uu
    clear e9 t9
    go_wp2
    go_roundw
    case rel => exact ⟨i + 1, [] ++ x :: A2, D ++ [x], B', by go_num, let o := OO.out (fun y hy => absurd hy List.not_mem_nil); ⟨o.at_, o.all, o.st, o.row.up uu, o.only.on uu⟩⟩
    case measure => simp [RowKit.intOf]; omega
  obtain ⟨k, hk⟩ : ∃ k, k = (P ++ A1').length := ⟨_, rfl⟩
  have hjk : j = k + 1 := by rw [q.at_, hk]; simp; omega
  have hk' := Lib.hid hk
  have hjk' := Lib.hid hjk
  have h3 : a < j := by rw [hjk, hk, HA.out]; simp; omega
  have h4 : j < n := by omega
  have h5 : k < n := by omega
  have T := Lib.hid ((show Rw wr g ((P ++ A1') ++ y :: ([] ++ x :: (A2 ++ (B' ++ S)))) by have := q.row; simpa using this).two (i := k) (j := j) hk (by rw [hjk, hk]; simp; omega))
  have c1 := T.out.c1; have c2 := T.out.c2; have c3 := T.out.c3; have c4 := T.out.c4
  have W2 : IntKind.i64.wrap ((j : Int) - 1) = (k : Int) := by rw [IntKind.wrap_i64]; omega
  have hkj : k < j := by omega
  clear q hjk hk
  have k1 := Kin.cell c1; have k2 := Kin.cell c2; have k3 := Kin.cell c3; have k4 := Kin.cell c4
  by_cases hlt : x.2 < y.2
  case neg =>
    have hc := cmpZ_ge hlt
    clear T c1 c2 c3 c4
    go_upto_region 4 with fail
    refine wp_region_kin (by kernel_rfl) (by kernel_rfl) ?_
    repeat (go_big_quiet_step ((go_at_call 38; exact Kin.call _ (cmpC _ _ _ _ _))))
    refine wpQuiet_nil ?_
    rintro w9 ⟨t9, e9⟩
    have uu := t9.below
    rw [← e9] at uu
    clear e9 t9
    clear k1 k2 k3 k4
    go_wp2
    go_roundw
    case rel => exact ⟨i + 1, A1'.concat y ++ x :: A2, D ++ [x], B', by go_num, let o := OO.out (fun z hz => by
          have hu : Up2 ((A1' ++ [y]) ++ A2) := by rw [← List.concat_eq_append, J.out.all]; exact I.out.st.1
          have hu2 := (up2_app.1 (up2_app.1 hu).1).2.2
          rw [List.concat_eq_append] at hz
          rcases List.mem_append.1 hz with hz | hz
          · have := hu2 z hz y (List.mem_singleton.2 rfl); omega
          · rw [List.mem_singleton.1 hz]; exact hlt); ⟨o.at_, o.all, o.st, o.row.up uu, o.only.on uu⟩⟩
    case measure => simp [RowKit.intOf]; omega
  have hc := cmpZ_lt hlt
  have HL := Lib.hid hlt
  clear hlt
  go_upto_region 4 with fail
  refine wp_region_kin (by kernel_rfl) (by kernel_rfl) ?_
  repeat (go_big_quiet_step ((go_at_call 38; exact Kin.call _ (cmpC _ _ _ _ _))))
  refine wpQuiet_nil ?_
  rintro w9 ⟨t9, e9⟩
  have uu := t9.below
  rw [← e9] at uu
  clear e9 t9
  clear k1 k2 k3 k4 c1 c2 c3 c4
  have T2 := T.out.up uu
  have c1 := T2.c1; have c2 := T2.c2; have c3 := T2.c3; have c4 := T2.c4; have f1 := T2.f1; have f2 := T2.f2; have f3 := T2.f3; have f4 := T2.f4
  have RS := Lib.hid (((show Rw wr g ((P ++ A1') ++ y :: ([] ++ x :: (A2 ++ (B' ++ S)))) by have := J.out.row; simpa using this).up uu).swap (i := k) (j := j) hk'.out (by rw [hjk'.out, hk'.out]; simp; omega)).2
  have OS := Lib.hid (only_put (J.out.only.on uu) (g := g) rfl j k (.string (y.1)) (.int .i64 y.2) (.string (x.1)) (.int .i64 x.2))
  clear T2
  go_upto_region 6 with fail
  go_region
  generalize ((((w9.setCell ⟨g, j * 2, none⟩ (.string (y.1))).setCell ⟨g, j * 2 + 1, none⟩ (.int .i64 y.2)).setCell ⟨g, k * 2, none⟩ (.string (x.1))).setCell ⟨g, k * 2 + 1, none⟩ (.int .i64 x.2)) = ws at RS OS ⊢
  clear c1 c2 c3 c4 f1 f2 f3 f4
  go_wp2
  go_roundw
  case rel => exact ⟨k, A1', y :: A2, rfl, ⟨hk'.out, by rw [← J.out.all]; simp, fun z hz => by
      rcases List.mem_cons.1 hz with rfl | hz
      · exact HL.out
      · exact J.out.gt z hz, by have := RS.out.up (up_dr (Below.refl _ _)); simpa using this, OS.out.drew⟩⟩
  case measure => simp [RowKit.intOf]; have := hjk'.out; omega
end Go.Proofs.Ytkgcnmloojnblaa.wlS

namespace Go.Proofs.Ytkgcnmloojnblaa.wlS
open Go.RowKit Go.Shelf Go.Lib Go.Proofs.Ytkgcnmloojnblaa.nb Go.Proofs.Ytkgcnmloojnblaa.wh Go.Proofs.Ytkgcnmloojnblaa.wf
set_option linter.unusedVariables false

structure SwI (w0 : World) (g : Nat) (P X Q Y S : List Tm) (i : Nat) (wr : World) (X1 X2 Y1 Y2 : List Tm) : Prop where
  x : X = X1 ++ X2
  y : Y = Y1 ++ Y2
  lx : X1.length = i
  ly : Y1.length = i
  row : Rw wr g (P ++ (Y1 ++ (X2 ++ (Q ++ (X1 ++ (Y2 ++ S))))))
  only : Only (fun k => k = g) w0 wr
set_option maxHeartbeats 8000000 in
theorem swapRC (g c n : Nat) (P X Q Y S : List Tm) (a b m : Nat) (ha : a = P.length) (hb : b = (P ++ (X ++ Q)).length) (hx : X.length = m) (hy : Y.length = m) (hn : n = (P ++ (X ++ (Q ++ (Y ++ S)))).length) (hm : n < 4611686018427387904) (w : World) (h : Rw w g (P ++ (X ++ (Q ++ (Y ++ S))))) :
    Calls Try.prog 67 #[.slice (some ⟨g, 0, none⟩) n c, .int .i64 a, .int .i64 b, .int .i64 m, .func (.func 38) #[] #[]] w fun e w' => e = .returned (.tuple #[]) ∧ Rw w' g (P ++ (Y ++ (Q ++ (X ++ S)))) ∧ Only (fun k => k = g) w w' := by
  have hbm : b + m ≤ n := by rw [hb, hn, ← hy]; simp; omega
  have ham : a + m ≤ b := by rw [ha, hb, ← hx]; simp
  have HA := Lib.hid ha; have HB := Lib.hid hb; have HX := Lib.hid hx; have HY := Lib.hid hy; have HR := Lib.hid h
  clear ha hb hx hy hn h
  go_enter Try.func67, Try.ntmps67
  go_wp2_with fail
  go_loopw [10] (fun v wr => ∃ (i : Nat) (X1 X2 Y1 Y2 : List Tm), i ≤ m ∧ v = .int .i64 i ∧ SwI w g P X Q Y S i wr X1 X2 Y1 Y2) (fun v _ => m - (intOf v).toNat)
  case atStart => exact ⟨0, [], X, [], Y, Nat.zero_le _, rfl, ⟨rfl, rfl, rfl, rfl, HR.out, Only.refl _ _⟩⟩
  case round =>
  obtain ⟨i, X1, X2, Y1, Y2, him, rfl, q⟩ := hrel
  have I := Lib.hid q
  have hxl : X2.length = m - i := by have := HX.out; rw [q.x, List.length_append, q.lx] at this; omega
  have hyl : Y2.length = m - i := by have := HY.out; rw [q.y, List.length_append, q.ly] at this; omega
  clear q
  by_cases hlt : i < m
  case neg =>
    have e := Lib.hid (show X2 = [] ∧ Y2 = [] from ⟨List.eq_nil_of_length_eq_zero (by omega), List.eq_nil_of_length_eq_zero (by omega)⟩)
    clear hxl hyl
    go_wp2
    go_end0
    obtain ⟨e1, e2⟩ := e.out
    subst e1 e2
    refine ⟨rfl, ?_, I.out.only⟩
    rw [I.out.x, I.out.y]
    have := I.out.row
    simpa using this
  obtain ⟨x, X2', rfl⟩ := List.exists_cons_of_length_pos (l := X2) (by omega)
  obtain ⟨y, Y2', rfl⟩ := List.exists_cons_of_length_pos (l := Y2) (by omega)
  clear hxl hyl
  obtain ⟨p, hp⟩ : ∃ p, p = a + i := ⟨_, rfl⟩
  obtain ⟨r, hr⟩ : ∃ r, r = b + i := ⟨_, rfl⟩
  have hpr : p < r := by omega
  have hrn : r < n := by omega
  have hpn : p < n := by omega
  have W1 : IntKind.i64.wrap ((a : Int) + i) = (p : Int) := by rw [IntKind.wrap_i64]; omega
  have W2 : IntKind.i64.wrap ((b : Int) + i) = (r : Int) := by rw [IntKind.wrap_i64]; omega
  have W3 : IntKind.i64.wrap ((i : Int) + 1) = (i : Int) + 1 := by rw [IntKind.wrap_i64]; omega
  have P1 := Lib.hid (show p = (P ++ Y1).length by rw [hp, HA.out, List.length_append, I.out.ly])
  have P2 := Lib.hid (show r = ((P ++ Y1) ++ x :: (X2' ++ (Q ++ X1))).length by rw [hr, HB.out]; have e1 := I.out.x; have e2 := I.out.lx; have e3 := I.out.ly; rw [e1]; simp; omega)
  have R0 := Lib.hid (show Rw wr g ((P ++ Y1) ++ x :: ((X2' ++ (Q ++ X1)) ++ y :: (Y2' ++ S))) by have := I.out.row; simpa using this)
  clear hp hr
  have T := R0.out.two P1.out P2.out
  have c1 := T.c1; have c2 := T.c2; have c3 := T.c3; have c4 := T.c4; have f1 := T.f1; have f2 := T.f2; have f3 := T.f3; have f4 := T.f4
  have RS := Lib.hid ((R0.out.swap P1.out P2.out).1)
  have OS := Lib.hid (only_put I.out.only (g := g) rfl p r (.string (y.1)) (.int .i64 y.2) (.string (x.1)) (.int .i64 x.2))
  clear T
  go_upto_region 3 with fail
  go_region
  generalize ((((wr.setCell ⟨g, p * 2, none⟩ (.string (y.1))).setCell ⟨g, p * 2 + 1, none⟩ (.int .i64 y.2)).setCell ⟨g, r * 2, none⟩ (.string (x.1))).setCell ⟨g, r * 2 + 1, none⟩ (.int .i64 x.2)) = ws at RS OS ⊢
  clear c1 c2 c3 c4 f1 f2 f3 f4
  go_wp2
  go_roundw
  case rel => exact ⟨i + 1, X1 ++ [x], X2', Y1 ++ [y], Y2', by omega, by go_num, ⟨by rw [I.out.x]; simp, by rw [I.out.y]; simp, by rw [List.length_append, I.out.lx]; rfl, by rw [List.length_append, I.out.ly]; rfl, by have := RS.out.up (up_dr (Below.refl _ _)); simpa using this, OS.out.drew⟩⟩
  case measure => simp [RowKit.intOf]; omega
end Go.Proofs.Ytkgcnmloojnblaa.wlS

namespace Go.Proofs.Ytkgcnmloojnblaa.wlS
open Go.RowKit Go.Shelf Go.Lib Go.Proofs.Ytkgcnmloojnblaa.nb Go.Proofs.Ytkgcnmloojnblaa.wh Go.Proofs.Ytkgcnmloojnblaa.wf
set_option linter.unusedVariables false

structure RoI (w0 : World) (g : Nat) (P Z S : List Tm) (m i j : Nat) (wr : World) (DL U W DR : List Tm) : Prop where
  at_ : m = (P ++ (DL ++ U)).length
  lu : U.length = i
  lw : W.length = j
  all : DL ++ (W ++ U) ++ DR = Z
  row : Rw wr g (P ++ (DL ++ (U ++ (W ++ (DR ++ S)))))
  only : Only (fun k => k = g) w0 wr
set_option maxHeartbeats 8000000 in
theorem rotC (g c n : Nat) (P X Y S : List Tm) (a m b : Nat) (ha : a = P.length) (hm1 : m = (P ++ X).length) (hb : b = (P ++ (X ++ Y)).length) (hx : X ≠ []) (hy : Y ≠ []) (hn : n = (P ++ (X ++ (Y ++ S))).length) (hm : n < 4611686018427387904) (w : World) (h : Rw w g (P ++ (X ++ (Y ++ S)))) :
    Calls Try.prog 65 #[.slice (some ⟨g, 0, none⟩) n c, .int .i64 a, .int .i64 m, .int .i64 b, .func (.func 38) #[] #[]] w fun e w' => e = .returned (.tuple #[]) ∧ Rw w' g (P ++ (Y ++ (X ++ S))) ∧ Only (fun k => k = g) w w' := by
  have hx1 := List.length_pos_iff.2 hx
  have hy1 := List.length_pos_iff.2 hy
  have hbn : b ≤ n := by rw [hb, hn]; simp
  obtain ⟨i0, hi0⟩ : ∃ i0, i0 = X.length := ⟨_, rfl⟩
  obtain ⟨j0, hj0⟩ : ∃ j0, j0 = Y.length := ⟨_, rfl⟩
  have e1 : m = a + i0 := by rw [hm1, ha, hi0]; simp
  have e2 : b = m + j0 := by rw [hm1, hb, hj0]; simp; omega
  have W1 : IntKind.i64.wrap ((m : Int) - a) = (i0 : Int) := by rw [IntKind.wrap_i64]; omega
  have W2 : IntKind.i64.wrap ((b : Int) - m) = (j0 : Int) := by rw [IntKind.wrap_i64]; omega
  have hi1 : 0 < i0 := by omega
  have hj1 : 0 < j0 := by omega
  have hmn : m + j0 ≤ n := by omega
  have hmi : i0 ≤ m := by omega
  have HR := Lib.hid (show RoI w g P (Y ++ X) S m i0 j0 w [] X Y [] from ⟨by rw [hm1]; rfl, hi0.symm, hj0.symm, by simp, by simpa using h, Only.refl _ _⟩)
  have HN := Lib.hid hn
  clear ha hm1 hb hx hy hn h hx1 hy1 e1 e2 hi0 hj0
  go_enter Try.func65, Try.ntmps65
  go_wp2_with fail
  go_loopw [10, 11] (fun v u wr => ∃ (i j : Nat) (DL U W DR : List Tm), v = .int .i64 i ∧ u = .int .i64 j ∧ 0 < i ∧ 0 < j ∧ i ≤ m ∧ m + j ≤ n ∧ RoI w g P (Y ++ X) S m i j wr DL U W DR) (fun v u _ => (intOf v).toNat + (intOf u).toNat)
  case atStart => exact ⟨i0, j0, [], X, Y, [], rfl, rfl, hi1, hj1, hmi, hmn, HR.out⟩
  case round =>
  clear W1 W2 hi1 hj1 hmn hmi HR hbn
  obtain ⟨i, j, DL, U, W, DR, rfl, rfl, hi, hj, him, hjm, q⟩ := hrel
  have I := Lib.hid q
  have hnn : n = ((P ++ DL) ++ (U ++ (W ++ (DR ++ S)))).length := by
    have e := congrArg List.length q.all
    rw [HN.out]; simp at e ⊢; omega
  have NN := Lib.hid hnn
  have A1 := Lib.hid (show m - i = (P ++ DL).length by rw [q.at_, ← q.lu]; simp; omega)
  clear q hnn
  obtain ⟨p, hp⟩ : ∃ p, p = m - i := ⟨_, rfl⟩
  have PP := Lib.hid hp
  have W3 : IntKind.i64.wrap ((m : Int) - i) = (p : Int) := by rw [IntKind.wrap_i64]; omega
  clear hp
  rcases Nat.lt_trichotomy i j with hc | hc | hc
  · obtain ⟨r, hr⟩ : ∃ r, r = m + j - i := ⟨_, rfl⟩
    have W4 : IntKind.i64.wrap ((m : Int) + j) = (m : Int) + j := by rw [IntKind.wrap_i64]; omega
    have W5 : IntKind.i64.wrap ((m : Int) + j - i) = (r : Int) := by rw [IntKind.wrap_i64]; omega
    have W6 : IntKind.i64.wrap ((j : Int) - i) = ((j - i : Nat) : Int) := by rw [IntKind.wrap_i64]; omega
    have hne : ¬ (i : Int) = j := by omega
    have hne2 : ¬ i = j := by omega
    have hle : ¬ j < i := by omega
    have CC := Lib.hid (show Calls Try.prog 67 #[.slice (some ⟨g, 0, none⟩) n c, .int .i64 p, .int .i64 r, .int .i64 i, .func (.func 38) #[] #[]] wr fun e w' => e = .returned (.tuple #[]) ∧ RoI w g P (Y ++ X) S m i (j - i) w' DL (W.drop (j - i)) (W.take (j - i)) (U ++ DR) from by
      have lw := I.out.lw
      have lu := I.out.lu
      have ed : W.take (j - i) ++ W.drop (j - i) = W := List.take_append_drop ..
      have l1 : (W.take (j - i)).length = j - i := by rw [List.length_take]; omega
      have l2 : (W.drop (j - i)).length = i := by rw [List.length_drop]; omega
      refine (swapRC g c n (P ++ DL) U (W.take (j - i)) (W.drop (j - i)) (DR ++ S) p r i (by rw [PP.out]; exact A1.out) (by rw [hr, I.out.at_]; simp [l1]; omega) lu l2 (by rw [NN.out]; simp; omega) hm wr (by rw [show W.take (j - i) ++ (W.drop (j - i) ++ (DR ++ S)) = W ++ (DR ++ S) by rw [← List.append_assoc, ed]]; simpa using I.out.row)).mono ?_
      rintro e w' ⟨rfl, h1, h2⟩
      refine ⟨rfl, ⟨by rw [I.out.at_]; simp [l2, lu], l2, l1, ?_, by simpa using h1, I.out.only.trans h2 (fun k => .inl)⟩⟩
      rw [← I.out.all]; conv => rhs; rw [← ed]
      simp [List.append_assoc])
    clear hr
    go_wp2_with fail
    refine CC.out.mono ?_
    rintro e w1 ⟨rfl, q1⟩
    have Q1 := Lib.hid q1
    clear q1
    go_wp2
    go_roundw
    case rel => exact ⟨i, j - i, _, _, _, _, rfl, by go_num, hi, by omega, him, by omega, Q1.out⟩
    case measure => simp [RowKit.intOf]; omega
  · subst hc
    have CC := Lib.hid (swapRC g c n (P ++ DL) U [] W (DR ++ S) p m i (by rw [PP.out]; exact A1.out) (by have := I.out.at_; simpa using this) I.out.lu I.out.lw (by have := NN.out; simpa using this) hm wr (by have := I.out.row; simpa using this))
    go_wp2_with fail
    refine CC.out.mono ?_
    rintro e w1 ⟨rfl, q1, q2⟩
    have Q1 := Lib.hid q1
    have Q2 := Lib.hid q2
    clear q1 q2
    go_wp2
    go_end0
    refine ⟨rfl, ?_, I.out.only.trans Q2.out (fun k => .inl)⟩
    have := Q1.out
    have e := I.out.all
    have e2 : P ++ (Y ++ (X ++ S)) = P ++ ((DL ++ (W ++ U) ++ DR) ++ S) := by rw [e]; simp
    rw [e2]; simpa using this
  · have W6 : IntKind.i64.wrap ((i : Int) - j) = ((i - j : Nat) : Int) := by rw [IntKind.wrap_i64]; omega
    have hne : ¬ (i : Int) = j := by omega
    have hne2 : ¬ i = j := by omega
    have CC := Lib.hid (show Calls Try.prog 67 #[.slice (some ⟨g, 0, none⟩) n c, .int .i64 p, .int .i64 m, .int .i64 j, .func (.func 38) #[] #[]] wr fun e w' => e = .returned (.tuple #[]) ∧ RoI w g P (Y ++ X) S m (i - j) j w' (DL ++ W) (U.drop j) (U.take j) DR from by
      have lw := I.out.lw
      have lu := I.out.lu
      have ed : U.take j ++ U.drop j = U := List.take_append_drop ..
      have l1 : (U.take j).length = j := by rw [List.length_take]; omega
      have l2 : (U.drop j).length = i - j := by rw [List.length_drop]; omega
      refine (swapRC g c n (P ++ DL) (U.take j) (U.drop j) W (DR ++ S) p m j (by rw [PP.out]; exact A1.out) (by rw [I.out.at_]; simp [l1, l2]) l1 lw (by rw [NN.out]; simp <;> omega) hm wr (by rw [show U.take j ++ (U.drop j ++ (W ++ (DR ++ S))) = U ++ (W ++ (DR ++ S)) by rw [← List.append_assoc, ed]]; simpa using I.out.row)).mono ?_
      rintro e w' ⟨rfl, h1, h2⟩
      refine ⟨rfl, ⟨by rw [I.out.at_]; simp [l2, lw, lu]; omega, l2, l1, ?_, by simpa using h1, I.out.only.trans h2 (fun k => .inl)⟩⟩
      rw [← I.out.all]; conv => rhs; rw [← ed]
      simp [List.append_assoc])
    go_wp2_with fail
    refine CC.out.mono ?_
    rintro e w1 ⟨rfl, q1⟩
    have Q1 := Lib.hid q1
    clear q1
    go_wp2
    go_roundw
    case rel => exact ⟨i - j, j, _, _, _, _, by go_num, rfl, by omega, hj, by omega, hjm, Q1.out⟩
    case measure => simp [RowKit.intOf]; omega
end Go.Proofs.Ytkgcnmloojnblaa.wlS

namespace Go.Proofs.Ytkgcnmloojnblaa.wlS
open Go.RowKit Go.Shelf Go.Lib Go.Proofs.Ytkgcnmloojnblaa.nb Go.Proofs.Ytkgcnmloojnblaa.wh Go.Proofs.Ytkgcnmloojnblaa.wf
set_option linter.unusedVariables false

structure BsI (g : Nat) (R : List Tm) (x : Tm) (m i j : Nat) (w0 wr : World) (ds : List Tm) : Prop where
  lo : ∀ y ∈ R.take (i - m), y.2 < x.2
  hi : ∀ y ∈ R.drop (j - m), ¬ y.2 < x.2
  row : Rw wr g ds
  only : Only (fun k => k = g) w0 wr
set_option maxHeartbeats 8000000 in
set_option maxRecDepth 100000 in
theorem sym1C (g c n : Nat) (P R S : List Tm) (x : Tm) (a m b : Nat) (ha : a = P.length) (hm1 : m = a + 1) (hb : b = m + R.length) (hR : R ≠ []) (hu : Up2 R) (hn : n = (P ++ x :: (R ++ S)).length) (hm : n < 4611686018427387904) (w : World) (h : Rw w g (P ++ x :: (R ++ S))) :
    Calls Try.prog 62 #[.slice (some ⟨g, 0, none⟩) n c, .int .i64 a, .int .i64 m, .int .i64 b, .func (.func 38) #[] #[]] w fun e w' => e = .returned (.tuple #[]) ∧ ∃ M, St M (x :: R) ∧ Rw w' g (P ++ (M ++ S)) ∧ Only (fun k => k = g) w w' := by
  have hbn : b ≤ n := by rw [hb, hn, hm1, ha]; simp; omega
  have hmb : m ≤ b := by omega
  have HA := Lib.hid ha; have HM := Lib.hid hm1; have HB := Lib.hid hb; have HN := Lib.hid hn; have HR := Lib.hid h; have HU := Lib.hid hu
  have W1 : IntKind.i64.wrap ((m : Int) - a) = 1 := by rw [IntKind.wrap_i64]; omega
  clear ha hm1 hb hn h hR hu
  go_enter Try.func62, Try.ntmps62
  go_wp2_with fail
  go_loopw [10, 11] (fun v u wr => ∃ (i j : Nat), v = .int .i64 i ∧ u = .int .i64 j ∧ m ≤ i ∧ i ≤ j ∧ j ≤ b ∧ BsI g R x m i j w wr (P ++ x :: (R ++ S))) (fun v u _ => (intOf u).toNat - (intOf v).toNat)
  case atStart => exact ⟨m, b, rfl, rfl, Nat.le_refl _, hmb, Nat.le_refl _, ⟨by rw [Nat.sub_self]; exact fun y hy => absurd hy List.not_mem_nil, by rw [HB.out, Nat.add_sub_cancel_left, List.drop_length]; exact fun y hy => absurd hy List.not_mem_nil, HR.out, Only.refl _ _⟩⟩
  case round =>
  clear W1 hmb HR
  obtain ⟨i, j, rfl, rfl, hi, hij, hj, q⟩ := hrel
  have I := Lib.hid q
  clear q
  by_cases hlt : i < j
  case neg =>
    obtain rfl : i = j := by omega
    clear hij hlt
    obtain ⟨C, hC⟩ : ∃ C, C = R.take (i - m) := ⟨_, rfl⟩
    obtain ⟨D, hD⟩ : ∃ D, D = R.drop (i - m) := ⟨_, rfl⟩
    have hCD : C ++ D = R := by rw [hC, hD]; exact List.take_append_drop ..
    have hCl : C.length = i - m := by rw [hC, List.length_take]; have := HB.out; omega
    have FIN := Lib.hid (show St (C ++ x :: D) (x :: R) by
      rw [← hCD]
      exact put_left (by rw [hCD]; exact HU.out) (by rw [hC]; exact I.out.lo) (by rw [hD]; exact I.out.hi))
    have ROW := Lib.hid (show Rw wr g (P ++ ([] ++ x :: (C ++ (D ++ S)))) by have := I.out.row; rw [← hCD] at this; simpa using this)
    have CL := Lib.hid hCl
    clear hC hD hCD hCl
    go_wp2_with fail
    go_loopw [13] (fun v wq => ∃ (k : Nat) (C1 C2 : List Tm), v = .int .i64 k ∧ k = (P ++ C1).length ∧ C1 ++ C2 = C ∧ Rw wq g (P ++ (C1 ++ x :: (C2 ++ (D ++ S)))) ∧ Only (fun k => k = g) w wq) (fun v _ => i - (intOf v).toNat)
    case atStart => exact ⟨a, [], C, rfl, by rw [HA.out]; simp, rfl, ROW.out, I.out.only⟩
    case round =>
    obtain ⟨k, C1, C2, rfl, hk, hCC, hrow, honly⟩ := hrel
    have K1 := Lib.hid hk; have K2 := Lib.hid hCC; have K3 := Lib.hid hrow; have K4 := Lib.hid honly
    have hkl : k + 1 + C2.length = i := by
      rw [hk]; have e := congrArg List.length hCC; have e2 := CL.out; have e3 := HM.out; have e4 := HA.out; simp at e ⊢; omega
    have W3 : IntKind.i64.wrap ((i : Int) - 1) = (i : Int) - 1 := by rw [IntKind.wrap_i64]; omega
    clear hk hCC hrow honly
    rcases C2 with _ | ⟨z, C2'⟩
    · have hn1 : ¬ (k : Int) < (i : Int) - 1 := by simp at hkl; omega
      clear hkl
      go_wp2
      refine bodyPost_ret (results_none rfl _ _ _) rfl ?_
      exact ⟨rfl, _, FIN.out, by have e := K2.out; have := K3.out; rw [List.append_nil] at e; rw [← e]; simpa using this, K4.out⟩
    have hn1 : (k : Int) < (i : Int) - 1 := by simp at hkl; omega
    obtain ⟨r, hr⟩ : ∃ r, r = k + 1 := ⟨_, rfl⟩
    have hkr : k < r := by omega
    have hrn : r < n := by simp at hkl; omega
    have hkn : k < n := by omega
    have W4 : IntKind.i64.wrap ((k : Int) + 1) = (r : Int) := by rw [IntKind.wrap_i64]; omega
    have R0 := Lib.hid (show Rw wr g ((P ++ C1) ++ x :: ([] ++ z :: (C2' ++ (D ++ S)))) by have := K3.out; simpa using this)
    have P1 := Lib.hid (show k = (P ++ C1).length from K1.out)
    have P2 := Lib.hid (show r = ((P ++ C1) ++ x :: []).length by rw [hr, K1.out]; simp; omega)
    have T := R0.out.two P1.out P2.out
    have c1 := T.c1; have c2 := T.c2; have c3 := T.c3; have c4 := T.c4; have f1 := T.f1; have f2 := T.f2; have f3 := T.f3; have f4 := T.f4
    have RS := Lib.hid ((R0.out.swap P1.out P2.out).1)
    have OS := Lib.hid (only_put K4.out (g := g) rfl k r (.string (z.1)) (.int .i64 z.2) (.string (x.1)) (.int .i64 x.2))
    have RR := Lib.hid hr
    clear T hr hkl
    go_upto_region 11 with fail
    go_region
    generalize ((((wr.setCell ⟨g, k * 2, none⟩ (.string (z.1))).setCell ⟨g, k * 2 + 1, none⟩ (.int .i64 z.2)).setCell ⟨g, r * 2, none⟩ (.string (x.1))).setCell ⟨g, r * 2 + 1, none⟩ (.int .i64 x.2)) = ws at RS OS ⊢
    clear c1 c2 c3 c4 f1 f2 f3 f4
    go_wp2
    go_roundw
    case rel => exact ⟨r, C1 ++ [z], C2', rfl, by rw [RR.out, K1.out]; simp; omega, by rw [← K2.out]; simp, by have := RS.out.up (up_dr (Below.refl _ _)); simpa using this, OS.out.drew⟩
    case measure => simp [RowKit.intOf]; have := RR.out; omega
  have W2 : IntKind.i64.wrap ((i : Int) + j) = (i : Int) + j := by rw [IntKind.wrap_i64]; omega
  obtain ⟨h, hh⟩ : ∃ h, h = (i + j) / 2 := ⟨_, rfl⟩
  have hh' := Lib.hid (show ((i : Int) + j) / 2 = (h : Int) by omega)
  have hih : i ≤ h := by omega
  have hhj : h < j := by omega
  have hhn : h < n := by omega
  have han : a < n := by have := HM.out; omega
  have hRl : h - m < R.length := by have := HB.out; omega
  obtain ⟨C, hC⟩ : ∃ C, C = R.take (h - m) := ⟨_, rfl⟩
  obtain ⟨D, hD⟩ : ∃ D, D = R.drop (h - m + 1) := ⟨_, rfl⟩
  obtain ⟨y, hy⟩ : ∃ y, y = R[h - m] := ⟨_, rfl⟩
  have hCD : C ++ y :: D = R := by rw [hC, hD, hy, ← List.drop_eq_getElem_cons hRl]; exact List.take_append_drop ..
  have hCl : C.length = h - m := by rw [hC, List.length_take]; omega
  have ROW := Lib.hid (show Rw wr g (P ++ x :: (C ++ y :: (D ++ S))) by have := I.out.row; rw [← hCD] at this; simpa using this)
  have CL := Lib.hid hCl; have CD := Lib.hid hCD
  have P1 := Lib.hid (show h = (P ++ x :: C).length by have := HA.out; have := HM.out; simp [hCl]; omega)
  have T := ROW.out.two HA.out P1.out
  have k1 := Kin.cell T.c1; have k2 := Kin.cell T.c2; have k3 := Kin.cell T.c3; have k4 := Kin.cell T.c4
  have up_lt := Lib.hid (show y.2 < x.2 → ∀ z ∈ R.take (h + 1 - m), z.2 < x.2 from fun hyx z hz => by
    have hu := HU.out
    rw [show h + 1 - m = h - m + 1 by omega, List.take_succ_eq_append_getElem hRl, ← hC, ← hy] at hz
    rcases List.mem_append.1 hz with hz | hz
    · have := (up2_app.1 (show Up2 (C ++ y :: D) by rw [hCD]; exact hu)).2.2 z hz y (List.mem_cons_self ..); omega
    · rw [List.mem_singleton.1 hz]; exact hyx)
  have up_ge := Lib.hid (show ¬ y.2 < x.2 → ∀ z ∈ R.drop (h - m), ¬ z.2 < x.2 from fun hyx z hz => by
    have hu := HU.out
    rw [List.drop_eq_getElem_cons hRl, ← hD, ← hy] at hz
    have hu2 := List.pairwise_cons.1 (up2_app.1 (show Up2 (C ++ y :: D) by rw [hCD]; exact hu)).2.1
    rcases List.mem_cons.1 hz with rfl | hz
    · exact hyx
    · have := hu2.1 z hz; omega)
  clear hC hD hy hCD hCl hRl T hh
  go_upto_region 5 with fail
  rw [hh'.out]
  by_cases hc : y.2 < x.2
  · have hc' := cmpZ_lt hc
    have HC := Lib.hid hc
    have W5 : IntKind.i64.wrap ((h : Int) + 1) = (h : Int) + 1 := by rw [IntKind.wrap_i64]; omega
    clear hc
    refine wp_region_kin (by kernel_rfl) (by kernel_rfl) ?_
    repeat (go_big_quiet_step ((go_at_call 38; exact Kin.call _ (cmpC _ _ _ _ _))))
    refine wpQuiet_nil ?_
    rintro w9 ⟨t9, e9⟩
    have uu := t9.below
    rw [← e9] at uu
    clear e9 t9
    clear k1 k2 k3 k4
    go_wp2
    go_roundw
    case rel => exact ⟨h + 1, j, by go_num, rfl, by omega, by omega, hj, ⟨up_lt.out HC.out, I.out.hi, I.out.row.up uu, I.out.only.on uu⟩⟩
    case measure => simp [RowKit.intOf]; omega
  · have hc' := cmpZ_ge hc
    have HC := Lib.hid hc
    clear hc
    refine wp_region_kin (by kernel_rfl) (by kernel_rfl) ?_
    repeat (go_big_quiet_step ((go_at_call 38; exact Kin.call _ (cmpC _ _ _ _ _))))
    refine wpQuiet_nil ?_
    rintro w9 ⟨t9, e9⟩
    have uu := t9.below
    rw [← e9] at uu
    clear e9 t9
    clear k1 k2 k3 k4
    go_wp2
    go_roundw
    case rel => exact ⟨i, h, rfl, rfl, hi, hih, by omega, ⟨I.out.lo, up_ge.out HC.out, I.out.row.up uu, I.out.only.on uu⟩⟩
    case measure => simp [RowKit.intOf]; omega
end Go.Proofs.Ytkgcnmloojnblaa.wlS

namespace Go.Proofs.Ytkgcnmloojnblaa.wlS
open Go.RowKit Go.Shelf Go.Lib Go.Proofs.Ytkgcnmloojnblaa.nb Go.Proofs.Ytkgcnmloojnblaa.wh Go.Proofs.Ytkgcnmloojnblaa.wf
set_option linter.unusedVariables false

structure BtI (g : Nat) (L : List Tm) (x : Tm) (a i j : Nat) (w0 wr : World) (ds : List Tm) : Prop where
  lo : ∀ y ∈ L.take (i - a), ¬ x.2 < y.2
  hi : ∀ y ∈ L.drop (j - a), x.2 < y.2
  row : Rw wr g ds
  only : Only (fun k => k = g) w0 wr
set_option maxHeartbeats 8000000 in
set_option maxRecDepth 100000 in
theorem sym2C (g c n : Nat) (P L S : List Tm) (x : Tm) (a m b : Nat) (ha : a = P.length) (hm1 : m = a + L.length) (hb : b = m + 1) (hL : 1 < L.length) (hu : Up2 L) (hn : n = (P ++ (L ++ x :: S)).length) (hm : n < 4611686018427387904) (w : World) (h : Rw w g (P ++ (L ++ x :: S))) :
    Calls Try.prog 62 #[.slice (some ⟨g, 0, none⟩) n c, .int .i64 a, .int .i64 m, .int .i64 b, .func (.func 38) #[] #[]] w fun e w' => e = .returned (.tuple #[]) ∧ ∃ M, St M (L ++ [x]) ∧ Rw w' g (P ++ (M ++ S)) ∧ Only (fun k => k = g) w w' := by
  have hbn : b ≤ n := by rw [hb, hn, hm1, ha]; simp; omega
  have ham : a ≤ m := by omega
  have HA := Lib.hid ha; have HM := Lib.hid hm1; have HB := Lib.hid hb; have HN := Lib.hid hn; have HR := Lib.hid h; have HU := Lib.hid hu
  obtain ⟨d, hd⟩ : ∃ d, d = m - a := ⟨_, rfl⟩
  have W0 : IntKind.i64.wrap ((m : Int) - a) = (d : Int) := by rw [IntKind.wrap_i64]; omega
  have hd1 : ¬ (d : Int) = 1 := by omega
  have hd2 : ¬ d = 1 := by omega
  have W1 : IntKind.i64.wrap ((b : Int) - m) = 1 := by rw [IntKind.wrap_i64]; omega
  clear ha hm1 hb hn h hL hu hd
  go_enter Try.func62, Try.ntmps62
  go_wp2_with fail
  go_loopw [14, 15] (fun v u wr => ∃ (i j : Nat), v = .int .i64 i ∧ u = .int .i64 j ∧ a ≤ i ∧ i ≤ j ∧ j ≤ m ∧ BtI g L x a i j w wr (P ++ (L ++ x :: S))) (fun v u _ => (intOf u).toNat - (intOf v).toNat)
  case atStart => exact ⟨a, m, rfl, rfl, Nat.le_refl _, ham, Nat.le_refl _, ⟨by rw [Nat.sub_self]; exact fun y hy => absurd hy List.not_mem_nil, by rw [HM.out, Nat.add_sub_cancel_left, List.drop_length]; exact fun y hy => absurd hy List.not_mem_nil, HR.out, Only.refl _ _⟩⟩
  case round =>
  clear W0 W1 ham HR hd1 hd2
  obtain ⟨i, j, rfl, rfl, hi, hij, hj, q⟩ := hrel
  have I := Lib.hid q
  clear q
  by_cases hlt : i < j
  case neg =>
    obtain rfl : i = j := by omega
    clear hij hlt
    obtain ⟨C, hC⟩ : ∃ C, C = L.take (i - a) := ⟨_, rfl⟩
    obtain ⟨D, hD⟩ : ∃ D, D = L.drop (i - a) := ⟨_, rfl⟩
    have hCD : C ++ D = L := by rw [hC, hD]; exact List.take_append_drop ..
    have hCl : C.length = i - a := by rw [hC, List.length_take]; have := HM.out; omega
    have FIN := Lib.hid (show St (C ++ x :: D) (L ++ [x]) by
      rw [← hCD]
      exact put_right (by rw [hCD]; exact HU.out) (by rw [hC]; exact I.out.lo) (by rw [hD]; exact I.out.hi))
    have ROW := Lib.hid (show Rw wr g ((P ++ C) ++ (D ++ x :: ([] ++ S))) by have := I.out.row; rw [← hCD] at this; simpa using this)
    have CL := Lib.hid (show i = (P ++ C).length by have := HA.out; simp [hCl]; omega)
    have ML := Lib.hid (show m = (P ++ C).length + D.length by have h1 := HM.out; have h2 := HA.out; rw [← hCD] at h1; simp at h1 ⊢; omega)
    clear hC hD hCD hCl
    go_wp2_with fail
    go_loopw [17] (fun v wq => ∃ (k : Nat) (D1 D2 : List Tm), v = .int .i64 k ∧ k = (P ++ C).length + D1.length ∧ D1 ++ D2 = D ∧ Rw wq g ((P ++ C) ++ (D1 ++ x :: (D2 ++ S))) ∧ Only (fun k => k = g) w wq) (fun v _ => (intOf v).toNat)
    case atStart => exact ⟨m, D, [], rfl, ML.out, List.append_nil D, ROW.out, I.out.only⟩
    case round =>
    obtain ⟨k, D1, D2, rfl, hk, hDD, hrow, honly⟩ := hrel
    have K1 := Lib.hid hk; have K2 := Lib.hid hDD; have K3 := Lib.hid hrow; have K4 := Lib.hid honly
    have hkl : k = i + D1.length := by rw [hk, ← CL.out]
    have hkn : k < n := by
      have e := congrArg List.length hDD; have := ML.out; have := HB.out; have := CL.out; simp only [List.length_append] at e; omega
    clear hk hDD hrow honly
    rcases List.eq_nil_or_concat D1 with rfl | ⟨D1', z, rfl⟩
    · have hn1 : ¬ i < k := by simp at hkl; omega
      clear hkl
      go_wp2
      refine bodyPost_ret (results_none rfl _ _ _) rfl ?_
      exact ⟨rfl, _, FIN.out, by have e := K2.out; have := K3.out; rw [List.nil_append] at e; rw [← e]; simpa using this, K4.out⟩
    obtain ⟨r, hr⟩ : ∃ r, r = i + D1'.length := ⟨_, rfl⟩
    have hrk : k = r + 1 := by rw [hkl, hr]; simp; omega
    have hn1 : i < k := by omega
    have hkr : r < k := by omega
    have hrn : r < n := by omega
    have W4 : IntKind.i64.wrap ((k : Int) - 1) = (r : Int) := by rw [IntKind.wrap_i64]; omega
    have R0 := Lib.hid (show Rw wr g (((P ++ C) ++ D1') ++ z :: ([] ++ x :: (D2 ++ S))) by have := K3.out; simpa using this)
    have P1 := Lib.hid (show r = ((P ++ C) ++ D1').length by rw [hr, List.length_append, ← CL.out])
    have P2 := Lib.hid (show k = (((P ++ C) ++ D1') ++ z :: []).length by rw [hrk, P1.out]; simp [List.length_append]; omega)
    have T := R0.out.two P1.out P2.out
    have c1 := T.c1; have c2 := T.c2; have c3 := T.c3; have c4 := T.c4; have f1 := T.f1; have f2 := T.f2; have f3 := T.f3; have f4 := T.f4
    have RS := Lib.hid ((R0.out.swap P1.out P2.out).2)
    have OS := Lib.hid (only_put K4.out (g := g) rfl k r (.string (z.1)) (.int .i64 z.2) (.string (x.1)) (.int .i64 x.2))
    have RR := Lib.hid hrk
    clear T hr hkl hrk
    go_upto_region 23 with fail
    go_region
    generalize ((((wr.setCell ⟨g, k * 2, none⟩ (.string (z.1))).setCell ⟨g, k * 2 + 1, none⟩ (.int .i64 z.2)).setCell ⟨g, r * 2, none⟩ (.string (x.1))).setCell ⟨g, r * 2 + 1, none⟩ (.int .i64 x.2)) = ws at RS OS ⊢
    clear c1 c2 c3 c4 f1 f2 f3 f4
    go_wp2
    go_roundw
    case rel => exact ⟨r, D1', z :: D2, rfl, by rw [P1.out, List.length_append], by rw [← K2.out]; simp, by have := RS.out.up (up_dr (Below.refl _ _)); simpa using this, OS.out.drew⟩
    case measure => simp [RowKit.intOf]; have := RR.out; omega
  have hmn : m < n := by have := HB.out; omega
  have W2 : IntKind.i64.wrap ((i : Int) + j) = (i : Int) + j := by rw [IntKind.wrap_i64]; omega
  obtain ⟨h, hh⟩ : ∃ h, h = (i + j) / 2 := ⟨_, rfl⟩
  have hh' := Lib.hid (show ((i : Int) + j) / 2 = (h : Int) by omega)
  have hih : i ≤ h := by omega
  have hhj : h < j := by omega
  have hhn : h < n := by omega
  have hRl : h - a < L.length := by have := HM.out; omega
  obtain ⟨C, hC⟩ : ∃ C, C = L.take (h - a) := ⟨_, rfl⟩
  obtain ⟨D, hD⟩ : ∃ D, D = L.drop (h - a + 1) := ⟨_, rfl⟩
  obtain ⟨y, hy⟩ : ∃ y, y = L[h - a] := ⟨_, rfl⟩
  have hCD : C ++ y :: D = L := by rw [hC, hD, hy, ← List.drop_eq_getElem_cons hRl]; exact List.take_append_drop ..
  have hCl : C.length = h - a := by rw [hC, List.length_take]; omega
  have ROW := Lib.hid (show Rw wr g ((P ++ C) ++ y :: (D ++ x :: S)) by have := I.out.row; rw [← hCD] at this; simpa using this)
  have P1 := Lib.hid (show h = (P ++ C).length by have := HA.out; simp [hCl]; omega)
  have P2 := Lib.hid (show m = ((P ++ C) ++ y :: D).length by have h1 := HM.out; have h2 := HA.out; rw [← hCD] at h1; simp at h1 ⊢; omega)
  have T := ROW.out.two P1.out P2.out
  have k1 := Kin.cell T.c1; have k2 := Kin.cell T.c2; have k3 := Kin.cell T.c3; have k4 := Kin.cell T.c4
  have up_lt := Lib.hid (show ¬ x.2 < y.2 → ∀ z ∈ L.take (h + 1 - a), ¬ x.2 < z.2 from fun hyx z hz => by
    have hu := HU.out
    rw [show h + 1 - a = h - a + 1 by omega, List.take_succ_eq_append_getElem hRl, ← hC, ← hy] at hz
    rcases List.mem_append.1 hz with hz | hz
    · have := (up2_app.1 (show Up2 (C ++ y :: D) by rw [hCD]; exact hu)).2.2 z hz y (List.mem_cons_self ..); omega
    · rw [List.mem_singleton.1 hz]; exact hyx)
  have up_ge := Lib.hid (show x.2 < y.2 → ∀ z ∈ L.drop (h - a), x.2 < z.2 from fun hyx z hz => by
    have hu := HU.out
    rw [List.drop_eq_getElem_cons hRl, ← hD, ← hy] at hz
    have hu2 := List.pairwise_cons.1 (up2_app.1 (show Up2 (C ++ y :: D) by rw [hCD]; exact hu)).2.1
    rcases List.mem_cons.1 hz with rfl | hz
    · exact hyx
    · have := hu2.1 z hz; omega)
  clear hC hD hy hCD hCl hRl T hh
  go_upto_region 17 with fail
  rw [hh'.out]
  by_cases hc : x.2 < y.2
  · have hc' := cmpZ_lt hc
    have HC := Lib.hid hc
    clear hc
    refine wp_region_kin (by kernel_rfl) (by kernel_rfl) ?_
    repeat (go_big_quiet_step ((go_at_call 38; exact Kin.call _ (cmpC _ _ _ _ _))))
    refine wpQuiet_nil ?_
    rintro w9 ⟨t9, e9⟩
    have uu := t9.below
    rw [← e9] at uu
    clear e9 t9
    clear k1 k2 k3 k4
    go_wp2
    go_roundw
    case rel => exact ⟨i, h, rfl, rfl, hi, hih, by omega, ⟨I.out.lo, up_ge.out HC.out, I.out.row.up uu, I.out.only.on uu⟩⟩
    case measure => simp [RowKit.intOf]; omega
  · have hc' := cmpZ_ge hc
    have HC := Lib.hid hc
    have W5 : IntKind.i64.wrap ((h : Int) + 1) = (h : Int) + 1 := by rw [IntKind.wrap_i64]; omega
    clear hc
    refine wp_region_kin (by kernel_rfl) (by kernel_rfl) ?_
    repeat (go_big_quiet_step ((go_at_call 38; exact Kin.call _ (cmpC _ _ _ _ _))))
    refine wpQuiet_nil ?_
    rintro w9 ⟨t9, e9⟩
    have uu := t9.below
    rw [← e9] at uu
    clear e9 t9
    clear k1 k2 k3 k4
    go_wp2
    go_roundw
    case rel => exact ⟨h + 1, j, by go_num, rfl, by omega, by omega, hj, ⟨up_lt.out HC.out, I.out.hi, I.out.row.up uu, I.out.only.on uu⟩⟩
    case measure => simp [RowKit.intOf]; omega
end Go.Proofs.Ytkgcnmloojnblaa.wlS
