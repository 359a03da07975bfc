/- B H A: contracts, part 19. Condition: as each says. -/
import Derived.Test.YtafckmbgefbonaaKBHA16
import Derived.Test.YtafckmbgefbonaaKBHA18
import Derived.Lib.LazyBuf
import Derived.Laws.EntriesVeiled
set_option linter.unusedVariables false
set_option linter.unusedSimpArgs false
namespace Go.Proofs.Ytafckmbgefbonaa.pk
open Go.RowKit Go.Shelf Go.Lib Go.Proofs.Ytafckmbgefbonaa.sm Go.Proofs.Ytafckmbgefbonaa.nb Go.Proofs.Ytafckmbgefbonaa.pm
set_option linter.unusedVariables false

def spl (l : List UInt8) (k : Nat) (x : List UInt8) : List UInt8 := l.take k ++ (x ++ l.drop (k + x.length))
theorem spl_len (l : List UInt8) (k : Nat) (x : List UInt8) (h : k + x.length ≤ l.length) : (spl l k x).length = l.length := by
  unfold spl; simp only [List.length_append, List.length_take, List.length_drop]; omega
theorem spl_nil (l : List UInt8) (k : Nat) : spl l k [] = l := by unfold spl; simp
theorem spl_at (A B C D : List UInt8) (k : Nat) (hA : A.length = k) (hB : B.length = D.length) : spl (A ++ (B ++ C)) k D = A ++ (D ++ C) := by
  subst hA
  unfold spl
  rw [List.take_left, ← hB, ← List.drop_drop, List.drop_left, List.drop_left]
theorem spl_cons (l : List UInt8) (p : Nat) (c : UInt8) (x : List UInt8) (h : p + (x.length + 1) ≤ l.length) : spl l p (c :: x) = spl (l.set p c) (p + 1) x := by
  obtain ⟨A, a, B, rfl, rfl⟩ : ∃ A a B, l = A ++ a :: B ∧ A.length = p := by
    refine ⟨l.take p, l[p]'(by omega), l.drop (p + 1), ?_, by rw [List.length_take]; omega⟩
    rw [← List.drop_eq_getElem_cons (by omega), List.take_append_drop]
  have e : (A ++ a :: B).set A.length c = A ++ c :: B := by rw [List.set_append_right _ _ (Nat.le_refl _), Nat.sub_self]; rfl
  rw [e]
  have hB : B = B.take x.length ++ B.drop x.length := (List.take_append_drop _ _).symm
  have hl : x.length ≤ B.length := by simp at h; omega
  have h1 : A ++ a :: B = A ++ ((a :: B.take x.length) ++ B.drop x.length) := by rw [List.cons_append, ← hB]
  have h2 : A ++ c :: B = (A ++ [c]) ++ (B.take x.length ++ B.drop x.length) := by rw [← hB]; simp
  rw [h1, spl_at A (a :: B.take x.length) (B.drop x.length) (c :: x) A.length rfl (by simp; omega), h2, spl_at (A ++ [c]) (B.take x.length) (B.drop x.length) x (A.length + 1) (by simp) (by simp; omega)]
  simp
theorem box_puts {X : Nat} : ∀ (x : List UInt8) (l : List UInt8) (p : Nat) (W : World), Box W X (BC l) → p + x.length ≤ l.length → Box (W.setCells X p (BC x)) X (BC (spl l p x))
  | [], l, p, W, h, _ => by rw [spl_nil]; exact h
  | c :: x, l, p, W, h, hp => by
    have h1 := h.set p (.int .u8 ((c.toNat : Nat) : Int))
    rw [← op.BC_set] at h1
    have := box_puts x (l.set p c) (p + 1) _ h1 (by rw [List.length_set]; simp at hp; omega)
    rw [spl_cons l p c x (by simpa using hp)]
    exact this
theorem grown_puts (X : Nat) : ∀ (vs : List Value) (p : Nat) (W : World), W.grownBy (W.setCells X p vs) (some X)
  | [], _, W => op.grown_up (Below.refl _ _)
  | v :: r, p, W => op.grown_trans (op.grown_set W X p v) (grown_puts X r (p + 1) _)
theorem lt_BC (l : List UInt8) (j : Nat) (h : j < l.length) : ∃ x, (BC l)[j]? = some x := ⟨_, List.getElem?_eq_getElem (by simp [BC, Lib.byteCells]; exact h)⟩
theorem copy2 {ops : Array Oper} {o : Oper} {a : Act} {w : World} {K : Act → World → Prop} {Q : Exit → Act → World → Prop} {E : Prop} (d s : Operand) (hgd : o.guard = none)
    (ho : o.op = .call { callee := .builtin .copy, args := #[d, s], argTypes := #[44, 44] }) (X p g dLen dCap cap v : Nat) (l : List UInt8) (hp : p + 2 ≤ l.length) (hd4 : 2 ≤ dLen)
    (hB : Box w X (BC l)) (hS : ∃ B, OwnB w B (.slice (some ⟨g, 0, none⟩) 2 cap) (B16 v))
    (hd : a.eval d = .slice (some ⟨X, p, none⟩) dLen dCap) (hs : a.eval s = .slice (some ⟨g, 0, none⟩) 2 cap)
    (h : ∀ w', w.grownBy w' (some X) → Box w' X (BC (spl l p (B16 v))) → K (a.put o.dst (goInt 2)) w') :
    if Region.wanted o (yielded ops a.tmps) = true then Oper.wp Try.prog o a w K Q else E := by
  have hw : Region.wanted o (yielded ops a.tmps) = true := by simp [Region.wanted, hgd]
  rw [if_pos hw]
  have hl4 : (BC (B16 v)).length = 2 := rfl
  have hrun := run_copy_cells (P := Try.prog) w 44 44 o.type 5 X p dLen dCap ⟨g, 0, none⟩ 2 cap (BC (B16 v)) Try.underlying44 op.info5s (by rw [hl4]; exact (Nat.min_eq_left hd4).symm)
    (fun j u hj => by obtain ⟨B, hS⟩ := hS; exact World.ownsRow.cells hS (g := g) rfl j _ hj)
    (fun j hj => by obtain ⟨x, hx⟩ := lt_BC l (p + j) (by rw [hl4] at hj; omega); rw [(hB.2 (p + j) x hx).1]; rfl)
    (fun j hj => by obtain ⟨x, hx⟩ := lt_BC l (p + j) (by rw [hl4] at hj; omega); exact (hB.2 (p + j) x hx).2) (fun u hu => by simp [BC, Lib.byteCells] at hu; obtain ⟨c, _, rfl⟩ := hu; rfl)
  rw [hl4] at hrun
  unfold Oper.wp
  simp [execOp, ho, resolve, invoke, builtin, hd, hs, hrun, Result.andThen]
  exact h _ (grown_puts X (BC (B16 v)) p w) (box_puts (B16 v) l p w hB hp)
set_option maxHeartbeats 1000000 in
set_option maxRecDepth 100000 in
theorem put16w (X n cap p v : Nat) (l : List UInt8) (w : World) (hB : Box w X (BC l)) (hn : l.length = n) (hc : n ≤ cap) (hn1 : n ≤ 1048576) (hp : p + 2 ≤ n) (hv : v ≤ 65535) :
    Calls Try.prog 53 #[.slice (some ⟨X, 0, none⟩) n cap, .int .i64 p, .int .u16 v] w fun e w' => (∃ r, e = .returned r) ∧ w.grownBy w' (some X) ∧ Box w' X (BC (spl l p (B16 v))) := by
  have d1 : ¬ (p : Int) < 0 := by omega
  have d2 : IntKind.i64.wrap ((n : Int) - 2) = (n : Int) - 2 := IntWalk.i64_in _ (by omega)
  have d3 : ¬ (n : Int) - 2 < (p : Int) := by omega
  have HL := Lib.hid (fun w => lay16 w.heap.size (.slice none 0 0) [] v w hv (OwnB.nil_ _ _) (by simp) (Nat.le_refl _))
  go_enter Try.func53, Try.ntmps53
  go_wp2_with (go_at_call 77; refine (size16 w).mono ?_; rintro e w' ⟨rfl, rfl⟩)
  have c1 : ¬ cap = p := by omega
  have c2 : (p : Int) ≤ (n : Int) := by omega
  have c3 : (p : Int) ≤ (cap : Int) := by omega
  have c4 : (0 : Int) ≤ (p : Int) := by omega
  have c5 : ¬ (cap : Int) = (p : Int) := by omega
  clear d2 d1 d3
  go_region_law (first
    | (go_simp; go_at_call 55; refine (HL.out _).mono ?_; rintro e_ w2 ⟨⟨v2, rfl, hO2⟩, hb2⟩; obtain ⟨g2, cap2, rfl, _⟩ := conv_own hO2 2 rfl (by decide))
    | (refine copy2 (.tmp 18) (.tmp 20) rfl rfl X p _ (n - p) (cap - p) _ v l (by omega) (by omega) (by first | exact hB.up hb2 | exact hB.drew.up hb2) ⟨_, hO2⟩ rfl rfl ?_; intro w3 hg3 hB3; have hg4 : w.grownBy w3 (some X) := op.grown_trans (by first | exact op.grown_up hb2 | exact op.grown_up ((up_dr (Below.refl _ _)).on hb2)) hg3))
  go_wp2
  go_end0
  exact ⟨⟨_, rfl⟩, hg4, hB3⟩

/-! ### what turns a checksum along -/
abbrev cloV (c s p : Nat) : Value := .func (.func 51) #[] #[.pointer (some ⟨c, 0, none⟩), .pointer (some ⟨s, 0, none⟩), .pointer (some ⟨p, 0, none⟩)]
theorem alongC (B n cap k : Nat) (l : List UInt8) (w : World) (hB : Box w B (BC l)) (hn : l.length = n) (hk : k + 2 ≤ n) (hn1 : n ≤ 1048576) :
    Calls Try.prog 25 #[.slice (some ⟨B, 0, none⟩) n cap, .int .i64 k] w fun e w' => ∃ c s p : Nat, e = .returned (cloV c s p) ∧
      Box w' c [.int .u16 (wd l k)] ∧ Box w' s [.slice (some ⟨B, 0, none⟩) n cap] ∧ Box w' p [.int .i64 k] ∧ Up w w' ∧ w.heap.size ≤ c ∧ w.heap.size ≤ s ∧ w.heap.size ≤ p ∧ c ≠ s ∧ c ≠ p := by
  have HA := Lib.hid (fun w => at16 (tx l) k w (by rw [tx_size]; omega) (by rw [tx_size]; omega))
  rw [L_tx] at HA
  have hlt := hB.1
  go_enter Try.func25, Try.ntmps25
  go_upto_region 1 with fail
  have hS := (Box.new w #[.slice (some ⟨B, 0, none⟩) n cap] 44).alloc (.cells #[.int .i64 k] 3)
  have hP := Box.new (w.alloc (.cells #[.slice (some ⟨B, 0, none⟩) n cap] 44)) #[.int .i64 k] 3
  rw [World.size_alloc] at hP
  have hu : Up w ((w.alloc (.cells #[.slice (some ⟨B, 0, none⟩) n cap] 44)).alloc (.cells #[.int .i64 k] 3)) := up_al _ (up_al _ (Below.refl _ _))
  have hz : ((w.alloc (.cells #[.slice (some ⟨B, 0, none⟩) n cap] 44)).alloc (.cells #[.int .i64 k] 3)).heap.size = w.heap.size + 1 + 1 := by simp
  generalize ((w.alloc (.cells #[.slice (some ⟨B, 0, none⟩) n cap] 44)).alloc (.cells #[.int .i64 k] 3)) = w0 at hS hP hu hz ⊢
  obtain ⟨n0, hn0⟩ : ∃ n0, n0 = w.heap.size := ⟨_, rfl⟩
  have hle : w.heap.size ≤ n0 := by omega
  rw [← hn0] at hS hP hz ⊢
  clear hn0
  have q := op.conv_row (cap := cap) hn (hB.up hu)
  have k0 := hS.at 0 rfl
  have k1 := hP.at 0 rfl
  go_wp2_with fail
  refine (HA.out w0).mono ?_
  rintro e w1 ⟨rfl, rfl⟩
  go_upto_region 2 with fail
  have hC := Box.new w0 #[.int .u16 (wd l k)] 23
  rw [hz] at hC
  have hS1 := hS.alloc (.cells #[.int .u16 (wd l k)] 23)
  have hP1 := hP.alloc (.cells #[.int .u16 (wd l k)] 23)
  have hu1 := up_al (.cells #[.int .u16 (wd l k)] 23) hu
  generalize (w0.alloc (.cells #[.int .u16 (wd l k)] 23)) = w1 at hC hS1 hP1 hu1 ⊢
  go_wp2
  go_ret
  exact ⟨n0 + 1 + 1, n0, n0 + 1, rfl, hC, hS1, hP1, hu1, by omega, by omega, by omega, by omega, by omega⟩
end Go.Proofs.Ytafckmbgefbonaa.pk

namespace Go.Proofs.Ytafckmbgefbonaa.pk
open Go.Proofs.Ytafckmbgefbonaa.sm Go.Proofs.Ytafckmbgefbonaa.nb Go.Proofs.Ytafckmbgefbonaa.pm
set_option linter.unusedVariables false

structure St where
  vh : Nat
  vg : Nat
  l : List UInt8
def T (v : Nat) (A D : List UInt8) : Nat := (turns (v : Int) A D ((A.length + 1) / 2)).toNat
theorem T_nat (v : Nat) (A D : List UInt8) (hv : v ≤ 65535) : turns (v : Int) A D ((A.length + 1) / 2) = ((T v A D : Nat) : Int) ∧ T v A D ≤ 65535 := by
  have := turns_bd (v : Int) A D ⟨by omega, by omega⟩ ((A.length + 1) / 2)
  unfold T; omega
def tur (A D : List UInt8) (κ : Bool) (t : St) : St := if κ then ⟨T t.vh A D, t.vg, spl t.l 10 (B16 (T t.vh A D))⟩ else ⟨t.vh, T t.vg A D, spl t.l 36 (B16 (T t.vg A D))⟩
def layS (ks : List Bool) (k : Nat) (D : List UInt8) (t : St) : St := ks.foldl (fun u κ => tur ((t.l.drop k).take D.length) D κ u) ⟨t.vh, t.vg, spl t.l k D⟩
theorem put_c1 (P : List UInt8) (c1 sa da sp dp sq ak : Nat) (F : List UInt8) (wi c2 : Nat) (R : List UInt8) (hP : P.length = 10) (hF : F.length = 2) (v : Nat) : spl (fm P c1 sa da sp dp sq ak F wi c2 R) 10 (B16 v) = fm P v sa da sp dp sq ak F wi c2 R := by
  have := spl_at (P) (B16 c1) (B32 sa ++ (B32 da ++ (B16 sp ++ (B16 dp ++ (B32 sq ++ (B32 ak ++ (F ++ (B16 wi ++ (B16 c2 ++ (R)))))))))) (B16 v) 10 (by simp [B16, B32, hP, hF]) rfl
  unfold fm sg
  simpa only [List.append_assoc] using this
theorem put_sa (P : List UInt8) (c1 sa da sp dp sq ak : Nat) (F : List UInt8) (wi c2 : Nat) (R : List UInt8) (hP : P.length = 10) (hF : F.length = 2) (v : Nat) : spl (fm P c1 sa da sp dp sq ak F wi c2 R) 12 (B32 v) = fm P c1 v da sp dp sq ak F wi c2 R := by
  have := spl_at (P ++ (B16 c1)) (B32 sa) (B32 da ++ (B16 sp ++ (B16 dp ++ (B32 sq ++ (B32 ak ++ (F ++ (B16 wi ++ (B16 c2 ++ (R))))))))) (B32 v) 12 (by simp [B16, B32, hP, hF]) rfl
  unfold fm sg
  simpa only [List.append_assoc] using this
theorem get_sa (P : List UInt8) (c1 sa da sp dp sq ak : Nat) (F : List UInt8) (wi c2 : Nat) (R : List UInt8) (hP : P.length = 10) (hF : F.length = 2) : ((fm P c1 sa da sp dp sq ak F wi c2 R).drop 12).take 4 = B32 sa := by
  have := (cut (l := fm P c1 sa da sp dp sq ak F wi c2 R) (A := P ++ (B16 c1)) (B := B32 sa) (C := B32 da ++ (B16 sp ++ (B16 dp ++ (B32 sq ++ (B32 ak ++ (F ++ (B16 wi ++ (B16 c2 ++ (R))))))))) (by unfold fm sg; simp only [List.append_assoc]) (show _ = 12 by simp [B16, B32, hP, hF]) (show _ = 4 from rfl)).2.2
  exact this
theorem put_da (P : List UInt8) (c1 sa da sp dp sq ak : Nat) (F : List UInt8) (wi c2 : Nat) (R : List UInt8) (hP : P.length = 10) (hF : F.length = 2) (v : Nat) : spl (fm P c1 sa da sp dp sq ak F wi c2 R) 16 (B32 v) = fm P c1 sa v sp dp sq ak F wi c2 R := by
  have := spl_at (P ++ (B16 c1 ++ (B32 sa))) (B32 da) (B16 sp ++ (B16 dp ++ (B32 sq ++ (B32 ak ++ (F ++ (B16 wi ++ (B16 c2 ++ (R)))))))) (B32 v) 16 (by simp [B16, B32, hP, hF]) rfl
  unfold fm sg
  simpa only [List.append_assoc] using this
theorem get_da (P : List UInt8) (c1 sa da sp dp sq ak : Nat) (F : List UInt8) (wi c2 : Nat) (R : List UInt8) (hP : P.length = 10) (hF : F.length = 2) : ((fm P c1 sa da sp dp sq ak F wi c2 R).drop 16).take 4 = B32 da := by
  have := (cut (l := fm P c1 sa da sp dp sq ak F wi c2 R) (A := P ++ (B16 c1 ++ (B32 sa))) (B := B32 da) (C := B16 sp ++ (B16 dp ++ (B32 sq ++ (B32 ak ++ (F ++ (B16 wi ++ (B16 c2 ++ (R)))))))) (by unfold fm sg; simp only [List.append_assoc]) (show _ = 16 by simp [B16, B32, hP, hF]) (show _ = 4 from rfl)).2.2
  exact this
theorem put_sp (P : List UInt8) (c1 sa da sp dp sq ak : Nat) (F : List UInt8) (wi c2 : Nat) (R : List UInt8) (hP : P.length = 10) (hF : F.length = 2) (v : Nat) : spl (fm P c1 sa da sp dp sq ak F wi c2 R) 20 (B16 v) = fm P c1 sa da v dp sq ak F wi c2 R := by
  have := spl_at (P ++ (B16 c1 ++ (B32 sa ++ (B32 da)))) (B16 sp) (B16 dp ++ (B32 sq ++ (B32 ak ++ (F ++ (B16 wi ++ (B16 c2 ++ (R))))))) (B16 v) 20 (by simp [B16, B32, hP, hF]) rfl
  unfold fm sg
  simpa only [List.append_assoc] using this
theorem get_sp (P : List UInt8) (c1 sa da sp dp sq ak : Nat) (F : List UInt8) (wi c2 : Nat) (R : List UInt8) (hP : P.length = 10) (hF : F.length = 2) : ((fm P c1 sa da sp dp sq ak F wi c2 R).drop 20).take 2 = B16 sp := by
  have := (cut (l := fm P c1 sa da sp dp sq ak F wi c2 R) (A := P ++ (B16 c1 ++ (B32 sa ++ (B32 da)))) (B := B16 sp) (C := B16 dp ++ (B32 sq ++ (B32 ak ++ (F ++ (B16 wi ++ (B16 c2 ++ (R))))))) (by unfold fm sg; simp only [List.append_assoc]) (show _ = 20 by simp [B16, B32, hP, hF]) (show _ = 2 from rfl)).2.2
  exact this
theorem put_dp (P : List UInt8) (c1 sa da sp dp sq ak : Nat) (F : List UInt8) (wi c2 : Nat) (R : List UInt8) (hP : P.length = 10) (hF : F.length = 2) (v : Nat) : spl (fm P c1 sa da sp dp sq ak F wi c2 R) 22 (B16 v) = fm P c1 sa da sp v sq ak F wi c2 R := by
  have := spl_at (P ++ (B16 c1 ++ (B32 sa ++ (B32 da ++ (B16 sp))))) (B16 dp) (B32 sq ++ (B32 ak ++ (F ++ (B16 wi ++ (B16 c2 ++ (R)))))) (B16 v) 22 (by simp [B16, B32, hP, hF]) rfl
  unfold fm sg
  simpa only [List.append_assoc] using this
theorem get_dp (P : List UInt8) (c1 sa da sp dp sq ak : Nat) (F : List UInt8) (wi c2 : Nat) (R : List UInt8) (hP : P.length = 10) (hF : F.length = 2) : ((fm P c1 sa da sp dp sq ak F wi c2 R).drop 22).take 2 = B16 dp := by
  have := (cut (l := fm P c1 sa da sp dp sq ak F wi c2 R) (A := P ++ (B16 c1 ++ (B32 sa ++ (B32 da ++ (B16 sp))))) (B := B16 dp) (C := B32 sq ++ (B32 ak ++ (F ++ (B16 wi ++ (B16 c2 ++ (R)))))) (by unfold fm sg; simp only [List.append_assoc]) (show _ = 22 by simp [B16, B32, hP, hF]) (show _ = 2 from rfl)).2.2
  exact this
theorem put_sq (P : List UInt8) (c1 sa da sp dp sq ak : Nat) (F : List UInt8) (wi c2 : Nat) (R : List UInt8) (hP : P.length = 10) (hF : F.length = 2) (v : Nat) : spl (fm P c1 sa da sp dp sq ak F wi c2 R) 24 (B32 v) = fm P c1 sa da sp dp v ak F wi c2 R := by
  have := spl_at (P ++ (B16 c1 ++ (B32 sa ++ (B32 da ++ (B16 sp ++ (B16 dp)))))) (B32 sq) (B32 ak ++ (F ++ (B16 wi ++ (B16 c2 ++ (R))))) (B32 v) 24 (by simp [B16, B32, hP, hF]) rfl
  unfold fm sg
  simpa only [List.append_assoc] using this
theorem get_sq (P : List UInt8) (c1 sa da sp dp sq ak : Nat) (F : List UInt8) (wi c2 : Nat) (R : List UInt8) (hP : P.length = 10) (hF : F.length = 2) : ((fm P c1 sa da sp dp sq ak F wi c2 R).drop 24).take 4 = B32 sq := by
  have := (cut (l := fm P c1 sa da sp dp sq ak F wi c2 R) (A := P ++ (B16 c1 ++ (B32 sa ++ (B32 da ++ (B16 sp ++ (B16 dp)))))) (B := B32 sq) (C := B32 ak ++ (F ++ (B16 wi ++ (B16 c2 ++ (R))))) (by unfold fm sg; simp only [List.append_assoc]) (show _ = 24 by simp [B16, B32, hP, hF]) (show _ = 4 from rfl)).2.2
  exact this
theorem put_ak (P : List UInt8) (c1 sa da sp dp sq ak : Nat) (F : List UInt8) (wi c2 : Nat) (R : List UInt8) (hP : P.length = 10) (hF : F.length = 2) (v : Nat) : spl (fm P c1 sa da sp dp sq ak F wi c2 R) 28 (B32 v) = fm P c1 sa da sp dp sq v F wi c2 R := by
  have := spl_at (P ++ (B16 c1 ++ (B32 sa ++ (B32 da ++ (B16 sp ++ (B16 dp ++ (B32 sq))))))) (B32 ak) (F ++ (B16 wi ++ (B16 c2 ++ (R)))) (B32 v) 28 (by simp [B16, B32, hP, hF]) rfl
  unfold fm sg
  simpa only [List.append_assoc] using this
theorem get_ak (P : List UInt8) (c1 sa da sp dp sq ak : Nat) (F : List UInt8) (wi c2 : Nat) (R : List UInt8) (hP : P.length = 10) (hF : F.length = 2) : ((fm P c1 sa da sp dp sq ak F wi c2 R).drop 28).take 4 = B32 ak := by
  have := (cut (l := fm P c1 sa da sp dp sq ak F wi c2 R) (A := P ++ (B16 c1 ++ (B32 sa ++ (B32 da ++ (B16 sp ++ (B16 dp ++ (B32 sq))))))) (B := B32 ak) (C := F ++ (B16 wi ++ (B16 c2 ++ (R)))) (by unfold fm sg; simp only [List.append_assoc]) (show _ = 28 by simp [B16, B32, hP, hF]) (show _ = 4 from rfl)).2.2
  exact this
theorem put_wi (P : List UInt8) (c1 sa da sp dp sq ak : Nat) (F : List UInt8) (wi c2 : Nat) (R : List UInt8) (hP : P.length = 10) (hF : F.length = 2) (v : Nat) : spl (fm P c1 sa da sp dp sq ak F wi c2 R) 34 (B16 v) = fm P c1 sa da sp dp sq ak F v c2 R := by
  have := spl_at (P ++ (B16 c1 ++ (B32 sa ++ (B32 da ++ (B16 sp ++ (B16 dp ++ (B32 sq ++ (B32 ak ++ (F))))))))) (B16 wi) (B16 c2 ++ (R)) (B16 v) 34 (by simp [B16, B32, hP, hF]) rfl
  unfold fm sg
  simpa only [List.append_assoc] using this
theorem get_wi (P : List UInt8) (c1 sa da sp dp sq ak : Nat) (F : List UInt8) (wi c2 : Nat) (R : List UInt8) (hP : P.length = 10) (hF : F.length = 2) : ((fm P c1 sa da sp dp sq ak F wi c2 R).drop 34).take 2 = B16 wi := by
  have := (cut (l := fm P c1 sa da sp dp sq ak F wi c2 R) (A := P ++ (B16 c1 ++ (B32 sa ++ (B32 da ++ (B16 sp ++ (B16 dp ++ (B32 sq ++ (B32 ak ++ (F))))))))) (B := B16 wi) (C := B16 c2 ++ (R)) (by unfold fm sg; simp only [List.append_assoc]) (show _ = 34 by simp [B16, B32, hP, hF]) (show _ = 2 from rfl)).2.2
  exact this
theorem put_c2 (P : List UInt8) (c1 sa da sp dp sq ak : Nat) (F : List UInt8) (wi c2 : Nat) (R : List UInt8) (hP : P.length = 10) (hF : F.length = 2) (v : Nat) : spl (fm P c1 sa da sp dp sq ak F wi c2 R) 36 (B16 v) = fm P c1 sa da sp dp sq ak F wi v R := by
  have := spl_at (P ++ (B16 c1 ++ (B32 sa ++ (B32 da ++ (B16 sp ++ (B16 dp ++ (B32 sq ++ (B32 ak ++ (F ++ (B16 wi)))))))))) (B16 c2) (R) (B16 v) 36 (by simp [B16, B32, hP, hF]) rfl
  unfold fm sg
  simpa only [List.append_assoc] using this
theorem put_O (P : List UInt8) (c1 sa da sp dp sq ak : Nat) (F : List UInt8) (wi c2 : Nat) (U O O2 D : List UInt8) (hP : P.length = 10) (hF : F.length = 2) (hU : U.length = 2) (hO : O2.length = O.length) : spl (fm P c1 sa da sp dp sq ak F wi c2 (U ++ (O ++ D))) 40 O2 = fm P c1 sa da sp dp sq ak F wi c2 (U ++ (O2 ++ D)) := by
  have := spl_at (P ++ (B16 c1 ++ (B32 sa ++ (B32 da ++ (B16 sp ++ (B16 dp ++ (B32 sq ++ (B32 ak ++ (F ++ (B16 wi ++ (B16 c2 ++ (U)))))))))))) O D O2 40 (by simp [B16, B32, hP, hF, hU]) hO.symm
  unfold fm sg
  simpa only [List.append_assoc] using this
theorem get_O (P : List UInt8) (c1 sa da sp dp sq ak : Nat) (F : List UInt8) (wi c2 : Nat) (U O D : List UInt8) (hP : P.length = 10) (hF : F.length = 2) (hU : U.length = 2) : ((fm P c1 sa da sp dp sq ak F wi c2 (U ++ (O ++ D))).drop 40).take O.length = O :=
  (cut (l := fm P c1 sa da sp dp sq ak F wi c2 (U ++ (O ++ D))) (A := P ++ (B16 c1 ++ (B32 sa ++ (B32 da ++ (B16 sp ++ (B16 dp ++ (B32 sq ++ (B32 ak ++ (F ++ (B16 wi ++ (B16 c2 ++ (U)))))))))))) (B := O) (C := D) (by unfold fm sg; simp only [List.append_assoc]) (show _ = 40 by simp [B16, B32, hP, hF, hU]) rfl).2.2
theorem lay_sa (P : List UInt8) (vh vg sa da sp dp sq ak : Nat) (F : List UInt8) (wi : Nat) (R : List UInt8) (hP : P.length = 10) (hF : F.length = 2) (v : Nat) : layS [true, false] 12 (B32 v) (⟨vh, vg, fm P vh sa da sp dp sq ak F wi vg R⟩ : St) = (⟨(T vh (B32 sa) (B32 v)), (T vg (B32 sa) (B32 v)), fm P (T vh (B32 sa) (B32 v)) v da sp dp sq ak F wi (T vg (B32 sa) (B32 v)) R⟩ : St) := by
  unfold layS
  dsimp only
  rw [show (B32 v).length = 4 from rfl, get_sa _ _ _ _ _ _ _ _ _ _ _ _ hP hF, put_sa _ _ _ _ _ _ _ _ _ _ _ _ hP hF]
  rw [List.foldl_cons, List.foldl_cons, List.foldl_nil]
  unfold tur
  rw [if_pos rfl, if_neg (by decide)]
  dsimp only
  rw [put_c1 _ _ _ _ _ _ _ _ _ _ _ _ hP hF, put_c2 _ _ _ _ _ _ _ _ _ _ _ _ hP hF]
theorem lay_da (P : List UInt8) (vh vg sa da sp dp sq ak : Nat) (F : List UInt8) (wi : Nat) (R : List UInt8) (hP : P.length = 10) (hF : F.length = 2) (v : Nat) : layS [true, false] 16 (B32 v) (⟨vh, vg, fm P vh sa da sp dp sq ak F wi vg R⟩ : St) = (⟨(T vh (B32 da) (B32 v)), (T vg (B32 da) (B32 v)), fm P (T vh (B32 da) (B32 v)) sa v sp dp sq ak F wi (T vg (B32 da) (B32 v)) R⟩ : St) := by
  unfold layS
  dsimp only
  rw [show (B32 v).length = 4 from rfl, get_da _ _ _ _ _ _ _ _ _ _ _ _ hP hF, put_da _ _ _ _ _ _ _ _ _ _ _ _ hP hF]
  rw [List.foldl_cons, List.foldl_cons, List.foldl_nil]
  unfold tur
  rw [if_pos rfl, if_neg (by decide)]
  dsimp only
  rw [put_c1 _ _ _ _ _ _ _ _ _ _ _ _ hP hF, put_c2 _ _ _ _ _ _ _ _ _ _ _ _ hP hF]
theorem lay_sp (P : List UInt8) (vh vg sa da sp dp sq ak : Nat) (F : List UInt8) (wi : Nat) (R : List UInt8) (hP : P.length = 10) (hF : F.length = 2) (v : Nat) : layS [false] 20 (B16 v) (⟨vh, vg, fm P vh sa da sp dp sq ak F wi vg R⟩ : St) = (⟨vh, (T vg (B16 sp) (B16 v)), fm P vh sa da v dp sq ak F wi (T vg (B16 sp) (B16 v)) R⟩ : St) := by
  unfold layS
  dsimp only
  rw [show (B16 v).length = 2 from rfl, get_sp _ _ _ _ _ _ _ _ _ _ _ _ hP hF, put_sp _ _ _ _ _ _ _ _ _ _ _ _ hP hF]
  rw [List.foldl_cons, List.foldl_nil]
  unfold tur
  rw [if_neg (by decide)]
  dsimp only
  rw [put_c2 _ _ _ _ _ _ _ _ _ _ _ _ hP hF]
theorem lay_dp (P : List UInt8) (vh vg sa da sp dp sq ak : Nat) (F : List UInt8) (wi : Nat) (R : List UInt8) (hP : P.length = 10) (hF : F.length = 2) (v : Nat) : layS [false] 22 (B16 v) (⟨vh, vg, fm P vh sa da sp dp sq ak F wi vg R⟩ : St) = (⟨vh, (T vg (B16 dp) (B16 v)), fm P vh sa da sp v sq ak F wi (T vg (B16 dp) (B16 v)) R⟩ : St) := by
  unfold layS
  dsimp only
  rw [show (B16 v).length = 2 from rfl, get_dp _ _ _ _ _ _ _ _ _ _ _ _ hP hF, put_dp _ _ _ _ _ _ _ _ _ _ _ _ hP hF]
  rw [List.foldl_cons, List.foldl_nil]
  unfold tur
  rw [if_neg (by decide)]
  dsimp only
  rw [put_c2 _ _ _ _ _ _ _ _ _ _ _ _ hP hF]
theorem lay_sq (P : List UInt8) (vh vg sa da sp dp sq ak : Nat) (F : List UInt8) (wi : Nat) (R : List UInt8) (hP : P.length = 10) (hF : F.length = 2) (v : Nat) : layS [false] 24 (B32 v) (⟨vh, vg, fm P vh sa da sp dp sq ak F wi vg R⟩ : St) = (⟨vh, (T vg (B32 sq) (B32 v)), fm P vh sa da sp dp v ak F wi (T vg (B32 sq) (B32 v)) R⟩ : St) := by
  unfold layS
  dsimp only
  rw [show (B32 v).length = 4 from rfl, get_sq _ _ _ _ _ _ _ _ _ _ _ _ hP hF, put_sq _ _ _ _ _ _ _ _ _ _ _ _ hP hF]
  rw [List.foldl_cons, List.foldl_nil]
  unfold tur
  rw [if_neg (by decide)]
  dsimp only
  rw [put_c2 _ _ _ _ _ _ _ _ _ _ _ _ hP hF]
theorem lay_ak (P : List UInt8) (vh vg sa da sp dp sq ak : Nat) (F : List UInt8) (wi : Nat) (R : List UInt8) (hP : P.length = 10) (hF : F.length = 2) (v : Nat) : layS [false] 28 (B32 v) (⟨vh, vg, fm P vh sa da sp dp sq ak F wi vg R⟩ : St) = (⟨vh, (T vg (B32 ak) (B32 v)), fm P vh sa da sp dp sq v F wi (T vg (B32 ak) (B32 v)) R⟩ : St) := by
  unfold layS
  dsimp only
  rw [show (B32 v).length = 4 from rfl, get_ak _ _ _ _ _ _ _ _ _ _ _ _ hP hF, put_ak _ _ _ _ _ _ _ _ _ _ _ _ hP hF]
  rw [List.foldl_cons, List.foldl_nil]
  unfold tur
  rw [if_neg (by decide)]
  dsimp only
  rw [put_c2 _ _ _ _ _ _ _ _ _ _ _ _ hP hF]
theorem lay_wi (P : List UInt8) (vh vg sa da sp dp sq ak : Nat) (F : List UInt8) (wi : Nat) (R : List UInt8) (hP : P.length = 10) (hF : F.length = 2) (v : Nat) : layS [false] 34 (B16 v) (⟨vh, vg, fm P vh sa da sp dp sq ak F wi vg R⟩ : St) = (⟨vh, (T vg (B16 wi) (B16 v)), fm P vh sa da sp dp sq ak F v (T vg (B16 wi) (B16 v)) R⟩ : St) := by
  unfold layS
  dsimp only
  rw [show (B16 v).length = 2 from rfl, get_wi _ _ _ _ _ _ _ _ _ _ _ _ hP hF, put_wi _ _ _ _ _ _ _ _ _ _ _ _ hP hF]
  rw [List.foldl_cons, List.foldl_nil]
  unfold tur
  rw [if_neg (by decide)]
  dsimp only
  rw [put_c2 _ _ _ _ _ _ _ _ _ _ _ _ hP hF]
theorem lay_O (P : List UInt8) (vh vg sa da sp dp sq ak : Nat) (F : List UInt8) (wi : Nat) (U O O2 D : List UInt8) (hP : P.length = 10) (hF : F.length = 2) (hU : U.length = 2) (hO : O2.length = O.length) : layS [false] 40 O2 (⟨vh, vg, fm P vh sa da sp dp sq ak F wi vg (U ++ (O ++ D))⟩ : St) = (⟨vh, (T vg O O2), fm P vh sa da sp dp sq ak F wi (T vg O O2) (U ++ (O2 ++ D))⟩ : St) := by
  unfold layS
  dsimp only
  rw [hO, get_O _ _ _ _ _ _ _ _ _ _ _ _ _ _ hP hF hU, put_O _ _ _ _ _ _ _ _ _ _ _ _ _ _ _ hP hF hU hO]
  rw [List.foldl_cons, List.foldl_nil]
  unfold tur
  rw [if_neg (by decide)]
  dsimp only
  rw [put_c2 _ _ _ _ _ _ _ _ _ _ _ _ hP hF]
def tn (c : Nat) (p : List (Int × Int)) : Nat := (foldT (c : Int) p).toNat
theorem foldT_bd : ∀ (p : List (Int × Int)) (c : Int), 0 ≤ c ∧ c ≤ 65535 → Words p → 0 ≤ foldT c p ∧ foldT c p ≤ 65535
  | [], c, h, _ => h
  | x :: t, c, h, hw => foldT_bd t _ (turn_bd _ _ _ h.2 (hw x (List.mem_cons_self ..)).1.2 (hw x (List.mem_cons_self ..)).2.1) (fun y hy => hw y (List.mem_cons_of_mem _ hy))
theorem tn_app (c : Nat) (p q : List (Int × Int)) (hc : c ≤ 65535) (hw : Words p) : tn (tn c p) q = tn c (p ++ q) := by
  have := foldT_bd p (c : Int) ⟨by omega, by omega⟩ hw
  unfold tn
  rw [foldT_app, Int.toNat_of_nonneg this.1]
theorem T_32 (c a b : Nat) (ha : W32 a) (hb : W32 b) : T c (B32 a) (B32 b) = tn c (pair32 a b) := by
  unfold T tn
  rw [show ((B32 a).length + 1) / 2 = 2 by simp [B32], turns_fold, wp_B32 ha hb]
theorem T_16 (c a b : Nat) (ha : W16 a) (hb : W16 b) : T c (B16 a) (B16 b) = tn c [((a : Int), (b : Int))] := by
  unfold T tn
  rw [show ((B16 a).length + 1) / 2 = 1 by simp [B16], turns_fold, wp_B16 ha hb]
theorem T_O (c : Nat) (O O2 : List UInt8) (h : O.length % 2 = 0) : T c O O2 = tn c (wp O O2 (O.length / 2)) := by
  unfold T tn
  rw [show (O.length + 1) / 2 = O.length / 2 by omega, turns_fold]
def stepsS (t : Sg) (O2 : List UInt8) (u : St) : St :=
  layS [false] 40 O2 (layS [false] 34 (B16 t.wi) (layS [false] 28 (B32 t.ak) (layS [false] 24 (B32 t.sq) (layS [false] 22 (B16 t.dp) (layS [false] 20 (B16 t.sp) (layS [true, false] 16 (B32 t.da) (layS [true, false] 12 (B32 t.sa) u)))))))
theorem rw_steps {l : List UInt8} {x : Sh} (hx : WfX x) (h : errP l = 0) : (stepsS (tS x (valP l)) (om.turnL x.ak x.va x.ec (optsOf (l.drop 20))) ⟨(wd l 10).toNat, (wd l 36).toNat, l⟩).l = rwP x l := by
  obtain ⟨P, F, U, O, c1, c2, p⟩ := parts_of h
  have e := (fms_rw hx p.hs p.hP p.hF p.hU p.hO p.h1 p.h2 p.hn p.hf p.ho rfl p.he).2
  rw [← p.hl] at e
  have hs := p.hs; have hn := wfN hs
  have hm := wfN (tS_wf hx hs)
  have hO : optsOf (l.drop 20) = O := by
    have d20 : l.drop 20 = sgs (valP l) F c2 U O (valP l).dt := by
      conv => lhs; rw [p.hl]
      exact fm_drop p.hP
    rw [d20]
    exact (sgs_val (F := F) (U := U) (O := O) (D := (valP l).dt) (c2 := c2) p.hF p.hU hn 0 0 p.hn).1
  rw [hO]
  have t3 : (om.turnL x.ak x.va x.ec O).length = O.length := (om.turn_err p.he).2.2
  generalize om.turnL x.ak x.va x.ec O = O2 at e t3
  generalize tS x (valP l) = t at e hm
  have hl := p.hl
  have hP := p.hP; have hF := p.hF; have hU := p.hU; have hO2 := p.hO; have h1 := p.h1; have h2 := p.h2
  clear p
  generalize valP l = s at hl hs hn e
  obtain ⟨a1, a2, a3, a4, a5, a6, a7, a8, a9, a10, a11, a12, a13⟩ := fms_cut (P := P) (F := F) (U := U) (O := O) (D := s.dt) (c1 := c1) (c2 := c2) (s := s) hP hF hU
  rw [← hl] at a12 a13
  have w10 : wd l 10 = c1 := by rw [a12]; have := om.wd_B16 c1 h1 []; rw [List.append_nil] at this; exact this
  have w36 : wd l 36 = c2 := by rw [a13]; have := om.wd_B16 c2 h2 []; rw [List.append_nil] at this; exact this
  rw [w10, w36, Int.toNat_natCast, Int.toNat_natCast, e, hl]
  clear a1 a2 a3 a4 a5 a6 a7 a8 a9 a10 a11 a12 a13 w10 w36 e hl hO h l
  obtain ⟨n1, n2, n3, n4, n5, n6, n7⟩ := hn
  obtain ⟨m1, m2, m3, m4, m5, m6, m7⟩ := hm
  unfold stepsS
  show (layS _ _ _ (layS _ _ _ (layS _ _ _ (layS _ _ _ (layS _ _ _ (layS _ _ _ (layS _ _ _ (layS _ _ _ (⟨c1, c2, fm P c1 s.sa s.da s.sp s.dp s.sq s.ak F s.wi c2 (U ++ (O ++ s.dt))⟩ : St))))))))).l = _
  rw [lay_sa _ _ _ _ _ _ _ _ _ _ _ _ hP hF, lay_da _ _ _ _ _ _ _ _ _ _ _ _ hP hF, lay_sp _ _ _ _ _ _ _ _ _ _ _ _ hP hF, lay_dp _ _ _ _ _ _ _ _ _ _ _ _ hP hF, lay_sq _ _ _ _ _ _ _ _ _ _ _ _ hP hF, lay_ak _ _ _ _ _ _ _ _ _ _ _ _ hP hF, lay_wi _ _ _ _ _ _ _ _ _ _ _ _ hP hF, lay_O _ _ _ _ _ _ _ _ _ _ _ _ _ _ _ hP hF hU t3]
  dsimp only
  rw [T_32 _ _ _ n1 m1, T_32 _ _ _ n2 m2, T_32 _ _ _ n1 m1, T_32 _ _ _ n2 m2, T_16 _ _ _ n3 m3, T_16 _ _ _ n4 m4, T_32 _ _ _ n5 m5, T_32 _ _ _ n6 m6, T_16 _ _ _ n7 m7, T_O _ _ _ hO2]
  have p1 := pair_words n1 m1; have p2 := pair_words n2 m2; have p3 := words_one n3 m3; have p4 := words_one n4 m4; have p5 := pair_words n5 m5; have p6 := pair_words n6 m6; have p7 := words_one n7 m7
  have q2 := words_app p1 p2; have q3 := words_app q2 p3; have q4 := words_app q3 p4; have q5 := words_app q4 p5; have q6 := words_app q5 p6; have q7 := words_app q6 p7
  rw [tn_app _ _ _ h1 p1, tn_app _ _ _ h2 p1, tn_app _ _ _ h2 q2, tn_app _ _ _ h2 q3, tn_app _ _ _ h2 q4, tn_app _ _ _ h2 q5, tn_app _ _ _ h2 q6, tn_app _ _ _ h2 q7]
  have eg : ((((((pair32 s.sa t.sa ++ pair32 s.da t.da) ++ [((s.sp : Int), (t.sp : Int))]) ++ [((s.dp : Int), (t.dp : Int))]) ++ pair32 s.sq t.sq) ++ pair32 s.ak t.ak) ++ [((s.wi : Int), (t.wi : Int))]) ++ wp O O2 (O.length / 2) = psG s t O O2 := by
    unfold psG psH; simp only [List.append_assoc, List.cons_append, List.nil_append]
  rw [eg]
  rfl
end Go.Proofs.Ytafckmbgefbonaa.pk
