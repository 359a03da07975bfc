/- Package sum: the words of two texts that stand in the same place, told by an iterator; Turns. Condition: each text is at most 2^40 bytes. -/
import Derived.Test.YtjnlfnlodjbcjaaSumE
namespace Go.Proofs.Ytjnlfnlodjbcjaa.su
open Go.RowKit Go.Shelf Go.Proofs.Ytjnlfnlodjbcjaa.sm
set_option linter.unusedVariables false
attribute [local go_sem] Oper.semAt_some

/-- the words of two texts, k of them -/
def prs (X Y : List UInt8) : Nat → List (U16 × U16)
  | 0 => []
  | k + 1 => prs X Y k ++ [(⟨wd X (2 * k), wd_bd X _⟩, ⟨wd Y (2 * k), wd_bd Y _⟩)]
theorem prs_len (X Y : List UInt8) : ∀ k, (prs X Y k).length = k
  | 0 => rfl
  | k + 1 => by simp [prs, prs_len X Y k]
/-- a checksum, turned along -/
def turnsL (c : Int) (l : List (U16 × U16)) : Int := l.foldl (fun c x => turn c x.1.1 x.2.1) c
theorem turnsL_snoc (c : Int) (l : List (U16 × U16)) (x : U16 × U16) : turnsL c (l ++ [x]) = turn (turnsL c l) x.1.1 x.2.1 := by simp [turnsL]
theorem turnsL_prs (c : Int) (X Y : List UInt8) : ∀ k, turnsL c (prs X Y k) = turns c X Y k
  | 0 => rfl
  | k + 1 => by rw [prs, turnsL_snoc, turnsL_prs c X Y k]; rfl
theorem turnsL_bd (c : Int) (h : 0 ≤ c ∧ c ≤ 65535) : ∀ l : List (U16 × U16), 0 ≤ turnsL c l ∧ turnsL c l ≤ 65535 := by
  intro l
  induction l generalizing c with
  | nil => exact h
  | cons x t ih => exact ih _ (turn_bd _ _ _ h.2 x.1.2.2 x.2.2.1)

/-- what pairs leaves -/
def PairsOut (w : World) (x y : ByteArray) (n : Nat) (e : Ending) (w' : World) : Prop :=
  e = .returned (.func (.func 27) #[] #[.pointer (some ⟨w.heap.size + 2, 0, none⟩), .pointer (some ⟨w.heap.size, 0, none⟩), .pointer (some ⟨w.heap.size + 1, 0, none⟩)]) ∧ Below w.heap.size w w' ∧
    w'.heap.size = w.heap.size + 3 ∧ Boxed w' w.heap.size 9 (.string (x.extract 0 n)) ∧ Boxed w' (w.heap.size + 1) 9 (.string (y.extract 0 n)) ∧ Boxed w' (w.heap.size + 2) 3 (.int .i64 n)
theorem three_boxes (w : World) (a b c : Value) (t1 t2 t3 : TypeId) :
    Boxed (((w.alloc (.cells #[a] t1)).alloc (.cells #[b] t2)).alloc (.cells #[c] t3)).drew w.heap.size t1 a ∧
    Boxed (((w.alloc (.cells #[a] t1)).alloc (.cells #[b] t2)).alloc (.cells #[c] t3)).drew (w.heap.size + 1) t2 b ∧
    Boxed (((w.alloc (.cells #[a] t1)).alloc (.cells #[b] t2)).alloc (.cells #[c] t3)).drew (w.heap.size + 2) t3 c := by
  have h1 := ((Boxed.new w t1 a).alloc (.cells #[b] t2)).alloc (.cells #[c] t3)
  have h2 := Boxed.new (w.alloc (.cells #[a] t1)) t2 b
  rw [World.size_alloc] at h2
  have h3 := Boxed.new ((w.alloc (.cells #[a] t1)).alloc (.cells #[b] t2)) t3 c
  rw [World.size_alloc, World.size_alloc] at h3
  exact ⟨h1, h2.alloc _, h3⟩
theorem whole (y : ByteArray) : y.extract 0 y.size = y := by simp
theorem pairsC (x y : ByteArray) (n : Nat) (w : World) (hn : n = min x.size y.size) (hx : x.size ≤ 1099511627776) (hy : y.size ≤ 1099511627776) :
    Calls Try.prog 22 #[.string x, .string y] w (PairsOut w x y n) := by
  have hnx : n ≤ x.size := by omega
  have hny : n ≤ y.size := by omega
  have hcase : (y.size < x.size ∧ n = y.size) ∨ (¬ y.size < x.size ∧ n = x.size) := by omega
  clear hn
  have hB := fun a b c => ((((Below.refl w.heap.size w).alloc (Nat.le_refl _) (.cells #[a] 9)).alloc (by simp) (.cells #[b] 9)).alloc (by simp; omega) (.cells #[c] 3)).drew
  rcases hcase with ⟨h1, hne⟩ | ⟨h1, hne⟩
  · subst hne
    go_enter Try.func22, Try.ntmps22
    go_wp2
    go_region
    all_goals go_wp2
    all_goals go_ret
    obtain ⟨b1, b2, b3⟩ := three_boxes w (.string (x.extract 0 y.size)) (.string y) (.int .i64 y.size) 9 9 3
    exact ⟨rfl, hB _ _ _, by simp [World.drew], b1, by rw [whole]; exact b2, b3⟩
  · subst hne
    go_enter Try.func22, Try.ntmps22
    go_wp2
    go_region
    all_goals go_wp2
    all_goals go_ret
    obtain ⟨b1, b2, b3⟩ := three_boxes w (.string x) (.string (y.extract 0 x.size)) (.int .i64 x.size) 9 9 3
    exact ⟨rfl, hB _ _ _, by simp [World.drew], by rw [whole]; exact b1, b2, b3⟩

/-- the three boxes of a pairs, from B on, lie as they lay -/
def Keeps3 (B : Nat) (W W' : World) : Prop := ∀ k, B ≤ k → k < B + 3 → W'.heap[k]? = W.heap[k]?
abbrev Tells2 (P : Program) (g : Nat) (lb : Array Value) (B : Nat) (zs : List (U16 × U16)) (w : World) : Prop :=
  SeqStopsK Fence.wide 3 P g lb (fun x : U16 × U16 => #[Value.int .u16 x.1.1, Value.int .u16 x.2.1]) (Keeps3 B) (fun xs => xs = zs) (fun _ => True) zs.length w
theorem Keeps3.boxed {B k : Nat} {W W' : World} {t : TypeId} {v : Value} (h : Keeps3 B W W') (h1 : B ≤ k) (h2 : k < B + 3) (hb : Boxed W k t v) : Boxed W' k t v := (h k h1 h2).trans hb

/-- a round, wherever the order that is drawn has led -/
theorem yield_all {m : Nat} {P : Program} {l : Nat} {args : Array Value} {W : World} {R R' : Nat → Ending → World → Prop} (h : ∀ q, YieldAt Fence.wide m P l args (W.drewN q) (R q)) (hR : ∀ q e w, R q e w → R' q e w) :
    ∃ (fn : Nat → FuncId) (tmps : Nat → Array Value) (assign body : Nat → Code), (∀ q, (Instr.yield l args).run P (W.drewN q) = .ok (.round l (fn q) (tmps q) (assign q) (body q)) (W.drewN q)) ∧
      ∀ q, RoundIn Fence.wide m P l (fn q) (tmps q) (assign q) (body q) (W.drewN q) (R' q) := by
  have h' : ∀ q, ∃ x : FuncId × Array Value × Code × Code, (Instr.yield l args).run P (W.drewN q) = .ok (.round l x.1 x.2.1 x.2.2.1 x.2.2.2) (W.drewN q) ∧ RoundIn Fence.wide m P l x.1 x.2.1 x.2.2.1 x.2.2.2 (W.drewN q) (R' q) := fun q => by
    obtain ⟨fn, tmps, assign, body, h1, h2⟩ := h q
    exact ⟨(fn, tmps, assign, body), h1, h2.mono (hR q)⟩
  obtain ⟨f, hf⟩ := Classical.axiomOfChoice h'
  exact ⟨fun q => (f q).1, fun q => (f q).2.1, fun q => (f q).2.2.1, fun q => (f q).2.2.2, fun q => (hf q).1, fun q => (hf q).2⟩
/-- how a round ends: it goes on, or no more are wanted -/
def Out2 (J Jx : List (U16 × U16) → World → Prop) (B : Nat) (xs : List (U16 × U16)) (W1 : World) (b : Bool) (W' : World) : Prop :=
  (b = true ∧ J xs W' ∧ Keeps3 B W1 W') ∨ (b = false ∧ Jx xs W')
theorem out2_of {J Jx : List (U16 × U16) → World → Prop} {B : Nat} {xs : List (U16 × U16)} {W1 : World} {e : Ending} {W' : World}
    (h : (e = .returned (.bool true) ∧ J xs W' ∧ Keeps3 B W1 W') ∨ (e = .returned (.bool false) ∧ Jx xs W')) : ∃ b, e = .returned (.bool b) ∧ Out2 J Jx B xs W1 b W' := by
  rcases h with ⟨h1, h2⟩ | ⟨h1, h2⟩
  · exact ⟨true, h1, .inl ⟨rfl, h2⟩⟩
  · exact ⟨false, h1, .inr ⟨rfl, h2⟩⟩
theorem wordAtQ (s : ByteArray) (k : Nat) (w : World) (h : s.size ≤ 1099511627776 ∧ k < s.size) :
    Calls Try.prog 25 #[.string s, .int .i64 k] w (Quiet (.int .u16 (wd (L s) k)) w) := wordAt_in s k w h.1 h.2

set_option maxRecDepth 100000 in
set_option maxHeartbeats 2000000 in
/-- the closure of pairs -/
theorem pairsTells (B n : Nat) (X Y : ByteArray) (w : World) (hX : X.size = n) (hY : Y.size = n) (hn : n ≤ 1099511627776) (hsz : B + 3 ≤ w.heap.size)
    (b1 : Boxed w B 9 (.string X)) (b2 : Boxed w (B + 1) 9 (.string Y)) (b3 : Boxed w (B + 2) 3 (.int .i64 n)) :
    Tells2 Try.prog 27 #[.pointer (some ⟨B + 2, 0, none⟩), .pointer (some ⟨B, 0, none⟩), .pointer (some ⟨B + 1, 0, none⟩)] B (prs (L X) (L Y) ((n + 1) / 2)) w := fun l J Jx W hW hJ hJx hY' h0 => by
  have k0 : Keeps3 B w W := fun k h1 h2 => hW.block k (by omega)
  have c1 := k0.boxed (by omega) (by omega) b1
  have c2 := k0.boxed (by omega) (by omega) b2
  have c3 := k0.boxed (by omega) (by omega) b3
  have hmx : Try.prog.follows .mixedOrders = true := by kernel_rfl
  rw [prs_len] at hY'
  have HX := Lib.hid hX
  have HY := Lib.hid hY
  have C1 := Lib.hid c1
  have C2 := Lib.hid c2
  have C3 := Lib.hid c3
  clear hX hY b1 b2 b3 c1 c2 c3 k0 hW
  refine callsIn_of_wp Try.func27 rfl trivial ?_ rfl
  simp only [Try.ntmps27, List.size_toArray, List.length_cons, List.length_nil, Nat.reduceAdd, Nat.reduceSub, Array.replicate_succ, Array.replicate_zero, List.push_toArray, List.append_toArray, List.nil_append, List.cons_append]
  gi_wp2
  gi_loopw [5] (fun i wr => ∃ j : Nat, j ≤ n + 1 ∧ Hid (j % 2 = 0) ∧ i = .int .i64 j ∧ J (prs (L X) (L Y) (j / 2)) wr ∧ Keeps3 B W wr)
    (fun i _ => n + 1 - (intOf i).toNat)
  case atStart => exact ⟨0, by omega, rfl, rfl, h0, fun _ _ _ => rfl⟩
  case round =>
    obtain ⟨j, hj, hm, rfl, hJs, hk⟩ := hrel
    have b1 := hk.boxed (by omega) (by omega) C1.out
    have b2 := hk.boxed (by omega) (by omega) C2.out
    have b3 := hk.boxed (by omega) (by omega) C3.out
    have d1 := b1.cell
    have d2 := b2.cell
    have d3 := b3.cell
    by_cases hlt : j < n
    · have hw1 := wd_bd (L X) j
      have hw2 := wd_bd (L Y) j
      have hnext : Hid (prs (L X) (L Y) ((j + 2) / 2) = prs (L X) (L Y) (j / 2) ++ [(⟨wd (L X) j, hw1⟩, ⟨wd (L Y) j, hw2⟩)]) := by
        show _ = _
        rw [show (j + 2) / 2 = j / 2 + 1 by omega]
        have e : 2 * (j / 2) = j := by have := hm.out; omega
        simp only [prs, e]
      have f1 : X.size ≤ 1099511627776 ∧ j < X.size := ⟨by have := HX.out; omega, by have := HX.out; omega⟩
      have f2 : Y.size ≤ 1099511627776 ∧ j < Y.size := ⟨by have := HY.out; omega, by have := HY.out; omega⟩
      have hall := yield_all (W := wr) (fun q => hY' _ (⟨wd (L X) j, hw1⟩, ⟨wd (L Y) j, hw2⟩) (wr.drewN q) (abide_drewN hJ hJs q) (by rw [prs_len]; have := hm.out; omega))
        (R' := fun q e W' => ∃ b, e = .returned (.bool b) ∧ Out2 J Jx B (prs (L X) (L Y) (j / 2) ++ [(⟨wd (L X) j, hw1⟩, ⟨wd (L Y) j, hw2⟩)]) wr b W') (fun q e W' h => out2_of h)
      obtain ⟨fn, tmps, assign, body, hy, hR⟩ := hall
      dsimp only at hy
      clear b1 b2 b3
      gi_wp2
      gi_region_with_o (first
        | (refine ⟨trivial, ?_⟩; gi_at_call 25; refine (callsIn_wide.2 (wordAtQ _ _ _ (by first | exact f1 | exact f2))).mono ?_; rintro e w' ⟨rfl, nq, rfl⟩)
        | (refine (hR _).mono ?_; rintro e W3 ⟨b3, rfl, hO⟩))
      all_goals
        rcases hO with ⟨rfl, hJ3, hk3⟩ | ⟨rfl, hJx3⟩
        · gi_wp2
          go_roundw
          case rel => exact ⟨j + 2, by omega, by show _ = _; have := hm.out; omega, by go_num, by rw [hnext.out]; exact hJ3, fun k h1 h2 => (hk3 k h1 h2).trans (hk k h1 h2)⟩
          case measure => simp [intOf]; omega
        · gi_wp2
          refine bodyPost_ret (results_none rfl _ _ _) rfl ?_
          exact ⟨⟨_, rfl⟩, .inr ⟨_, trivial, hJx3⟩⟩
    · have hend : Hid (prs (L X) (L Y) (j / 2) = prs (L X) (L Y) ((n + 1) / 2)) := by show _ = _; have := hm.out; rw [show j / 2 = (n + 1) / 2 by omega]
      gi_wp2
      go_end0
      exact ⟨⟨_, rfl⟩, .inl ⟨_, hend.out, hJs⟩⟩
end Go.Proofs.Ytjnlfnlodjbcjaa.su
