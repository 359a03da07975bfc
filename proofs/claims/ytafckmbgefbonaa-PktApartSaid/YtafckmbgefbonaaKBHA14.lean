/- B H A: contracts, part 14. Condition: as each says. -/
import Derived.Test.YtafckmbgefbonaaKBHA12
import Derived.Test.YtafckmbgefbonaaKBHA13
set_option linter.unusedVariables false
set_option linter.unusedSimpArgs false
namespace Go.Proofs.Ytafckmbgefbonaa.op
open Go.RowKit Go.Shelf Go.Lib Go.Proofs.Ytafckmbgefbonaa.sm Go.Proofs.Ytafckmbgefbonaa.nb Go.Proofs.Ytafckmbgefbonaa.om
set_option linter.unusedVariables false

theorem RdB.grown {w w' : World} {X : Nat} {A : Option Addr} {xs : List (Nat × Nat)} (h : RdB w A xs) (hg : w.grownBy w' (some X)) (hX : ∀ ad, A = some ad → ad.block ≠ X) : RdB w' A xs := fun hn => by
  obtain ⟨b, off, rfl, hlt, hc⟩ := h hn
  have hb := hX _ rfl
  refine ⟨b, off, rfl, Nat.lt_of_lt_of_le hlt hg.size, fun k hk => ?_⟩
  obtain ⟨h1, h2⟩ := hc k hk
  exact ⟨hg.cell h1 (fun e => hb (by cases e; rfl)), hg.cell h2 (fun e => hb (by cases e; rfl))⟩
abbrev ov (o : Opz) (A : Option Addr) (n c : Nat) : List Value := [.int .u16 o.mss, .int .i64 o.sc, .bool o.sk, .slice A n c, .bool o.tm, .int .u32 o.va, .int .u32 o.ec]
def FrB (x1 x2 : Nat) : Value → World → Prop := fun v W => ∃ g, v = .slice (some ⟨g, 0, none⟩) 1 1 ∧ Box W g [.int .u32 x1, .int .u32 x2]
theorem FrB.st (x1 x2 : Nat) : ∀ v w w', FrB x1 x2 v w → Up w w' → FrB x1 x2 v w' := fun _ _ _ ⟨g, h1, h2⟩ hu => ⟨g, h1, h2.up hu⟩
structure OB (w : World) (b : Nat) (o : Opz) (A : Option Addr) (n c : Nat) : Prop where
  box : Box w b (ov o A n c)
  len : o.bl.length = n
  rd : RdB w A o.bl
  far : ∀ ad, A = some ad → b < ad.block
  nil_ : o.bl = [] → A = none ∧ c = 0
theorem OB.with_ {w w' : World} {b : Nat} {o o' : Opz} {A : Option Addr} {n c : Nat} (h : OB w b o A n c) (hg : w.grownBy w' (some b)) (hB : Box w' b (ov o' A n c)) (hbl : o'.bl = o.bl) : OB w' b o' A n c :=
  ⟨hB, by rw [hbl]; exact h.len, by rw [hbl]; exact h.rd.grown hg (fun ad e => Nat.ne_of_gt (h.far ad e)), h.far, by rw [hbl]; exact h.nil_⟩
structure At32 (X : ByteArray) (p x : Int) : Prop where
  sz : X.size ≤ 1099511627776
  bd : 0 ≤ p ∧ p + 4 ≤ (X.size : Int)
  va : qd (L X) p.toNat = x
theorem atK (X : ByteArray) (p x : Int) (w : World) (h : At32 X p x) : Calls Try.prog 71 #[.string X, .int .i64 p] w fun e w' => e = .returned (.int .u32 x) ∧ w = w' := by
  have := at32i X p w h.sz h.bd
  rw [h.va] at this; exact this
def ReadZ (b : Nat) (o : Opz) (w : World) (e_ : Ending) (w' : World) : Prop := (∃ r, e_ = .returned r) ∧ w.grownBy w' (some b) ∧ ∃ A n c, OB w' b o A n c
theorem u16e {a : Int} (h : 0 ≤ a) : (Value.int .u16 a) = .int .u16 (a.toNat : Int) := by rw [Int.toNat_of_nonneg h]
theorem u32e {a : Int} (h : 0 ≤ a) : (Value.int .u32 a) = .int .u32 (a.toNat : Int) := by rw [Int.toNat_of_nonneg h]
set_option maxHeartbeats 4000000 in
set_option maxRecDepth 100000 in
theorem read2 (P : Nat) (S : ByteArray) (b : Nat) (m : Nat) (s : Int) (k : Bool) (bl : List (Nat × Nat)) (t : Bool) (v e : Nat) (A : Option Addr) (n c : Nat) (w : World) (hO : OB w b ⟨m, s, k, bl, t, v, e⟩ A n c) (hS : S.size = 2) : Calls Try.prog 47 #[PV 2 4 P S, .pointer (some ⟨b, 0, none⟩)] w (ReadZ b (put ⟨m, s, k, bl, t, v, e⟩ (2, L S)) w) := by
  have HA := Lib.hid (fun w => at16i S 0 w (by omega) (by omega))
  have hz0 := (wd_bd (L S) 0).1
  rw [put_2]
  obtain ⟨z, hz⟩ : ∃ z, wd (L S) 0 = z := ⟨_, rfl⟩
  rw [show (0 : Int).toNat = 0 from rfl, hz] at HA
  rw [hz] at hz0 ⊢
  clear hz
  obtain ⟨hB, hl, hr, hf, hnl⟩ := hO
  have hO : OB w b ⟨m, s, k, bl, t, v, e⟩ A n c := ⟨hB, hl, hr, hf, hnl⟩
  have HO := Lib.hid hO
  clear hO hr hf hl hnl
  have hlt := hB.1
  go_enter Try.func47, Try.ntmps47
  go_upto_region 1 with fail
  have hA := Box.new w #[.int .u8 2, .int .i64 4, .int .i64 P, .string S] 95
  have hu : Up w (w.alloc (.cells #[.int .u8 2, .int .i64 4, .int .i64 P, .string S] 95)) := up_al _ (Below.refl _ _)
  have hB0 := hB.alloc (.cells #[.int .u8 2, .int .i64 4, .int .i64 P, .string S] 95)
  generalize (w.alloc (.cells #[.int .u8 2, .int .i64 4, .int .i64 P, .string S] 95)) = w0 at hA hu hB0 ⊢
  have hne : b ≠ w.heap.size := by omega
  obtain ⟨n0, hn0⟩ : ∃ n0, n0 = w.heap.size := ⟨_, rfl⟩
  rw [← hn0] at hA hne ⊢
  clear hn0
  obtain ⟨k0, k1, k2, k3⟩ := Box.e4 hA
  obtain ⟨m0, m1, m2, m3, m4, m5, m6, g0, g1, g2, g3, g4, g5, g6⟩ := Box.c7 hB0
  go_wp2_with fail
  refine (HA.out w0).mono ?_
  rintro e_ w2 ⟨rfl, rfl⟩
  go_wp2
  go_end0
  have hg := grown_trans (grown_up (X := b) hu) (grown_set w0 b 0 (.int .u16 z))
  refine ⟨⟨_, rfl⟩, hg, A, n, c, HO.out.with_ hg ?_ rfl⟩
  have := hB0.set 0 (.int .u16 z)
  rw [u16e hz0] at this ⊢
  exact this
set_option maxHeartbeats 4000000 in
set_option maxRecDepth 100000 in
theorem read3 (P : Nat) (S : ByteArray) (b : Nat) (m : Nat) (s : Int) (k : Bool) (bl : List (Nat × Nat)) (t : Bool) (v e : Nat) (A : Option Addr) (n c : Nat) (w : World) (hO : OB w b ⟨m, s, k, bl, t, v, e⟩ A n c) (hS : S.size = 1) : Calls Try.prog 47 #[PV 3 3 P S, .pointer (some ⟨b, 0, none⟩)] w (ReadZ b (put ⟨m, s, k, bl, t, v, e⟩ (3, L S)) w) := by
  have HA := Lib.hid (fun w => at8i S 0 w (by omega) (by omega))
  have hz0 := bt_bd (L S) 0
  rw [put_3]
  obtain ⟨z, hz⟩ : ∃ z, bt (L S) 0 = z := ⟨_, rfl⟩
  rw [show (0 : Int).toNat = 0 from rfl, hz] at HA
  dsimp only
  rw [hz] at hz0 ⊢
  clear hz
  obtain ⟨hB, hl, hr, hf, hnl⟩ := hO
  have hO : OB w b ⟨m, s, k, bl, t, v, e⟩ A n c := ⟨hB, hl, hr, hf, hnl⟩
  have HO := Lib.hid hO
  clear hO hr hf hl hnl
  have hlt := hB.1
  go_enter Try.func47, Try.ntmps47
  go_upto_region 1 with fail
  have hA := Box.new w #[.int .u8 3, .int .i64 3, .int .i64 P, .string S] 95
  have hu : Up w (w.alloc (.cells #[.int .u8 3, .int .i64 3, .int .i64 P, .string S] 95)) := up_al _ (Below.refl _ _)
  have hB0 := hB.alloc (.cells #[.int .u8 3, .int .i64 3, .int .i64 P, .string S] 95)
  generalize (w.alloc (.cells #[.int .u8 3, .int .i64 3, .int .i64 P, .string S] 95)) = w0 at hA hu hB0 ⊢
  have hne : b ≠ w.heap.size := by omega
  obtain ⟨n0, hn0⟩ : ∃ n0, n0 = w.heap.size := ⟨_, rfl⟩
  rw [← hn0] at hA hne ⊢
  clear hn0
  obtain ⟨k0, k1, k2, k3⟩ := Box.e4 hA
  obtain ⟨m0, m1, m2, m3, m4, m5, m6, g0, g1, g2, g3, g4, g5, g6⟩ := Box.c7 hB0
  go_wp2_with fail
  refine (HA.out w0).mono ?_
  rintro e_ w2 ⟨rfl, rfl⟩
  go_wp2
  go_end0
  have hg := grown_trans (grown_up (X := b) hu) (grown_set w0 b 1 (.int .i64 (min z 14)))
  exact ⟨⟨_, rfl⟩, hg, A, n, c, HO.out.with_ hg (hB0.set 1 (.int .i64 (min z 14))) rfl⟩
set_option maxHeartbeats 4000000 in
set_option maxRecDepth 100000 in
theorem read4 (P : Nat) (S : ByteArray) (b : Nat) (m : Nat) (s : Int) (k : Bool) (bl : List (Nat × Nat)) (t : Bool) (v e : Nat) (A : Option Addr) (n c : Nat) (w : World) (hO : OB w b ⟨m, s, k, bl, t, v, e⟩ A n c) : Calls Try.prog 47 #[PV 4 2 P S, .pointer (some ⟨b, 0, none⟩)] w (ReadZ b (put ⟨m, s, k, bl, t, v, e⟩ (4, L S)) w) := by
  rw [put_4]
  obtain ⟨hB, hl, hr, hf, hnl⟩ := hO
  have hO : OB w b ⟨m, s, k, bl, t, v, e⟩ A n c := ⟨hB, hl, hr, hf, hnl⟩
  have HO := Lib.hid hO
  clear hO hr hf hl hnl
  have hlt := hB.1
  go_enter Try.func47, Try.ntmps47
  go_upto_region 1 with fail
  have hA := Box.new w #[.int .u8 4, .int .i64 2, .int .i64 P, .string S] 95
  have hu : Up w (w.alloc (.cells #[.int .u8 4, .int .i64 2, .int .i64 P, .string S] 95)) := up_al _ (Below.refl _ _)
  have hB0 := hB.alloc (.cells #[.int .u8 4, .int .i64 2, .int .i64 P, .string S] 95)
  generalize (w.alloc (.cells #[.int .u8 4, .int .i64 2, .int .i64 P, .string S] 95)) = w0 at hA hu hB0 ⊢
  have hne : b ≠ w.heap.size := by omega
  obtain ⟨n0, hn0⟩ : ∃ n0, n0 = w.heap.size := ⟨_, rfl⟩
  rw [← hn0] at hA hne ⊢
  clear hn0
  obtain ⟨k0, k1, k2, k3⟩ := Box.e4 hA
  obtain ⟨m0, m1, m2, m3, m4, m5, m6, g0, g1, g2, g3, g4, g5, g6⟩ := Box.c7 hB0
  go_wp2
  go_end0
  have hg := grown_trans (grown_up (X := b) hu) (grown_set w0 b 2 (.bool true))
  exact ⟨⟨_, rfl⟩, hg, A, n, c, HO.out.with_ hg (hB0.set 2 (.bool true)) rfl⟩
set_option maxHeartbeats 4000000 in
set_option maxRecDepth 100000 in
theorem readx (K Z : Nat) (hK : K ≤ 255) (h2 : K ≠ 2) (h3 : K ≠ 3) (h4 : K ≠ 4) (h5 : K ≠ 5) (h8 : K ≠ 8) (P : Nat) (S : ByteArray) (b : Nat) (m : Nat) (s : Int) (k : Bool) (bl : List (Nat × Nat)) (t : Bool) (v e : Nat) (A : Option Addr) (n c : Nat) (w : World) (hO : OB w b ⟨m, s, k, bl, t, v, e⟩ A n c) : Calls Try.prog 47 #[PV K (Z : Nat) P S, .pointer (some ⟨b, 0, none⟩)] w (ReadZ b (put ⟨m, s, k, bl, t, v, e⟩ (K, L S)) w) := by
  rw [put_x _ _ _ h2 h3 h4 h5 h8]
  have i2 : ¬ (K : Int) = 2 := by omega
  have i3 : ¬ (K : Int) = 3 := by omega
  have i4 : ¬ (K : Int) = 4 := by omega
  have i5 : ¬ (K : Int) = 5 := by omega
  have i8 : ¬ (K : Int) = 8 := by omega
  obtain ⟨hB, hl, hr, hf, hnl⟩ := hO
  have hO : OB w b ⟨m, s, k, bl, t, v, e⟩ A n c := ⟨hB, hl, hr, hf, hnl⟩
  have HO := Lib.hid hO
  clear hO hr hf hl hnl
  have hlt := hB.1
  go_enter Try.func47, Try.ntmps47
  go_upto_region 1 with fail
  have hA := Box.new w #[.int .u8 K, .int .i64 Z, .int .i64 P, .string S] 95
  have hu : Up w (w.alloc (.cells #[.int .u8 K, .int .i64 Z, .int .i64 P, .string S] 95)) := up_al _ (Below.refl _ _)
  have hB0 := hB.alloc (.cells #[.int .u8 K, .int .i64 Z, .int .i64 P, .string S] 95)
  generalize (w.alloc (.cells #[.int .u8 K, .int .i64 Z, .int .i64 P, .string S] 95)) = w0 at hA hu hB0 ⊢
  have hne : b ≠ w.heap.size := by omega
  obtain ⟨n0, hn0⟩ : ∃ n0, n0 = w.heap.size := ⟨_, rfl⟩
  rw [← hn0] at hA hne ⊢
  clear hn0
  obtain ⟨k0, k1, k2, k3⟩ := Box.e4 hA
  obtain ⟨m0, m1, m2, m3, m4, m5, m6, g0, g1, g2, g3, g4, g5, g6⟩ := Box.c7 hB0
  go_wp2
  go_end0
  exact ⟨⟨_, rfl⟩, grown_up hu, A, n, c, HO.out.with_ (grown_up hu) hB0 rfl⟩
set_option maxHeartbeats 4000000 in
set_option maxRecDepth 100000 in
theorem read8 (P : Nat) (S : ByteArray) (b : Nat) (m : Nat) (s : Int) (k : Bool) (bl : List (Nat × Nat)) (t : Bool) (v e : Nat) (A : Option Addr) (n c : Nat) (w : World) (hO : OB w b ⟨m, s, k, bl, t, v, e⟩ A n c) (hS : S.size = 8) : Calls Try.prog 47 #[PV 8 10 P S, .pointer (some ⟨b, 0, none⟩)] w (ReadZ b (put ⟨m, s, k, bl, t, v, e⟩ (8, L S)) w) := by
  have hz0 := (qd_bd (L S) 0).1
  have hy0 := (qd_bd (L S) 4).1
  rw [put_8]
  obtain ⟨z, hz⟩ : ∃ z, qd (L S) 0 = z := ⟨_, rfl⟩
  obtain ⟨y, hy⟩ : ∃ y, qd (L S) 4 = y := ⟨_, rfl⟩
  have I1 : At32 S 0 z := ⟨by omega, by omega, hz⟩
  have I2 : At32 S 4 y := ⟨by omega, by omega, hy⟩
  dsimp only
  rw [hz] at hz0 ⊢
  rw [hy] at hy0 ⊢
  clear hz hy
  obtain ⟨hB, hl, hr, hf, hnl⟩ := hO
  have hO : OB w b ⟨m, s, k, bl, t, v, e⟩ A n c := ⟨hB, hl, hr, hf, hnl⟩
  have HO := Lib.hid hO
  clear hO hr hf hl hnl
  have hlt := hB.1
  go_enter Try.func47, Try.ntmps47
  go_upto_region 1 with fail
  have hA := Box.new w #[.int .u8 8, .int .i64 10, .int .i64 P, .string S] 95
  have hu : Up w (w.alloc (.cells #[.int .u8 8, .int .i64 10, .int .i64 P, .string S] 95)) := up_al _ (Below.refl _ _)
  have hB0 := hB.alloc (.cells #[.int .u8 8, .int .i64 10, .int .i64 P, .string S] 95)
  generalize (w.alloc (.cells #[.int .u8 8, .int .i64 10, .int .i64 P, .string S] 95)) = w0 at hA hu hB0 ⊢
  have hne : b ≠ w.heap.size := by omega
  obtain ⟨n0, hn0⟩ : ∃ n0, n0 = w.heap.size := ⟨_, rfl⟩
  rw [← hn0] at hA hne ⊢
  clear hn0
  obtain ⟨k0, k1, k2, k3⟩ := Box.e4 hA
  obtain ⟨m0, m1, m2, m3, m4, m5, m6, g0, g1, g2, g3, g4, g5, g6⟩ := Box.c7 hB0
  go_upto_region 14 with fail
  go_region_law (go_simp; go_at_call 71; refine (atK _ _ _ _ (by first | exact I1 | exact I2)).mono ?_; rintro e_ w2 ⟨rfl, rfl⟩)
  all_goals
    go_wp2
    have hg : w.grownBy (((w0.setCell ⟨b, 4, none⟩ (.bool true)).setCell ⟨b, 5, none⟩ (.int .u32 z)).setCell ⟨b, 6, none⟩ (.int .u32 y)).drew (some b) :=
      grown_trans (grown_trans (grown_trans (grown_trans (grown_up (X := b) hu) (grown_set w0 b 4 (.bool true))) (grown_set _ b 5 (.int .u32 z))) (grown_set _ b 6 (.int .u32 y))) (grown_up (up_dr (Below.refl _ _)))
    have hBB := Box.drew (((hB0.set 4 (.bool true)).set 5 (.int .u32 z)).set 6 (.int .u32 y))
    go_end0
    refine ⟨⟨_, rfl⟩, hg, A, n, c, HO.out.with_ hg ?_ rfl⟩
    rw [u32e hz0, u32e hy0] at hBB ⊢
    exact hBB
theorem grown_below {A B C : World} {X N : Nat} (h : A.grownBy B (some X)) (k : Below N B C) (hN : A.heap.size ≤ N) : A.grownBy C (some X) :=
  ⟨k.os.trans h.os, k.tape.trans h.tape, k.output.trans h.output, Nat.le_trans h.size k.size, fun i hi hne => (k.block i (Nat.lt_of_lt_of_le hi hN)).trans (h.block i hi hne)⟩
theorem OwnK.grownB {w : World} {B X : Nat} {x : Value} {xs : List (Nat × Nat)} (h : OwnK w B x xs) (hX : X < B) (o : Nat) (v : Value) : OwnK (w.setCell ⟨X, o, none⟩ v) B x xs :=
  RowKit.ownsRow_setCell_below h (a := ⟨X, o, none⟩) hX _
set_option maxHeartbeats 4000000 in
set_option maxRecDepth 100000 in
theorem read5 (P : Nat) (S : ByteArray) (b m : Nat) (s : Int) (k : Bool) (t : Bool) (v e q Z : Nat) (w : World) (hO : OB w b ⟨m, s, k, [], t, v, e⟩ none 0 0) (hZ : Z = 8 * q + 2) (hS : S.size = 8 * q) (hq : q ≤ 4) (hq1 : 1 ≤ q) :
    Calls Try.prog 47 #[PV 5 Z P S, .pointer (some ⟨b, 0, none⟩)] w (ReadZ b (put ⟨m, s, k, [], t, v, e⟩ (5, L S)) w) := by
  rw [put_5]
  dsimp only
  rw [List.nil_append]
  have hbl : (blocks (L S)).length = q := by rw [blocks_len, L_len, hS]; omega
  have HT := Lib.hid (fun j (h : j < q) => blocks_take (L S) j (by rw [L_len, hS]; omega))
  have HS := Lib.hid hS
  obtain ⟨bs, hbs⟩ : ∃ bs, bs = blocks (L S) := ⟨_, rfl⟩
  rw [← hbs] at hbl HT ⊢
  clear hbs
  have hB := hO.box
  clear hO
  have hlt := hB.1
  have HZ := Lib.hid hZ
  clear hZ
  go_enter Try.func47, Try.ntmps47
  go_upto_region 1 with fail
  have hA := Box.new w #[.int .u8 5, .int .i64 Z, .int .i64 P, .string S] 95
  have hu : Up w (w.alloc (.cells #[.int .u8 5, .int .i64 Z, .int .i64 P, .string S] 95)) := up_al _ (Below.refl _ _)
  have hB0 := hB.alloc (.cells #[.int .u8 5, .int .i64 Z, .int .i64 P, .string S] 95)
  have hz0 : w.heap.size + 1 ≤ (w.alloc (.cells #[.int .u8 5, .int .i64 Z, .int .i64 P, .string S] 95)).heap.size := by simp
  generalize (w.alloc (.cells #[.int .u8 5, .int .i64 Z, .int .i64 P, .string S] 95)) = w0 at hA hu hB0 hz0 ⊢
  have HG := Lib.hid (grown_up (X := b) hu)
  clear hu hB
  obtain ⟨n0, hn0⟩ : ∃ n0, n0 = w.heap.size := ⟨_, rfl⟩
  rw [← hn0] at hA hlt hz0 ⊢
  have hle0 : w.heap.size ≤ n0 + 1 := by omega
  clear hn0
  have hne : b ≠ n0 := by omega
  have hlt1 : b < n0 + 1 := by omega
  obtain ⟨k0, k1, k2, k3⟩ := Box.e4 hA
  go_wp2_with fail
  go_loopw [4] (fun i wr => ∃ (j p : Nat) (sl : Value), j ≤ q ∧ i = .int .i64 p ∧ Hid (p = 8 * j) ∧ Box wr b [.int .u16 m, .int .i64 s, .bool k, sl, .bool t, .int .u32 v, .int .u32 e] ∧ OwnK wr (n0 + 1) sl (bs.take j) ∧ Box wr n0 [.int .u8 5, .int .i64 Z, .int .i64 P, .string S] ∧ Hid (w.grownBy wr (some b)) ∧ n0 + 1 ≤ wr.heap.size) (fun i _ => S.size - (RowKit.intOf i).toNat)
  case atStart => exact ⟨0, 0, _, Nat.zero_le _, rfl, rfl, hB0, OwnK.nil_ _ _, hA, HG, hz0⟩
  case round =>
    obtain ⟨j, p, sl, hj, rfl, hp, hBr, hO, hAr, hgr, hzr⟩ := hrel
    clear k0 k1 k2 k3 hA hB0 HG hz0
    obtain ⟨k0, k1, k2, k3⟩ := Box.e4 hAr
    by_cases hlt : j < q
    · have hp8 : p + 8 ≤ S.size := by rw [HS.out, hp.out]; omega
      have hS32 : S.size ≤ 32 := by omega
      obtain ⟨x1, hx1⟩ : ∃ x1, x1 = (qd (L S) p).toNat := ⟨_, rfl⟩
      obtain ⟨x2, hx2⟩ : ∃ x2, x2 = (qd (L S) (p + 4)).toNat := ⟨_, rfl⟩
      have I1 : At32 S (p : Nat) (x1 : Nat) := ⟨by omega, by omega, by rw [hx1, Int.toNat_natCast, Int.toNat_of_nonneg (qd_bd _ _).1]⟩
      have I2 : At32 S ((p : Int) + 4) (x2 : Nat) := ⟨by omega, by omega, by rw [hx2, show ((p : Int) + 4).toNat = p + 4 by omega, Int.toNat_of_nonneg (qd_bd _ _).1]⟩
      have HB : Hid (bs.take (j + 1) = bs.take j ++ [(x1, x2)]) := by unfold Hid; rw [HT.out j hlt, hx1, hx2, hp.out]
      have hl : (bs.take j).length ≤ 4 := by rw [List.length_take]; omega
      clear hx1 hx2 hS
      have d0 : (p : Int) < (S.size : Int) := by omega
      have d7 : IntKind.i64.wrap ((p : Int) + 4) = (p : Int) + 4 := IntWalk.i64_in _ (by omega)
      have d8 : IntKind.i64.wrap ((p : Int) + 8) = (p : Int) + 8 := IntWalk.i64_in _ (by omega)
      have hal : ∀ o, (wr.alloc o).cell? ⟨b, 3, none⟩ = some sl := fun o => (hBr.alloc o).at 3 rfl
      have hal1 : ∀ o, (wr.alloc o).cell? ⟨n0, 3, none⟩ = some (.string S) := fun o => (hAr.alloc o).at 3 rfl
      have m3 := hBr.at 3 rfl
      generalize bs.take j = xs at hO hl HB
      go_upto_region 12 with fail
      refine wp_region_rel8 16 0 (fun W => Up wr W) (fun W W' => Up W W') (Ys [Det (.pointer (some ⟨b, 0, none⟩)),
    Det (.pointer (some ⟨b, 0, none⟩)),
    Det (.pointer (some ⟨b, 0, none⟩)),
    Det (.pointer (some ⟨b, 3, none⟩)),
    Det (sl),
    Det (.pointer (some ⟨n0, 3, none⟩)),
    Det (.string S),
    Det (.int .i64 p),
    Det (.int .u32 x1),
    Det (.pointer (some ⟨n0, 3, none⟩)),
    Det (.string S),
    Det (.int .i64 p),
    Det (.int .i64 ((p : Int) + 4)),
    Det (.int .u32 x2),
    Det (.agg #[.int .u32 x1, .int .u32 x2]),
    FrB x1 x2]) (by kernel_rfl) (by kernel_rfl) (by kernel_rfl) (up_dr (Below.refl _ _)) (Stable.ys ⟨Det.st _, Det.st _, Det.st _, Det.st _, Det.st _, Det.st _, Det.st _, Det.st _, Det.st _, Det.st _, Det.st _, Det.st _, Det.st _, Det.st _, Det.st _, FrB.st _ _, trivial⟩) ?_ ?_ ?_
      all_goals simp only [List.take_succ_cons, List.take_zero, List.drop_succ_cons, List.drop_zero, List.set_cons_zero, List.set_cons_succ, List.headD_cons, List.cons_append, List.nil_append]
      ·
        refine obligs_cons ?_ ?_
        · intro aa ww hC hdep hvar KK hK
          have d1 : aa.tmps.getD 1 undef = .pointer (some ⟨b, 0, none⟩) := hvar 1 (slotOk_spec (by kernel_rfl))
          have d1_ := d1; rw [Array.getD_eq_getD_getElem?] at d1_
          clear hdep hvar
          simp (config := { decide := true }) [go_sem, opTo, opUpon, *]
          exact hK _ _ rfl hC (Below.refl _ _)
        refine obligs_cons ?_ ?_
        · intro aa ww hC hdep hvar KK hK
          have d1 : aa.tmps.getD 1 undef = .pointer (some ⟨b, 0, none⟩) := hvar 1 (slotOk_spec (by kernel_rfl))
          have d1_ := d1; rw [Array.getD_eq_getD_getElem?] at d1_
          clear hdep hvar
          simp (config := { decide := true }) [go_sem, opTo, opUpon, *]
          exact hK _ _ rfl hC (Below.refl _ _)
        refine obligs_cons ?_ ?_
        · intro aa ww hC hdep hvar KK hK
          have d40 : aa.tmps.getD 40 undef = .pointer (some ⟨b, 0, none⟩) := dep_of hdep 1 40 (by kernel_rfl)
          have d40_ := d40; rw [Array.getD_eq_getD_getElem?] at d40_
          clear hdep hvar
          (unfold opTo; go_simp; try simp only [opUpon])
          exact hK _ _ rfl hC (Below.refl _ _)
        refine obligs_cons ?_ ?_
        · intro aa ww hC hdep hvar KK hK
          have d41 : aa.tmps.getD 41 undef = .pointer (some ⟨b, 0, none⟩) := dep_of hdep 2 41 (by kernel_rfl)
          have d41_ := d41; rw [Array.getD_eq_getD_getElem?] at d41_
          clear hdep hvar
          simp (config := { decide := true }) [go_sem, opTo, opUpon, *]
          exact hK _ _ rfl hC (Below.refl _ _)
        refine obligs_cons ?_ ?_
        · intro aa ww hC hdep hvar KK hK
          have d42 : aa.tmps.getD 42 undef = .pointer (some ⟨b, 3, none⟩) := dep_of hdep 3 42 (by kernel_rfl)
          have d42_ := d42; rw [Array.getD_eq_getD_getElem?] at d42_
          clear hdep hvar
          have hb := hBr.up hC
          have c3 := hb.at 3 rfl
          simp (config := { decide := true }) [go_sem, opTo, opUpon, *]
          exact hK _ _ rfl hC (Below.refl _ _)
        refine obligs_cons ?_ ?_
        · intro aa ww hC hdep hvar KK hK
          have d2 : aa.tmps.getD 2 undef = .pointer (some ⟨n0, 0, none⟩) := hvar 2 (slotOk_spec (by kernel_rfl))
          have d2_ := d2; rw [Array.getD_eq_getD_getElem?] at d2_
          clear hdep hvar
          simp (config := { decide := true }) [go_sem, opTo, opUpon, *]
          exact hK _ _ rfl hC (Below.refl _ _)
        refine obligs_cons ?_ ?_
        · intro aa ww hC hdep hvar KK hK
          have d44 : aa.tmps.getD 44 undef = .pointer (some ⟨n0, 3, none⟩) := dep_of hdep 5 44 (by kernel_rfl)
          have d44_ := d44; rw [Array.getD_eq_getD_getElem?] at d44_
          clear hdep hvar
          have hb := hAr.up hC
          have c3 := hb.at 3 rfl
          simp (config := { decide := true }) [go_sem, opTo, opUpon, *]
          exact hK _ _ rfl hC (Below.refl _ _)
        refine obligs_cons ?_ ?_
        · intro aa ww hC hdep hvar KK hK
          have d4 : aa.tmps.getD 4 undef = .int .i64 p := hvar 4 (slotOk_spec (by kernel_rfl))
          have d4_ := d4; rw [Array.getD_eq_getD_getElem?] at d4_
          clear hdep hvar
          simp (config := { decide := true }) [go_sem, opTo, opUpon, *]
          exact hK _ _ rfl hC (Below.refl _ _)
        refine obligs_cons ?_ ?_
        · intro aa ww hC hdep hvar KK hK
          have d45 : aa.tmps.getD 45 undef = .string S := dep_of hdep 6 45 (by kernel_rfl)
          have d46 : aa.tmps.getD 46 undef = .int .i64 p := dep_of hdep 7 46 (by kernel_rfl)
          have d45_ := d45; rw [Array.getD_eq_getD_getElem?] at d45_
          have d46_ := d46; rw [Array.getD_eq_getD_getElem?] at d46_
          clear hdep hvar
          (unfold opTo; go_simp; try simp only [opUpon])
          refine (atK _ _ _ _ I1).mono ?_
          rintro e_ w2 ⟨rfl, rfl⟩
          exact ⟨_, rfl, hK _ _ rfl hC (Below.refl _ _)⟩
        refine obligs_cons ?_ ?_
        · intro aa ww hC hdep hvar KK hK
          have d2 : aa.tmps.getD 2 undef = .pointer (some ⟨n0, 0, none⟩) := hvar 2 (slotOk_spec (by kernel_rfl))
          have d2_ := d2; rw [Array.getD_eq_getD_getElem?] at d2_
          clear hdep hvar
          simp (config := { decide := true }) [go_sem, opTo, opUpon, *]
          exact hK _ _ rfl hC (Below.refl _ _)
        refine obligs_cons ?_ ?_
        · intro aa ww hC hdep hvar KK hK
          have d48 : aa.tmps.getD 48 undef = .pointer (some ⟨n0, 3, none⟩) := dep_of hdep 9 48 (by kernel_rfl)
          have d48_ := d48; rw [Array.getD_eq_getD_getElem?] at d48_
          clear hdep hvar
          have hb := hAr.up hC
          have c3 := hb.at 3 rfl
          simp (config := { decide := true }) [go_sem, opTo, opUpon, *]
          exact hK _ _ rfl hC (Below.refl _ _)
        refine obligs_cons ?_ ?_
        · intro aa ww hC hdep hvar KK hK
          have d4 : aa.tmps.getD 4 undef = .int .i64 p := hvar 4 (slotOk_spec (by kernel_rfl))
          have d4_ := d4; rw [Array.getD_eq_getD_getElem?] at d4_
          clear hdep hvar
          simp (config := { decide := true }) [go_sem, opTo, opUpon, *]
          exact hK _ _ rfl hC (Below.refl _ _)
        refine obligs_cons ?_ ?_
        · intro aa ww hC hdep hvar KK hK
          have d50 : aa.tmps.getD 50 undef = .int .i64 p := dep_of hdep 11 50 (by kernel_rfl)
          have d50_ := d50; rw [Array.getD_eq_getD_getElem?] at d50_
          clear hdep hvar
          (unfold opTo; go_simp; try simp only [opUpon])
          exact hK _ _ rfl hC (Below.refl _ _)
        refine obligs_cons ?_ ?_
        · intro aa ww hC hdep hvar KK hK
          have d49 : aa.tmps.getD 49 undef = .string S := dep_of hdep 10 49 (by kernel_rfl)
          have d51 : aa.tmps.getD 51 undef = .int .i64 ((p : Int) + 4) := dep_of hdep 12 51 (by kernel_rfl)
          have d49_ := d49; rw [Array.getD_eq_getD_getElem?] at d49_
          have d51_ := d51; rw [Array.getD_eq_getD_getElem?] at d51_
          clear hdep hvar
          (unfold opTo; go_simp; try simp only [opUpon])
          refine (atK _ _ _ _ I2).mono ?_
          rintro e_ w2 ⟨rfl, rfl⟩
          exact ⟨_, rfl, hK _ _ rfl hC (Below.refl _ _)⟩
        refine obligs_cons ?_ ?_
        · intro aa ww hC hdep hvar KK hK
          have d47 : aa.tmps.getD 47 undef = .int .u32 x1 := dep_of hdep 8 47 (by kernel_rfl)
          have d52 : aa.tmps.getD 52 undef = .int .u32 x2 := dep_of hdep 13 52 (by kernel_rfl)
          have d47_ := d47; rw [Array.getD_eq_getD_getElem?] at d47_
          have d52_ := d52; rw [Array.getD_eq_getD_getElem?] at d52_
          clear hdep hvar
          (unfold opTo; go_simp; try simp only [opUpon])
          exact hK _ _ rfl hC (Below.refl _ _)
        refine obligs_cons ?_ ?_
        · intro aa ww hC hdep hvar KK hK
          have d53 : aa.tmps.getD 53 undef = .agg #[.int .u32 x1, .int .u32 x2] := dep_of hdep 14 53 (by kernel_rfl)
          have d53_ := d53; rw [Array.getD_eq_getD_getElem?] at d53_
          clear hdep hvar
          (unfold opTo; go_simp; try simp only [opUpon])
          exact hK _ _ ⟨_, rfl, Box.new _ _ _⟩ (up_al _ hC) (up_al _ (Below.refl _ _))
        exact obligs_nil
      ·
        intro vals ww hC hY
        have e0 : vals 0 = .pointer (some ⟨b, 0, none⟩) := hY 0 _ _ rfl rfl
        have e1 : vals 1 = .pointer (some ⟨b, 0, none⟩) := hY 1 _ _ rfl rfl
        have e2 : vals 2 = .pointer (some ⟨b, 0, none⟩) := hY 2 _ _ rfl rfl
        have e3 : vals 3 = .pointer (some ⟨b, 3, none⟩) := hY 3 _ _ rfl rfl
        have e4 : vals 4 = sl := hY 4 _ _ rfl rfl
        have e5 : vals 5 = .pointer (some ⟨n0, 3, none⟩) := hY 5 _ _ rfl rfl
        have e6 : vals 6 = .string S := hY 6 _ _ rfl rfl
        have e7 : vals 7 = .int .i64 p := hY 7 _ _ rfl rfl
        have e8 : vals 8 = .int .u32 x1 := hY 8 _ _ rfl rfl
        have e9 : vals 9 = .pointer (some ⟨n0, 3, none⟩) := hY 9 _ _ rfl rfl
        have e10 : vals 10 = .string S := hY 10 _ _ rfl rfl
        have e11 : vals 11 = .int .i64 p := hY 11 _ _ rfl rfl
        have e12 : vals 12 = .int .i64 ((p : Int) + 4) := hY 12 _ _ rfl rfl
        have e13 : vals 13 = .int .u32 x2 := hY 13 _ _ rfl rfl
        have e14 : vals 14 = .agg #[.int .u32 x1, .int .u32 x2] := hY 14 _ _ rfl rfl
        obtain ⟨g15, e15, hG⟩ : FrB x1 x2 (vals 15) ww := hY 15 _ _ rfl rfl
        clear hY
        simp only [putAll, Act.put, List.setIfInBounds_toArray, List.set_cons_zero, List.set_cons_succ, e0, e1, e2, e3, e4, e5, e6, e7, e8, e9, e10, e11, e12, e13, e14, e15]
        clear e0 e1 e2 e3 e4 e5 e6 e7 e8 e9 e10 e11 e12 e13 e14 e15
        have hB3 := hBr.up hC; have hA3 := hAr.up hC; have hO3 := hO.up hC; have g0 := hG.at 0 rfl; have g1 := hG.at 1 rfl; have hz3 := Nat.le_trans hzr hC.size
        go_wp2_with (at_builtin; refine app2 (.tmp 43) (.tmp 54) _ [(x1, x2)] hO3 rfl rfl rfl rfl (cells_new1 g0 g1) (by omega) (by simp) (by omega) ?_; intro v4 w4 hO4 hb4; obtain ⟨A4, c4, rfl, hr4⟩ := hO4.rd; obtain ⟨n4, hn4⟩ : ∃ n4, n4 = (xs ++ [(x1, x2)]).length := ⟨_, rfl⟩; rw [← hn4] at hO4 ⊢; clear hr4 hn4; have hB4 := hB3.below hb4 (by omega); have hA40 := hA3.below hb4 (by omega); have hg40 := Lib.hid (grown_below (grown_trans hgr.out (grown_up (X := b) hC)) hb4 hle0); obtain ⟨m0, m1, m2, m3, m4, m5, m6, q0, q1, q2, q3, q4, q5, q6⟩ := Box.c7 hB4)
        have hB5 := hB4.set 3 (.slice A4 n4 c4)
        have hA5 := hA40.far hne (.slice A4 n4 c4) (o := 3)
        have hO5 := hO4.grownB hlt1 3 (.slice A4 n4 c4)
        have hg5 := Lib.hid (grown_trans hg40.out (grown_set w4 b 3 (.slice A4 n4 c4)))
        have hz5 : n0 + 1 ≤ (w4.setCell ⟨b, 3, none⟩ (.slice A4 n4 c4)).heap.size := by simpa using Nat.le_trans hz3 hb4.size
        generalize (w4.setCell ⟨b, 3, none⟩ (.slice A4 n4 c4)) = w5 at hB5 hA5 hO5 hg5 hz5 ⊢
        go_wp2
        go_roundw
        case rel => exact ⟨j + 1, p + 8, _, by omega, by go_num, by unfold Hid; rw [hp.out]; omega, hB5, by rw [HB.out]; exact hO5, hA5, hg5, hz5⟩
        case measure => simp [RowKit.intOf]; omega
      ·
        intro vals ww hC hY
        have e1 : vals 1 = .pointer (some ⟨b, 0, none⟩) := hY 1 _ _ (by decide) rfl rfl
        have e2 : vals 2 = .pointer (some ⟨b, 0, none⟩) := hY 2 _ _ (by decide) rfl rfl
        have e3 : vals 3 = .pointer (some ⟨b, 3, none⟩) := hY 3 _ _ (by decide) rfl rfl
        have e4 : vals 4 = sl := hY 4 _ _ (by decide) rfl rfl
        have e5 : vals 5 = .pointer (some ⟨n0, 3, none⟩) := hY 5 _ _ (by decide) rfl rfl
        have e6 : vals 6 = .string S := hY 6 _ _ (by decide) rfl rfl
        have e7 : vals 7 = .int .i64 p := hY 7 _ _ (by decide) rfl rfl
        have e8 : vals 8 = .int .u32 x1 := hY 8 _ _ (by decide) rfl rfl
        have e9 : vals 9 = .pointer (some ⟨n0, 3, none⟩) := hY 9 _ _ (by decide) rfl rfl
        have e10 : vals 10 = .string S := hY 10 _ _ (by decide) rfl rfl
        have e11 : vals 11 = .int .i64 p := hY 11 _ _ (by decide) rfl rfl
        have e12 : vals 12 = .int .i64 ((p : Int) + 4) := hY 12 _ _ (by decide) rfl rfl
        have e13 : vals 13 = .int .u32 x2 := hY 13 _ _ (by decide) rfl rfl
        have e14 : vals 14 = .agg #[.int .u32 x1, .int .u32 x2] := hY 14 _ _ (by decide) rfl rfl
        obtain ⟨g15, e15, hG⟩ : FrB x1 x2 (vals 15) ww := hY 15 _ _ (by decide) rfl rfl
        clear hY
        simp only [putAll, Act.put, List.setIfInBounds_toArray, List.set_cons_zero, List.set_cons_succ, e1, e2, e3, e4, e5, e6, e7, e8, e9, e10, e11, e12, e13, e14, e15]
        clear e1 e2 e3 e4 e5 e6 e7 e8 e9 e10 e11 e12 e13 e14 e15
        have hB3 := hBr.up hC; have hA3 := hAr.up hC; have hO3 := hO.up hC; have g0 := hG.at 0 rfl; have g1 := hG.at 1 rfl; have hz3 := Nat.le_trans hzr hC.size
        go_wp2_with (at_builtin; refine app2 (.tmp 43) (.tmp 54) _ [(x1, x2)] hO3 rfl rfl rfl rfl (cells_new1 g0 g1) (by omega) (by simp) (by omega) ?_; intro v4 w4 hO4 hb4; obtain ⟨A4, c4, rfl, hr4⟩ := hO4.rd; obtain ⟨n4, hn4⟩ : ∃ n4, n4 = (xs ++ [(x1, x2)]).length := ⟨_, rfl⟩; rw [← hn4] at hO4 ⊢; clear hr4 hn4; have hB4 := hB3.below hb4 (by omega); have hA40 := hA3.below hb4 (by omega); have hg40 := Lib.hid (grown_below (grown_trans hgr.out (grown_up (X := b) hC)) hb4 hle0); obtain ⟨m0, m1, m2, m3, m4, m5, m6, q0, q1, q2, q3, q4, q5, q6⟩ := Box.c7 hB4)
        have hB5 := hB4.set 3 (.slice A4 n4 c4)
        have hA5 := hA40.far hne (.slice A4 n4 c4) (o := 3)
        have hO5 := hO4.grownB hlt1 3 (.slice A4 n4 c4)
        have hg5 := Lib.hid (grown_trans hg40.out (grown_set w4 b 3 (.slice A4 n4 c4)))
        have hz5 : n0 + 1 ≤ (w4.setCell ⟨b, 3, none⟩ (.slice A4 n4 c4)).heap.size := by simpa using Nat.le_trans hz3 hb4.size
        generalize (w4.setCell ⟨b, 3, none⟩ (.slice A4 n4 c4)) = w5 at hB5 hA5 hO5 hg5 hz5 ⊢
        go_wp2
        go_roundw
        case rel => exact ⟨j + 1, p + 8, _, by omega, by go_num, by unfold Hid; rw [hp.out]; omega, hB5, by rw [HB.out]; exact hO5, hA5, hg5, hz5⟩
        case measure => simp [RowKit.intOf]; omega
    · obtain rfl : j = q := by omega
      have d0 : ¬ (p : Int) < (S.size : Int) := by rw [HS.out, hp.out]; omega
      obtain ⟨A', c', rfl, hrd⟩ := hO.rd
      have hfar := hO.far
      rw [List.take_of_length_le (by omega)] at hrd hO hBr
      have hnil : bs = [] → A' = none ∧ c' = 0 := fun hb => by rw [hb] at hbl; simp at hbl; omega
      go_wp2
      go_end0
      exact ⟨⟨_, rfl⟩, hgr.out, A', bs.length, c', hBr, rfl, hrd, fun ad h => by have := hfar ad h; omega, hnil⟩
theorem readC (K Z P : Nat) (S : ByteArray) (b : Nat) (o : Opz) (A : Option Addr) (n c : Nat) (w : World) (hO : OB w b o A n c) (hK : K ≤ 255) (hf : (lenOk K Z && nzb K (L S)) = true) (hS : S.size = Z - 2) (h5 : K = 5 → o.bl = []) :
    Calls Try.prog 47 #[PV K Z P S, .pointer (some ⟨b, 0, none⟩)] w (ReadZ b (put o (K, L S)) w) := by
  obtain ⟨m, s, k, bl, t, v, e⟩ := o
  rw [Bool.and_eq_true] at hf
  by_cases k2 : K = 2
  · subst k2
    obtain rfl : Z = 4 := by simpa [lenOk] using hf.1
    exact read2 P S b m s k bl t v e A n c w hO hS
  by_cases k3 : K = 3
  · subst k3
    obtain rfl : Z = 3 := by simpa [lenOk] using hf.1
    exact read3 P S b m s k bl t v e A n c w hO hS
  by_cases k4 : K = 4
  · subst k4
    obtain rfl : Z = 2 := by simpa [lenOk] using hf.1
    exact read4 P S b m s k bl t v e A n c w hO
  by_cases k5 : K = 5
  · subst k5
    have hb := h5 rfl
    dsimp only at hb
    subst hb
    obtain ⟨rfl, rfl⟩ := hO.nil_ rfl
    obtain rfl : n = 0 := by have := hO.len; simpa using this.symm
    have hz := len5 hf.1
    obtain ⟨q, hq⟩ : ∃ q, Z = 8 * q + 2 := ⟨(Z - 2) / 8, by omega⟩
    exact read5 P S b m s k t v e q Z w hO hq (by omega) (by omega) (by omega)
  by_cases k8 : K = 8
  · subst k8
    obtain rfl : Z = 10 := len8 hf.1
    exact read8 P S b m s k bl t v e A n c w hO hS
  exact readx K Z hK k2 k3 k4 k5 k8 P S b m s k bl t v e A n c w hO
end Go.Proofs.Ytafckmbgefbonaa.op

namespace Go.Proofs.Ytafckmbgefbonaa.op
open Go.RowKit Go.Shelf Go.Lib Go.Proofs.Ytafckmbgefbonaa.sm Go.Proofs.Ytafckmbgefbonaa.nb Go.Proofs.Ytafckmbgefbonaa.om
set_option linter.unusedVariables false

theorem noneC : NoneC := fun w => by
  go_enter Try.func14, Try.ntmps14
  go_upto_region 1 with fail
  have hB := Box.new w #[.int .u16 0, .int .i64 0, .bool false, .slice none 0 0, .bool false, .int .u32 0, .int .u32 0] 28
  have hu : Up w (w.alloc (.cells #[.int .u16 0, .int .i64 0, .bool false, .slice none 0 0, .bool false, .int .u32 0, .int .u32 0] 28)) := up_al _ (Below.refl _ _)
  generalize (w.alloc (.cells #[.int .u16 0, .int .i64 0, .bool false, .slice none 0 0, .bool false, .int .u32 0, .int .u32 0] 28)) = w0 at hB hu ⊢
  obtain ⟨k0, k1, k2, k3, k4, k5, k6, f0, f1, f2, f3, f4, f5, f6⟩ := Box.c7 hB
  go_wp2
  have hBB := put7 hB (.int .u16 0) (.int .i64 (-1)) (.bool false) (.slice none 0 0) (.bool false) (.int .u32 0) (.int .u32 0)
  have huu := ups7 (b := w.heap.size) hu (Nat.le_refl _) (.int .u16 0) (.int .i64 (-1)) (.bool false) (.slice none 0 0) (.bool false) (.int .u32 0) (.int .u32 0)
  generalize World.setCell _ ⟨w.heap.size, 6, none⟩ _ = W3 at hBB huu ⊢
  clear k0 k1 k2 k3 k4 k5 k6 f0 f1 f2 f3 f4 f5 f6 hB hu
  obtain ⟨k0, k1, k2, k3, k4, k5, k6⟩ := Box.e7 hBB
  (try simp only [Exit.inBlock, Exit.then])
  refine bodyPost_ret (v := OA 0 (-1) false none 0 0 false 0 0) ?_ rfl ⟨rfl, huu⟩
  rw [results_cell1 rfl]; go_simp

/-! ### what a turn of a block that is no cells leaves -/
def CK (W W' : World) : Prop := W.heap.size ≤ W'.heap.size ∧ ∀ p v, W.cell? p = some v → W'.cell? p = some v ∧ W'.frozen? p = W.frozen? p
theorem CK.of {W W' : World} {row : Option Nat} (hg : W.grownBy W' row) (hr : ∀ r, row = some r → ∃ o : Obj, W.heap[r]? = some o ∧ o.isCells = false) : CK W W' :=
  ⟨hg.size, fun p v h => ⟨cell_kept h hg hr, frozen_kept h hg hr⟩⟩
theorem Box.ck {W W' : World} {b : Nat} {vs : List Value} (h : Box W b vs) (k : CK W W') : Box W' b vs :=
  ⟨Nat.lt_of_lt_of_le h.1 k.1, fun j v hv => by obtain ⟨h1, h2⟩ := h.2 j v hv; obtain ⟨h3, h4⟩ := k.2 _ _ h1; exact ⟨h3, h4.trans h2⟩⟩
theorem RdB.ck {W W' : World} {A : Option Addr} {xs : List (Nat × Nat)} (h : RdB W A xs) (k : CK W W') : RdB W' A xs := fun hn => by
  obtain ⟨b, off, rfl, hlt, hc⟩ := h hn
  exact ⟨b, off, rfl, Nat.lt_of_lt_of_le hlt k.1, fun j hj => ⟨(k.2 _ _ (hc j hj).1).1, (k.2 _ _ (hc j hj).2).1⟩⟩
theorem OB.ck {W W' : World} {b : Nat} {o : Opz} {A : Option Addr} {n c : Nat} (h : OB W b o A n c) (k : CK W W') : OB W' b o A n c := ⟨Box.ck h.box k, h.len, h.rd.ck k, h.far, h.nil_⟩
theorem OB.up {W W' : World} {b : Nat} {o : Opz} {A : Option Addr} {n c : Nat} (h : OB W b o A n c) (k : Up W W') : OB W' b o A n c := ⟨h.box.up k, h.len, h.rd.up k, h.far, h.nil_⟩
structure Mid (l : List UInt8) (w0 : World) (bO b2 b3 : Nat) (pl : List Nat) (W : World) : Prop where
  ok : OkL l pl
  ob : ∃ A n c, OB W bO (fo l pl) A n c
  r2 : Box W b2 [.int .u16 0, .int .i64 0, .bool false, .slice none 0 0, .bool false, .int .u32 0, .int .u32 0]
  r3 : Box W b3 [.int .i64 0]
  up : Up w0 W
theorem Mid.upon {l : List UInt8} {w0 : World} {bO b2 b3 : Nat} {pl : List Nat} {W W' : World} (h : Mid l w0 bO b2 b3 pl W) (k : Up W W') : Mid l w0 bO b2 b3 pl W' := by
  obtain ⟨A, n, c, ho⟩ := h.ob
  exact ⟨h.ok, ⟨A, n, c, OB.up ho k⟩, h.r2.up k, h.r3.up k, h.up.on k⟩
structure Bad (l : List UInt8) (w0 : World) (b2 b3 : Nat) (pl : List Nat) (W : World) : Prop where
  bad : ∃ q p, pl = q ++ [p] ∧ OkL l q ∧ (fitb l p = false ∨ amg (fo l q) (nb l p) = true)
  r2 : Box W b2 [.int .u16 0, .int .i64 0, .bool false, .slice none 0 0, .bool false, .int .u32 0, .int .u32 0]
  r3 : Box W b3 [.int .i64 70]
  up : Up w0 W
theorem mid_own {Q : Nat → Prop} (l : List UInt8) (w0 : World) (bO b2 b3 B : Nat) (hB : w0.heap.size ≤ B) : OwnFrom B (fun (pre : List (At_ Q)) W => Mid l w0 bO b2 b3 (ps pre) W) := fun s W W' row h hg hr => by
  have k := CK.of hg (fun r e => (hr r e).2)
  obtain ⟨A, n, c, ho⟩ := h.ob
  exact ⟨h.ok, ⟨A, n, c, OB.ck ho k⟩, Box.ck h.r2 k, Box.ck h.r3 k, h.up.grown hg h.up.size (fun j e => Nat.le_trans hB (hr j e).1)⟩
theorem bad_own {Q : Nat → Prop} (l : List UInt8) (w0 : World) (b2 b3 B : Nat) (c : Code) (hB : w0.heap.size ≤ B) : OwnFrom B (fun (pre : List (At_ Q)) W => c = .ret ∧ Bad l w0 b2 b3 (ps pre) W) := fun s W W' row h hg hr => by
  have k := CK.of hg (fun r e => (hr r e).2)
  exact ⟨h.1, h.2.bad, Box.ck h.2.r2 k, Box.ck h.2.r3 k, h.2.up.grown hg h.2.up.size (fun j e => Nat.le_trans hB (hr j e).1)⟩
theorem kf_up {B : Nat} {W W' : World} (h : Up W W') : KeepsFrom B W W' := ⟨h.size, fun k o _ hk _ => (h.block k (Array.getElem?_eq_some_iff.1 hk).1).trans hk⟩
theorem kf7 (W : World) (b B : Nat) (y0 y1 y2 y3 y4 y5 y6 : Value) : KeepsFrom B W (((((((W.setCell ⟨b, 0, none⟩ y0).setCell ⟨b, 1, none⟩ y1).setCell ⟨b, 2, none⟩ y2).setCell ⟨b, 3, none⟩ y3).setCell ⟨b, 4, none⟩ y4).setCell ⟨b, 5, none⟩ y5).setCell ⟨b, 6, none⟩ y6) :=
  ((((((((KeepsOthers.setCell W _ _).from B).trans ((KeepsOthers.setCell _ _ _).from B)).trans ((KeepsOthers.setCell _ _ _).from B)).trans ((KeepsOthers.setCell _ _ _).from B)).trans ((KeepsOthers.setCell _ _ _).from B)).trans ((KeepsOthers.setCell _ _ _).from B)).trans ((KeepsOthers.setCell _ _ _).from B))
theorem grown7 (W : World) (b : Nat) (y0 y1 y2 y3 y4 y5 y6 : Value) : W.grownBy (((((((W.setCell ⟨b, 0, none⟩ y0).setCell ⟨b, 1, none⟩ y1).setCell ⟨b, 2, none⟩ y2).setCell ⟨b, 3, none⟩ y3).setCell ⟨b, 4, none⟩ y4).setCell ⟨b, 5, none⟩ y5).setCell ⟨b, 6, none⟩ y6) (some b) :=
  grown_trans (grown_trans (grown_trans (grown_trans (grown_trans (grown_trans (grown_set W b 0 y0) (grown_set _ b 1 y1)) (grown_set _ b 2 y2)) (grown_set _ b 3 y3)) (grown_set _ b 4 y4)) (grown_set _ b 5 y5)) (grown_set _ b 6 y6)
theorem ck_put {W : World} {D : Nat} {o : Obj} (o' : Obj) (h : W.heap[D]? = some o) (ho : o.isCells = false) : CK W (W.putObj D o') := CK.of (grownBy_putObj' W D o') (fun r e => by cases e; exact ⟨_, h, ho⟩)
theorem results_cell_cell {fn : Func} {p q : Tmp} {ty ty' : TypeId} (h : fn.results = #[.cell p ty, .cell q ty']) (tmps : Array Value) (P : Program) (w : World) :
    (results fn tmps).run P w = ((asAddr (tmps.getD p undef)).run P w).andThen fun a w₁ => ((loadVar ty a).run P w₁).andThen fun x w₂ => ((asAddr (tmps.getD q undef)).run P w₂).andThen fun b w₃ => ((loadVar ty' b).run P w₃).andThen fun y w₄ => .ok (.tuple #[x, y]) w₄ := by
  simp only [results, h]
  simp [Sem.run_bind, Result.andThen]
set_option maxHeartbeats 4000000 in
set_option maxRecDepth 100000 in
theorem decode_long (s : ByteArray) (w : World) (hs : s.size ≤ 1048576) (hl : 40 < s.size) :
    Calls Try.prog 22 #[.string s] w fun e_ w' => DecN (L s) w e_ w' := by
  have i0 : (40 : Int) < (s.size : Int) := by omega
  have HD := Lib.hid (err_4 (l := L s) (by rw [L_len]; exact hl))
  go_enter Try.func22, Try.ntmps22
  go_upto_region 1 with fail
  have hA := (Box.new w #[.int .u16 0, .int .i64 0, .bool false, .slice none 0 0, .bool false, .int .u32 0, .int .u32 0] 28).alloc (.cells #[.int .i64 0] 35)
  have hB := Box.new (w.alloc (.cells #[.int .u16 0, .int .i64 0, .bool false, .slice none 0 0, .bool false, .int .u32 0, .int .u32 0] 28)) #[.int .i64 0] 35
  rw [show (w.alloc (.cells #[.int .u16 0, .int .i64 0, .bool false, .slice none 0 0, .bool false, .int .u32 0, .int .u32 0] 28)).heap.size = w.heap.size + 1 by simp] at hB
  have hu : Up w ((w.alloc (.cells #[.int .u16 0, .int .i64 0, .bool false, .slice none 0 0, .bool false, .int .u32 0, .int .u32 0] 28)).alloc (.cells #[.int .i64 0] 35)) := up_al _ (up_al _ (Below.refl _ _))
  generalize ((w.alloc (.cells #[.int .u16 0, .int .i64 0, .bool false, .slice none 0 0, .bool false, .int .u32 0, .int .u32 0] 28)).alloc (.cells #[.int .i64 0] 35)) = w0 at hA hB hu ⊢
  obtain ⟨n0, hn0⟩ : ∃ n0, n0 = w.heap.size := ⟨_, rfl⟩
  have hle0 : w.heap.size ≤ n0 := by omega
  have hle1 : w.heap.size ≤ n0 + 1 := by omega
  rw [← hn0] at hA hB ⊢
  clear hn0
  have hne : n0 ≠ n0 + 1 := by omega
  obtain ⟨k0, k1, k2, k3, k4, k5, k6, f0, f1, f2, f3, f4, f5, f6⟩ := Box.c7 hA
  have c0 := hB.at 0 rfl
  have d0 := hB.fr 0 rfl
  go_wp2
  have hAA := (put7 hA (.int .u16 0) (.int .i64 0) (.bool false) (.slice none 0 0) (.bool false) (.int .u32 0) (.int .u32 0)).far hne.symm (o := 0) (.int .i64 4)
  have hBB := (far7 hB hne (.int .u16 0) (.int .i64 0) (.bool false) (.slice none 0 0) (.bool false) (.int .u32 0) (.int .u32 0)).set 0 (.int .i64 4)
  have huu := up_set (b := n0 + 1) (o := 0) (v := .int .i64 4) (ups7 (b := n0) hu hle0 (.int .u16 0) (.int .i64 0) (.bool false) (.slice none 0 0) (.bool false) (.int .u32 0) (.int .u32 0)) hle1
  generalize World.setCell _ ⟨n0 + 1, 0, none⟩ _ = W3 at hAA hBB huu ⊢
  clear k0 k1 k2 k3 k4 k5 k6 f0 f1 f2 f3 f4 f5 f6 c0 d0 hA hB hu
  obtain ⟨k0, k1, k2, k3, k4, k5, k6⟩ := Box.e7 hAA
  have c0 := hBB.at 0 rfl
  (try simp only [Exit.inBlock, Exit.then])
  refine bodyPost_ret (v := .tuple #[OA 0 0 false none 0 0 false 0 0, .int .i64 4]) ?_ rfl (DecN.bad HD.out rfl huu)
  rw [results_cell_cell rfl]; go_simp
attribute [local go_sem] Oper.semAt_some
set_option maxHeartbeats 4000000 in
set_option maxRecDepth 100000 in
theorem decode_short (s : ByteArray) (w : World) (hl : s.size ≤ 40) :
    Calls Try.prog 22 #[.string s] w fun e_ w' => DecN (L s) w e_ w' := by
  have i0 : ¬ (40 : Int) < (s.size : Int) := by omega
  have H4 := Lib.hid (show (L s).length ≤ 40 by rw [L_len]; omega)
  refine (callsIn_wide (n := 4)).1 ?_
  refine callsIn_of_wp_marks Try.func22 rfl trivial ?_ rfl
  simp only [Try.ntmps22, List.size_toArray, List.length_cons, List.length_nil, Nat.reduceAdd, Nat.reduceSub, Array.replicate_succ, Array.replicate_zero, List.push_toArray, List.append_toArray, List.nil_append, List.cons_append]
  gi_upto_region 1 with fail
  have hA := (Box.new w #[.int .u16 0, .int .i64 0, .bool false, .slice none 0 0, .bool false, .int .u32 0, .int .u32 0] 28).alloc (.cells #[.int .i64 0] 35)
  have hB := Box.new (w.alloc (.cells #[.int .u16 0, .int .i64 0, .bool false, .slice none 0 0, .bool false, .int .u32 0, .int .u32 0] 28)) #[.int .i64 0] 35
  rw [show (w.alloc (.cells #[.int .u16 0, .int .i64 0, .bool false, .slice none 0 0, .bool false, .int .u32 0, .int .u32 0] 28)).heap.size = w.heap.size + 1 by simp] at hB
  have hu : Up w ((w.alloc (.cells #[.int .u16 0, .int .i64 0, .bool false, .slice none 0 0, .bool false, .int .u32 0, .int .u32 0] 28)).alloc (.cells #[.int .i64 0] 35)) := up_al _ (up_al _ (Below.refl _ _))
  generalize ((w.alloc (.cells #[.int .u16 0, .int .i64 0, .bool false, .slice none 0 0, .bool false, .int .u32 0, .int .u32 0] 28)).alloc (.cells #[.int .i64 0] 35)) = w0 at hA hB hu ⊢
  obtain ⟨n0, hn0⟩ : ∃ n0, n0 = w.heap.size := ⟨_, rfl⟩
  have hle0 : w.heap.size ≤ n0 := by omega
  have hle1 : w.heap.size ≤ n0 + 1 := by omega
  rw [← hn0] at hA hB ⊢
  clear hn0
  have hne : n0 ≠ n0 + 1 := by omega
  gi_wp2_with fail
  refine ⟨trivial, ?_⟩
  refine (callsIn_wide.2 (noneC w0)).mono ?_
  rintro e_ w1 ⟨rfl, hv1⟩
  have hA1 := hA.up hv1
  have hB1 := hB.up hv1
  have hu1 := hu.on hv1
  clear hA hB hu hv1
  gi_upto_region 4 with fail
  have hO2 := Box.new w1 #[.int .u16 0, .int .i64 (-1), .bool false, .slice none 0 0, .bool false, .int .u32 0, .int .u32 0] 28
  have hA2 := hA1.alloc (.cells #[.int .u16 0, .int .i64 (-1), .bool false, .slice none 0 0, .bool false, .int .u32 0, .int .u32 0] 28)
  have hB2 := hB1.alloc (.cells #[.int .u16 0, .int .i64 (-1), .bool false, .slice none 0 0, .bool false, .int .u32 0, .int .u32 0] 28)
  have hu2 : Up w (w1.alloc (.cells #[.int .u16 0, .int .i64 (-1), .bool false, .slice none 0 0, .bool false, .int .u32 0, .int .u32 0] 28)) := up_al _ hu1
  have hlt1 := hB1.1
  generalize (w1.alloc (.cells #[.int .u16 0, .int .i64 (-1), .bool false, .slice none 0 0, .bool false, .int .u32 0, .int .u32 0] 28)) = w2 at hO2 hA2 hB2 hu2 ⊢
  have hle2 : w.heap.size ≤ w1.heap.size := hu1.size
  have hn1 : n0 + 1 < w1.heap.size := hlt1
  generalize w1.heap.size = n2 at hO2 hle2 hn1 ⊢
  clear hA1 hB1 hu1 hlt1
  gi_wp2_with fail
  refine ⟨trivial, ?_⟩
  refine (callsIn_wide.2 (optionsC s w2)).mono ?_
  rintro e_ w3 ⟨rfl, rfl⟩
  have hS3 := Box.new w2 #[.string s] 9
  have hO3 := hO2.alloc (.cells #[.string s] 9)
  have hA3 := hA2.alloc (.cells #[.string s] 9)
  have hB3 := hB2.alloc (.cells #[.string s] 9)
  have hu3 : Up w (w2.alloc (.cells #[.string s] 9)) := up_al _ hu2
  have hz3 : (w2.alloc (.cells #[.string s] 9)).heap.size = w2.heap.size + 1 := by simp
  have hlt3 := hO2.1
  generalize (w2.alloc (.cells #[.string s] 9)) = w3 at hS3 hO3 hA3 hB3 hu3 hz3 ⊢
  generalize w2.heap.size = n3 at hS3 hz3 hlt3 ⊢
  clear hO2 hA2 hB2 hu2
  have hX3 : n2 < w3.heap.size := by omega
  have hS3' : n3 < w3.heap.size := by omega
  have hne3 : n3 ≠ n2 := by omega
  have hle3 : w.heap.size ≤ w3.heap.size := hu3.size
  gi_wp2
  refine wpIn_rangeFunc_ownH rfl (by omega) (gf := 72) (lb := #[.pointer (some ⟨n3, 0, none⟩)]) rfl trivial (enters_of Try.func72 (by kernel_rfl) rfl)
    (optionsTells (fun p => p < s.size ∧ 2 ≤ nb (L s) p) n2 n3 s (by omega) (fun _ p _ h1 h2 => ⟨h1, h2⟩) w3 hS3' hX3 hne3 (hS3.at 0 rfl)) Kx.t (fun W l o o' _ h ho _ => Kx.b W l o o' h ho) (Below.refl _ _) (fun _ => rfl)
    (fun pre W => Mid (L s) w n2 n0 (n0 + 1) (ps pre) W)
    (fun c pre W => c = .ret ∧ Bad (L s) w n0 (n0 + 1) (ps pre) W)
    (mid_own _ _ _ _ _ _ hle3) (fun c => bad_own _ _ _ _ _ c hle3)
    ⟨OkL.nil_ _, ⟨none, 0, 0, hO3, rfl, (fun h => absurd rfl h), (fun ad h => by cases h), (fun _ => ⟨rfl, rfl⟩)⟩, hA3, hB3, hu3⟩
    (fun x a' W => ∃ Bx, n2 < Bx ∧ Box W Bx [.int .u8 (nb (L s) x.1 : Nat), .int .i64 (osz (L s) x.1 : Nat), .int .i64 ((x.1 + 2 : Nat) : Int), .string (tx (osay (L s) x.1))] ∧
      a' = { tmps := #[.string s, undef, .pointer (some ⟨n0, 0, none⟩), .pointer (some ⟨n0 + 1, 0, none⟩), .pointer (some ⟨n2, 0, none⟩), .pointer (some ⟨Bx, 0, none⟩), .string s, .int .i64 s.size, .bool false, undef, OA 0 (-1) false none 0 0 false 0 0, .string s, .func (.func 72) #[] #[.pointer (some ⟨n3, 0, none⟩)], pv (L s) x.1, undef, undef, undef, undef, undef, undef, undef, undef, undef, undef, undef, undef], defers := [] })
    (fun x a' s' W W' row h hg hr => by obtain ⟨Bx, h1, h2, h3⟩ := h; exact ⟨Bx, h1, Box.ck h2 (CK.of hg (fun r e => (hr r e).2)), h3⟩) ?assign ?body ?done ?stop
  case assign =>
    intro l pre x W K hM hK
    have hn2 : n2 < W.heap.size := by obtain ⟨A, n, c, ho⟩ := hM.ob; exact ho.box.1
    gi_wp2
    exact hK _ _ ((KeepsOthers.alloc _ _).from _) (Kx.up (up_al _ (Below.refl _ _))) (hM.upon (up_al _ (Below.refl _ _))) ⟨W.heap.size, hn2, Box.new _ _ _, rfl⟩
  case body =>
    rintro l pre x a' W hl ⟨r, hr⟩ hM ⟨Bx, hBx, hX, rfl⟩ hlen
    obtain ⟨p, hpl, hp2⟩ := x
    dsimp only at hX ⊢
    have hzb := osz_le (L s) p
    have hKb := nb_le (L s) p
    have hYS : (tx (osay (L s) p)).size = osz (L s) p - 2 := by rw [tx_size, osay_len]
    have HE : (lenOk (nb (L s) p) (osz (L s) p) && nzb (nb (L s) p) (L (tx (osay (L s) p)))) = fitb (L s) p := by rw [L_tx]; rfl
    have HF := Lib.hid (fun w => fitsC (nb (L s) p) hKb (osz (L s) p) (p + 2) (tx (osay (L s) p)) w hzb hYS)
    rw [HE] at HF
    obtain ⟨A, n, c, ho⟩ := hM.ob
    have HA := Lib.hid (fun w => amongC (nb (L s) p) hKb (osz (L s) p) (p + 2) (tx (osay (L s) p)) (fo (L s) (ps pre)).mss (fo (L s) (ps pre)).sc (fo (L s) (ps pre)).sk (fo (L s) (ps pre)).tm (fo (L s) (ps pre)).va (fo (L s) (ps pre)).ec A n c (fo (L s) (ps pre)).bl w ho.len)
    have HAE : amg ⟨(fo (L s) (ps pre)).mss, (fo (L s) (ps pre)).sc, (fo (L s) (ps pre)).sk, (fo (L s) (ps pre)).bl, (fo (L s) (ps pre)).tm, (fo (L s) (ps pre)).va, (fo (L s) (ps pre)).ec⟩ (nb (L s) p) = amg (fo (L s) (ps pre)) (nb (L s) p) := rfl
    rw [HAE] at HA
    have HR := Lib.hid (fun b o A n c w hO hf h5 => readC (nb (L s) p) (osz (L s) p) (p + 2) (tx (osay (L s) p)) b o A n c w hO hKb (by rw [HE]; exact hf) hYS h5)
    obtain ⟨K, hK⟩ : ∃ K, nb (L s) p = K := ⟨_, rfl⟩
    obtain ⟨Z, hZ⟩ : ∃ Z, osz (L s) p = Z := ⟨_, rfl⟩
    obtain ⟨Y, hY⟩ : ∃ Y, tx (osay (L s) p) = Y := ⟨_, rfl⟩
    have HPV : pv (L s) p = PV K Z (p + 2) Y := by unfold pv; rw [hK, hZ, hY]
    rw [HPV]
    rw [hK, hZ, hY] at HF HA HR hX
    have HY := Lib.hid hY
    have HK := Lib.hid hK
    clear HPV HAE HE hYS hKb hzb hY hZ hK
    have hx0 := hX.at 0 rfl; have hx1 := hX.at 1 rfl; have hx2 := hX.at 2 rfl; have hx3 := hX.at 3 rfl
    cases hf : fitb (L s) p with
    | false =>
      rw [hf] at HF
      gi_wp2_with fail
      refine ⟨trivial, ?_⟩
      refine (CallsIn.inRound l (callsIn_wide.2 (HF.out W))).mono ?_
      rintro e_ W1 ⟨rfl, hv1⟩
      have hM1 := hM.upon hv1
      have hA4 := hM1.r2
      have hB4 := hM1.r3
      have hu4 := hM1.up
      clear hx0 hx1 hx2 hx3
      obtain ⟨k0, k1, k2, k3, k4, k5, k6, f0, f1, f2, f3, f4, f5, f6⟩ := Box.c7 hA4
      have c0 := hB4.at 0 rfl
      have d0 := hB4.fr 0 rfl
      gi_wp2
      refine ⟨trivial, ?_⟩
      gi_wp2
      have hAA := (put7 hA4 (.int .u16 0) (.int .i64 0) (.bool false) (.slice none 0 0) (.bool false) (.int .u32 0) (.int .u32 0)).far hne.symm (o := 0) (.int .i64 70)
      have hBB := (far7 hB4 hne (.int .u16 0) (.int .i64 0) (.bool false) (.slice none 0 0) (.bool false) (.int .u32 0) (.int .u32 0)).set 0 (.int .i64 70)
      have huu := up_set (b := n0 + 1) (o := 0) (v := .int .i64 70) (ups7 (b := n0) hu4 hle0 (.int .u16 0) (.int .i64 0) (.bool false) (.slice none 0 0) (.bool false) (.int .u32 0) (.int .u32 0)) hle1
      have hkk := (kf7 W1 n0 w3.heap.size (.int .u16 0) (.int .i64 0) (.bool false) (.slice none 0 0) (.bool false) (.int .u32 0) (.int .u32 0)).trans ((KeepsOthers.setCell _ ⟨n0 + 1, 0, none⟩ (.int .i64 70)).from w3.heap.size)
      exact ⟨(kf_up hv1).trans hkk, rfl, ⟨⟨ps pre, p, by simp [ps], hM.ok, .inl hf⟩, hAA, hBB, huu⟩⟩
    | true =>
      rw [hf] at HF
      gi_wp2_with fail
      refine ⟨trivial, ?_⟩
      refine (CallsIn.inRound l (callsIn_wide.2 (HF.out W))).mono ?_
      rintro e_ W1 ⟨rfl, hv1⟩
      have hM1 := hM.upon hv1
      have ho1 := OB.up ho hv1
      have hX1 := hX.up hv1
      clear hx0 hx1 hx2 hx3
      have hx0 := hX1.at 0 rfl; have hx1 := hX1.at 1 rfl; have hx2 := hX1.at 2 rfl; have hx3 := hX1.at 3 rfl
      obtain ⟨m0, m1, m2, m3, m4, m5, m6⟩ := Box.e7 ho1.box
      gi_wp2_with fail
      refine ⟨trivial, ?_⟩
      refine (CallsIn.inRound l (callsIn_wide.2 (HA.out W1))).mono ?_
      rintro e_ W2 ⟨rfl, hv2⟩
      have hM2 := hM1.upon hv2
      have ho2 := OB.up ho1 hv2
      have hX2 := hX1.up hv2
      clear m0 m1 m2 m3 m4 m5 m6
      cases ha : amg (fo (L s) (ps pre)) K with
      | true =>
        have hA4 := hM2.r2
        have hB4 := hM2.r3
        have hu4 := hM2.up
        clear hx0 hx1 hx2 hx3
        obtain ⟨k0, k1, k2, k3, k4, k5, k6, f0, f1, f2, f3, f4, f5, f6⟩ := Box.c7 hA4
        have c0 := hB4.at 0 rfl
        have d0 := hB4.fr 0 rfl
        gi_wp2
        have hAA := (put7 hA4 (.int .u16 0) (.int .i64 0) (.bool false) (.slice none 0 0) (.bool false) (.int .u32 0) (.int .u32 0)).far hne.symm (o := 0) (.int .i64 70)
        have hBB := (far7 hB4 hne (.int .u16 0) (.int .i64 0) (.bool false) (.slice none 0 0) (.bool false) (.int .u32 0) (.int .u32 0)).set 0 (.int .i64 70)
        have huu := up_set (b := n0 + 1) (o := 0) (v := .int .i64 70) (ups7 (b := n0) hu4 hle0 (.int .u16 0) (.int .i64 0) (.bool false) (.slice none 0 0) (.bool false) (.int .u32 0) (.int .u32 0)) hle1
        have hkk := (kf7 W2 n0 w3.heap.size (.int .u16 0) (.int .i64 0) (.bool false) (.slice none 0 0) (.bool false) (.int .u32 0) (.int .u32 0)).trans ((KeepsOthers.setCell _ ⟨n0 + 1, 0, none⟩ (.int .i64 70)).from w3.heap.size)
        exact ⟨((kf_up hv1).trans (kf_up hv2)).trans hkk, rfl, ⟨⟨ps pre, p, by simp [ps], hM.ok, .inr (by rw [HK.out]; exact ha)⟩, hAA, hBB, huu⟩⟩
      | false =>
        clear hx0 hx1 hx2 hx3
        have hx0 := hX2.at 0 rfl; have hx1 := hX2.at 1 rfl; have hx2 := hX2.at 2 rfl; have hx3 := hX2.at 3 rfl
        have h5 : K = 5 → (fo (L s) (ps pre)).bl = [] := fun e => by
          subst e
          have : decide ((fo (L s) (ps pre)).bl ≠ []) = false := ha
          simpa using this
        have hfit := fit_at hf hp2
        have HP := Lib.hid (show put (fo (L s) (ps pre)) (K, L Y) = fo (L s) (ps pre ++ [p]) by
          rw [fo_snoc, ← HY.out, L_tx, hfit.2.2.1]; unfold itm; rw [HK.out])
        have HRR := Lib.hid (HR.out n2 _ A n c W2 ho2 hf h5)
        rw [HP.out] at HRR
        gi_wp2_with fail
        refine ⟨trivial, ?_⟩
        refine (CallsIn.inRound l (callsIn_wide.2 HRR.out)).mono ?_
        rintro e_ W3 ⟨⟨r', rfl⟩, hg3, A3, n4, c3, ho3⟩
        gi_wp2
        have hn02 : n0 ≠ n2 := by omega
        have hn12 : n0 + 1 ≠ n2 := by omega
        have hup := up_grown hM2.up hg3 hle2
        have hkf : KeepsFrom w3.heap.size W2 W3 := KeepsFrom.of_grownBy hg3 (fun j e => by cases e; exact hX3)
        refine ⟨((kf_up hv1).trans (kf_up hv2)).trans hkf, ((Kx.up hv1).t (Kx.up hv2)).t (Kx.of hg3), ?_⟩
        have hps : ps (pre ++ [⟨p, hpl, hp2⟩]) = ps pre ++ [p] := by simp [ps]
        show Mid _ _ _ _ _ (ps (pre ++ [⟨p, hpl, hp2⟩])) _
        rw [hps]
        exact ⟨hM.ok.snoc hp2 hf (by rw [HK.out]; exact amg_f hM.ok ha), ⟨A3, n4, c3, ho3⟩, Box.grown hM2.r2 hg3 hn02, Box.grown hM2.r3 hg3 hn12, hup⟩
  case done =>
    rintro D ys W hD hT hM hK
    have hT' : OTold (L s) (ps ys) := hT
    have hdec := Lib.hid (err_0 (dec_told hT' hM.ok) H4.out)
    obtain ⟨A, n, c, ho⟩ := hM.ob
    have hlen := ho.len; have hrd := ho.rd; have hfar := ho.far
    have hO4 := ho.box
    have hA4 := hM.r2
    have hB4 := hM.r3
    have hu4 := hM.up
    obtain ⟨o, hoo⟩ : ∃ o, fo (L s) (ps ys) = o := ⟨_, rfl⟩
    rw [hoo] at hO4 hdec hlen hrd
    clear ho hM hT hT' hoo
    obtain ⟨k0, k1, k2, k3, k4, k5, k6, f0, f1, f2, f3, f4, f5, f6⟩ := Box.c7 hA4
    obtain ⟨m0, m1, m2, m3, m4, m5, m6⟩ := Box.e7 hO4
    have c0 := hB4.at 0 rfl
    have d0 := hB4.fr 0 rfl
    gi_wp2
    have hAA := (put7 hA4 (.int .u16 o.mss) (.int .i64 o.sc) (.bool o.sk) (.slice A n c) (.bool o.tm) (.int .u32 o.va) (.int .u32 o.ec)).far hne.symm (o := 0) (.int .i64 0)
    have hBB := (far7 hB4 hne (.int .u16 o.mss) (.int .i64 o.sc) (.bool o.sk) (.slice A n c) (.bool o.tm) (.int .u32 o.va) (.int .u32 o.ec)).set 0 (.int .i64 0)
    have huu := up_set (b := n0 + 1) (o := 0) (v := .int .i64 0) (ups7 (b := n0) hu4 hle0 (.int .u16 o.mss) (.int .i64 o.sc) (.bool o.sk) (.slice A n c) (.bool o.tm) (.int .u32 o.va) (.int .u32 o.ec)) hle1
    have hkk := (kf7 W n0 w3.heap.size (.int .u16 o.mss) (.int .i64 o.sc) (.bool o.sk) (.slice A n c) (.bool o.tm) (.int .u32 o.va) (.int .u32 o.ec)).trans ((KeepsOthers.setCell _ ⟨n0 + 1, 0, none⟩ (.int .i64 0)).from w3.heap.size)
    have hrr := (hrd.grown (grown7 W n0 (.int .u16 o.mss) (.int .i64 o.sc) (.bool o.sk) (.slice A n c) (.bool o.tm) (.int .u32 o.va) (.int .u32 o.ec)) (fun ad e => by have := hfar ad e; omega)).grown (grown_set _ (n0 + 1) 0 (.int .i64 0)) (fun ad e => by have := hfar ad e; omega)
    have hK9 := hkk.same D _ hD hK rfl
    clear k0 k1 k2 k3 k4 k5 k6 f0 f1 f2 f3 f4 f5 f6 m0 m1 m2 m3 m4 m5 m6 c0 d0 hkk hA4 hB4 hO4 hK hrd hu4
    generalize World.setCell _ ⟨n0 + 1, 0, none⟩ _ = W9 at hAA hBB huu hrr hK9 ⊢
    have hck := ck_put (.deferred none) hK9 rfl
    refine ⟨by simp, .inl ⟨_, _, rfl, run_takeDeferred hK9, ?_⟩⟩
    have hu9 := huu.trans (belowK_b (w := w) (Nat.le_refl _) W9 D _ (.deferred none) (by omega) hK9 rfl rfl)
    have hAA := Box.ck hAA hck
    have hBB := Box.ck hBB hck
    have hrr := RdB.ck hrr hck
    generalize W9.putObj D (.deferred none) = W10 at hAA hBB hrr hu9 ⊢
    obtain ⟨k0, k1, k2, k3, k4, k5, k6⟩ := Box.e7 hAA
    have c0 := hBB.at 0 rfl
    refine ⟨.tuple #[OA o.mss o.sc o.sk A n c o.tm o.va o.ec, .int .i64 0], ?_, ?_⟩
    · rw [results_cell_cell rfl]; go_simp
    · refine ⟨_, by rw [hdec.out.1]; rfl, ?_, hu9⟩
      rw [hdec.out.2]
      exact ⟨A, n, c, rfl, hlen, hrr, fun ad e => by have := hfar ad e; omega⟩
  case stop =>
    rintro D c pre W hD hP ⟨rfl, hB⟩ hK
    have hP' : OPart (L s) (ps pre) := hP
    obtain ⟨q, p, hpq, hok, hbd⟩ := hB.bad
    rw [hpq] at hP'
    have HD := Lib.hid (err_70 (dec_part hP' hok hbd) H4.out)
    gi_wp2
    have hck := ck_put (.deferred none) hK rfl
    refine ⟨by simp, .inl ⟨_, _, rfl, run_takeDeferred hK, ?_⟩⟩
    have hu9 := hB.up.trans (belowK_b (w := w) (Nat.le_refl _) W D _ (.deferred none) (by omega) hK rfl rfl)
    have hAA := Box.ck hB.r2 hck
    have hBB := Box.ck hB.r3 hck
    generalize W.putObj D (.deferred none) = W10 at hAA hBB hu9 ⊢
    obtain ⟨k0, k1, k2, k3, k4, k5, k6⟩ := Box.e7 hAA
    have c0 := hBB.at 0 rfl
    refine ⟨.tuple #[OA 0 0 false none 0 0 false 0 0, .int .i64 70], ?_, DecN.bad HD.out rfl hu9⟩
    rw [results_cell_cell rfl]; go_simp
theorem decNC (s : ByteArray) (w : World) (hs : s.size ≤ 1048576) : Calls Try.prog 22 #[.string s] w fun e_ w' => DecN (L s) w e_ w' := by
  by_cases h : 40 < s.size
  · exact decode_long s w hs h
  · exact decode_short s w (by omega)
theorem decC : DecC := fun s w hs => (decNC s w hs).mono fun _ _ h => h.z
end Go.Proofs.Ytafckmbgefbonaa.op
