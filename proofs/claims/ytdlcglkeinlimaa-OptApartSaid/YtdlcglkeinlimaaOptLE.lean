/- Package opt: what an option says, laid into options. Condition: it fits; no blocks are there, if it has some. -/
import Derived.Test.YtdlcglkeinlimaaOptLD
import Derived.Test.YtdlcglkeinlimaaNetRelG
namespace Go.Proofs.Ytdlcglkeinlimaa.op
open Go.RowKit Go.Shelf Go.Lib Go.Proofs.Ytdlcglkeinlimaa.sm Go.Proofs.Ytdlcglkeinlimaa.nb Go.Proofs.Ytdlcglkeinlimaa.om
set_option linter.unusedVariables false

theorem RdB.grown {w w' : World} {X : Nat} {A : Option Addr} {xs : List (Nat × Nat)} (h : RdB w A xs) (hg : w.grownBy w' (some X)) (hX : ∀ ad, A = some ad → ad.block ≠ X) : RdB w' A xs := fun hn => by
  obtain ⟨b, off, rfl, hlt, hc⟩ := h hn
  have hb := hX _ rfl
  refine ⟨b, off, rfl, Nat.lt_of_lt_of_le hlt hg.size, fun k hk => ?_⟩
  obtain ⟨h1, h2⟩ := hc k hk
  exact ⟨hg.cell h1 (fun e => hb (by cases e; rfl)), hg.cell h2 (fun e => hb (by cases e; rfl))⟩
abbrev ov (o : Opz) (A : Option Addr) (n c : Nat) : List Value := [.int .u16 (o.mss : Nat), .int .i64 o.sc, .bool o.sk, .slice A n c, .bool o.tm, .int .u32 (o.va : Nat), .int .u32 (o.ec : Nat)]
/-- a slice literal of one block -/
def FrB (x1 x2 : Nat) : Value → World → Prop := fun v W => ∃ g, v = .slice (some ⟨g, 0, none⟩) 1 1 ∧ Box W g [.int .u32 (x1 : Nat), .int .u32 (x2 : Nat)]
theorem FrB.st (x1 x2 : Nat) : ∀ v w w', FrB x1 x2 v w → Up w w' → FrB x1 x2 v w' := fun _ _ _ ⟨g, h1, h2⟩ hu => ⟨g, h1, h2.up hu⟩
/-- options lie in block b -/
structure OB (w : World) (b : Nat) (o : Opz) (A : Option Addr) (n c : Nat) : Prop where
  box : Box w b (ov o A n c)
  len : o.bl.length = n
  rd : RdB w A o.bl
  far : ∀ ad, A = some ad → b < ad.block
  nil_ : o.bl = [] → A = none ∧ c = 0
/-- the same blocks, other values -/
theorem OB.with_ {w w' : World} {b : Nat} {o o' : Opz} {A : Option Addr} {n c : Nat} (h : OB w b o A n c) (hg : w.grownBy w' (some b)) (hB : Box w' b (ov o' A n c)) (hbl : o'.bl = o.bl) : OB w' b o' A n c :=
  ⟨hB, by rw [hbl]; exact h.len, by rw [hbl]; exact h.rd.grown hg (fun ad e => Nat.ne_of_gt (h.far ad e)), h.far, by rw [hbl]; exact h.nil_⟩
/-- the number at a place of a text -/
structure At32 (X : ByteArray) (p x : Int) : Prop where
  sz : X.size ≤ 1099511627776
  bd : 0 ≤ p ∧ p + 4 ≤ (X.size : Int)
  va : qd (L X) p.toNat = x
theorem atK (X : ByteArray) (p x : Int) (w : World) (h : At32 X p x) : Calls Try.prog 43 #[.string X, .int .i64 p] w fun e w' => e = .returned (.int .u32 x) ∧ w = w' := by
  have := at32i X p w h.sz h.bd
  rw [h.va] at this; exact this
def ReadZ (b : Nat) (o : Opz) (w : World) (e_ : Ending) (w' : World) : Prop := (∃ r, e_ = .returned r) ∧ w.grownBy w' (some b) ∧ ∃ A n c, OB w' b o A n c
theorem u16e {a : Int} (h : 0 ≤ a) : (Value.int .u16 a) = .int .u16 (a.toNat : Int) := by rw [Int.toNat_of_nonneg h]
theorem u32e {a : Int} (h : 0 ≤ a) : (Value.int .u32 a) = .int .u32 (a.toNat : Int) := by rw [Int.toNat_of_nonneg h]
set_option maxHeartbeats 4000000 in
set_option maxRecDepth 100000 in
theorem read2 (P : Nat) (S : ByteArray) (b : Nat) (m : Nat) (s : Int) (k : Bool) (bl : List (Nat × Nat)) (t : Bool) (v e : Nat) (A : Option Addr) (n c : Nat) (w : World) (hO : OB w b ⟨m, s, k, bl, t, v, e⟩ A n c) (hS : S.size = 2) : Calls Try.prog 27 #[PV 2 4 P S, .pointer (some ⟨b, 0, none⟩)] w (ReadZ b (put ⟨m, s, k, bl, t, v, e⟩ (2, L S)) w) := by
  have HA := Lib.hid (fun w => at16i S 0 w (by omega) (by omega))
  have hz0 := (wd_bd (L S) 0).1
  rw [put_2]
  obtain ⟨z, hz⟩ : ∃ z, wd (L S) 0 = z := ⟨_, rfl⟩
  rw [show (0 : Int).toNat = 0 from rfl, hz] at HA
  rw [hz] at hz0 ⊢
  clear hz
  obtain ⟨hB, hl, hr, hf, hnl⟩ := hO
  have hO : OB w b ⟨m, s, k, bl, t, v, e⟩ A n c := ⟨hB, hl, hr, hf, hnl⟩
  have HO := Lib.hid hO
  clear hO hr hf hl hnl
  have hlt := hB.1
  go_enter Try.func27, Try.ntmps27
  go_upto_region 1 with fail
  have hA := Box.new w #[.int .u8 2, .int .i64 4, .int .i64 (P : Nat), .string S] 54
  have hu : Up w (w.alloc (.cells #[.int .u8 2, .int .i64 4, .int .i64 (P : Nat), .string S] 54)) := up_al _ (Below.refl _ _)
  have hB0 := hB.alloc (.cells #[.int .u8 2, .int .i64 4, .int .i64 (P : Nat), .string S] 54)
  generalize (w.alloc (.cells #[.int .u8 2, .int .i64 4, .int .i64 (P : Nat), .string S] 54)) = w0 at hA hu hB0 ⊢
  have hne : b ≠ w.heap.size := by omega
  obtain ⟨n0, hn0⟩ : ∃ n0, n0 = w.heap.size := ⟨_, rfl⟩
  rw [← hn0] at hA hne ⊢
  clear hn0
  obtain ⟨k0, k1, k2, k3⟩ := Box.e4 hA
  obtain ⟨m0, m1, m2, m3, m4, m5, m6, g0, g1, g2, g3, g4, g5, g6⟩ := Box.c7 hB0
  go_wp2_with fail
  refine (HA.out w0).mono ?_
  rintro e_ w2 ⟨rfl, rfl⟩
  go_wp2
  go_end0
  have hg := grown_trans (grown_up (X := b) hu) (grown_set w0 b 0 (.int .u16 z))
  refine ⟨⟨_, rfl⟩, hg, A, n, c, HO.out.with_ hg ?_ rfl⟩
  have := hB0.set 0 (.int .u16 z)
  rw [u16e hz0] at this ⊢
  exact this
set_option maxHeartbeats 4000000 in
set_option maxRecDepth 100000 in
theorem read3 (P : Nat) (S : ByteArray) (b : Nat) (m : Nat) (s : Int) (k : Bool) (bl : List (Nat × Nat)) (t : Bool) (v e : Nat) (A : Option Addr) (n c : Nat) (w : World) (hO : OB w b ⟨m, s, k, bl, t, v, e⟩ A n c) (hS : S.size = 1) : Calls Try.prog 27 #[PV 3 3 P S, .pointer (some ⟨b, 0, none⟩)] w (ReadZ b (put ⟨m, s, k, bl, t, v, e⟩ (3, L S)) w) := by
  have HA := Lib.hid (fun w => at8i S 0 w (by omega) (by omega))
  have hz0 := bt_bd (L S) 0
  rw [put_3]
  obtain ⟨z, hz⟩ : ∃ z, bt (L S) 0 = z := ⟨_, rfl⟩
  rw [show (0 : Int).toNat = 0 from rfl, hz] at HA
  dsimp only
  rw [hz] at hz0 ⊢
  clear hz
  obtain ⟨hB, hl, hr, hf, hnl⟩ := hO
  have hO : OB w b ⟨m, s, k, bl, t, v, e⟩ A n c := ⟨hB, hl, hr, hf, hnl⟩
  have HO := Lib.hid hO
  clear hO hr hf hl hnl
  have hlt := hB.1
  go_enter Try.func27, Try.ntmps27
  go_upto_region 1 with fail
  have hA := Box.new w #[.int .u8 3, .int .i64 3, .int .i64 (P : Nat), .string S] 54
  have hu : Up w (w.alloc (.cells #[.int .u8 3, .int .i64 3, .int .i64 (P : Nat), .string S] 54)) := up_al _ (Below.refl _ _)
  have hB0 := hB.alloc (.cells #[.int .u8 3, .int .i64 3, .int .i64 (P : Nat), .string S] 54)
  generalize (w.alloc (.cells #[.int .u8 3, .int .i64 3, .int .i64 (P : Nat), .string S] 54)) = w0 at hA hu hB0 ⊢
  have hne : b ≠ w.heap.size := by omega
  obtain ⟨n0, hn0⟩ : ∃ n0, n0 = w.heap.size := ⟨_, rfl⟩
  rw [← hn0] at hA hne ⊢
  clear hn0
  obtain ⟨k0, k1, k2, k3⟩ := Box.e4 hA
  obtain ⟨m0, m1, m2, m3, m4, m5, m6, g0, g1, g2, g3, g4, g5, g6⟩ := Box.c7 hB0
  go_wp2_with fail
  refine (HA.out w0).mono ?_
  rintro e_ w2 ⟨rfl, rfl⟩
  go_wp2
  go_end0
  have hg := grown_trans (grown_up (X := b) hu) (grown_set w0 b 1 (.int .i64 (min z 14)))
  exact ⟨⟨_, rfl⟩, hg, A, n, c, HO.out.with_ hg (hB0.set 1 (.int .i64 (min z 14))) rfl⟩
set_option maxHeartbeats 4000000 in
set_option maxRecDepth 100000 in
theorem read4 (P : Nat) (S : ByteArray) (b : Nat) (m : Nat) (s : Int) (k : Bool) (bl : List (Nat × Nat)) (t : Bool) (v e : Nat) (A : Option Addr) (n c : Nat) (w : World) (hO : OB w b ⟨m, s, k, bl, t, v, e⟩ A n c) : Calls Try.prog 27 #[PV 4 2 P S, .pointer (some ⟨b, 0, none⟩)] w (ReadZ b (put ⟨m, s, k, bl, t, v, e⟩ (4, L S)) w) := by
  rw [put_4]
  obtain ⟨hB, hl, hr, hf, hnl⟩ := hO
  have hO : OB w b ⟨m, s, k, bl, t, v, e⟩ A n c := ⟨hB, hl, hr, hf, hnl⟩
  have HO := Lib.hid hO
  clear hO hr hf hl hnl
  have hlt := hB.1
  go_enter Try.func27, Try.ntmps27
  go_upto_region 1 with fail
  have hA := Box.new w #[.int .u8 4, .int .i64 2, .int .i64 (P : Nat), .string S] 54
  have hu : Up w (w.alloc (.cells #[.int .u8 4, .int .i64 2, .int .i64 (P : Nat), .string S] 54)) := up_al _ (Below.refl _ _)
  have hB0 := hB.alloc (.cells #[.int .u8 4, .int .i64 2, .int .i64 (P : Nat), .string S] 54)
  generalize (w.alloc (.cells #[.int .u8 4, .int .i64 2, .int .i64 (P : Nat), .string S] 54)) = w0 at hA hu hB0 ⊢
  have hne : b ≠ w.heap.size := by omega
  obtain ⟨n0, hn0⟩ : ∃ n0, n0 = w.heap.size := ⟨_, rfl⟩
  rw [← hn0] at hA hne ⊢
  clear hn0
  obtain ⟨k0, k1, k2, k3⟩ := Box.e4 hA
  obtain ⟨m0, m1, m2, m3, m4, m5, m6, g0, g1, g2, g3, g4, g5, g6⟩ := Box.c7 hB0
  go_wp2
  go_end0
  have hg := grown_trans (grown_up (X := b) hu) (grown_set w0 b 2 (.bool true))
  exact ⟨⟨_, rfl⟩, hg, A, n, c, HO.out.with_ hg (hB0.set 2 (.bool true)) rfl⟩
set_option maxHeartbeats 4000000 in
set_option maxRecDepth 100000 in
theorem readx (K Z : Nat) (hK : K ≤ 255) (h2 : K ≠ 2) (h3 : K ≠ 3) (h4 : K ≠ 4) (h5 : K ≠ 5) (h8 : K ≠ 8) (P : Nat) (S : ByteArray) (b : Nat) (m : Nat) (s : Int) (k : Bool) (bl : List (Nat × Nat)) (t : Bool) (v e : Nat) (A : Option Addr) (n c : Nat) (w : World) (hO : OB w b ⟨m, s, k, bl, t, v, e⟩ A n c) : Calls Try.prog 27 #[PV K (Z : Nat) P S, .pointer (some ⟨b, 0, none⟩)] w (ReadZ b (put ⟨m, s, k, bl, t, v, e⟩ (K, L S)) w) := by
  rw [put_x _ _ _ h2 h3 h4 h5 h8]
  have i2 : ¬ (K : Int) = 2 := by omega
  have i3 : ¬ (K : Int) = 3 := by omega
  have i4 : ¬ (K : Int) = 4 := by omega
  have i5 : ¬ (K : Int) = 5 := by omega
  have i8 : ¬ (K : Int) = 8 := by omega
  obtain ⟨hB, hl, hr, hf, hnl⟩ := hO
  have hO : OB w b ⟨m, s, k, bl, t, v, e⟩ A n c := ⟨hB, hl, hr, hf, hnl⟩
  have HO := Lib.hid hO
  clear hO hr hf hl hnl
  have hlt := hB.1
  go_enter Try.func27, Try.ntmps27
  go_upto_region 1 with fail
  have hA := Box.new w #[.int .u8 (K : Nat), .int .i64 (Z : Nat), .int .i64 (P : Nat), .string S] 54
  have hu : Up w (w.alloc (.cells #[.int .u8 (K : Nat), .int .i64 (Z : Nat), .int .i64 (P : Nat), .string S] 54)) := up_al _ (Below.refl _ _)
  have hB0 := hB.alloc (.cells #[.int .u8 (K : Nat), .int .i64 (Z : Nat), .int .i64 (P : Nat), .string S] 54)
  generalize (w.alloc (.cells #[.int .u8 (K : Nat), .int .i64 (Z : Nat), .int .i64 (P : Nat), .string S] 54)) = w0 at hA hu hB0 ⊢
  have hne : b ≠ w.heap.size := by omega
  obtain ⟨n0, hn0⟩ : ∃ n0, n0 = w.heap.size := ⟨_, rfl⟩
  rw [← hn0] at hA hne ⊢
  clear hn0
  obtain ⟨k0, k1, k2, k3⟩ := Box.e4 hA
  obtain ⟨m0, m1, m2, m3, m4, m5, m6, g0, g1, g2, g3, g4, g5, g6⟩ := Box.c7 hB0
  go_wp2
  go_end0
  exact ⟨⟨_, rfl⟩, grown_up hu, A, n, c, HO.out.with_ (grown_up hu) hB0 rfl⟩
set_option maxHeartbeats 4000000 in
set_option maxRecDepth 100000 in
theorem read8 (P : Nat) (S : ByteArray) (b : Nat) (m : Nat) (s : Int) (k : Bool) (bl : List (Nat × Nat)) (t : Bool) (v e : Nat) (A : Option Addr) (n c : Nat) (w : World) (hO : OB w b ⟨m, s, k, bl, t, v, e⟩ A n c) (hS : S.size = 8) : Calls Try.prog 27 #[PV 8 10 P S, .pointer (some ⟨b, 0, none⟩)] w (ReadZ b (put ⟨m, s, k, bl, t, v, e⟩ (8, L S)) w) := by
  have hz0 := (qd_bd (L S) 0).1
  have hy0 := (qd_bd (L S) 4).1
  rw [put_8]
  obtain ⟨z, hz⟩ : ∃ z, qd (L S) 0 = z := ⟨_, rfl⟩
  obtain ⟨y, hy⟩ : ∃ y, qd (L S) 4 = y := ⟨_, rfl⟩
  have I1 : At32 S 0 z := ⟨by omega, by omega, hz⟩
  have I2 : At32 S 4 y := ⟨by omega, by omega, hy⟩
  dsimp only
  rw [hz] at hz0 ⊢
  rw [hy] at hy0 ⊢
  clear hz hy
  obtain ⟨hB, hl, hr, hf, hnl⟩ := hO
  have hO : OB w b ⟨m, s, k, bl, t, v, e⟩ A n c := ⟨hB, hl, hr, hf, hnl⟩
  have HO := Lib.hid hO
  clear hO hr hf hl hnl
  have hlt := hB.1
  go_enter Try.func27, Try.ntmps27
  go_upto_region 1 with fail
  have hA := Box.new w #[.int .u8 8, .int .i64 10, .int .i64 (P : Nat), .string S] 54
  have hu : Up w (w.alloc (.cells #[.int .u8 8, .int .i64 10, .int .i64 (P : Nat), .string S] 54)) := up_al _ (Below.refl _ _)
  have hB0 := hB.alloc (.cells #[.int .u8 8, .int .i64 10, .int .i64 (P : Nat), .string S] 54)
  generalize (w.alloc (.cells #[.int .u8 8, .int .i64 10, .int .i64 (P : Nat), .string S] 54)) = w0 at hA hu hB0 ⊢
  have hne : b ≠ w.heap.size := by omega
  obtain ⟨n0, hn0⟩ : ∃ n0, n0 = w.heap.size := ⟨_, rfl⟩
  rw [← hn0] at hA hne ⊢
  clear hn0
  obtain ⟨k0, k1, k2, k3⟩ := Box.e4 hA
  obtain ⟨m0, m1, m2, m3, m4, m5, m6, g0, g1, g2, g3, g4, g5, g6⟩ := Box.c7 hB0
  go_upto_region 14 with fail
  go_region_law (go_simp; go_at_call 43; refine (atK _ _ _ _ (by first | exact I1 | exact I2)).mono ?_; rintro e_ w2 ⟨rfl, rfl⟩)
  all_goals
    go_wp2
    have hg : w.grownBy (((w0.setCell ⟨b, 4, none⟩ (.bool true)).setCell ⟨b, 5, none⟩ (.int .u32 z)).setCell ⟨b, 6, none⟩ (.int .u32 y)).drew (some b) :=
      grown_trans (grown_trans (grown_trans (grown_trans (grown_up (X := b) hu) (grown_set w0 b 4 (.bool true))) (grown_set _ b 5 (.int .u32 z))) (grown_set _ b 6 (.int .u32 y))) (grown_up (up_dr (Below.refl _ _)))
    have hBB := Box.drew (((hB0.set 4 (.bool true)).set 5 (.int .u32 z)).set 6 (.int .u32 y))
    go_end0
    refine ⟨⟨_, rfl⟩, hg, A, n, c, HO.out.with_ hg ?_ rfl⟩
    rw [u32e hz0, u32e hy0] at hBB ⊢
    exact hBB
theorem grown_below {A B C : World} {X N : Nat} (h : A.grownBy B (some X)) (k : Below N B C) (hN : A.heap.size ≤ N) : A.grownBy C (some X) :=
  ⟨k.os.trans h.os, k.tape.trans h.tape, k.output.trans h.output, Nat.le_trans h.size k.size, fun i hi hne => (k.block i (Nat.lt_of_lt_of_le hi hN)).trans (h.block i hi hne)⟩
theorem OwnK.far {w : World} {B n c : Nat} {A : Option Addr} {xs : List (Nat × Nat)} (h : OwnK w B (.slice A n c) xs) : ∀ ad, A = some ad → B ≤ ad.block := by
  intro ad he
  rcases own_form h with ⟨h1, _⟩ | ⟨g, cap, h1, hB, _⟩
  · cases h1; cases he
  · cases h1; cases he; exact hB
theorem OwnK.grownB {w : World} {B X : Nat} {x : Value} {xs : List (Nat × Nat)} (h : OwnK w B x xs) (hX : X < B) (o : Nat) (v : Value) : OwnK (w.setCell ⟨X, o, none⟩ v) B x xs :=
  RowKit.ownsRow_setCell_below h (a := ⟨X, o, none⟩) hX _
set_option maxHeartbeats 4000000 in
set_option maxRecDepth 100000 in
theorem read5 (P : Nat) (S : ByteArray) (b m : Nat) (s : Int) (k : Bool) (t : Bool) (v e q Z : Nat) (w : World) (hO : OB w b ⟨m, s, k, [], t, v, e⟩ none 0 0) (hZ : Z = 8 * q + 2) (hS : S.size = 8 * q) (hq : q ≤ 4) (hq1 : 1 ≤ q) :
    Calls Try.prog 27 #[PV 5 Z P S, .pointer (some ⟨b, 0, none⟩)] w (ReadZ b (put ⟨m, s, k, [], t, v, e⟩ (5, L S)) w) := by
  rw [put_5]
  dsimp only
  rw [List.nil_append]
  have hbl : (blocks (L S)).length = q := by rw [blocks_len, L_len, hS]; omega
  have HT := Lib.hid (fun j (h : j < q) => blocks_take (L S) j (by rw [L_len, hS]; omega))
  have HS := Lib.hid hS
  obtain ⟨bs, hbs⟩ : ∃ bs, bs = blocks (L S) := ⟨_, rfl⟩
  rw [← hbs] at hbl HT ⊢
  clear hbs
  have hB := hO.box
  clear hO
  have hlt := hB.1
  have HZ := Lib.hid hZ
  clear hZ
  go_enter Try.func27, Try.ntmps27
  go_upto_region 1 with fail
  have hA := Box.new w #[.int .u8 5, .int .i64 (Z : Nat), .int .i64 (P : Nat), .string S] 54
  have hu : Up w (w.alloc (.cells #[.int .u8 5, .int .i64 (Z : Nat), .int .i64 (P : Nat), .string S] 54)) := up_al _ (Below.refl _ _)
  have hB0 := hB.alloc (.cells #[.int .u8 5, .int .i64 (Z : Nat), .int .i64 (P : Nat), .string S] 54)
  have hz0 : w.heap.size + 1 ≤ (w.alloc (.cells #[.int .u8 5, .int .i64 (Z : Nat), .int .i64 (P : Nat), .string S] 54)).heap.size := by simp
  generalize (w.alloc (.cells #[.int .u8 5, .int .i64 (Z : Nat), .int .i64 (P : Nat), .string S] 54)) = w0 at hA hu hB0 hz0 ⊢
  have HG := Lib.hid (grown_up (X := b) hu)
  clear hu hB
  obtain ⟨n0, hn0⟩ : ∃ n0, n0 = w.heap.size := ⟨_, rfl⟩
  rw [← hn0] at hA hlt hz0 ⊢
  have hle0 : w.heap.size ≤ n0 + 1 := by omega
  clear hn0
  have hne : b ≠ n0 := by omega
  have hlt1 : b < n0 + 1 := by omega
  obtain ⟨k0, k1, k2, k3⟩ := Box.e4 hA
  go_wp2_with fail
  go_loopw [4] (fun i wr => ∃ (j p : Nat) (sl : Value), j ≤ q ∧ i = .int .i64 p ∧ Hid (p = 8 * j) ∧ Box wr b [.int .u16 (m : Nat), .int .i64 s, .bool k, sl, .bool t, .int .u32 (v : Nat), .int .u32 (e : Nat)] ∧ OwnK wr (n0 + 1) sl (bs.take j) ∧ Box wr n0 [.int .u8 5, .int .i64 (Z : Nat), .int .i64 (P : Nat), .string S] ∧ Hid (w.grownBy wr (some b)) ∧ n0 + 1 ≤ wr.heap.size) (fun i _ => S.size - (RowKit.intOf i).toNat)
  case atStart => exact ⟨0, 0, _, Nat.zero_le _, rfl, rfl, hB0, OwnK.nil_ _ _, hA, HG, hz0⟩
  case round =>
    obtain ⟨j, p, sl, hj, rfl, hp, hBr, hO, hAr, hgr, hzr⟩ := hrel
    clear k0 k1 k2 k3 hA hB0 HG hz0
    obtain ⟨k0, k1, k2, k3⟩ := Box.e4 hAr
    by_cases hlt : j < q
    · have hp8 : p + 8 ≤ S.size := by rw [HS.out, hp.out]; omega
      have hS32 : S.size ≤ 32 := by omega
      obtain ⟨x1, hx1⟩ : ∃ x1, x1 = (qd (L S) p).toNat := ⟨_, rfl⟩
      obtain ⟨x2, hx2⟩ : ∃ x2, x2 = (qd (L S) (p + 4)).toNat := ⟨_, rfl⟩
      have I1 : At32 S (p : Nat) (x1 : Nat) := ⟨by omega, by omega, by rw [hx1, Int.toNat_natCast, Int.toNat_of_nonneg (qd_bd _ _).1]⟩
      have I2 : At32 S ((p : Int) + 4) (x2 : Nat) := ⟨by omega, by omega, by rw [hx2, show ((p : Int) + 4).toNat = p + 4 by omega, Int.toNat_of_nonneg (qd_bd _ _).1]⟩
      have HB : Hid (bs.take (j + 1) = bs.take j ++ [(x1, x2)]) := by unfold Hid; rw [HT.out j hlt, hx1, hx2, hp.out]
      have hl : (bs.take j).length ≤ 4 := by rw [List.length_take]; omega
      clear hx1 hx2 hS
      have d0 : (p : Int) < (S.size : Int) := by omega
      have d7 : IntKind.i64.wrap ((p : Int) + 4) = (p : Int) + 4 := IntWalk.i64_in _ (by omega)
      have d8 : IntKind.i64.wrap ((p : Int) + 8) = (p : Int) + 8 := IntWalk.i64_in _ (by omega)
      have hal : ∀ o, (wr.alloc o).cell? ⟨b, 3, none⟩ = some sl := fun o => (hBr.alloc o).at 3 rfl
      have hal1 : ∀ o, (wr.alloc o).cell? ⟨n0, 3, none⟩ = some (.string S) := fun o => (hAr.alloc o).at 3 rfl
      have m3 := hBr.at 3 rfl
      generalize bs.take j = xs at hO hl HB
      go_upto_region 12 with fail
      refine wp_region_rel8 16 0 (fun W => Up wr W) (fun W W' => Up W W') (Ys [Det (.pointer (some ⟨b, 0, none⟩)),
    Det (.pointer (some ⟨b, 0, none⟩)),
    Det (.pointer (some ⟨b, 0, none⟩)),
    Det (.pointer (some ⟨b, 3, none⟩)),
    Det (sl),
    Det (.pointer (some ⟨n0, 3, none⟩)),
    Det (.string S),
    Det (.int .i64 (p : Nat)),
    Det (.int .u32 (x1 : Nat)),
    Det (.pointer (some ⟨n0, 3, none⟩)),
    Det (.string S),
    Det (.int .i64 (p : Nat)),
    Det (.int .i64 ((p : Int) + 4)),
    Det (.int .u32 (x2 : Nat)),
    Det (.agg #[.int .u32 (x1 : Nat), .int .u32 (x2 : Nat)]),
    FrB x1 x2]) (by kernel_rfl) (by kernel_rfl) (by kernel_rfl) (up_dr (Below.refl _ _)) (Stable.ys ⟨Det.st _, Det.st _, Det.st _, Det.st _, Det.st _, Det.st _, Det.st _, Det.st _, Det.st _, Det.st _, Det.st _, Det.st _, Det.st _, Det.st _, Det.st _, FrB.st _ _, trivial⟩) ?_ ?_ ?_
      all_goals simp only [List.take_succ_cons, List.take_zero, List.drop_succ_cons, List.drop_zero, List.set_cons_zero, List.set_cons_succ, List.headD_cons, List.cons_append, List.nil_append]
      ·
        -- 0: Op.move t1
        refine obligs_cons ?_ ?_
        · intro aa ww hC hdep hvar KK hK
          have d1 : aa.tmps.getD 1 undef = .pointer (some ⟨b, 0, none⟩) := hvar 1 (slotOk_spec (by kernel_rfl))
          have d1_ := d1; rw [Array.getD_eq_getD_getElem?] at d1_
          clear hdep hvar
          simp (config := { decide := true }) [go_sem, opTo, opUpon, *]
          exact hK _ _ rfl hC (Below.refl _ _)
        -- 1: Op.move t1
        refine obligs_cons ?_ ?_
        · intro aa ww hC hdep hvar KK hK
          have d1 : aa.tmps.getD 1 undef = .pointer (some ⟨b, 0, none⟩) := hvar 1 (slotOk_spec (by kernel_rfl))
          have d1_ := d1; rw [Array.getD_eq_getD_getElem?] at d1_
          clear hdep hvar
          simp (config := { decide := true }) [go_sem, opTo, opUpon, *]
          exact hK _ _ rfl hC (Below.refl _ _)
        -- 2: Op.nilCheck t40
        refine obligs_cons ?_ ?_
        · intro aa ww hC hdep hvar KK hK
          have d40 : aa.tmps.getD 40 undef = .pointer (some ⟨b, 0, none⟩) := dep_of hdep 1 40 (by kernel_rfl)
          have d40_ := d40; rw [Array.getD_eq_getD_getElem?] at d40_
          clear hdep hvar
          (unfold opTo; go_simp; try simp only [opUpon])
          exact hK _ _ rfl hC (Below.refl _ _)
        -- 3: Op.fieldAddr 26 t41 3
        refine obligs_cons ?_ ?_
        · intro aa ww hC hdep hvar KK hK
          have d41 : aa.tmps.getD 41 undef = .pointer (some ⟨b, 0, none⟩) := dep_of hdep 2 41 (by kernel_rfl)
          have d41_ := d41; rw [Array.getD_eq_getD_getElem?] at d41_
          clear hdep hvar
          simp (config := { decide := true }) [go_sem, opTo, opUpon, *]
          exact hK _ _ rfl hC (Below.refl _ _)
        -- 4: Op.load 23 t42
        refine obligs_cons ?_ ?_
        · intro aa ww hC hdep hvar KK hK
          have d42 : aa.tmps.getD 42 undef = .pointer (some ⟨b, 3, none⟩) := dep_of hdep 3 42 (by kernel_rfl)
          have d42_ := d42; rw [Array.getD_eq_getD_getElem?] at d42_
          clear hdep hvar
          have hb := hBr.up hC
          have c3 := hb.at 3 rfl
          simp (config := { decide := true }) [go_sem, opTo, opUpon, *]
          exact hK _ _ rfl hC (Below.refl _ _)
        -- 5: Op.fieldAddr 54 t2 3
        refine obligs_cons ?_ ?_
        · intro aa ww hC hdep hvar KK hK
          have d2 : aa.tmps.getD 2 undef = .pointer (some ⟨n0, 0, none⟩) := hvar 2 (slotOk_spec (by kernel_rfl))
          have d2_ := d2; rw [Array.getD_eq_getD_getElem?] at d2_
          clear hdep hvar
          simp (config := { decide := true }) [go_sem, opTo, opUpon, *]
          exact hK _ _ rfl hC (Below.refl _ _)
        -- 6: Op.load 9 t44
        refine obligs_cons ?_ ?_
        · intro aa ww hC hdep hvar KK hK
          have d44 : aa.tmps.getD 44 undef = .pointer (some ⟨n0, 3, none⟩) := dep_of hdep 5 44 (by kernel_rfl)
          have d44_ := d44; rw [Array.getD_eq_getD_getElem?] at d44_
          clear hdep hvar
          have hb := hAr.up hC
          have c3 := hb.at 3 rfl
          simp (config := { decide := true }) [go_sem, opTo, opUpon, *]
          exact hK _ _ rfl hC (Below.refl _ _)
        -- 7: Op.move t4
        refine obligs_cons ?_ ?_
        · intro aa ww hC hdep hvar KK hK
          have d4 : aa.tmps.getD 4 undef = .int .i64 (p : Nat) := hvar 4 (slotOk_spec (by kernel_rfl))
          have d4_ := d4; rw [Array.getD_eq_getD_getElem?] at d4_
          clear hdep hvar
          simp (config := { decide := true }) [go_sem, opTo, opUpon, *]
          exact hK _ _ rfl hC (Below.refl _ _)
        -- 8: Op.call { value (Operand.func 43), args := #[t45, t46], argTypes := #[9, 3] }
        refine obligs_cons ?_ ?_
        · intro aa ww hC hdep hvar KK hK
          have d45 : aa.tmps.getD 45 undef = .string S := dep_of hdep 6 45 (by kernel_rfl)
          have d46 : aa.tmps.getD 46 undef = .int .i64 (p : Nat) := dep_of hdep 7 46 (by kernel_rfl)
          have d45_ := d45; rw [Array.getD_eq_getD_getElem?] at d45_
          have d46_ := d46; rw [Array.getD_eq_getD_getElem?] at d46_
          clear hdep hvar
          (unfold opTo; go_simp; try simp only [opUpon])
          refine (atK _ _ _ _ I1).mono ?_
          rintro e_ w2 ⟨rfl, rfl⟩
          exact ⟨_, rfl, hK _ _ rfl hC (Below.refl _ _)⟩
        -- 9: Op.fieldAddr 54 t2 3
        refine obligs_cons ?_ ?_
        · intro aa ww hC hdep hvar KK hK
          have d2 : aa.tmps.getD 2 undef = .pointer (some ⟨n0, 0, none⟩) := hvar 2 (slotOk_spec (by kernel_rfl))
          have d2_ := d2; rw [Array.getD_eq_getD_getElem?] at d2_
          clear hdep hvar
          simp (config := { decide := true }) [go_sem, opTo, opUpon, *]
          exact hK _ _ rfl hC (Below.refl _ _)
        -- 10: Op.load 9 t48
        refine obligs_cons ?_ ?_
        · intro aa ww hC hdep hvar KK hK
          have d48 : aa.tmps.getD 48 undef = .pointer (some ⟨n0, 3, none⟩) := dep_of hdep 9 48 (by kernel_rfl)
          have d48_ := d48; rw [Array.getD_eq_getD_getElem?] at d48_
          clear hdep hvar
          have hb := hAr.up hC
          have c3 := hb.at 3 rfl
          simp (config := { decide := true }) [go_sem, opTo, opUpon, *]
          exact hK _ _ rfl hC (Below.refl _ _)
        -- 11: Op.move t4
        refine obligs_cons ?_ ?_
        · intro aa ww hC hdep hvar KK hK
          have d4 : aa.tmps.getD 4 undef = .int .i64 (p : Nat) := hvar 4 (slotOk_spec (by kernel_rfl))
          have d4_ := d4; rw [Array.getD_eq_getD_getElem?] at d4_
          clear hdep hvar
          simp (config := { decide := true }) [go_sem, opTo, opUpon, *]
          exact hK _ _ rfl hC (Below.refl _ _)
        -- 12: Op.binOp BinOp.add 3 t50 (const (4:i64)) 3
        refine obligs_cons ?_ ?_
        · intro aa ww hC hdep hvar KK hK
          have d50 : aa.tmps.getD 50 undef = .int .i64 (p : Nat) := dep_of hdep 11 50 (by kernel_rfl)
          have d50_ := d50; rw [Array.getD_eq_getD_getElem?] at d50_
          clear hdep hvar
          (unfold opTo; go_simp; try simp only [opUpon])
          exact hK _ _ rfl hC (Below.refl _ _)
        -- 13: Op.call { value (Operand.func 43), args := #[t49, t51], argTypes := #[9, 3] }
        refine obligs_cons ?_ ?_
        · intro aa ww hC hdep hvar KK hK
          have d49 : aa.tmps.getD 49 undef = .string S := dep_of hdep 10 49 (by kernel_rfl)
          have d51 : aa.tmps.getD 51 undef = .int .i64 ((p : Int) + 4) := dep_of hdep 12 51 (by kernel_rfl)
          have d49_ := d49; rw [Array.getD_eq_getD_getElem?] at d49_
          have d51_ := d51; rw [Array.getD_eq_getD_getElem?] at d51_
          clear hdep hvar
          (unfold opTo; go_simp; try simp only [opUpon])
          refine (atK _ _ _ _ I2).mono ?_
          rintro e_ w2 ⟨rfl, rfl⟩
          exact ⟨_, rfl, hK _ _ rfl hC (Below.refl _ _)⟩
        -- 14: Op.build 64 #[(0, t47), (1, t52)]
        refine obligs_cons ?_ ?_
        · intro aa ww hC hdep hvar KK hK
          have d47 : aa.tmps.getD 47 undef = .int .u32 (x1 : Nat) := dep_of hdep 8 47 (by kernel_rfl)
          have d52 : aa.tmps.getD 52 undef = .int .u32 (x2 : Nat) := dep_of hdep 13 52 (by kernel_rfl)
          have d47_ := d47; rw [Array.getD_eq_getD_getElem?] at d47_
          have d52_ := d52; rw [Array.getD_eq_getD_getElem?] at d52_
          clear hdep hvar
          (unfold opTo; go_simp; try simp only [opUpon])
          exact hK _ _ rfl hC (Below.refl _ _)
        -- 15: Op.buildSlice 23 1 #[(0, t53)]
        refine obligs_cons ?_ ?_
        · intro aa ww hC hdep hvar KK hK
          have d53 : aa.tmps.getD 53 undef = .agg #[.int .u32 (x1 : Nat), .int .u32 (x2 : Nat)] := dep_of hdep 14 53 (by kernel_rfl)
          have d53_ := d53; rw [Array.getD_eq_getD_getElem?] at d53_
          clear hdep hvar
          (unfold opTo; go_simp; try simp only [opUpon])
          exact hK _ _ ⟨_, rfl, Box.new _ _ _⟩ (up_al _ hC) (up_al _ (Below.refl _ _))
        exact obligs_nil
      ·
        intro vals ww hC hY
        have e0 : vals 0 = .pointer (some ⟨b, 0, none⟩) := hY 0 _ _ rfl rfl
        have e1 : vals 1 = .pointer (some ⟨b, 0, none⟩) := hY 1 _ _ rfl rfl
        have e2 : vals 2 = .pointer (some ⟨b, 0, none⟩) := hY 2 _ _ rfl rfl
        have e3 : vals 3 = .pointer (some ⟨b, 3, none⟩) := hY 3 _ _ rfl rfl
        have e4 : vals 4 = sl := hY 4 _ _ rfl rfl
        have e5 : vals 5 = .pointer (some ⟨n0, 3, none⟩) := hY 5 _ _ rfl rfl
        have e6 : vals 6 = .string S := hY 6 _ _ rfl rfl
        have e7 : vals 7 = .int .i64 (p : Nat) := hY 7 _ _ rfl rfl
        have e8 : vals 8 = .int .u32 (x1 : Nat) := hY 8 _ _ rfl rfl
        have e9 : vals 9 = .pointer (some ⟨n0, 3, none⟩) := hY 9 _ _ rfl rfl
        have e10 : vals 10 = .string S := hY 10 _ _ rfl rfl
        have e11 : vals 11 = .int .i64 (p : Nat) := hY 11 _ _ rfl rfl
        have e12 : vals 12 = .int .i64 ((p : Int) + 4) := hY 12 _ _ rfl rfl
        have e13 : vals 13 = .int .u32 (x2 : Nat) := hY 13 _ _ rfl rfl
        have e14 : vals 14 = .agg #[.int .u32 (x1 : Nat), .int .u32 (x2 : Nat)] := hY 14 _ _ rfl rfl
        obtain ⟨g15, e15, hG⟩ : FrB x1 x2 (vals 15) ww := hY 15 _ _ rfl rfl
        clear hY
        simp only [putAll, Act.put, List.setIfInBounds_toArray, List.set_cons_zero, List.set_cons_succ, e0, e1, e2, e3, e4, e5, e6, e7, e8, e9, e10, e11, e12, e13, e14, e15]
        clear e0 e1 e2 e3 e4 e5 e6 e7 e8 e9 e10 e11 e12 e13 e14 e15
        have hB3 := hBr.up hC; have hA3 := hAr.up hC; have hO3 := hO.up hC; have g0 := hG.at 0 rfl; have g1 := hG.at 1 rfl; have hz3 := Nat.le_trans hzr hC.size
        go_wp2_with (at_builtin; refine app2 (.tmp 43) (.tmp 54) _ [(x1, x2)] hO3 rfl rfl rfl rfl (cells_new1 g0 g1) (by omega) (by simp) (by omega) ?_; intro v4 w4 hO4 hb4; obtain ⟨A4, c4, rfl, hr4⟩ := hO4.rd; obtain ⟨n4, hn4⟩ : ∃ n4, n4 = (xs ++ [(x1, x2)]).length := ⟨_, rfl⟩; rw [← hn4] at hO4 ⊢; clear hr4 hn4; have hB4 := hB3.below hb4 (by omega); have hA40 := hA3.below hb4 (by omega); have hg40 := Lib.hid (grown_below (grown_trans hgr.out (grown_up (X := b) hC)) hb4 hle0); obtain ⟨m0, m1, m2, m3, m4, m5, m6, q0, q1, q2, q3, q4, q5, q6⟩ := Box.c7 hB4)
        have hB5 := hB4.set 3 (.slice A4 n4 c4)
        have hA5 := hA40.far hne (.slice A4 n4 c4) (o := 3)
        have hO5 := hO4.grownB hlt1 3 (.slice A4 n4 c4)
        have hg5 := Lib.hid (grown_trans hg40.out (grown_set w4 b 3 (.slice A4 n4 c4)))
        have hz5 : n0 + 1 ≤ (w4.setCell ⟨b, 3, none⟩ (.slice A4 n4 c4)).heap.size := by simpa using Nat.le_trans hz3 hb4.size
        generalize (w4.setCell ⟨b, 3, none⟩ (.slice A4 n4 c4)) = w5 at hB5 hA5 hO5 hg5 hz5 ⊢
        go_wp2
        go_roundw
        case rel => exact ⟨j + 1, p + 8, _, by omega, by go_num, by unfold Hid; rw [hp.out]; omega, hB5, by rw [HB.out]; exact hO5, hA5, hg5, hz5⟩
        case measure => simp [RowKit.intOf]; omega
      ·
        intro vals ww hC hY
        have e1 : vals 1 = .pointer (some ⟨b, 0, none⟩) := hY 1 _ _ (by decide) rfl rfl
        have e2 : vals 2 = .pointer (some ⟨b, 0, none⟩) := hY 2 _ _ (by decide) rfl rfl
        have e3 : vals 3 = .pointer (some ⟨b, 3, none⟩) := hY 3 _ _ (by decide) rfl rfl
        have e4 : vals 4 = sl := hY 4 _ _ (by decide) rfl rfl
        have e5 : vals 5 = .pointer (some ⟨n0, 3, none⟩) := hY 5 _ _ (by decide) rfl rfl
        have e6 : vals 6 = .string S := hY 6 _ _ (by decide) rfl rfl
        have e7 : vals 7 = .int .i64 (p : Nat) := hY 7 _ _ (by decide) rfl rfl
        have e8 : vals 8 = .int .u32 (x1 : Nat) := hY 8 _ _ (by decide) rfl rfl
        have e9 : vals 9 = .pointer (some ⟨n0, 3, none⟩) := hY 9 _ _ (by decide) rfl rfl
        have e10 : vals 10 = .string S := hY 10 _ _ (by decide) rfl rfl
        have e11 : vals 11 = .int .i64 (p : Nat) := hY 11 _ _ (by decide) rfl rfl
        have e12 : vals 12 = .int .i64 ((p : Int) + 4) := hY 12 _ _ (by decide) rfl rfl
        have e13 : vals 13 = .int .u32 (x2 : Nat) := hY 13 _ _ (by decide) rfl rfl
        have e14 : vals 14 = .agg #[.int .u32 (x1 : Nat), .int .u32 (x2 : Nat)] := hY 14 _ _ (by decide) rfl rfl
        obtain ⟨g15, e15, hG⟩ : FrB x1 x2 (vals 15) ww := hY 15 _ _ (by decide) rfl rfl
        clear hY
        simp only [putAll, Act.put, List.setIfInBounds_toArray, List.set_cons_zero, List.set_cons_succ, e1, e2, e3, e4, e5, e6, e7, e8, e9, e10, e11, e12, e13, e14, e15]
        clear e1 e2 e3 e4 e5 e6 e7 e8 e9 e10 e11 e12 e13 e14 e15
        have hB3 := hBr.up hC; have hA3 := hAr.up hC; have hO3 := hO.up hC; have g0 := hG.at 0 rfl; have g1 := hG.at 1 rfl; have hz3 := Nat.le_trans hzr hC.size
        go_wp2_with (at_builtin; refine app2 (.tmp 43) (.tmp 54) _ [(x1, x2)] hO3 rfl rfl rfl rfl (cells_new1 g0 g1) (by omega) (by simp) (by omega) ?_; intro v4 w4 hO4 hb4; obtain ⟨A4, c4, rfl, hr4⟩ := hO4.rd; obtain ⟨n4, hn4⟩ : ∃ n4, n4 = (xs ++ [(x1, x2)]).length := ⟨_, rfl⟩; rw [← hn4] at hO4 ⊢; clear hr4 hn4; have hB4 := hB3.below hb4 (by omega); have hA40 := hA3.below hb4 (by omega); have hg40 := Lib.hid (grown_below (grown_trans hgr.out (grown_up (X := b) hC)) hb4 hle0); obtain ⟨m0, m1, m2, m3, m4, m5, m6, q0, q1, q2, q3, q4, q5, q6⟩ := Box.c7 hB4)
        have hB5 := hB4.set 3 (.slice A4 n4 c4)
        have hA5 := hA40.far hne (.slice A4 n4 c4) (o := 3)
        have hO5 := hO4.grownB hlt1 3 (.slice A4 n4 c4)
        have hg5 := Lib.hid (grown_trans hg40.out (grown_set w4 b 3 (.slice A4 n4 c4)))
        have hz5 : n0 + 1 ≤ (w4.setCell ⟨b, 3, none⟩ (.slice A4 n4 c4)).heap.size := by simpa using Nat.le_trans hz3 hb4.size
        generalize (w4.setCell ⟨b, 3, none⟩ (.slice A4 n4 c4)) = w5 at hB5 hA5 hO5 hg5 hz5 ⊢
        go_wp2
        go_roundw
        case rel => exact ⟨j + 1, p + 8, _, by omega, by go_num, by unfold Hid; rw [hp.out]; omega, hB5, by rw [HB.out]; exact hO5, hA5, hg5, hz5⟩
        case measure => simp [RowKit.intOf]; omega
    · obtain rfl : j = q := by omega
      have d0 : ¬ (p : Int) < (S.size : Int) := by rw [HS.out, hp.out]; omega
      obtain ⟨A', c', rfl, hrd⟩ := hO.rd
      have hfar := hO.far
      rw [List.take_of_length_le (by omega)] at hrd hO hBr
      have hnil : bs = [] → A' = none ∧ c' = 0 := fun hb => by rw [hb] at hbl; simp at hbl; omega
      go_wp2
      go_end0
      exact ⟨⟨_, rfl⟩, hgr.out, A', bs.length, c', hBr, rfl, hrd, fun ad h => by have := hfar ad h; omega, hnil⟩
theorem readC (K Z P : Nat) (S : ByteArray) (b : Nat) (o : Opz) (A : Option Addr) (n c : Nat) (w : World) (hO : OB w b o A n c) (hK : K ≤ 255) (hf : (lenOk K Z && nzb K (L S)) = true) (hS : S.size = Z - 2) (h5 : K = 5 → o.bl = []) :
    Calls Try.prog 27 #[PV K Z P S, .pointer (some ⟨b, 0, none⟩)] w (ReadZ b (put o (K, L S)) w) := by
  obtain ⟨m, s, k, bl, t, v, e⟩ := o
  rw [Bool.and_eq_true] at hf
  by_cases k2 : K = 2
  · subst k2
    obtain rfl : Z = 4 := by simpa [lenOk] using hf.1
    exact read2 P S b m s k bl t v e A n c w hO hS
  by_cases k3 : K = 3
  · subst k3
    obtain rfl : Z = 3 := by simpa [lenOk] using hf.1
    exact read3 P S b m s k bl t v e A n c w hO hS
  by_cases k4 : K = 4
  · subst k4
    obtain rfl : Z = 2 := by simpa [lenOk] using hf.1
    exact read4 P S b m s k bl t v e A n c w hO
  by_cases k5 : K = 5
  · subst k5
    have hb := h5 rfl
    dsimp only at hb
    subst hb
    obtain ⟨rfl, rfl⟩ := hO.nil_ rfl
    obtain rfl : n = 0 := by have := hO.len; simpa using this.symm
    have hz := len5 hf.1
    obtain ⟨q, hq⟩ : ∃ q, Z = 8 * q + 2 := ⟨(Z - 2) / 8, by omega⟩
    exact read5 P S b m s k t v e q Z w hO hq (by omega) (by omega) (by omega)
  by_cases k8 : K = 8
  · subst k8
    obtain rfl : Z = 10 := len8 hf.1
    exact read8 P S b m s k bl t v e A n c w hO hS
  exact readx K Z hK k2 k3 k4 k5 k8 P S b m s k bl t v e A n c w hO
end Go.Proofs.Ytdlcglkeinlimaa.op
