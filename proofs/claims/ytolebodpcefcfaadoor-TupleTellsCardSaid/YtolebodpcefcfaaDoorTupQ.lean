/- Package tuple: texts, bytes and order are the document's. Condition: the library's variables lie as laid, the arguments fit their kinds. -/
import Derived.Test.YtolebodpcefcfaaDoorTupP
namespace Go.Proofs.YtolebodpcefcfaaDoor.tu
open Go.RowKit Go.Shelf Go.Proofs.YtolebodpcefcfaaDoor.tm
set_option linter.unusedVariables false

theorem parseX (s : ByteArray) (x1 x2 x3 : Nat) (hx : (x1, x2, x3) = pa (L s)) (W : World) (hs : s.size ≤ 1024) (E : Env W) : Calls Tryd.prog 6 #[.string s] W fun e w' => e = .returned (.tuple #[.agg #[.int .u32 (x1 : Nat), .int .u16 (x2 : Nat)], .int .i64 (x3 : Nat)]) ∧ Up W w' :=
  (parseC s W hs E).mono fun e w' ⟨h1, h2⟩ => ⟨by rw [h1, ← hx], h2⟩
theorem refParseX (s : ByteArray) (x1 x2 x3 : Nat) (hx : (x1, x2, x3) = pa (L s)) (W : World) (hs : s.size ≤ 1024) : Calls Tryd.prog 7 #[.string s] W fun e w' => e = .returned (.tuple #[.agg #[.int .u32 (x1 : Nat), .int .u16 (x2 : Nat)], .int .i64 (x3 : Nat)]) ∧ Up W w' :=
  (refParse s W hs).mono fun e w' ⟨h1, h2⟩ => ⟨by rw [h1, ← hx], h2⟩
theorem readX (s : ByteArray) (x1 x2 x3 : Nat) (hx : (x1, x2, x3) = rd (L s)) (W : World) (hs : s.size ≤ 1024) : Calls Tryd.prog 8 #[.string s] W fun e w' => e = .returned (.tuple #[.agg #[.int .u32 (x1 : Nat), .int .u16 (x2 : Nat)], .int .i64 (x3 : Nat)]) ∧ Up W w' :=
  (readC s W (by omega)).mono fun e w' ⟨h1, h2⟩ => ⟨by rw [h1, ← hx], h2⟩
theorem refReadX (s : ByteArray) (x1 x2 x3 : Nat) (hx : (x1, x2, x3) = rd (L s)) (W : World) (hs : s.size ≤ 1024) : Calls Tryd.prog 9 #[.string s] W fun e w' => e = .returned (.tuple #[.agg #[.int .u32 (x1 : Nat), .int .u16 (x2 : Nat)], .int .i64 (x3 : Nat)]) ∧ Up W w' :=
  (refRead s W (by omega)).mono fun e w' ⟨h1, h2⟩ => ⟨by rw [h1, ← hx], h2⟩

set_option maxHeartbeats 8000000 in
set_option maxRecDepth 100000 in
theorem lawTells (a b c d a' b' c' d' : Nat) (s t : ByteArray) (w : World) (ha : a ≤ 4294967295) (hb : b ≤ 65535) (hc : c ≤ 4294967295) (hd : d ≤ 65535) (ha' : a' ≤ 4294967295) (hb' : b' ≤ 65535) (hc' : c' ≤ 4294967295) (hd' : d' ≤ 65535) (hs9 : s.size ≤ 9223372036854775807) (ht9 : t.size ≤ 9223372036854775807) (E : Env w) :
    Calls Tryd.prog 3 #[Pair a b c d, Pair a' b' c' d', .string s, .string t] w fun e w' => e = .returned (.bool true) ∧ Up w w' := by
  obtain ⟨⟨x1, x2, x3⟩, hx⟩ : ∃ x, x = pa (L s) := ⟨_, rfl⟩
  obtain ⟨⟨y1, y2, y3⟩, hy⟩ : ∃ y, y = rd (L t) := ⟨_, rfl⟩
  have HX := Lib.hid hx; have HY := Lib.hid hy; clear hx hy
  go_enter Tryd.func3, Tryd.ntmps3
  go_upto_region 1 with fail
  have X1 := (Box2.new w a b c d).alloc (.cells #[.int .u32 (a' : Int), .int .u16 (b' : Int), .int .u32 (c' : Int), .int .u16 (d' : Int)] 27)
  have X2 := Box2.new (w.alloc (.cells #[.int .u32 (a : Int), .int .u16 (b : Int), .int .u32 (c : Int), .int .u16 (d : Int)] 27)) a' b' c' d'
  have U0 : Up w ((w.alloc (.cells #[.int .u32 (a : Int), .int .u16 (b : Int), .int .u32 (c : Int), .int .u16 (d : Int)] 27)).alloc (.cells #[.int .u32 (a' : Int), .int .u16 (b' : Int), .int .u32 (c' : Int), .int .u16 (d' : Int)] 27)) := up_al _ (up_al _ (Below.refl _ _))
  rw [show (w.alloc (.cells #[.int .u32 (a : Int), .int .u16 (b : Int), .int .u32 (c : Int), .int .u16 (d : Int)] 27)).heap.size = w.heap.size + 1 by simp] at X2
  generalize ((w.alloc (.cells #[.int .u32 (a : Int), .int .u16 (b : Int), .int .u32 (c : Int), .int .u16 (d : Int)] 27)).alloc (.cells #[.int .u32 (a' : Int), .int .u16 (b' : Int), .int .u32 (c' : Int), .int .u16 (d' : Int)] 27)) = w0 at X1 X2 U0 ⊢
  generalize w.heap.size + 1 = n2 at X2 ⊢
  generalize w.heap.size = n1 at X1 ⊢
  have E0 := E.up U0
  by_cases h1 : 1024 < s.size
  · have h1I : (1024 : Int) < (s.size : Int) := by omega
    go_wp2_with (go_at_call 5; refine (aliveC w0 E0).mono ?_; rintro e v1 ⟨rfl, hv1⟩)
    go_ret
    exact ⟨rfl, U0.on hv1⟩
  · have hs : s.size ≤ 1024 := by omega
    have h1I : ¬ (1024 : Int) < (s.size : Int) := by omega
    by_cases h2 : 1024 < t.size
    · have h2I : (1024 : Int) < (t.size : Int) := by omega
      go_wp2_with (go_at_call 5; refine (aliveC w0 E0).mono ?_; rintro e v1 ⟨rfl, hv1⟩)
      go_ret
      exact ⟨rfl, U0.on hv1⟩
    · have ht : t.size ≤ 1024 := by omega
      have h2I : ¬ (1024 : Int) < (t.size : Int) := by omega
      go_upto_region 4 with (go_at_call 6; refine (parseX s x1 x2 x3 HX.out w0 hs E0).mono ?_; rintro e v1 ⟨rfl, hv1⟩)
      clear h1I h2I
      have U1 : Up w (v1.alloc (.cells #[.int .u32 (x1 : Int), .int .u16 (x2 : Int)] 25)) := up_al _ (U0.on hv1)
      have Xa1 := (X1.up hv1).alloc (.cells #[.int .u32 (x1 : Int), .int .u16 (x2 : Int)] 25)
      have Xb1 := (X2.up hv1).alloc (.cells #[.int .u32 (x1 : Int), .int .u16 (x2 : Int)] 25)
      have B1 := Box.new v1 x1 x2
      generalize (v1.alloc (.cells #[.int .u32 (x1 : Int), .int .u16 (x2 : Int)] 25)) = w1 at U1 Xa1 Xb1 B1 ⊢
      generalize v1.heap.size = n3 at B1 ⊢
      go_upto_region 5 with (go_at_call 7; refine (refParseX s x1 x2 x3 HX.out w1 hs).mono ?_; rintro e v2 ⟨rfl, hv2⟩)
      have U2 : Up w (v2.alloc (.cells #[.int .u32 (x1 : Int), .int .u16 (x2 : Int)] 25)) := up_al _ (U1.on hv2)
      have Xa2 := (Xa1.up hv2).alloc (.cells #[.int .u32 (x1 : Int), .int .u16 (x2 : Int)] 25)
      have Xb2 := (Xb1.up hv2).alloc (.cells #[.int .u32 (x1 : Int), .int .u16 (x2 : Int)] 25)
      have B2 := (B1.up hv2).alloc (.cells #[.int .u32 (x1 : Int), .int .u16 (x2 : Int)] 25)
      have C2 := Box.new v2 x1 x2
      generalize (v2.alloc (.cells #[.int .u32 (x1 : Int), .int .u16 (x2 : Int)] 25)) = w2 at U2 Xa2 Xb2 B2 C2 ⊢
      generalize v2.heap.size = n4 at C2 ⊢
      go_upto_region 6 with (go_at_call 8; refine (readX t y1 y2 y3 HY.out w2 ht).mono ?_; rintro e v3 ⟨rfl, hv3⟩)
      have U3 : Up w (v3.alloc (.cells #[.int .u32 (y1 : Int), .int .u16 (y2 : Int)] 25)) := up_al _ (U2.on hv3)
      have Xa3 := (Xa2.up hv3).alloc (.cells #[.int .u32 (y1 : Int), .int .u16 (y2 : Int)] 25)
      have Xb3 := (Xb2.up hv3).alloc (.cells #[.int .u32 (y1 : Int), .int .u16 (y2 : Int)] 25)
      have B3 := (B2.up hv3).alloc (.cells #[.int .u32 (y1 : Int), .int .u16 (y2 : Int)] 25)
      have C3 := (C2.up hv3).alloc (.cells #[.int .u32 (y1 : Int), .int .u16 (y2 : Int)] 25)
      have D3 := Box.new v3 y1 y2
      generalize (v3.alloc (.cells #[.int .u32 (y1 : Int), .int .u16 (y2 : Int)] 25)) = w3 at U3 Xa3 Xb3 B3 C3 D3 ⊢
      generalize v3.heap.size = n5 at D3 ⊢
      go_upto_region 7 with (go_at_call 9; refine (refReadX t y1 y2 y3 HY.out w3 ht).mono ?_; rintro e v4 ⟨rfl, hv4⟩)
      have U4 : Up w (v4.alloc (.cells #[.int .u32 (y1 : Int), .int .u16 (y2 : Int)] 25)) := up_al _ (U3.on hv4)
      have Xa4 := (Xa3.up hv4).alloc (.cells #[.int .u32 (y1 : Int), .int .u16 (y2 : Int)] 25)
      have Xb4 := (Xb3.up hv4).alloc (.cells #[.int .u32 (y1 : Int), .int .u16 (y2 : Int)] 25)
      have B4 := (B3.up hv4).alloc (.cells #[.int .u32 (y1 : Int), .int .u16 (y2 : Int)] 25)
      have C4 := (C3.up hv4).alloc (.cells #[.int .u32 (y1 : Int), .int .u16 (y2 : Int)] 25)
      have D4 := (D3.up hv4).alloc (.cells #[.int .u32 (y1 : Int), .int .u16 (y2 : Int)] 25)
      have F4 := Box.new v4 y1 y2
      generalize (v4.alloc (.cells #[.int .u32 (y1 : Int), .int .u16 (y2 : Int)] 25)) = w4 at U4 Xa4 Xb4 B4 C4 D4 F4 ⊢
      generalize v4.heap.size = n6 at F4 ⊢
      clear U0 U1 U2 U3 X1 X2 Xa1 Xa2 Xa3 Xb1 Xb2 Xb3 B1 B2 B3 C2 C3 D3 hv1 hv2 hv3 hv4 E0 h1 h2 hs9 ht9
      have E4 := E.up U4
      clear E
      obtain ⟨k0, k1, k2, k3, kz⟩ := Xa4
      obtain ⟨l0, l1, l2, l3, lz⟩ := Xb4
      obtain ⟨m0, m1, -, -, mz⟩ := B4
      obtain ⟨o0, o1, -, -, oz⟩ := C4
      obtain ⟨p0, p1, -, -, pz⟩ := D4
      obtain ⟨q0, q1, -, -, qz⟩ := F4
      have V4 : Up w4 w4 := Below.refl _ _
      go_region_held3 (fun w' => w'.cell? ⟨n1, 0, none⟩ = some (.int .u32 (a : Int)) ∧ w'.cell? ⟨n1, 1, none⟩ = some (.int .u16 (b : Int)) ∧ w'.cell? ⟨n1, 2, none⟩ = some (.int .u32 (c : Int)) ∧ w'.cell? ⟨n1, 3, none⟩ = some (.int .u16 (d : Int)) ∧ w'.cell? ⟨n2, 0, none⟩ = some (.int .u32 (a' : Int)) ∧ w'.cell? ⟨n2, 1, none⟩ = some (.int .u16 (b' : Int)) ∧ w'.cell? ⟨n2, 2, none⟩ = some (.int .u32 (c' : Int)) ∧ w'.cell? ⟨n2, 3, none⟩ = some (.int .u16 (d' : Int)) ∧ w'.cell? ⟨n3, 0, none⟩ = some (.int .u32 (x1 : Int)) ∧ w'.cell? ⟨n3, 1, none⟩ = some (.int .u16 (x2 : Int)) ∧ w'.cell? ⟨n4, 0, none⟩ = some (.int .u32 (x1 : Int)) ∧ w'.cell? ⟨n4, 1, none⟩ = some (.int .u16 (x2 : Int)) ∧ w'.cell? ⟨n5, 0, none⟩ = some (.int .u32 (y1 : Int)) ∧ w'.cell? ⟨n5, 1, none⟩ = some (.int .u16 (y2 : Int)) ∧ w'.cell? ⟨n6, 0, none⟩ = some (.int .u32 (y1 : Int)) ∧ w'.cell? ⟨n6, 1, none⟩ = some (.int .u16 (y2 : Int))) (first | exact ⟨k0, k1, k2, k3, l0, l1, l2, l3, m0, m1, o0, o1, p0, p1, q0, q1⟩ | exact ⟨(Below.cell (B := w4.heap.size) (w := w4) (p := ⟨n1, 0, none⟩) (by repeat (first | assumption | apply up_al | apply up_dr | apply up_drN)) kz).trans k0, (Below.cell (B := w4.heap.size) (w := w4) (p := ⟨n1, 1, none⟩) (by repeat (first | assumption | apply up_al | apply up_dr | apply up_drN)) kz).trans k1, (Below.cell (B := w4.heap.size) (w := w4) (p := ⟨n1, 2, none⟩) (by repeat (first | assumption | apply up_al | apply up_dr | apply up_drN)) kz).trans k2, (Below.cell (B := w4.heap.size) (w := w4) (p := ⟨n1, 3, none⟩) (by repeat (first | assumption | apply up_al | apply up_dr | apply up_drN)) kz).trans k3, (Below.cell (B := w4.heap.size) (w := w4) (p := ⟨n2, 0, none⟩) (by repeat (first | assumption | apply up_al | apply up_dr | apply up_drN)) lz).trans l0, (Below.cell (B := w4.heap.size) (w := w4) (p := ⟨n2, 1, none⟩) (by repeat (first | assumption | apply up_al | apply up_dr | apply up_drN)) lz).trans l1, (Below.cell (B := w4.heap.size) (w := w4) (p := ⟨n2, 2, none⟩) (by repeat (first | assumption | apply up_al | apply up_dr | apply up_drN)) lz).trans l2, (Below.cell (B := w4.heap.size) (w := w4) (p := ⟨n2, 3, none⟩) (by repeat (first | assumption | apply up_al | apply up_dr | apply up_drN)) lz).trans l3, (Below.cell (B := w4.heap.size) (w := w4) (p := ⟨n3, 0, none⟩) (by repeat (first | assumption | apply up_al | apply up_dr | apply up_drN)) mz).trans m0, (Below.cell (B := w4.heap.size) (w := w4) (p := ⟨n3, 1, none⟩) (by repeat (first | assumption | apply up_al | apply up_dr | apply up_drN)) mz).trans m1, (Below.cell (B := w4.heap.size) (w := w4) (p := ⟨n4, 0, none⟩) (by repeat (first | assumption | apply up_al | apply up_dr | apply up_drN)) oz).trans o0, (Below.cell (B := w4.heap.size) (w := w4) (p := ⟨n4, 1, none⟩) (by repeat (first | assumption | apply up_al | apply up_dr | apply up_drN)) oz).trans o1, (Below.cell (B := w4.heap.size) (w := w4) (p := ⟨n5, 0, none⟩) (by repeat (first | assumption | apply up_al | apply up_dr | apply up_drN)) pz).trans p0, (Below.cell (B := w4.heap.size) (w := w4) (p := ⟨n5, 1, none⟩) (by repeat (first | assumption | apply up_al | apply up_dr | apply up_drN)) pz).trans p1, (Below.cell (B := w4.heap.size) (w := w4) (p := ⟨n6, 0, none⟩) (by repeat (first | assumption | apply up_al | apply up_dr | apply up_drN)) qz).trans q0, (Below.cell (B := w4.heap.size) (w := w4) (p := ⟨n6, 1, none⟩) (by repeat (first | assumption | apply up_al | apply up_dr | apply up_drN)) qz).trans q1⟩) (first
        | (go_at_call 10; refine (textC a b _ ha hb (E4.up (by repeat (first | assumption | apply up_al | apply up_dr | apply up_drN)))).mono ?_; rintro e w5 ⟨rfl, h5⟩; have g5 : Up w4 w5 := Up.on (by repeat (first | assumption | apply up_al | apply up_dr | apply up_drN)) h5)
        | (go_at_call 11; refine (refText a b _ ha hb).mono ?_; rintro e w5 ⟨rfl, h5⟩; have g5 : Up w4 w5 := Up.on (by repeat (first | assumption | apply up_al | apply up_dr | apply up_drN)) h5)
        | (go_at_call 12; refine (bytesC a b _ ha hb).mono ?_; rintro e w5 ⟨rfl, h5⟩; have g5 : Up w4 w5 := Up.on (by repeat (first | assumption | apply up_al | apply up_dr | apply up_drN)) h5)
        | (go_at_call 13; refine (refBytes a b _ ha hb).mono ?_; rintro e w5 ⟨rfl, h5⟩; have g5 : Up w4 w5 := Up.on (by repeat (first | assumption | apply up_al | apply up_dr | apply up_drN)) h5)
        | (go_at_call 14; refine (compareC a b c d a' b' c' d' _).mono ?_; rintro e w5 ⟨rfl, h5⟩; have g5 : Up w4 w5 := Up.on (by repeat (first | assumption | apply up_al | apply up_dr | apply up_drN)) h5)
        | (go_at_call 15; refine (refCompare a b c d a' b' c' d' _ (by omega) (by omega) (by omega) (by omega) (by omega) (by omega) (by omega) (by omega)).mono ?_; rintro e w5 ⟨rfl, h5⟩; have g5 : Up w4 w5 := Up.on (by repeat (first | assumption | apply up_al | apply up_dr | apply up_drN)) h5)
        | (go_at_call 16; refine (turnedC a b c d _).mono ?_; rintro e w5 ⟨rfl, h5⟩; have g5 : Up w4 w5 := Up.on (by repeat (first | assumption | apply up_al | apply up_dr | apply up_drN)) h5)
        | (go_at_call 5; refine (aliveC _ (E4.up (by repeat (first | assumption | apply up_al | apply up_dr | apply up_drN)))).mono ?_; rintro e w5 ⟨rfl, h5⟩; have g5 : Up w4 w5 := Up.on (by repeat (first | assumption | apply up_al | apply up_dr | apply up_drN)) h5))
      all_goals go_wp2
      all_goals go_ret
      all_goals exact ⟨rfl, U4.on (by repeat (first | assumption | apply up_al | apply up_dr | apply up_drN))⟩
end Go.Proofs.YtolebodpcefcfaaDoor.tu
