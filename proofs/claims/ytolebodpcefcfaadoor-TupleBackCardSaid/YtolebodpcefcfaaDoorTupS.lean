/- Package tuple: what was written is read; what is not the same has texts, bytes that are not; pairs stand in the order of their bytes. Condition: the library's variables lie as laid, the arguments fit their kinds. -/
import Derived.Test.YtolebodpcefcfaaDoorTupR
namespace Go.Proofs.YtolebodpcefcfaaDoor.tu
open Go.RowKit Go.Shelf Go.Proofs.YtolebodpcefcfaaDoor.tm
set_option linter.unusedVariables false

theorem parseT (a b : Nat) (W : World) (ha : a ≤ 4294967295) (hb : b ≤ 65535) (E : Env W) : Calls Tryd.prog 6 #[.string (tS a b)] W fun e w' => e = .returned (.tuple #[.agg #[.int .u32 (a : Nat), .int .u16 (b : Nat)], .int .i64 0]) ∧ Up W w' :=
  (parseC (tS a b) W (by have := tS_size a hb; omega) E).mono fun e w' ⟨h1, h2⟩ => ⟨by rw [h1, L_tS, pa_T (by omega) (by omega)]; rfl, h2⟩
theorem rd_bs {a b : Nat} (ha : a ≤ 4294967295) (hb : b ≤ 65535) : rd (L (bs a b)) = (a, b, 0) := by
  have k := q_le a
  rw [L_bs]
  show (ip4 (oct (q3 a)).toNat (oct (q2 a)).toNat (oct (q1 a)).toNat (oct (q0 a)).toNat, (oct (b / 256)).toNat * 256 + (oct (b % 256)).toNat, 0) = _
  rw [oct_nat k.1, oct_nat k.2.1, oct_nat k.2.2.1, oct_nat k.2.2.2, oct_nat (n := b / 256) (by omega), oct_nat (n := b % 256) (by omega), ip4_q (by omega), show b / 256 * 256 + b % 256 = b by omega]
theorem readB (a b : Nat) (W : World) (ha : a ≤ 4294967295) (hb : b ≤ 65535) : Calls Tryd.prog 8 #[.string (bs a b)] W fun e w' => e = .returned (.tuple #[.agg #[.int .u32 (a : Nat), .int .u16 (b : Nat)], .int .i64 0]) ∧ Up W w' :=
  (readC (bs a b) W (by rw [bs_size]; omega)).mono fun e w' ⟨h1, h2⟩ => ⟨by rw [h1, rd_bs ha hb]; rfl, h2⟩

theorem gtr_of {X Y : ByteArray} {p q : Bool} (h : Op.bytesLess X.toList Y.toList = p) (h' : (X.toList == Y.toList) = q) : binOp .gtr 9 (.string X) (.string Y) = pure (.bool !(p || q)) := by
  rw [← h, ← h']
  simp [binOp, Op.stringOp]
set_option maxHeartbeats 8000000 in
set_option maxRecDepth 100000 in
theorem lawBack (a b c d a' b' c' d' : Nat) (w : World) (ha : a ≤ 4294967295) (hb : b ≤ 65535) (hc : c ≤ 4294967295) (hd : d ≤ 65535) (ha' : a' ≤ 4294967295) (hb' : b' ≤ 65535) (hc' : c' ≤ 4294967295) (hd' : d' ≤ 65535) (E : Env w) :
    Calls Tryd.prog 4 #[Pair a b c d, Pair a' b' c' d'] w fun e w' => e = .returned (.bool true) ∧ Up w w' := by
  go_enter Tryd.func4, Tryd.ntmps4
  go_upto_region 1 with fail
  have X1 := (Box2.new w a b c d).alloc (.cells #[.int .u32 (a' : Int), .int .u16 (b' : Int), .int .u32 (c' : Int), .int .u16 (d' : Int)] 27)
  have X2 := Box2.new (w.alloc (.cells #[.int .u32 (a : Int), .int .u16 (b : Int), .int .u32 (c : Int), .int .u16 (d : Int)] 27)) a' b' c' d'
  have U0 : Up w ((w.alloc (.cells #[.int .u32 (a : Int), .int .u16 (b : Int), .int .u32 (c : Int), .int .u16 (d : Int)] 27)).alloc (.cells #[.int .u32 (a' : Int), .int .u16 (b' : Int), .int .u32 (c' : Int), .int .u16 (d' : Int)] 27)) := up_al _ (up_al _ (Below.refl _ _))
  rw [show (w.alloc (.cells #[.int .u32 (a : Int), .int .u16 (b : Int), .int .u32 (c : Int), .int .u16 (d : Int)] 27)).heap.size = w.heap.size + 1 by simp] at X2
  generalize ((w.alloc (.cells #[.int .u32 (a : Int), .int .u16 (b : Int), .int .u32 (c : Int), .int .u16 (d : Int)] 27)).alloc (.cells #[.int .u32 (a' : Int), .int .u16 (b' : Int), .int .u32 (c' : Int), .int .u16 (d' : Int)] 27)) = w0 at X1 X2 U0 ⊢
  generalize w.heap.size + 1 = n2 at X2 ⊢
  generalize w.heap.size = n1 at X1 ⊢
  have E0 := E.up U0
  have X1' := Lib.hid X1
  obtain ⟨a0, a1, -, -, -⟩ := X1
  go_upto_region 2 with (first
    | (go_at_call 10; refine (textC a b w0 ha hb E0).mono ?_; rintro e v0 ⟨rfl, hv0⟩; have E0' := E0.up hv0)
    | (go_at_call 6; refine (parseT a b v0 ha hb E0').mono ?_; rintro e v1 ⟨rfl, hv1⟩))
  have U1 : Up w (v1.alloc (.cells #[.int .u32 (a : Int), .int .u16 (b : Int)] 25)) := up_al _ ((U0.on hv0).on hv1)
  have Xa1 := ((X1'.out.up hv0).up hv1).alloc (.cells #[.int .u32 (a : Int), .int .u16 (b : Int)] 25)
  have Xb1 := ((X2.up hv0).up hv1).alloc (.cells #[.int .u32 (a : Int), .int .u16 (b : Int)] 25)
  have B1 := Box.new v1 a b
  generalize (v1.alloc (.cells #[.int .u32 (a : Int), .int .u16 (b : Int)] 25)) = w1 at U1 Xa1 Xb1 B1 ⊢
  generalize v1.heap.size = n3 at B1 ⊢
  clear a0 a1
  have Xa1' := Lib.hid Xa1
  obtain ⟨a0, a1, -, -, -⟩ := Xa1
  go_upto_region 3 with (first
    | (go_at_call 12; refine (bytesC a b w1 ha hb).mono ?_; rintro e v2 ⟨rfl, hv2⟩)
    | (go_at_call 8; refine (readB a b v2 ha hb).mono ?_; rintro e v3 ⟨rfl, hv3⟩))
  have U2 : Up w (v3.alloc (.cells #[.int .u32 (a : Int), .int .u16 (b : Int)] 25)) := up_al _ ((U1.on hv2).on hv3)
  have Xa2 := ((Xa1'.out.up hv2).up hv3).alloc (.cells #[.int .u32 (a : Int), .int .u16 (b : Int)] 25)
  have Xb2 := ((Xb1.up hv2).up hv3).alloc (.cells #[.int .u32 (a : Int), .int .u16 (b : Int)] 25)
  have B2 := ((B1.up hv2).up hv3).alloc (.cells #[.int .u32 (a : Int), .int .u16 (b : Int)] 25)
  have C2 := Box.new v3 a b
  generalize (v3.alloc (.cells #[.int .u32 (a : Int), .int .u16 (b : Int)] 25)) = w2 at U2 Xa2 Xb2 B2 C2 ⊢
  generalize v3.heap.size = n4 at C2 ⊢
  clear a0 a1
  have E2 := E.up U2
  have Xa2' := Lib.hid Xa2; have Xb2' := Lib.hid Xb2
  obtain ⟨k0, k1, k2, k3, kz⟩ := Xa2
  obtain ⟨l0, l1, l2, l3, lz⟩ := Xb2
  obtain ⟨m0, m1, -, -, -⟩ := B2
  obtain ⟨o0, o1, -, -, -⟩ := C2
  go_upto_region 5 with fail
  clear m0 m1 o0 o1
  have V2 : Up w2 w2 := Below.refl _ _
  go_cut [71] (fun v wc => v = .bool false ∧ Hid (Up w2 wc))
  case first =>
    by_cases hAB : a = a' ∧ b = b'
    · obtain ⟨rfl, rfl⟩ := hAB
      go_region_held3 (fun w' => w'.cell? ⟨n1, 0, none⟩ = some (.int .u32 (a : Int)) ∧ w'.cell? ⟨n1, 1, none⟩ = some (.int .u16 (b : Int)) ∧ w'.cell? ⟨n1, 2, none⟩ = some (.int .u32 (c : Int)) ∧ w'.cell? ⟨n1, 3, none⟩ = some (.int .u16 (d : Int)) ∧ w'.cell? ⟨n2, 0, none⟩ = some (.int .u32 (a : Int)) ∧ w'.cell? ⟨n2, 1, none⟩ = some (.int .u16 (b : Int)) ∧ w'.cell? ⟨n2, 2, none⟩ = some (.int .u32 (c' : Int)) ∧ w'.cell? ⟨n2, 3, none⟩ = some (.int .u16 (d' : Int))) (first | exact ⟨k0, k1, k2, k3, l0, l1, l2, l3⟩ | exact ⟨(Below.cell (B := w2.heap.size) (w := w2) (p := ⟨n1, 0, none⟩) (by repeat (first | assumption | apply up_al | apply up_dr | apply up_drN)) kz).trans k0, (Below.cell (B := w2.heap.size) (w := w2) (p := ⟨n1, 1, none⟩) (by repeat (first | assumption | apply up_al | apply up_dr | apply up_drN)) kz).trans k1, (Below.cell (B := w2.heap.size) (w := w2) (p := ⟨n1, 2, none⟩) (by repeat (first | assumption | apply up_al | apply up_dr | apply up_drN)) kz).trans k2, (Below.cell (B := w2.heap.size) (w := w2) (p := ⟨n1, 3, none⟩) (by repeat (first | assumption | apply up_al | apply up_dr | apply up_drN)) kz).trans k3, (Below.cell (B := w2.heap.size) (w := w2) (p := ⟨n2, 0, none⟩) (by repeat (first | assumption | apply up_al | apply up_dr | apply up_drN)) lz).trans l0, (Below.cell (B := w2.heap.size) (w := w2) (p := ⟨n2, 1, none⟩) (by repeat (first | assumption | apply up_al | apply up_dr | apply up_drN)) lz).trans l1, (Below.cell (B := w2.heap.size) (w := w2) (p := ⟨n2, 2, none⟩) (by repeat (first | assumption | apply up_al | apply up_dr | apply up_drN)) lz).trans l2, (Below.cell (B := w2.heap.size) (w := w2) (p := ⟨n2, 3, none⟩) (by repeat (first | assumption | apply up_al | apply up_dr | apply up_drN)) lz).trans l3⟩) (first
        | (go_at_call 10; refine (textC _ _ _ ha hb (E2.up (by repeat (first | assumption | apply up_al | apply up_dr | apply up_drN)))).mono ?_; rintro e w5 ⟨rfl, h5⟩; have g5 : Up w2 w5 := Up.on (by repeat (first | assumption | apply up_al | apply up_dr | apply up_drN)) h5)
        | (go_at_call 12; refine (bytesC _ _ _ ha hb).mono ?_; rintro e w5 ⟨rfl, h5⟩; have g5 : Up w2 w5 := Up.on (by repeat (first | assumption | apply up_al | apply up_dr | apply up_drN)) h5))
      all_goals go_wp2_with fail
      all_goals go_meet
      all_goals exact ⟨rfl, (by repeat (first | assumption | apply up_al | apply up_dr | apply up_drN))⟩
    · have d1 : ((tS a b).toList == (tS a' b').toList) = false := str_false fun e => hAB (tS_inj ha hb ha' hb' e)
      have d2 : ((bs a b).toList == (bs a' b').toList) = false := str_false fun e => hAB (bs_inj ha hb ha' hb' e)
      have HAB := Lib.hid hAB
      by_cases hA : a = a'
      · have hB : ¬ b = b' := fun e => hAB ⟨hA, e⟩
        have hBI : ¬ (b : Int) = (b' : Int) := by omega
        have d4 : ((b : Int) == (b' : Int)) = false := by rw [beq_eq_false_iff_ne]; exact hBI
        have d5 : (b == b') = false := by rw [beq_eq_false_iff_ne]; exact hB
        clear hAB
        subst hA
        go_region_held3 (fun w' => w'.cell? ⟨n1, 0, none⟩ = some (.int .u32 (a : Int)) ∧ w'.cell? ⟨n1, 1, none⟩ = some (.int .u16 (b : Int)) ∧ w'.cell? ⟨n1, 2, none⟩ = some (.int .u32 (c : Int)) ∧ w'.cell? ⟨n1, 3, none⟩ = some (.int .u16 (d : Int)) ∧ w'.cell? ⟨n2, 0, none⟩ = some (.int .u32 (a : Int)) ∧ w'.cell? ⟨n2, 1, none⟩ = some (.int .u16 (b' : Int)) ∧ w'.cell? ⟨n2, 2, none⟩ = some (.int .u32 (c' : Int)) ∧ w'.cell? ⟨n2, 3, none⟩ = some (.int .u16 (d' : Int))) (first | exact ⟨k0, k1, k2, k3, l0, l1, l2, l3⟩ | exact ⟨(Below.cell (B := w2.heap.size) (w := w2) (p := ⟨n1, 0, none⟩) (by repeat (first | assumption | apply up_al | apply up_dr | apply up_drN)) kz).trans k0, (Below.cell (B := w2.heap.size) (w := w2) (p := ⟨n1, 1, none⟩) (by repeat (first | assumption | apply up_al | apply up_dr | apply up_drN)) kz).trans k1, (Below.cell (B := w2.heap.size) (w := w2) (p := ⟨n1, 2, none⟩) (by repeat (first | assumption | apply up_al | apply up_dr | apply up_drN)) kz).trans k2, (Below.cell (B := w2.heap.size) (w := w2) (p := ⟨n1, 3, none⟩) (by repeat (first | assumption | apply up_al | apply up_dr | apply up_drN)) kz).trans k3, (Below.cell (B := w2.heap.size) (w := w2) (p := ⟨n2, 0, none⟩) (by repeat (first | assumption | apply up_al | apply up_dr | apply up_drN)) lz).trans l0, (Below.cell (B := w2.heap.size) (w := w2) (p := ⟨n2, 1, none⟩) (by repeat (first | assumption | apply up_al | apply up_dr | apply up_drN)) lz).trans l1, (Below.cell (B := w2.heap.size) (w := w2) (p := ⟨n2, 2, none⟩) (by repeat (first | assumption | apply up_al | apply up_dr | apply up_drN)) lz).trans l2, (Below.cell (B := w2.heap.size) (w := w2) (p := ⟨n2, 3, none⟩) (by repeat (first | assumption | apply up_al | apply up_dr | apply up_drN)) lz).trans l3⟩) (first
          | (go_at_call 10; (with_reducible refine (textC a b _ ha hb (E2.up ?_)).mono ?_); (· repeat (first | assumption | apply up_al | apply up_dr | apply up_drN)); rintro e w5 ⟨rfl, h5⟩; have g5 : Up w2 w5 := Up.on (by repeat (first | assumption | apply up_al | apply up_dr | apply up_drN)) h5)
          | (go_at_call 10; (with_reducible refine (textC a b' _ ha hb' (E2.up ?_)).mono ?_); (· repeat (first | assumption | apply up_al | apply up_dr | apply up_drN)); rintro e w5 ⟨rfl, h5⟩; have g5 : Up w2 w5 := Up.on (by repeat (first | assumption | apply up_al | apply up_dr | apply up_drN)) h5)
          | (go_at_call 12; (with_reducible refine (bytesC a b _ ha hb).mono ?_); rintro e w5 ⟨rfl, h5⟩; have g5 : Up w2 w5 := Up.on (by repeat (first | assumption | apply up_al | apply up_dr | apply up_drN)) h5)
          | (go_at_call 12; (with_reducible refine (bytesC a b' _ ha hb').mono ?_); rintro e w5 ⟨rfl, h5⟩; have g5 : Up w2 w5 := Up.on (by repeat (first | assumption | apply up_al | apply up_dr | apply up_drN)) h5))
        all_goals go_wp2_with fail
        all_goals go_meet
        all_goals exact ⟨rfl, (by repeat (first | assumption | apply up_al | apply up_dr | apply up_drN))⟩
      · have hAI : ¬ (a : Int) = (a' : Int) := by omega
        have d4 : ((a : Int) == (a' : Int)) = false := by rw [beq_eq_false_iff_ne]; exact hAI
        have d5 : (a == a') = false := by rw [beq_eq_false_iff_ne]; exact hA
        clear hAB
        go_region_held3 (fun w' => w'.cell? ⟨n1, 0, none⟩ = some (.int .u32 (a : Int)) ∧ w'.cell? ⟨n1, 1, none⟩ = some (.int .u16 (b : Int)) ∧ w'.cell? ⟨n1, 2, none⟩ = some (.int .u32 (c : Int)) ∧ w'.cell? ⟨n1, 3, none⟩ = some (.int .u16 (d : Int)) ∧ w'.cell? ⟨n2, 0, none⟩ = some (.int .u32 (a' : Int)) ∧ w'.cell? ⟨n2, 1, none⟩ = some (.int .u16 (b' : Int)) ∧ w'.cell? ⟨n2, 2, none⟩ = some (.int .u32 (c' : Int)) ∧ w'.cell? ⟨n2, 3, none⟩ = some (.int .u16 (d' : Int))) (first | exact ⟨k0, k1, k2, k3, l0, l1, l2, l3⟩ | exact ⟨(Below.cell (B := w2.heap.size) (w := w2) (p := ⟨n1, 0, none⟩) (by repeat (first | assumption | apply up_al | apply up_dr | apply up_drN)) kz).trans k0, (Below.cell (B := w2.heap.size) (w := w2) (p := ⟨n1, 1, none⟩) (by repeat (first | assumption | apply up_al | apply up_dr | apply up_drN)) kz).trans k1, (Below.cell (B := w2.heap.size) (w := w2) (p := ⟨n1, 2, none⟩) (by repeat (first | assumption | apply up_al | apply up_dr | apply up_drN)) kz).trans k2, (Below.cell (B := w2.heap.size) (w := w2) (p := ⟨n1, 3, none⟩) (by repeat (first | assumption | apply up_al | apply up_dr | apply up_drN)) kz).trans k3, (Below.cell (B := w2.heap.size) (w := w2) (p := ⟨n2, 0, none⟩) (by repeat (first | assumption | apply up_al | apply up_dr | apply up_drN)) lz).trans l0, (Below.cell (B := w2.heap.size) (w := w2) (p := ⟨n2, 1, none⟩) (by repeat (first | assumption | apply up_al | apply up_dr | apply up_drN)) lz).trans l1, (Below.cell (B := w2.heap.size) (w := w2) (p := ⟨n2, 2, none⟩) (by repeat (first | assumption | apply up_al | apply up_dr | apply up_drN)) lz).trans l2, (Below.cell (B := w2.heap.size) (w := w2) (p := ⟨n2, 3, none⟩) (by repeat (first | assumption | apply up_al | apply up_dr | apply up_drN)) lz).trans l3⟩) (first
          | (go_at_call 10; (with_reducible refine (textC a b _ ha hb (E2.up ?_)).mono ?_); (· repeat (first | assumption | apply up_al | apply up_dr | apply up_drN)); rintro e w5 ⟨rfl, h5⟩; have g5 : Up w2 w5 := Up.on (by repeat (first | assumption | apply up_al | apply up_dr | apply up_drN)) h5)
          | (go_at_call 10; (with_reducible refine (textC a' b' _ ha' hb' (E2.up ?_)).mono ?_); (· repeat (first | assumption | apply up_al | apply up_dr | apply up_drN)); rintro e w5 ⟨rfl, h5⟩; have g5 : Up w2 w5 := Up.on (by repeat (first | assumption | apply up_al | apply up_dr | apply up_drN)) h5)
          | (go_at_call 12; (with_reducible refine (bytesC a b _ ha hb).mono ?_); rintro e w5 ⟨rfl, h5⟩; have g5 : Up w2 w5 := Up.on (by repeat (first | assumption | apply up_al | apply up_dr | apply up_drN)) h5)
          | (go_at_call 12; (with_reducible refine (bytesC a' b' _ ha' hb').mono ?_); rintro e w5 ⟨rfl, h5⟩; have g5 : Up w2 w5 := Up.on (by repeat (first | assumption | apply up_al | apply up_dr | apply up_drN)) h5))
        all_goals go_wp2_with fail
        all_goals go_meet
        all_goals exact ⟨rfl, (by repeat (first | assumption | apply up_al | apply up_dr | apply up_drN))⟩
  case rest =>
  obtain ⟨rfl, hUc⟩ := hcut
  clear k0 k1 k2 k3 kz l0 l1 l2 l3 lz V2 E2
  have U3 := U2.on hUc.out
  have Xa3 := Xa2'.out.up hUc.out
  have Xb3 := Xb2'.out.up hUc.out
  clear hUc U2 U1 U0 Xa2' Xb2' Xa1' X1' X2 hv0 hv1 hv2 hv3 E0 E0' Xb1 B1
  generalize wc = w3 at U3 Xa3 Xb3 ⊢
  have Xa3' := Lib.hid Xa3; have Xb3' := Lib.hid Xb3
  obtain ⟨k0, k1, k2, k3, kz⟩ := Xa3
  obtain ⟨l0, l1, l2, l3, lz⟩ := Xb3
  go_upto_region 7 with fail
  go_cut [9] (fun v wc => v = .string (ab a b c d) ∧ Hid (Up w3 wc))
  case first =>
    have V3 : Up w3 w3 := Below.refl _ _
    have z1 := bs_size a b
    have z2 := bs_size c d
    go_region_held3 (fun w' => w'.cell? ⟨n1, 0, none⟩ = some (.int .u32 (a : Int)) ∧ w'.cell? ⟨n1, 1, none⟩ = some (.int .u16 (b : Int)) ∧ w'.cell? ⟨n1, 2, none⟩ = some (.int .u32 (c : Int)) ∧ w'.cell? ⟨n1, 3, none⟩ = some (.int .u16 (d : Int))) (first | exact ⟨k0, k1, k2, k3⟩ | exact ⟨(Below.cell (B := w3.heap.size) (w := w3) (p := ⟨n1, 0, none⟩) (by repeat (first | assumption | apply up_al | apply up_dr | apply up_drN)) kz).trans k0, (Below.cell (B := w3.heap.size) (w := w3) (p := ⟨n1, 1, none⟩) (by repeat (first | assumption | apply up_al | apply up_dr | apply up_drN)) kz).trans k1, (Below.cell (B := w3.heap.size) (w := w3) (p := ⟨n1, 2, none⟩) (by repeat (first | assumption | apply up_al | apply up_dr | apply up_drN)) kz).trans k2, (Below.cell (B := w3.heap.size) (w := w3) (p := ⟨n1, 3, none⟩) (by repeat (first | assumption | apply up_al | apply up_dr | apply up_drN)) kz).trans k3⟩) (first
      | (go_at_call 12; (with_reducible refine (bytesC a b _ ha hb).mono ?_); rintro e w5 ⟨rfl, h5⟩; have g5 : Up w3 w5 := Up.on (by repeat (first | assumption | apply up_al | apply up_dr | apply up_drN)) h5)
      | (go_at_call 12; (with_reducible refine (bytesC c d _ hc hd).mono ?_); rintro e w5 ⟨rfl, h5⟩; have g5 : Up w3 w5 := Up.on (by repeat (first | assumption | apply up_al | apply up_dr | apply up_drN)) h5))
    all_goals go_wp2_with fail
    all_goals go_meet
    all_goals exact ⟨rfl, (by repeat (first | assumption | apply up_al | apply up_dr | apply up_drN))⟩
  case rest =>
  obtain ⟨rfl, hUc⟩ := hcut
  clear k0 k1 k2 k3 kz l0 l1 l2 l3 lz
  have U4 := U3.on hUc.out
  have Xa4 := Xa3'.out.up hUc.out
  have Xb4 := Xb3'.out.up hUc.out
  clear hUc U3 Xa3' Xb3'
  generalize wc = w4 at U4 Xa4 Xb4 ⊢
  have Xa4' := Lib.hid Xa4; have Xb4' := Lib.hid Xb4
  obtain ⟨k0, k1, k2, k3, kz⟩ := Xa4
  obtain ⟨l0, l1, l2, l3, lz⟩ := Xb4
  go_upto_region 8 with fail
  go_cut [10] (fun v wc => v = .string (ab a' b' c' d') ∧ Hid (Up w4 wc))
  case first =>
    have V4 : Up w4 w4 := Below.refl _ _
    have z1 := bs_size a' b'
    have z2 := bs_size c' d'
    go_region_held3 (fun w' => w'.cell? ⟨n2, 0, none⟩ = some (.int .u32 (a' : Int)) ∧ w'.cell? ⟨n2, 1, none⟩ = some (.int .u16 (b' : Int)) ∧ w'.cell? ⟨n2, 2, none⟩ = some (.int .u32 (c' : Int)) ∧ w'.cell? ⟨n2, 3, none⟩ = some (.int .u16 (d' : Int))) (first | exact ⟨l0, l1, l2, l3⟩ | exact ⟨(Below.cell (B := w4.heap.size) (w := w4) (p := ⟨n2, 0, none⟩) (by repeat (first | assumption | apply up_al | apply up_dr | apply up_drN)) lz).trans l0, (Below.cell (B := w4.heap.size) (w := w4) (p := ⟨n2, 1, none⟩) (by repeat (first | assumption | apply up_al | apply up_dr | apply up_drN)) lz).trans l1, (Below.cell (B := w4.heap.size) (w := w4) (p := ⟨n2, 2, none⟩) (by repeat (first | assumption | apply up_al | apply up_dr | apply up_drN)) lz).trans l2, (Below.cell (B := w4.heap.size) (w := w4) (p := ⟨n2, 3, none⟩) (by repeat (first | assumption | apply up_al | apply up_dr | apply up_drN)) lz).trans l3⟩) (first
      | (go_at_call 12; (with_reducible refine (bytesC a' b' _ ha' hb').mono ?_); rintro e w5 ⟨rfl, h5⟩; have g5 : Up w4 w5 := Up.on (by repeat (first | assumption | apply up_al | apply up_dr | apply up_drN)) h5)
      | (go_at_call 12; (with_reducible refine (bytesC c' d' _ hc' hd').mono ?_); rintro e w5 ⟨rfl, h5⟩; have g5 : Up w4 w5 := Up.on (by repeat (first | assumption | apply up_al | apply up_dr | apply up_drN)) h5))
    all_goals go_wp2_with fail
    all_goals go_meet
    all_goals exact ⟨rfl, (by repeat (first | assumption | apply up_al | apply up_dr | apply up_drN))⟩
  case rest =>
  obtain ⟨rfl, hUc⟩ := hcut
  clear k0 k1 k2 k3 kz l0 l1 l2 l3 lz
  have U5 := U4.on hUc.out
  have Xa5 := Xa4'.out.up hUc.out
  have Xb5 := Xb4'.out.up hUc.out
  clear hUc U4 Xa4' Xb4'
  generalize wc = w5 at U5 Xa5 Xb5 ⊢
  have Xa5' := Lib.hid Xa5; have Xb5' := Lib.hid Xb5
  obtain ⟨k0, k1, k2, k3, -⟩ := Xa5
  obtain ⟨l0, l1, l2, l3, -⟩ := Xb5
  obtain ⟨R, hR⟩ : ∃ R, R = cmpP a b c d a' b' c' d' := ⟨_, rfl⟩
  have cR : ∀ W, Calls Tryd.prog 14 #[Pair a b c d, Pair a' b' c' d'] W fun e w' => e = .returned (.int .i64 R) ∧ Up W w' := fun W => by rw [hR]; exact compareC a b c d a' b' c' d' W
  have CR := Lib.hid cR; have HR := Lib.hid hR; clear cR hR
  go_upto_region 10 with (go_at_call 14; refine (CR.out _).mono ?_; rintro e v6 ⟨rfl, hv6⟩)
  clear k0 k1 k2 k3 l0 l1 l2 l3
  have U6 := U5.on hv6
  have Xa6 := Xa5'.out.up hv6
  have Xb6 := Xb5'.out.up hv6
  clear U5 Xa5' Xb5' hv6 CR
  have E6 := E.up U6
  obtain ⟨k0, k1, k2, k3, kz⟩ := Xa6
  obtain ⟨l0, l1, l2, l3, lz⟩ := Xb6
  have V6 : Up v6 v6 := Below.refl _ _
  have cq := cmpP_neg a b c d a' b' c' d'
  rcases three ha hb hc hd ha' hb' hc' hd' with ⟨h1, h2, h3⟩ | ⟨h1, h2, h3⟩ | ⟨h1, h2, h3⟩
  · have hRv : R = -1 := HR.out.trans h1
    rw [← HR.out] at cq
    have dl : decide (R < 0) = true := by rw [hRv]; decide
    have dg : decide (0 < R) = false := by rw [hRv]; decide
    have wn : IntKind.i64.wrap (-R) = -R := by rw [hRv]; decide
    have CQ := Lib.hid cq; clear cq h1 HR hRv
    have hg := gtr_of (X := ab a b c d) (Y := ab a' b' c' d') h2 h3
    generalize ab a b c d = X at h2 h3 hg ⊢
    generalize ab a' b' c' d' = Y at h2 h3 hg ⊢
    clear h3
    go_region_held3 (fun w' => w'.cell? ⟨n1, 0, none⟩ = some (.int .u32 (a : Int)) ∧ w'.cell? ⟨n1, 1, none⟩ = some (.int .u16 (b : Int)) ∧ w'.cell? ⟨n1, 2, none⟩ = some (.int .u32 (c : Int)) ∧ w'.cell? ⟨n1, 3, none⟩ = some (.int .u16 (d : Int)) ∧ w'.cell? ⟨n2, 0, none⟩ = some (.int .u32 (a' : Int)) ∧ w'.cell? ⟨n2, 1, none⟩ = some (.int .u16 (b' : Int)) ∧ w'.cell? ⟨n2, 2, none⟩ = some (.int .u32 (c' : Int)) ∧ w'.cell? ⟨n2, 3, none⟩ = some (.int .u16 (d' : Int))) (first | exact ⟨k0, k1, k2, k3, l0, l1, l2, l3⟩ | exact ⟨(Below.cell (B := v6.heap.size) (w := v6) (p := ⟨n1, 0, none⟩) (by repeat (first | assumption | apply up_al | apply up_dr | apply up_drN)) kz).trans k0, (Below.cell (B := v6.heap.size) (w := v6) (p := ⟨n1, 1, none⟩) (by repeat (first | assumption | apply up_al | apply up_dr | apply up_drN)) kz).trans k1, (Below.cell (B := v6.heap.size) (w := v6) (p := ⟨n1, 2, none⟩) (by repeat (first | assumption | apply up_al | apply up_dr | apply up_drN)) kz).trans k2, (Below.cell (B := v6.heap.size) (w := v6) (p := ⟨n1, 3, none⟩) (by repeat (first | assumption | apply up_al | apply up_dr | apply up_drN)) kz).trans k3, (Below.cell (B := v6.heap.size) (w := v6) (p := ⟨n2, 0, none⟩) (by repeat (first | assumption | apply up_al | apply up_dr | apply up_drN)) lz).trans l0, (Below.cell (B := v6.heap.size) (w := v6) (p := ⟨n2, 1, none⟩) (by repeat (first | assumption | apply up_al | apply up_dr | apply up_drN)) lz).trans l1, (Below.cell (B := v6.heap.size) (w := v6) (p := ⟨n2, 2, none⟩) (by repeat (first | assumption | apply up_al | apply up_dr | apply up_drN)) lz).trans l2, (Below.cell (B := v6.heap.size) (w := v6) (p := ⟨n2, 3, none⟩) (by repeat (first | assumption | apply up_al | apply up_dr | apply up_drN)) lz).trans l3⟩) (first
      | (go_at_call 14; refine (compareC a' b' c' d' a b c d _).mono ?_; rintro e w7 ⟨he, h5⟩; rw [CQ.out] at he; subst he; have g5 : Up v6 w7 := Up.on (by repeat (first | assumption | apply up_al | apply up_dr | apply up_drN)) h5)
      | (go_at_call 16; (with_reducible refine (turnedC a b c d _).mono ?_); rintro e w7 ⟨rfl, h5⟩; have g5 : Up v6 w7 := Up.on (by repeat (first | assumption | apply up_al | apply up_dr | apply up_drN)) h5)
      | (go_at_call 16; (with_reducible refine (turnedC c d a b _).mono ?_); rintro e w7 ⟨rfl, h5⟩; have g5 : Up v6 w7 := Up.on (by repeat (first | assumption | apply up_al | apply up_dr | apply up_drN)) h5)
      | (go_at_call 5; refine (aliveC _ (E6.up (by repeat (first | assumption | apply up_al | apply up_dr | apply up_drN)))).mono ?_; rintro e w7 ⟨rfl, h5⟩; have g5 : Up v6 w7 := Up.on (by repeat (first | assumption | apply up_al | apply up_dr | apply up_drN)) h5))
    all_goals go_wp2
    all_goals go_ret
    all_goals exact ⟨rfl, U6.on (by repeat (first | assumption | apply up_al | apply up_dr | apply up_drN))⟩
  · have hRv : R = 0 := HR.out.trans h1
    rw [← HR.out] at cq
    have dl : decide (R < 0) = false := by rw [hRv]; decide
    have dg : decide (0 < R) = false := by rw [hRv]; decide
    have wn : IntKind.i64.wrap (-R) = -R := by rw [hRv]; decide
    have CQ := Lib.hid cq; clear cq h1 HR hRv
    have hg := gtr_of (X := ab a b c d) (Y := ab a' b' c' d') h2 h3
    generalize ab a b c d = X at h2 h3 hg ⊢
    generalize ab a' b' c' d' = Y at h2 h3 hg ⊢
    clear h3
    go_region_held3 (fun w' => w'.cell? ⟨n1, 0, none⟩ = some (.int .u32 (a : Int)) ∧ w'.cell? ⟨n1, 1, none⟩ = some (.int .u16 (b : Int)) ∧ w'.cell? ⟨n1, 2, none⟩ = some (.int .u32 (c : Int)) ∧ w'.cell? ⟨n1, 3, none⟩ = some (.int .u16 (d : Int)) ∧ w'.cell? ⟨n2, 0, none⟩ = some (.int .u32 (a' : Int)) ∧ w'.cell? ⟨n2, 1, none⟩ = some (.int .u16 (b' : Int)) ∧ w'.cell? ⟨n2, 2, none⟩ = some (.int .u32 (c' : Int)) ∧ w'.cell? ⟨n2, 3, none⟩ = some (.int .u16 (d' : Int))) (first | exact ⟨k0, k1, k2, k3, l0, l1, l2, l3⟩ | exact ⟨(Below.cell (B := v6.heap.size) (w := v6) (p := ⟨n1, 0, none⟩) (by repeat (first | assumption | apply up_al | apply up_dr | apply up_drN)) kz).trans k0, (Below.cell (B := v6.heap.size) (w := v6) (p := ⟨n1, 1, none⟩) (by repeat (first | assumption | apply up_al | apply up_dr | apply up_drN)) kz).trans k1, (Below.cell (B := v6.heap.size) (w := v6) (p := ⟨n1, 2, none⟩) (by repeat (first | assumption | apply up_al | apply up_dr | apply up_drN)) kz).trans k2, (Below.cell (B := v6.heap.size) (w := v6) (p := ⟨n1, 3, none⟩) (by repeat (first | assumption | apply up_al | apply up_dr | apply up_drN)) kz).trans k3, (Below.cell (B := v6.heap.size) (w := v6) (p := ⟨n2, 0, none⟩) (by repeat (first | assumption | apply up_al | apply up_dr | apply up_drN)) lz).trans l0, (Below.cell (B := v6.heap.size) (w := v6) (p := ⟨n2, 1, none⟩) (by repeat (first | assumption | apply up_al | apply up_dr | apply up_drN)) lz).trans l1, (Below.cell (B := v6.heap.size) (w := v6) (p := ⟨n2, 2, none⟩) (by repeat (first | assumption | apply up_al | apply up_dr | apply up_drN)) lz).trans l2, (Below.cell (B := v6.heap.size) (w := v6) (p := ⟨n2, 3, none⟩) (by repeat (first | assumption | apply up_al | apply up_dr | apply up_drN)) lz).trans l3⟩) (first
      | (go_at_call 14; refine (compareC a' b' c' d' a b c d _).mono ?_; rintro e w7 ⟨he, h5⟩; rw [CQ.out] at he; subst he; have g5 : Up v6 w7 := Up.on (by repeat (first | assumption | apply up_al | apply up_dr | apply up_drN)) h5)
      | (go_at_call 16; (with_reducible refine (turnedC a b c d _).mono ?_); rintro e w7 ⟨rfl, h5⟩; have g5 : Up v6 w7 := Up.on (by repeat (first | assumption | apply up_al | apply up_dr | apply up_drN)) h5)
      | (go_at_call 16; (with_reducible refine (turnedC c d a b _).mono ?_); rintro e w7 ⟨rfl, h5⟩; have g5 : Up v6 w7 := Up.on (by repeat (first | assumption | apply up_al | apply up_dr | apply up_drN)) h5)
      | (go_at_call 5; refine (aliveC _ (E6.up (by repeat (first | assumption | apply up_al | apply up_dr | apply up_drN)))).mono ?_; rintro e w7 ⟨rfl, h5⟩; have g5 : Up v6 w7 := Up.on (by repeat (first | assumption | apply up_al | apply up_dr | apply up_drN)) h5))
    all_goals go_wp2
    all_goals go_ret
    all_goals exact ⟨rfl, U6.on (by repeat (first | assumption | apply up_al | apply up_dr | apply up_drN))⟩
  · have hRv : R = 1 := HR.out.trans h1
    rw [← HR.out] at cq
    have dl : decide (R < 0) = false := by rw [hRv]; decide
    have dg : decide (0 < R) = true := by rw [hRv]; decide
    have wn : IntKind.i64.wrap (-R) = -R := by rw [hRv]; decide
    have CQ := Lib.hid cq; clear cq h1 HR hRv
    have hg := gtr_of (X := ab a b c d) (Y := ab a' b' c' d') h2 h3
    generalize ab a b c d = X at h2 h3 hg ⊢
    generalize ab a' b' c' d' = Y at h2 h3 hg ⊢
    clear h3
    go_region_held3 (fun w' => w'.cell? ⟨n1, 0, none⟩ = some (.int .u32 (a : Int)) ∧ w'.cell? ⟨n1, 1, none⟩ = some (.int .u16 (b : Int)) ∧ w'.cell? ⟨n1, 2, none⟩ = some (.int .u32 (c : Int)) ∧ w'.cell? ⟨n1, 3, none⟩ = some (.int .u16 (d : Int)) ∧ w'.cell? ⟨n2, 0, none⟩ = some (.int .u32 (a' : Int)) ∧ w'.cell? ⟨n2, 1, none⟩ = some (.int .u16 (b' : Int)) ∧ w'.cell? ⟨n2, 2, none⟩ = some (.int .u32 (c' : Int)) ∧ w'.cell? ⟨n2, 3, none⟩ = some (.int .u16 (d' : Int))) (first | exact ⟨k0, k1, k2, k3, l0, l1, l2, l3⟩ | exact ⟨(Below.cell (B := v6.heap.size) (w := v6) (p := ⟨n1, 0, none⟩) (by repeat (first | assumption | apply up_al | apply up_dr | apply up_drN)) kz).trans k0, (Below.cell (B := v6.heap.size) (w := v6) (p := ⟨n1, 1, none⟩) (by repeat (first | assumption | apply up_al | apply up_dr | apply up_drN)) kz).trans k1, (Below.cell (B := v6.heap.size) (w := v6) (p := ⟨n1, 2, none⟩) (by repeat (first | assumption | apply up_al | apply up_dr | apply up_drN)) kz).trans k2, (Below.cell (B := v6.heap.size) (w := v6) (p := ⟨n1, 3, none⟩) (by repeat (first | assumption | apply up_al | apply up_dr | apply up_drN)) kz).trans k3, (Below.cell (B := v6.heap.size) (w := v6) (p := ⟨n2, 0, none⟩) (by repeat (first | assumption | apply up_al | apply up_dr | apply up_drN)) lz).trans l0, (Below.cell (B := v6.heap.size) (w := v6) (p := ⟨n2, 1, none⟩) (by repeat (first | assumption | apply up_al | apply up_dr | apply up_drN)) lz).trans l1, (Below.cell (B := v6.heap.size) (w := v6) (p := ⟨n2, 2, none⟩) (by repeat (first | assumption | apply up_al | apply up_dr | apply up_drN)) lz).trans l2, (Below.cell (B := v6.heap.size) (w := v6) (p := ⟨n2, 3, none⟩) (by repeat (first | assumption | apply up_al | apply up_dr | apply up_drN)) lz).trans l3⟩) (first
      | (go_at_call 14; refine (compareC a' b' c' d' a b c d _).mono ?_; rintro e w7 ⟨he, h5⟩; rw [CQ.out] at he; subst he; have g5 : Up v6 w7 := Up.on (by repeat (first | assumption | apply up_al | apply up_dr | apply up_drN)) h5)
      | (go_at_call 16; (with_reducible refine (turnedC a b c d _).mono ?_); rintro e w7 ⟨rfl, h5⟩; have g5 : Up v6 w7 := Up.on (by repeat (first | assumption | apply up_al | apply up_dr | apply up_drN)) h5)
      | (go_at_call 16; (with_reducible refine (turnedC c d a b _).mono ?_); rintro e w7 ⟨rfl, h5⟩; have g5 : Up v6 w7 := Up.on (by repeat (first | assumption | apply up_al | apply up_dr | apply up_drN)) h5)
      | (go_at_call 5; refine (aliveC _ (E6.up (by repeat (first | assumption | apply up_al | apply up_dr | apply up_drN)))).mono ?_; rintro e w7 ⟨rfl, h5⟩; have g5 : Up v6 w7 := Up.on (by repeat (first | assumption | apply up_al | apply up_dr | apply up_drN)) h5))
    all_goals go_wp2
    all_goals go_ret
    all_goals exact ⟨rfl, U6.on (by repeat (first | assumption | apply up_al | apply up_dr | apply up_drN))⟩
end Go.Proofs.YtolebodpcefcfaaDoor.tu
