/- T: contracts, part 5. Condition: as each says. -/
import Derived.Test.YtafckmbgefbonaaGreatVT1
import Derived.Test.YtafckmbgefbonaaGreatVT3
import Derived.Test.YtafckmbgefbonaaGreatVTR6
set_option linter.unusedVariables false
set_option linter.unusedSimpArgs false
set_option maxRecDepth 100000
set_option maxHeartbeats 8000000
namespace Go.Proofs.YtafckmbgefbonaaGreat.pk
open RowKit Shelf Lib sm nb pm

theorem put5 {W : World} {b : Nat} {x0 x1 x2 x3 x4 x5 x6 x7 x8 x9 x10 x11 x12 x13 x14 x15 : Value} (hB : Box W b [x0, x1, x2, x3, x4, x5, x6, x7, x8, x9, x10, x11, x12, x13, x14, x15]) (y0 y1 y2 y3 y4 : Value) : Box (((((W.setCell ⟨b, 0, none⟩ y0).setCell ⟨b, 1, none⟩ y1).setCell ⟨b, 2, none⟩ y2).setCell ⟨b, 3, none⟩ y3).setCell ⟨b, 4, none⟩ y4) b [y0, y1, y2, y3, y4, x5, x6, x7, x8, x9, x10, x11, x12, x13, x14, x15] := (Box.set (Box.set (Box.set (Box.set (Box.set hB 0 y0) 1 y1) 2 y2) 3 y3) 4 y4)
theorem ups5 {w W : World} {b : Nat} (hu : Up w W) (hb : w.heap.size ≤ b) (y0 y1 y2 y3 y4 : Value) : Up w (((((W.setCell ⟨b, 0, none⟩ y0).setCell ⟨b, 1, none⟩ y1).setCell ⟨b, 2, none⟩ y2).setCell ⟨b, 3, none⟩ y3).setCell ⟨b, 4, none⟩ y4) := (up_set (up_set (up_set (up_set (up_set hu hb) hb) hb) hb) hb)
theorem far5 {W : World} {b c : Nat} {vs : List Value} (h : Box W b vs) (hc : c ≠ b) (y0 y1 y2 y3 y4 : Value) : Box (((((W.setCell ⟨c, 0, none⟩ y0).setCell ⟨c, 1, none⟩ y1).setCell ⟨c, 2, none⟩ y2).setCell ⟨c, 3, none⟩ y3).setCell ⟨c, 4, none⟩ y4) b vs := (Box.far (Box.far (Box.far (Box.far (Box.far h hc y0) hc y1) hc y2) hc y3) hc y4)
theorem own16 {W : World} {B b : Nat} {v : Value} {xs : List (Nat × Nat)} (h : op.OwnK W B v xs) (hb : b < B) (y0 y1 y2 y3 y4 y5 y6 y7 y8 y9 y10 y11 y12 y13 y14 y15 : Value) : op.OwnK ((((((((((((((((W.setCell ⟨b, 0, none⟩ y0).setCell ⟨b, 1, none⟩ y1).setCell ⟨b, 2, none⟩ y2).setCell ⟨b, 3, none⟩ y3).setCell ⟨b, 4, none⟩ y4).setCell ⟨b, 5, none⟩ y5).setCell ⟨b, 6, none⟩ y6).setCell ⟨b, 7, none⟩ y7).setCell ⟨b, 8, none⟩ y8).setCell ⟨b, 9, none⟩ y9).setCell ⟨b, 10, none⟩ y10).setCell ⟨b, 11, none⟩ y11).setCell ⟨b, 12, none⟩ y12).setCell ⟨b, 13, none⟩ y13).setCell ⟨b, 14, none⟩ y14).setCell ⟨b, 15, none⟩ y15) B v xs := (op.OwnK.grownB (op.OwnK.grownB (op.OwnK.grownB (op.OwnK.grownB (op.OwnK.grownB (op.OwnK.grownB (op.OwnK.grownB (op.OwnK.grownB (op.OwnK.grownB (op.OwnK.grownB (op.OwnK.grownB (op.OwnK.grownB (op.OwnK.grownB (op.OwnK.grownB (op.OwnK.grownB (op.OwnK.grownB h hb 0 y0) hb 1 y1) hb 2 y2) hb 3 y3) hb 4 y4) hb 5 y5) hb 6 y6) hb 7 y7) hb 8 y8) hb 9 y9) hb 10 y10) hb 11 y11) hb 12 y12) hb 13 y13) hb 14 y14) hb 15 y15)
theorem refTurned (a p b q y z f i m : Nat) (s : Int) (k : Bool) (A : Option Addr) (n c : Nat) (tt : Bool) (v e : Nat) (S : ByteArray) (bl : List (Nat × Nat)) (a1 p1 b1 q1 y1 z1 v1 e1 : Nat) (up dn : Int) (w : World)
  (hy : y ≤ 4294967295) (hz : z ≤ 4294967295) (hf : f ≤ 255) (hi : i ≤ 65535) (hv : v ≤ 4294967295) (he : e ≤ 4294967295) (hb : ∀ x ∈ bl, x.1 < om.M32 ∧ x.2 < om.M32) (hn : bl.length = n) (hn2 : n ≤ 1048576) (hr : op.RdB w A bl)
  (hy1 : y1 ≤ 4294967295) (hz1 : z1 ≤ 4294967295) (hv1 : v1 ≤ 4294967295) (he1 : e1 ≤ 4294967295) (hup : -9223372036854775808 ≤ up ∧ up ≤ 9223372036854775807) (hdn : -9223372036854775808 ≤ dn ∧ dn ≤ 9223372036854775807) :
  Calls Tryz.prog 21 #[SA a p b q y z f i m s k A n c tt v e S, .agg #[.int .u32 a1, .int .u16 p1, .int .u32 b1, .int .u16 q1, .int .u32 y1, .int .u32 z1, .int .u32 v1, .int .u32 e1, .int .i64 up, .int .i64 dn]] w fun e_ w' =>
   ∃ X, e_ = .returned X ∧ SegV w' X (tS ⟨a1, b1, p1, q1, y1, z1, v1, e1, up, dn⟩ ⟨a, b, p, q, y, z, f, i, ⟨m, s, k, bl, tt, v, e⟩, L S⟩) ∧ Up w w' := by
 obtain ⟨y2, hy2⟩ : ∃ y2, y2 = om.addM y y1 := ⟨_, rfl⟩
 have wy : IntKind.u32.wrap ((y : Int) + (y1 : Int)) = (y2 : Int) := by rw [hy2]; exact wrap32 _ _ hy hy1
 have wy' : ((y : Int) + (y1 : Int)) % 4294967296 = (y2 : Int) := by rw [hy2]; exact mod32 _ _
 have HY := Lib.hid hy2
 clear hy2
 obtain ⟨z3, hz3⟩ : ∃ z3, z3 = om.addM z z1 := ⟨_, rfl⟩
 have wz : IntKind.u32.wrap ((z : Int) + (z1 : Int)) = (z3 : Int) := by rw [hz3]; exact wrap32 _ _ hz hz1
 have wz' : ((z : Int) + (z1 : Int)) % 4294967296 = (z3 : Int) := by rw [hz3]; exact mod32 _ _
 obtain ⟨z2, hz2⟩ : ∃ z2, z2 = if acked f then z3 else z := ⟨_, rfl⟩
 have HZ : Hid (z2 = if acked f then om.addM z z1 else z) := by rw [hz2, hz3]; exact Lib.hid rfl
 clear hz3
 have HZ2 := Lib.hid hz2
 clear hz2
 have q16 := f16 f hf
 have HR := Lib.hid hr
 clear hr
 go_enter Tryz.func21, Tryz.ntmps21
 go_upto_region 1 with fail
 have hA := Box.new w #[.int .u32 a, .int .u16 p, .int .u32 b, .int .u16 q, .int .u32 y, .int .u32 z, .int .u8 f, .int .u16 i, .int .u16 m, .int .i64 s, .bool k, .slice A n c, .bool tt, .int .u32 v, .int .u32 e, .string S] 30
 have hu := upM hA bR
 have hs0 := szN hA
 generalize World.alloc w _ = w0 at hA hu hs0 ⊢
 obtain ⟨n0, hn0⟩ : ∃ n0, n0 = w.heap.size := ⟨_, rfl⟩
 have hle : w.heap.size ≤ n0 := by omega
 rw [← hn0] at hA hs0 ⊢
 clear hn0
 have hB := Box.new w0 #[.int .u32 a1, .int .u16 p1, .int .u32 b1, .int .u16 q1, .int .u32 y1, .int .u32 z1, .int .u32 v1, .int .u32 e1, .int .i64 up, .int .i64 dn] 46
 rw [hs0] at hB
 have hA1 := alN hB hA
 have hu1 := upM hB hu
 have hs1 : (w0.alloc (.cells #[.int .u32 a1, .int .u16 p1, .int .u32 b1, .int .u16 q1, .int .u32 y1, .int .u32 z1, .int .u32 v1, .int .u32 e1, .int .i64 up, .int .i64 dn] 46)).heap.size = n0 + 1 + 1 := by rw [← hs0]; exact World.size_alloc ..
 generalize World.alloc w0 _ = w1 at hA1 hB hu1 hs1 ⊢
 clear hA hu hs0 w0
 have hC := Box.new w1 #[.int .u32 0, .int .u16 0, .int .u32 0, .int .u16 0, .int .u32 0, .int .u32 0, .int .u8 0, .int .u16 0, .int .u16 0, .int .i64 0, .bool false, .slice none 0 0, .bool false, .int .u32 0, .int .u32 0, .string { data := #[] }] 30
 rw [hs1] at hC
 have hA2 := alN hC hA1
 have hB2 := alN hC hB
 have hu2 := upM hC hu1
 generalize (w1.alloc (.cells #[.int .u32 0, .int .u16 0, .int .u32 0, .int .u16 0, .int .u32 0, .int .u32 0, .int .u8 0, .int .u16 0, .int .u16 0, .int .i64 0, .bool false, .slice none 0 0, .bool false, .int .u32 0, .int .u32 0, .string { data := #[] }] 30)) = w2 at hA2 hB2 hC hu2 ⊢
 clear hA1 hB hu1 hs1 w1
 obtain ⟨k0, k1, k2, k3, k4, k5, k6, k7, k8, k9, k10, k11, k12, k13, k14, k15⟩ := bx16 hA2; obtain ⟨r0, r1, r2, r3, r4, r5, r6, r7, r8, r9, r10, r11, r12, r13, r14, r15⟩ := bf16 hA2; obtain ⟨l0, l1, l2, l3, l4, l5, l6, l7, l8, l9⟩ := bx10 hB2
 go_upto_region 4 with fail
 clear k0 k1 k2 k3 k4 k5 k6 k7 k8 k9 k10 k11 k12 k13 k14 k15 r0 r1 r2 r3 r4 r5 r6 r7 r8 r9 r10 r11 r12 r13 r14 r15 l0 l1 l2 l3 l4 l5 l6 l7 l8 l9
 have hA3 := put5 hA2 (.int .u32 a1) (.int .u16 p1) (.int .u32 b1) (.int .u16 q1) (.int .u32 y2)
 have hB3 := far5 hB2 (show n0 ≠ n0 + 1 by omega) (.int .u32 a1) (.int .u16 p1) (.int .u32 b1) (.int .u16 q1) (.int .u32 y2)
 have hC3 := far5 hC (show n0 ≠ n0 + 1 + 1 by omega) (.int .u32 a1) (.int .u16 p1) (.int .u32 b1) (.int .u16 q1) (.int .u32 y2)
 have hu3 := ups5 (b := n0) hu2 hle (.int .u32 a1) (.int .u16 p1) (.int .u32 b1) (.int .u16 q1) (.int .u32 y2)
 generalize World.setCell _ ⟨n0, 4, none⟩ _ = w3 at hA3 hB3 hC3 hu3 ⊢
 clear hA2 hB2 hC hu2 w2
 obtain ⟨k0, k1, k2, k3, k4, k5, k6, k7, k8, k9, k10, k11, k12, k13, k14, k15⟩ := bx16 hA3; obtain ⟨r0, r1, r2, r3, r4, r5, r6, r7, r8, r9, r10, r11, r12, r13, r14, r15⟩ := bf16 hA3; obtain ⟨l0, l1, l2, l3, l4, l5, l6, l7, l8, l9⟩ := bx10 hB3
 obtain ⟨gn, hgn⟩ : ∃ gn, gn = ((f / 16 % 2 * 16 : Nat) : Int) := ⟨_, rfl⟩
 rw [← hgn] at q16
 have HGN := Lib.hid hgn
 clear hgn
 go_upto_if 22 with fail
 go_cut [] (fun wc => Up w wc ∧ Box wc n0 [.int .u32 a1, .int .u16 p1, .int .u32 b1, .int .u16 q1, .int .u32 y2, .int .u32 z2, .int .u8 f, .int .u16 i, .int .u16 m, .int .i64 s, .bool k, .slice A n c, .bool tt, .int .u32 v, .int .u32 e, .string S] ∧ Box wc (n0 + 1) [.int .u32 a1, .int .u16 p1, .int .u32 b1, .int .u16 q1, .int .u32 y1, .int .u32 z1, .int .u32 v1, .int .u32 e1, .int .i64 up, .int .i64 dn] ∧ Box wc (n0 + 1 + 1) [.int .u32 0, .int .u16 0, .int .u32 0, .int .u16 0, .int .u32 0, .int .u32 0, .int .u8 0, .int .u16 0, .int .u16 0, .int .i64 0, .bool false, .slice none 0 0, .bool false, .int .u32 0, .int .u32 0, .string { data := #[] }])
 case first =>
  rcases (by omega : f / 16 % 2 = 0 ∨ f / 16 % 2 = 1) with h1 | h1
  ·
   have ha : acked f = false := by unfold acked; rw [h1]; rfl
   have hzz : z2 = z := by rw [HZ2.out, ha]; rfl
   obtain rfl : gn = 0 := by rw [HGN.out, h1]; rfl
   clear HGN q16 h1 ha wz wz' HZ2
   subst hzz
   go_wp2
   go_meet
   exact ⟨hu3, hA3, hB3, hC3⟩
  ·
   have ha : acked f = true := by unfold acked; rw [h1]; rfl
   have hzz : z2 = z3 := by rw [HZ2.out, ha]; rfl
   obtain rfl : gn = 16 := by rw [HGN.out, h1]; rfl
   clear HGN q16 h1 ha HZ2
   subst hzz
   go_wp2
   go_meet
   exact ⟨up_set (o := 5) (v := .int .u32 z2) hu3 hle, hA3.set 5 _, hB3.far (show n0 ≠ n0 + 1 by omega) (o := 5) (.int .u32 z2), hC3.far (show n0 ≠ n0 + 1 + 1 by omega) (o := 5) (.int .u32 z2)⟩
 case rest =>
 obtain ⟨hu4, hA4, hB4, hC4⟩ := hcut
 clear k0 k1 k2 k3 k4 k5 k6 k7 k8 k9 k10 k11 k12 k13 k14 k15 r0 r1 r2 r3 r4 r5 r6 r7 r8 r9 r10 r11 r12 r13 r14 r15 l0 l1 l2 l3 l4 l5 l6 l7 l8 l9 q16 HGN wz wz' HZ2 hA3 hB3 hC3 hu3
 generalize wc = w4 at *
 have hz4 : n0 + 1 + 1 + 1 ≤ w4.heap.size := hC4.1
 go_wp2_with fail
 go_loopw [5, 6] (fun sl0 iv wr => ∃ (j : Nat) (sl : Value), j ≤ n ∧ sl = sl0 ∧ iv = .int .i64 j ∧ op.OwnK wr (n0 + 1 + 1 + 1) sl ((bl.map fun x => (om.addM x.1 z1, om.addM x.2 z1)).take j)
  ∧ Box wr n0 [.int .u32 a1, .int .u16 p1, .int .u32 b1, .int .u16 q1, .int .u32 y2, .int .u32 z2, .int .u8 f, .int .u16 i, .int .u16 m, .int .i64 s, .bool k, .slice A n c, .bool tt, .int .u32 v, .int .u32 e, .string S] ∧ Box wr (n0 + 1) [.int .u32 a1, .int .u16 p1, .int .u32 b1, .int .u16 q1, .int .u32 y1, .int .u32 z1, .int .u32 v1, .int .u32 e1, .int .i64 up, .int .i64 dn] ∧ Box wr (n0 + 1 + 1) [.int .u32 0, .int .u16 0, .int .u32 0, .int .u16 0, .int .u32 0, .int .u32 0, .int .u8 0, .int .u16 0, .int .u16 0, .int .i64 0, .bool false, .slice none 0 0, .bool false, .int .u32 0, .int .u32 0, .string { data := #[] }] ∧ Up w wr ∧ n0 + 1 + 1 + 1 ≤ wr.heap.size) (fun _ iv _ => n - (RowKit.intOf iv).toNat)
 case atStart => exact ⟨0, _, Nat.zero_le _, rfl, rfl, op.OwnK.nil_ _ _, hA4, hB4, hC4, hu4, hz4⟩
 case round =>
  obtain ⟨j, sl, hj, rfl, rfl, hO5, hA5, hB5, hC5, hur, hzr⟩ := hrel
  clear hA4 hB4 hC4 hu4 hz4
  obtain ⟨k0, k1, k2, k3, k4, k5, k6, k7, k8, k9, k10, k11, k12, k13, k14, k15⟩ := bx16 hA5; obtain ⟨l0, l1, l2, l3, l4, l5, l6, l7, l8, l9⟩ := bx10 hB5
  by_cases hlt : j < n
  ·obtain ⟨g, off, hAe, hg, x1, x2, c1, c2, hx⟩ := (HR.out.up hur).at_ (k := j) (by rw [hn]; exact hlt)
   subst hAe
   have hxm := hb (x1, x2) (List.mem_of_getElem? hx.out)
   have hx1 : x1 ≤ 4294967295 := by have := hxm.1; unfold om.M32 at this; dsimp only at this; omega
   have hx2 : x2 ≤ 4294967295 := by have := hxm.2; unfold om.M32 at this; dsimp only at this; omega
   obtain ⟨X1, hX1⟩ : ∃ X, X = om.addM x1 z1 := ⟨_, rfl⟩
   obtain ⟨X2, hX2⟩ : ∃ X, X = om.addM x2 z1 := ⟨_, rfl⟩
   have W1 : IntKind.u32.wrap ((x1 : Int) + (z1 : Int)) = (X1 : Int) := by rw [hX1]; exact wrap32 _ _ hx1 hz1
   have W1' : ((x1 : Int) + (z1 : Int)) % 4294967296 = (X1 : Int) := by rw [hX1]; exact mod32 _ _
   have W2 : IntKind.u32.wrap ((x2 : Int) + (z1 : Int)) = (X2 : Int) := by rw [hX2]; exact wrap32 _ _ hx2 hz1
   have W2' : ((x2 : Int) + (z1 : Int)) % 4294967296 = (X2 : Int) := by rw [hX2]; exact mod32 _ _
   have HX : Hid ((bl.map fun x => (om.addM x.1 z1, om.addM x.2 z1)).take (j + 1) = (bl.map fun x => (om.addM x.1 z1, om.addM x.2 z1)).take j ++ [(X1, X2)]) := by
    obtain ⟨hj1, hj2⟩ := List.getElem?_eq_some_iff.1 hx.out
    unfold Hid
    rw [List.take_succ_eq_append_getElem (by rw [List.length_map]; exact hj1), List.getElem_map, hj2, hX1, hX2]
   have hl : ((bl.map fun x => (om.addM x.1 z1, om.addM x.2 z1)).take j).length ≤ 1048576 := by rw [List.length_take]; omega
   clear hX1 hX2 hx hxm wy wy'
   generalize (bl.map fun x => (om.addM x.1 z1, om.addM x.2 z1)).take j = xs at hO5 hl HX
   go_upto_region 10 with fail
   clear k0 k1 k2 k3 k4 k5 k6 k7 k8 k9 k10 k11 k12 k13 k14 k15 l0 l1 l2 l3 l4 l5 l6 l7 l8 l9
   refine wp_region_rel8 23 1 (fun W => Up wr W) (fun W W' => Up W W') (Ys [Det (sl),
   Det (.pointer (some ⟨n0, 8, none⟩)),
   Det (.pointer (some ⟨n0, 11, none⟩)),
   Det (.slice (some ⟨g, off, none⟩) n c),
   Det (.int .i64 j),
   Det (.pointer (some ⟨g, off + j * 2, none⟩)),
   Det (.pointer (some ⟨g, off + j * 2, none⟩)),
   Det (.int .u32 x1),
   Det (.pointer (some ⟨n0 + 1, 5, none⟩)),
   Det (.int .u32 z1),
   Det (.int .u32 X1),
   Det (.pointer (some ⟨n0, 8, none⟩)),
   Det (.pointer (some ⟨n0, 11, none⟩)),
   Det (.slice (some ⟨g, off, none⟩) n c),
   Det (.int .i64 j),
   Det (.pointer (some ⟨g, off + j * 2, none⟩)),
   Det (.pointer (some ⟨g, off + j * 2 + 1, none⟩)),
   Det (.int .u32 x2),
   Det (.pointer (some ⟨n0 + 1, 5, none⟩)),
   Det (.int .u32 z1),
   Det (.int .u32 X2),
   Det (.agg #[.int .u32 X1, .int .u32 X2]),
   op.FrB X1 X2]) (by kernel_rfl) (by kernel_rfl) (by kernel_rfl) (up_dr bR) (Stable.ys ⟨Det.st _, Det.st _, Det.st _, Det.st _, Det.st _, Det.st _, Det.st _, Det.st _, Det.st _, Det.st _, Det.st _, Det.st _, Det.st _, Det.st _, Det.st _, Det.st _, Det.st _, Det.st _, Det.st _, Det.st _, Det.st _, Det.st _, op.FrB.st _ _, trivial⟩) ?_ ?_ ?_
   all_goals simp only [List.take_succ_cons, List.take_zero, List.drop_succ_cons, List.drop_zero, List.set_cons_zero, List.set_cons_succ, List.headD_cons, List.cons_append, List.nil_append]
   ·
    refine oC ?_ ?_
    ·intro aa ww hC hp hvar KK hK
     have d5 : aa.tmps.getD 5 undef = sl := hvar 5 (slotOk_spec (by kernel_rfl))
     have d5_ := gD d5
     clear hp hvar
     simp (config := { decide := true }) [go_sem, opTo, opUpon, *]
     exact hK _ _ rfl hC bR
    refine oC ?_ ?_
    ·intro aa ww hC hp hvar KK hK
     have d2 : aa.tmps.getD 2 undef = .pointer (some ⟨n0, 0, none⟩) := hvar 2 (slotOk_spec (by kernel_rfl))
     have d2_ := gD d2
     clear hp hvar
     (unfold opTo; go_simp; try simp only [opUpon])
     exact hK _ _ rfl hC bR
    refine oC ?_ ?_
    ·intro aa ww hC hp hvar KK hK
     have d38 : aa.tmps.getD 38 undef = .pointer (some ⟨n0, 8, none⟩) := dep_of hp 1 38 (by kernel_rfl)
     have d38_ := gD d38
     clear hp hvar
     (unfold opTo; go_simp; try simp only [opUpon])
     exact hK _ _ rfl hC bR
    refine oC ?_ ?_
    ·intro aa ww hC hp hvar KK hK
     have d39 : aa.tmps.getD 39 undef = .pointer (some ⟨n0, 11, none⟩) := dep_of hp 2 39 (by kernel_rfl)
     have d39_ := gD d39
     clear hp hvar
     have cc := (hA5.up hC).at 11 rfl
     (unfold opTo; go_simp; try simp only [opUpon])
     exact hK _ _ rfl hC bR
    refine oC ?_ ?_
    ·intro aa ww hC hp hvar KK hK
     have d6 : aa.tmps.getD 6 undef = .int .i64 j := hvar 6 (slotOk_spec (by kernel_rfl))
     have d6_ := gD d6
     clear hp hvar
     simp (config := { decide := true }) [go_sem, opTo, opUpon, *]
     exact hK _ _ rfl hC bR
    refine oC ?_ ?_
    ·intro aa ww hC hp hvar KK hK
     have d40 : aa.tmps.getD 40 undef = .slice (some ⟨g, off, none⟩) n c := dep_of hp 3 40 (by kernel_rfl)
     have d41 : aa.tmps.getD 41 undef = .int .i64 j := dep_of hp 4 41 (by kernel_rfl)
     have d40_ := gD d40
     have d41_ := gD d41
     clear hp hvar
     (unfold opTo; go_simp; try simp only [opUpon])
     exact hK _ _ rfl hC bR
    refine oC ?_ ?_
    ·intro aa ww hC hp hvar KK hK
     have d42 : aa.tmps.getD 42 undef = .pointer (some ⟨g, off + j * 2, none⟩) := dep_of hp 5 42 (by kernel_rfl)
     have d42_ := gD d42
     clear hp hvar
     (unfold opTo; go_simp; try simp only [opUpon])
     exact hK _ _ rfl hC bR
    refine oC ?_ ?_
    ·intro aa ww hC hp hvar KK hK
     have d43 : aa.tmps.getD 43 undef = .pointer (some ⟨g, off + j * 2, none⟩) := dep_of hp 6 43 (by kernel_rfl)
     have d43_ := gD d43
     clear hp hvar
     have cc := (hC.cell (p := ⟨g, off + j * 2, none⟩) hg).trans c1
     (unfold opTo; go_simp; try simp only [opUpon])
     exact hK _ _ rfl hC bR
    refine oC ?_ ?_
    ·intro aa ww hC hp hvar KK hK
     have d3 : aa.tmps.getD 3 undef = .pointer (some ⟨n0 + 1, 0, none⟩) := hvar 3 (slotOk_spec (by kernel_rfl))
     have d3_ := gD d3
     clear hp hvar
     (unfold opTo; go_simp; try simp only [opUpon])
     exact hK _ _ rfl hC bR
    refine oC ?_ ?_
    ·intro aa ww hC hp hvar KK hK
     have d45 : aa.tmps.getD 45 undef = .pointer (some ⟨n0 + 1, 5, none⟩) := dep_of hp 8 45 (by kernel_rfl)
     have d45_ := gD d45
     clear hp hvar
     have cc := (hB5.up hC).at 5 rfl
     (unfold opTo; go_simp; try simp only [opUpon])
     exact hK _ _ rfl hC bR
    refine oC ?_ ?_
    ·intro aa ww hC hp hvar KK hK
     have d44 : aa.tmps.getD 44 undef = .int .u32 x1 := dep_of hp 7 44 (by kernel_rfl)
     have d46 : aa.tmps.getD 46 undef = .int .u32 z1 := dep_of hp 9 46 (by kernel_rfl)
     have d44_ := gD d44
     have d46_ := gD d46
     clear hp hvar
     (unfold opTo; go_simp; try simp only [opUpon])
     exact hK _ _ rfl hC bR
    refine oC ?_ ?_
    ·intro aa ww hC hp hvar KK hK
     have d2 : aa.tmps.getD 2 undef = .pointer (some ⟨n0, 0, none⟩) := hvar 2 (slotOk_spec (by kernel_rfl))
     have d2_ := gD d2
     clear hp hvar
     (unfold opTo; go_simp; try simp only [opUpon])
     exact hK _ _ rfl hC bR
    refine oC ?_ ?_
    ·intro aa ww hC hp hvar KK hK
     have d48 : aa.tmps.getD 48 undef = .pointer (some ⟨n0, 8, none⟩) := dep_of hp 11 48 (by kernel_rfl)
     have d48_ := gD d48
     clear hp hvar
     (unfold opTo; go_simp; try simp only [opUpon])
     exact hK _ _ rfl hC bR
    refine oC ?_ ?_
    ·intro aa ww hC hp hvar KK hK
     have d49 : aa.tmps.getD 49 undef = .pointer (some ⟨n0, 11, none⟩) := dep_of hp 12 49 (by kernel_rfl)
     have d49_ := gD d49
     clear hp hvar
     have cc := (hA5.up hC).at 11 rfl
     (unfold opTo; go_simp; try simp only [opUpon])
     exact hK _ _ rfl hC bR
    refine oC ?_ ?_
    ·intro aa ww hC hp hvar KK hK
     have d6 : aa.tmps.getD 6 undef = .int .i64 j := hvar 6 (slotOk_spec (by kernel_rfl))
     have d6_ := gD d6
     clear hp hvar
     simp (config := { decide := true }) [go_sem, opTo, opUpon, *]
     exact hK _ _ rfl hC bR
    refine oC ?_ ?_
    ·intro aa ww hC hp hvar KK hK
     have d50 : aa.tmps.getD 50 undef = .slice (some ⟨g, off, none⟩) n c := dep_of hp 13 50 (by kernel_rfl)
     have d51 : aa.tmps.getD 51 undef = .int .i64 j := dep_of hp 14 51 (by kernel_rfl)
     have d50_ := gD d50
     have d51_ := gD d51
     clear hp hvar
     (unfold opTo; go_simp; try simp only [opUpon])
     exact hK _ _ rfl hC bR
    refine oC ?_ ?_
    ·intro aa ww hC hp hvar KK hK
     have d52 : aa.tmps.getD 52 undef = .pointer (some ⟨g, off + j * 2, none⟩) := dep_of hp 15 52 (by kernel_rfl)
     have d52_ := gD d52
     clear hp hvar
     (unfold opTo; go_simp; try simp only [opUpon])
     exact hK _ _ rfl hC bR
    refine oC ?_ ?_
    ·intro aa ww hC hp hvar KK hK
     have d53 : aa.tmps.getD 53 undef = .pointer (some ⟨g, off + j * 2 + 1, none⟩) := dep_of hp 16 53 (by kernel_rfl)
     have d53_ := gD d53
     clear hp hvar
     have cc := (hC.cell (p := ⟨g, off + j * 2 + 1, none⟩) hg).trans c2
     (unfold opTo; go_simp; try simp only [opUpon])
     exact hK _ _ rfl hC bR
    refine oC ?_ ?_
    ·intro aa ww hC hp hvar KK hK
     have d3 : aa.tmps.getD 3 undef = .pointer (some ⟨n0 + 1, 0, none⟩) := hvar 3 (slotOk_spec (by kernel_rfl))
     have d3_ := gD d3
     clear hp hvar
     (unfold opTo; go_simp; try simp only [opUpon])
     exact hK _ _ rfl hC bR
    refine oC ?_ ?_
    ·intro aa ww hC hp hvar KK hK
     have d55 : aa.tmps.getD 55 undef = .pointer (some ⟨n0 + 1, 5, none⟩) := dep_of hp 18 55 (by kernel_rfl)
     have d55_ := gD d55
     clear hp hvar
     have cc := (hB5.up hC).at 5 rfl
     (unfold opTo; go_simp; try simp only [opUpon])
     exact hK _ _ rfl hC bR
    refine oC ?_ ?_
    ·intro aa ww hC hp hvar KK hK
     have d54 : aa.tmps.getD 54 undef = .int .u32 x2 := dep_of hp 17 54 (by kernel_rfl)
     have d56 : aa.tmps.getD 56 undef = .int .u32 z1 := dep_of hp 19 56 (by kernel_rfl)
     have d54_ := gD d54
     have d56_ := gD d56
     clear hp hvar
     (unfold opTo; go_simp; try simp only [opUpon])
     exact hK _ _ rfl hC bR
    refine oC ?_ ?_
    ·intro aa ww hC hp hvar KK hK
     have d47 : aa.tmps.getD 47 undef = .int .u32 X1 := dep_of hp 10 47 (by kernel_rfl)
     have d57 : aa.tmps.getD 57 undef = .int .u32 X2 := dep_of hp 20 57 (by kernel_rfl)
     have d47_ := gD d47
     have d57_ := gD d57
     clear hp hvar
     (unfold opTo; go_simp; try simp only [opUpon])
     exact hK _ _ rfl hC bR
    refine oC ?_ ?_
    ·intro aa ww hC hp hvar KK hK
     have d58 : aa.tmps.getD 58 undef = .agg #[.int .u32 X1, .int .u32 X2] := dep_of hp 21 58 (by kernel_rfl)
     have d58_ := gD d58
     clear hp hvar
     (unfold opTo; go_simp; try simp only [opUpon])
     exact hK _ _ ⟨_, rfl, Box.new _ _ _⟩ (up_al _ hC) (up_al _ bR)
    exact obligs_nil
   ·
    intro vals ww hC hY
    have e0 : vals 0 = sl := hY 0 _ _ rfl rfl
    have e1 : vals 1 = .pointer (some ⟨n0, 8, none⟩) := hY 1 _ _ rfl rfl
    have e2 : vals 2 = .pointer (some ⟨n0, 11, none⟩) := hY 2 _ _ rfl rfl
    have e3 : vals 3 = .slice (some ⟨g, off, none⟩) n c := hY 3 _ _ rfl rfl
    have e4 : vals 4 = .int .i64 j := hY 4 _ _ rfl rfl
    have e5 : vals 5 = .pointer (some ⟨g, off + j * 2, none⟩) := hY 5 _ _ rfl rfl
    have e6 : vals 6 = .pointer (some ⟨g, off + j * 2, none⟩) := hY 6 _ _ rfl rfl
    have e7 : vals 7 = .int .u32 x1 := hY 7 _ _ rfl rfl
    have e8 : vals 8 = .pointer (some ⟨n0 + 1, 5, none⟩) := hY 8 _ _ rfl rfl
    have e9 : vals 9 = .int .u32 z1 := hY 9 _ _ rfl rfl
    have e10 : vals 10 = .int .u32 X1 := hY 10 _ _ rfl rfl
    have e11 : vals 11 = .pointer (some ⟨n0, 8, none⟩) := hY 11 _ _ rfl rfl
    have e12 : vals 12 = .pointer (some ⟨n0, 11, none⟩) := hY 12 _ _ rfl rfl
    have e13 : vals 13 = .slice (some ⟨g, off, none⟩) n c := hY 13 _ _ rfl rfl
    have e14 : vals 14 = .int .i64 j := hY 14 _ _ rfl rfl
    have e15 : vals 15 = .pointer (some ⟨g, off + j * 2, none⟩) := hY 15 _ _ rfl rfl
    have e16 : vals 16 = .pointer (some ⟨g, off + j * 2 + 1, none⟩) := hY 16 _ _ rfl rfl
    have e17 : vals 17 = .int .u32 x2 := hY 17 _ _ rfl rfl
    have e18 : vals 18 = .pointer (some ⟨n0 + 1, 5, none⟩) := hY 18 _ _ rfl rfl
    have e19 : vals 19 = .int .u32 z1 := hY 19 _ _ rfl rfl
    have e20 : vals 20 = .int .u32 X2 := hY 20 _ _ rfl rfl
    have e21 : vals 21 = .agg #[.int .u32 X1, .int .u32 X2] := hY 21 _ _ rfl rfl
    obtain ⟨g22, e22, hG⟩ : op.FrB X1 X2 (vals 22) ww := hY 22 _ _ rfl rfl
    clear hY
    simp only [putAll, Act.put, List.setIfInBounds_toArray, List.set_cons_zero, List.set_cons_succ, e0, e1, e2, e3, e4, e5, e6, e7, e8, e9, e10, e11, e12, e13, e14, e15, e16, e17, e18, e19, e20, e21, e22]
    clear e0 e1 e2 e3 e4 e5 e6 e7 e8 e9 e10 e11 e12 e13 e14 e15 e16 e17 e18 e19 e20 e21 e22
    have hO3 := hO5.up hC; have hu6 := hur.on hC; have g0 := hG.at 0 rfl; have g1 := hG.at 1 rfl; have hz3 := Nat.le_trans hzr hC.size; have hA6 := hA5.up hC; have hB6 := hB5.up hC; have hC6 := hC5.up hC
    go_wp2_with (at_builtin; refine op.app2 (.tmp 37) (.tmp 59) _ [(X1, X2)] hO3 rfl rfl rfl rfl (op.cells_new1 g0 g1) (by omega) (by simp) hz3 ?_; intro v4 w4 hO4 hb4; have hA7 := hA6.below hb4 (by omega); have hB7 := hB6.below hb4 (by omega); have hC7 := hC6.below hb4 (by omega); have hu7 := hu6.trans (hb4.mono (by omega)); have hz7 := Nat.le_trans hz3 hb4.size; clear hO3 hu6 g0 g1 hz3 hA6 hB6 hC6 hb4 hG)
    go_wp2
    go_roundw
    case rel => exact ⟨j + 1, _, by omega, rfl, by go_num, by rw [HX.out]; exact hO4, hA7, hB7, hC7, hu7, hz7⟩
    case measure => simp [RowKit.intOf]; omega
   ·
    intro vals ww hC hY
    have e0 : vals 0 = sl := hY 0 _ _ (by decide) rfl rfl
    have e2 : vals 2 = .pointer (some ⟨n0, 11, none⟩) := hY 2 _ _ (by decide) rfl rfl
    have e3 : vals 3 = .slice (some ⟨g, off, none⟩) n c := hY 3 _ _ (by decide) rfl rfl
    have e4 : vals 4 = .int .i64 j := hY 4 _ _ (by decide) rfl rfl
    have e5 : vals 5 = .pointer (some ⟨g, off + j * 2, none⟩) := hY 5 _ _ (by decide) rfl rfl
    have e6 : vals 6 = .pointer (some ⟨g, off + j * 2, none⟩) := hY 6 _ _ (by decide) rfl rfl
    have e7 : vals 7 = .int .u32 x1 := hY 7 _ _ (by decide) rfl rfl
    have e8 : vals 8 = .pointer (some ⟨n0 + 1, 5, none⟩) := hY 8 _ _ (by decide) rfl rfl
    have e9 : vals 9 = .int .u32 z1 := hY 9 _ _ (by decide) rfl rfl
    have e10 : vals 10 = .int .u32 X1 := hY 10 _ _ (by decide) rfl rfl
    have e11 : vals 11 = .pointer (some ⟨n0, 8, none⟩) := hY 11 _ _ (by decide) rfl rfl
    have e12 : vals 12 = .pointer (some ⟨n0, 11, none⟩) := hY 12 _ _ (by decide) rfl rfl
    have e13 : vals 13 = .slice (some ⟨g, off, none⟩) n c := hY 13 _ _ (by decide) rfl rfl
    have e14 : vals 14 = .int .i64 j := hY 14 _ _ (by decide) rfl rfl
    have e15 : vals 15 = .pointer (some ⟨g, off + j * 2, none⟩) := hY 15 _ _ (by decide) rfl rfl
    have e16 : vals 16 = .pointer (some ⟨g, off + j * 2 + 1, none⟩) := hY 16 _ _ (by decide) rfl rfl
    have e17 : vals 17 = .int .u32 x2 := hY 17 _ _ (by decide) rfl rfl
    have e18 : vals 18 = .pointer (some ⟨n0 + 1, 5, none⟩) := hY 18 _ _ (by decide) rfl rfl
    have e19 : vals 19 = .int .u32 z1 := hY 19 _ _ (by decide) rfl rfl
    have e20 : vals 20 = .int .u32 X2 := hY 20 _ _ (by decide) rfl rfl
    have e21 : vals 21 = .agg #[.int .u32 X1, .int .u32 X2] := hY 21 _ _ (by decide) rfl rfl
    obtain ⟨g22, e22, hG⟩ : op.FrB X1 X2 (vals 22) ww := hY 22 _ _ (by decide) rfl rfl
    clear hY
    simp only [putAll, Act.put, List.setIfInBounds_toArray, List.set_cons_zero, List.set_cons_succ, e0, e2, e3, e4, e5, e6, e7, e8, e9, e10, e11, e12, e13, e14, e15, e16, e17, e18, e19, e20, e21, e22]
    clear e0 e2 e3 e4 e5 e6 e7 e8 e9 e10 e11 e12 e13 e14 e15 e16 e17 e18 e19 e20 e21 e22
    have hO3 := hO5.up hC; have hu6 := hur.on hC; have g0 := hG.at 0 rfl; have g1 := hG.at 1 rfl; have hz3 := Nat.le_trans hzr hC.size; have hA6 := hA5.up hC; have hB6 := hB5.up hC; have hC6 := hC5.up hC
    go_wp2_with (at_builtin; refine op.app2 (.tmp 37) (.tmp 59) _ [(X1, X2)] hO3 rfl rfl rfl rfl (op.cells_new1 g0 g1) (by omega) (by simp) hz3 ?_; intro v4 w4 hO4 hb4; have hA7 := hA6.below hb4 (by omega); have hB7 := hB6.below hb4 (by omega); have hC7 := hC6.below hb4 (by omega); have hu7 := hu6.trans (hb4.mono (by omega)); have hz7 := Nat.le_trans hz3 hb4.size; clear hO3 hu6 g0 g1 hz3 hA6 hB6 hC6 hb4 hG)
    go_wp2
    go_roundw
    case rel => exact ⟨j + 1, _, by omega, rfl, by go_num, by rw [HX.out]; exact hO4, hA7, hB7, hC7, hu7, hz7⟩
    case measure => simp [RowKit.intOf]; omega
  ·obtain rfl : j = n := by omega
   rw [List.take_of_length_le (by rw [List.length_map, hn]; exact Nat.le_refl _)] at hO5
   obtain ⟨tb, htb⟩ : ∃ tb, tb = bl.map fun x => (om.addM x.1 z1, om.addM x.2 z1) := ⟨_, rfl⟩
   rw [← htb] at hO5
   have htl : tb.length = j := by rw [htb, List.length_map, hn]
   have HTB := Lib.hid htb
   clear htb wy wy'
   obtain ⟨A2, c2, rfl, _⟩ := hO5.rd
   rw [htl] at hO5 ⊢
   obtain ⟨r0, r1, r2, r3, r4, r5, r6, r7, r8, r9, r10, r11, r12, r13, r14, r15⟩ := bf16 hA5
   obtain ⟨v2, hv2⟩ : ∃ v2, v2 = om.addM v v1 := ⟨_, rfl⟩
   obtain ⟨e2, he2⟩ : ∃ e2, e2 = om.addM e e1 := ⟨_, rfl⟩
   have wv : IntKind.u32.wrap ((v : Int) + (v1 : Int)) = (v2 : Int) := by rw [hv2]; exact wrap32 _ _ hv hv1
   have wv' : ((v : Int) + (v1 : Int)) % 4294967296 = (v2 : Int) := by rw [hv2]; exact mod32 _ _
   have we : IntKind.u32.wrap ((e : Int) + (e1 : Int)) = (e2 : Int) := by rw [he2]; exact wrap32 _ _ he he1
   have we' : ((e : Int) + (e1 : Int)) % 4294967296 = (e2 : Int) := by rw [he2]; exact mod32 _ _
   obtain ⟨v3, hv3⟩ : ∃ v3, v3 = if tt then v2 else v := ⟨_, rfl⟩
   obtain ⟨e3, he3⟩ : ∃ e3, e3 = if tt then e2 else e := ⟨_, rfl⟩
   have HV := Lib.hid hv3
   have HE := Lib.hid he3
   rw [hv2] at HV
   rw [he2] at HE
   clear hv2 he2
   go_upto_region 12 with fail
   clear k0 k1 k2 k3 k4 k5 k6 k7 k8 k9 k10 k11 k12 k13 k14 k15 r0 r1 r2 r3 r4 r5 r6 r7 r8 r9 r10 r11 r12 r13 r14 r15 l0 l1 l2 l3 l4 l5 l6 l7 l8 l9 hlt
   have hAs11 : Box (wr.setCell ⟨n0, 11, none⟩ (.slice A2 j c2)) n0 [.int .u32 a1, .int .u16 p1, .int .u32 b1, .int .u16 q1, .int .u32 y2, .int .u32 z2, .int .u8 f, .int .u16 i, .int .u16 m, .int .i64 s, .bool k, .slice A2 j c2, .bool tt, .int .u32 v, .int .u32 e, .string S] := hA5.set 11 _
   have hBs11 := hB5.far (show n0 ≠ n0 + 1 by omega) (o := 11) (.slice A2 j c2)
   have hCs11 := hC5.far (show n0 ≠ n0 + 1 + 1 by omega) (o := 11) (.slice A2 j c2)
   have hOs11 := op.OwnK.grownB hO5 (show n0 < n0 + 1 + 1 + 1 by omega) 11 (.slice A2 j c2)
   have hus11 := up_set (o := 11) (v := .slice A2 j c2) hur hle
   generalize World.setCell _ ⟨n0, 11, none⟩ _ = ws11 at hAs11 hBs11 hCs11 hOs11 hus11 ⊢
   clear hA5 hB5 hC5 hO5 hur
   obtain ⟨k0, k1, k2, k3, k4, k5, k6, k7, k8, k9, k10, k11, k12, k13, k14, k15⟩ := bx16 hAs11; obtain ⟨r0, r1, r2, r3, r4, r5, r6, r7, r8, r9, r10, r11, r12, r13, r14, r15⟩ := bf16 hAs11; obtain ⟨l0, l1, l2, l3, l4, l5, l6, l7, l8, l9⟩ := bx10 hBs11
   go_upto_if 66 with fail
   go_cut [] (fun wc => Up w wc ∧ Box wc n0 [.int .u32 a1, .int .u16 p1, .int .u32 b1, .int .u16 q1, .int .u32 y2, .int .u32 z2, .int .u8 f, .int .u16 i, .int .u16 m, .int .i64 s, .bool k, .slice A2 j c2, .bool tt, .int .u32 v3, .int .u32 e3, .string S] ∧ Box wc (n0 + 1) [.int .u32 a1, .int .u16 p1, .int .u32 b1, .int .u16 q1, .int .u32 y1, .int .u32 z1, .int .u32 v1, .int .u32 e1, .int .i64 up, .int .i64 dn] ∧ Box wc (n0 + 1 + 1) [.int .u32 0, .int .u16 0, .int .u32 0, .int .u16 0, .int .u32 0, .int .u32 0, .int .u8 0, .int .u16 0, .int .u16 0, .int .i64 0, .bool false, .slice none 0 0, .bool false, .int .u32 0, .int .u32 0, .string { data := #[] }] ∧ op.OwnK wc (n0 + 1 + 1 + 1) (.slice A2 j c2) tb)
   case first =>
    cases tt
    ·obtain rfl : v3 = v := hv3
     obtain rfl : e3 = e := he3
     go_wp2
     go_meet
     exact ⟨hus11, hAs11, hBs11, hCs11, hOs11⟩
    ·obtain rfl : v3 = v2 := hv3
     obtain rfl : e3 = e2 := he3
     have hAs13 : Box (ws11.setCell ⟨n0, 13, none⟩ (.int .u32 v3)) n0 [.int .u32 a1, .int .u16 p1, .int .u32 b1, .int .u16 q1, .int .u32 y2, .int .u32 z2, .int .u8 f, .int .u16 i, .int .u16 m, .int .i64 s, .bool k, .slice A2 j c2, .bool true, .int .u32 v3, .int .u32 e, .string S] := hAs11.set 13 _
     have hBs13 := hBs11.far (show n0 ≠ n0 + 1 by omega) (o := 13) (.int .u32 v3)
     have hCs13 := hCs11.far (show n0 ≠ n0 + 1 + 1 by omega) (o := 13) (.int .u32 v3)
     have hOs13 := op.OwnK.grownB hOs11 (show n0 < n0 + 1 + 1 + 1 by omega) 13 (.int .u32 v3)
     have hus13 := up_set (o := 13) (v := .int .u32 v3) hus11 hle
     have hAs14 : Box ((ws11.setCell ⟨n0, 13, none⟩ (.int .u32 v3)).setCell ⟨n0, 14, none⟩ (.int .u32 e3)) n0 [.int .u32 a1, .int .u16 p1, .int .u32 b1, .int .u16 q1, .int .u32 y2, .int .u32 z2, .int .u8 f, .int .u16 i, .int .u16 m, .int .i64 s, .bool k, .slice A2 j c2, .bool true, .int .u32 v3, .int .u32 e3, .string S] := hAs13.set 14 _
     have hBs14 := hBs13.far (show n0 ≠ n0 + 1 by omega) (o := 14) (.int .u32 e3)
     have hCs14 := hCs13.far (show n0 ≠ n0 + 1 + 1 by omega) (o := 14) (.int .u32 e3)
     have hOs14 := op.OwnK.grownB hOs13 (show n0 < n0 + 1 + 1 + 1 by omega) 14 (.int .u32 e3)
     have hus14 := up_set (o := 14) (v := .int .u32 e3) hus13 hle
     go_wp2
     go_meet
     exact ⟨hus14, hAs14, hBs14, hCs14, hOs14⟩
   case rest =>
   obtain ⟨huc, hAc, hBc, hCc, hOc⟩ := hcut
   clear k0 k1 k2 k3 k4 k5 k6 k7 k8 k9 k10 k11 k12 k13 k14 k15 r0 r1 r2 r3 r4 r5 r6 r7 r8 r9 r10 r11 r12 r13 r14 r15 l0 l1 l2 l3 l4 l5 l6 l7 l8 l9 hv3 he3 wv wv' we we' hAs11 hBs11 hCs11 hOs11 hus11
   obtain ⟨k0, k1, k2, k3, k4, k5, k6, k7, k8, k9, k10, k11, k12, k13, k14, k15⟩ := bx16 hAc; obtain ⟨l0, l1, l2, l3, l4, l5, l6, l7, l8, l9⟩ := bx10 hBc; obtain ⟨r0, r1, r2, r3, r4, r5, r6, r7, r8, r9, r10, r11, r12, r13, r14, r15⟩ := bf16 hAc
   go_wp2_with fail
   refine (refWindow i up dn wc hi hup hdn ⟨a1, b1, p1, q1, y1, z1, v1, e1, up, dn⟩ rfl rfl).mono ?_
   rintro e_ wz ⟨rfl, rfl⟩
   obtain ⟨wn, hwn⟩ : ∃ wn, wn = winT ⟨a1, b1, p1, q1, y1, z1, v1, e1, up, dn⟩ i := ⟨_, rfl⟩
   rw [← hwn]
   have HW := Lib.hid hwn
   clear hwn
   go_upto_region 16 with fail
   clear k0 k1 k2 k3 k4 k5 k6 k7 k8 k9 k10 k11 k12 k13 k14 k15 r0 r1 r2 r3 r4 r5 r6 r7 r8 r9 r10 r11 r12 r13 r14 r15 l0 l1 l2 l3 l4 l5 l6 l7 l8 l9
   have hA8 : Box (wc.setCell ⟨n0, 7, none⟩ (.int .u16 wn)) n0 [.int .u32 a1, .int .u16 p1, .int .u32 b1, .int .u16 q1, .int .u32 y2, .int .u32 z2, .int .u8 f, .int .u16 wn, .int .u16 m, .int .i64 s, .bool k, .slice A2 j c2, .bool tt, .int .u32 v3, .int .u32 e3, .string S] := hAc.set 7 _
   have hC8 := hCc.far (show n0 ≠ n0 + 1 + 1 by omega) (o := 7) (.int .u16 wn)
   have hO8 := op.OwnK.grownB hOc (show n0 < n0 + 1 + 1 + 1 by omega) 7 (.int .u16 wn)
   have hu8 := up_set (o := 7) (v := .int .u16 wn) huc hle
   generalize World.setCell _ ⟨n0, 7, none⟩ _ = w8 at hA8 hC8 hO8 hu8 ⊢
   clear hAc hBc hCc hOc huc
   obtain ⟨k0, k1, k2, k3, k4, k5, k6, k7, k8, k9, k10, k11, k12, k13, k14, k15⟩ := bx16 hA8; obtain ⟨l0, l1, l2, l3, l4, l5, l6, l7, l8, l9, l10, l11, l12, l13, l14, l15⟩ := bx16 hC8; obtain ⟨r0, r1, r2, r3, r4, r5, r6, r7, r8, r9, r10, r11, r12, r13, r14, r15⟩ := bf16 hC8
   go_wp2_with fail
   have hC9 := put16 hC8 (.int .u32 a1) (.int .u16 p1) (.int .u32 b1) (.int .u16 q1) (.int .u32 y2) (.int .u32 z2) (.int .u8 f) (.int .u16 wn) (.int .u16 m) (.int .i64 s) (.bool k) (.slice A2 j c2) (.bool tt) (.int .u32 v3) (.int .u32 e3) (.string S)
   have hu9 := ups16 (b := n0 + 1 + 1) hu8 (by omega) (.int .u32 a1) (.int .u16 p1) (.int .u32 b1) (.int .u16 q1) (.int .u32 y2) (.int .u32 z2) (.int .u8 f) (.int .u16 wn) (.int .u16 m) (.int .i64 s) (.bool k) (.slice A2 j c2) (.bool tt) (.int .u32 v3) (.int .u32 e3) (.string S)
   have hO9 := own16 hO8 (show n0 + 1 + 1 < n0 + 1 + 1 + 1 by omega) (.int .u32 a1) (.int .u16 p1) (.int .u32 b1) (.int .u16 q1) (.int .u32 y2) (.int .u32 z2) (.int .u8 f) (.int .u16 wn) (.int .u16 m) (.int .i64 s) (.bool k) (.slice A2 j c2) (.bool tt) (.int .u32 v3) (.int .u32 e3) (.string S)
   generalize World.setCell _ ⟨n0 + 1 + 1, 15, none⟩ _ = w9 at hC9 hu9 hO9 ⊢
   clear k0 k1 k2 k3 k4 k5 k6 k7 k8 k9 k10 k11 k12 k13 k14 k15 r0 r1 r2 r3 r4 r5 r6 r7 r8 r9 r10 r11 r12 r13 r14 r15 l0 l1 l2 l3 l4 l5 l6 l7 l8 l9 l10 l11 l12 l13 l14 l15 hA8 hC8 hO8 hu8
   obtain ⟨l0, l1, l2, l3, l4, l5, l6, l7, l8, l9, l10, l11, l12, l13, l14, l15⟩ := bx16 hC9
   (try simp only [Exit.inBlock, Exit.then])
   refine bodyPost_ret (v := .agg #[.int .u32 a1, .int .u16 p1, .int .u32 b1, .int .u16 q1, .int .u32 y2, .int .u32 z2, .int .u8 f, .int .u16 wn, .int .u16 m, .int .i64 s, .bool k, .slice A2 j c2, .bool tt, .int .u32 v3, .int .u32 e3, .string S]) ?_ rfl ⟨_, rfl, ?_, hu9⟩
   ·rw [results_cell1 rfl]; go_simp
   ·obtain ⟨A3, c3, he3, hr3⟩ := hO9.rd
    rw [htl] at he3
    cases he3
    generalize hT : tS _ _ = T
    have s1 : T.sa = a1 := by rw [← hT]; rfl
    have s2 : T.sp = p1 := by rw [← hT]; rfl
    have s3 : T.da = b1 := by rw [← hT]; rfl
    have s4 : T.dp = q1 := by rw [← hT]; rfl
    have s5 : T.sq = y2 := by rw [← hT]; exact HY.out.symm
    have s6 : T.ak = z2 := by rw [← hT]; exact HZ.out.symm
    have s7 : T.fl = f := by rw [← hT]; rfl
    have s8 : T.wi = wn := by rw [← hT]; exact HW.out.symm
    have s9 : T.op = ⟨m, s, k, tb, tt, v3, e3⟩ := by rw [← hT, HTB.out, HV.out, HE.out]; rfl
    have s10 : T.dt = L S := by rw [← hT]; rfl
    exact ⟨A2, j, c2, by rw [s1, s2, s3, s4, s5, s6, s7, s8, s9, s10, tx_L], by rw [s9]; exact htl, by rw [s9]; exact hr3⟩
end Go.Proofs.YtafckmbgefbonaaGreat.pk

namespace Go.Proofs.YtafckmbgefbonaaGreat.pk
open RowKit Shelf Lib sm nb pm

theorem bytesN (n : Nat) (w : World) (hn : n ≤ 65535) :
  Calls Tryz.prog 50 #[.int .u16 n] w fun e w' => e = .returned (.string (tx (B16 n))) ∧ Up w w' := by
 have h := ip.refBytes (n : Int) w (by omega)
 rw [Int.toNat_natCast] at h
 exact h
theorem refLaid (x o : ByteArray) (a p b q y z f i m : Nat) (s : Int) (k : Bool) (A : Option Addr) (n c : Nat) (t : Bool) (v e : Nat) (S : ByteArray) (w : World) (g : Sg) (hx : x.size ≤ 1048576) (ho : 40 + o.size ≤ x.size)
  (ha : a ≤ 4294967295) (hb : b ≤ 4294967295) (hp : p ≤ 65535) (hq : q ≤ 65535) (hy : y ≤ 4294967295) (hz : z ≤ 4294967295) (hi : i ≤ 65535)
  (g1 : g.sa = a) (g2 : g.da = b) (g3 : g.sp = p) (g4 : g.dp = q) (g5 : g.sq = y) (g6 : g.ak = z) (g7 : g.wi = i) :
  Calls Tryz.prog 47 #[.string x, SA a p b q y z f i m s k A n c t v e S, .string o] w fun e_ w' => e_ = .returned (.string (tx (laid (L x) g (L o)))) ∧ Up w w' := by
 have z16 : ∀ n, (tx (B16 n)).size = 2 := fun n => by rw [tx_size]; rfl
 have z32 : ∀ n, (tx (B32 n)).size = 4 := fun n => by rw [tx_size]; rfl
 obtain ⟨P1, hP1⟩ : ∃ P : ByteArray, P = x.extract 0 12 := ⟨_, rfl⟩
 obtain ⟨P2, hP2⟩ : ∃ P : ByteArray, P = x.extract 32 34 := ⟨_, rfl⟩
 obtain ⟨P3, hP3⟩ : ∃ P : ByteArray, P = x.extract 36 40 := ⟨_, rfl⟩
 have zP1 : P1.size = 12 := by rw [hP1, ByteArray.size_extract]; omega
 have zP2 : P2.size = 2 := by rw [hP2, ByteArray.size_extract]; omega
 have zP3 : P3.size = 4 := by rw [hP3, ByteArray.size_extract]; omega
 obtain ⟨Y1, hY1⟩ : ∃ Y : ByteArray, Y = P1 ++ tx (B32 a) := ⟨_, rfl⟩
 have zY1 : Y1.size = 16 := by rw [hY1, ByteArray.size_append, zP1, z32]
 obtain ⟨Y2, hY2⟩ : ∃ Y : ByteArray, Y = Y1 ++ tx (B32 b) := ⟨_, rfl⟩
 have zY2 : Y2.size = 20 := by rw [hY2, ByteArray.size_append, zY1, z32]
 obtain ⟨Y3, hY3⟩ : ∃ Y : ByteArray, Y = Y2 ++ tx (B16 p) := ⟨_, rfl⟩
 have zY3 : Y3.size = 22 := by rw [hY3, ByteArray.size_append, zY2, z16]
 obtain ⟨Y4, hY4⟩ : ∃ Y : ByteArray, Y = Y3 ++ tx (B16 q) := ⟨_, rfl⟩
 have zY4 : Y4.size = 24 := by rw [hY4, ByteArray.size_append, zY3, z16]
 obtain ⟨Y5, hY5⟩ : ∃ Y : ByteArray, Y = Y4 ++ tx (B32 y) := ⟨_, rfl⟩
 have zY5 : Y5.size = 28 := by rw [hY5, ByteArray.size_append, zY4, z32]
 obtain ⟨Y6, hY6⟩ : ∃ Y : ByteArray, Y = Y5 ++ tx (B32 z) := ⟨_, rfl⟩
 have zY6 : Y6.size = 32 := by rw [hY6, ByteArray.size_append, zY5, z32]
 obtain ⟨Y7, hY7⟩ : ∃ Y : ByteArray, Y = Y6 ++ P2 := ⟨_, rfl⟩
 have zY7 : Y7.size = 34 := by rw [hY7, ByteArray.size_append, zY6, zP2]
 obtain ⟨Y8, hY8⟩ : ∃ Y : ByteArray, Y = Y7 ++ tx (B16 i) := ⟨_, rfl⟩
 have zY8 : Y8.size = 36 := by rw [hY8, ByteArray.size_append, zY7, z16]
 obtain ⟨Y9, hY9⟩ : ∃ Y : ByteArray, Y = Y8 ++ P3 := ⟨_, rfl⟩
 have zY9 : Y9.size = 40 := by rw [hY9, ByteArray.size_append, zY8, zP3]
 obtain ⟨Y10, hY10⟩ : ∃ Y : ByteArray, Y = Y9 ++ o := ⟨_, rfl⟩
 have zY10 : Y10.size = 40 + o.size := by rw [hY10, ByteArray.size_append, zY9]
 have HF : Hid (Y10 ++ x.extract (40 + o.size) x.size = tx (laid (L x) g (L o))) := by
  unfold Hid
  refine ba_eq ?_
  rw [L_tx, hY10, hY9, hY8, hY7, hY6, hY5, hY4, hY3, hY2, hY1, hP1, hP2, hP3]
  unfold laid
  rw [g1, g2, g3, g4, g5, g6, g7]
  simp only [L_app, L_tx, L_extract, List.append_assoc, L_len, List.drop_zero]
  trace_state
  rw [List.take_of_length_le (l := (L x).drop (40 + o.size)) (by rw [List.length_drop, L_len]; exact Nat.le_refl _)]
 have HP1 := Lib.hid hP1; clear hP1
 have HP2 := Lib.hid hP2; clear hP2
 have HP3 := Lib.hid hP3; clear hP3
 have HY1 := Lib.hid hY1; clear hY1
 have HY2 := Lib.hid hY2; clear hY2
 have HY3 := Lib.hid hY3; clear hY3
 have HY4 := Lib.hid hY4; clear hY4
 have HY5 := Lib.hid hY5; clear hY5
 have HY6 := Lib.hid hY6; clear hY6
 have HY7 := Lib.hid hY7; clear hY7
 have HY8 := Lib.hid hY8; clear hY8
 have HY9 := Lib.hid hY9; clear hY9
 have HY10 := Lib.hid hY10; clear hY10
 have i1 : (12 : Int) ≤ (x.size : Int) := by omega
 have i2 : (34 : Int) ≤ (x.size : Int) := by omega
 have i3 : (40 : Int) ≤ (x.size : Int) := by omega
 have i4 : ((40 + o.size : Nat) : Int) ≤ (x.size : Int) := by omega
 go_enter Tryz.func47, Tryz.ntmps47
 go_upto_region 1 with fail
 have hA := Box.new w #[.int .u32 a, .int .u16 p, .int .u32 b, .int .u16 q, .int .u32 y, .int .u32 z, .int .u8 f, .int .u16 i, .int .u16 m, .int .i64 s, .bool k, .slice A n c, .bool t, .int .u32 v, .int .u32 e, .string S] 30
 have hu := upM hA bR
 generalize World.alloc w _ = w0 at hA hu ⊢
 generalize w.heap.size = n0 at hA ⊢
 refine wp_region_rel2 (fun W => Up w0 W) (fun W W' => Up W W') (Ys [Det (.string x),
  Det (.string P1),
  Det (.pointer (some ⟨n0, 0, none⟩)),
  Det (.pointer (some ⟨n0, 0, none⟩)),
  Det (.int .u32 a),
  Det (.string (tx (B32 a))),
  Det (.string Y1),
  Det (.pointer (some ⟨n0, 2, none⟩)),
  Det (.pointer (some ⟨n0, 2, none⟩)),
  Det (.int .u32 b),
  Det (.string (tx (B32 b))),
  Det (.string Y2),
  Det (.string Y2)]) (by kernel_rfl) (by kernel_rfl) (up_dr bR) (Stable.ys ⟨Det.st _, Det.st _, Det.st _, Det.st _, Det.st _, Det.st _, Det.st _, Det.st _, Det.st _, Det.st _, Det.st _, Det.st _, Det.st _, trivial⟩) ?_ ?_
 ·
  refine oC ?_ ?_
  ·intro aa ww hC hdep hv KK hK
   have d0 : aa.tmps.getD 0 undef = .string x := hv 0 (slotOk_spec (by kernel_rfl))
   have d0_ := gD d0
   clear hdep hv
   simp (config := { decide := true }) [go_sem, opTo, opUpon, *]
   exact hK _ _ rfl hC bR
  refine oC ?_ ?_
  ·intro aa ww hC hdep hv KK hK
   have d8 : aa.tmps.getD 8 undef = .string x := dep_of hdep 0 8 (by kernel_rfl)
   have d8_ := gD d8
   clear hdep hv
   (unfold opTo; go_simp; try simp only [opUpon])
   rw [← HP1.out]
   exact hK _ _ rfl hC bR
  refine oC ?_ ?_
  ·intro aa ww hC hdep hv KK hK
   have d4 : aa.tmps.getD 4 undef = .pointer (some ⟨n0, 0, none⟩) := hv 4 (slotOk_spec (by kernel_rfl))
   have d4_ := gD d4
   clear hdep hv
   (unfold opTo; go_simp; try simp only [opUpon])
   exact hK _ _ rfl hC bR
  refine oC ?_ ?_
  ·intro aa ww hC hdep hv KK hK
   have d10 : aa.tmps.getD 10 undef = .pointer (some ⟨n0, 0, none⟩) := dep_of hdep 2 10 (by kernel_rfl)
   have d10_ := gD d10
   clear hdep hv
   (unfold opTo; go_simp; try simp only [opUpon])
   exact hK _ _ rfl hC bR
  refine oC ?_ ?_
  ·intro aa ww hC hdep hv KK hK
   have d11 : aa.tmps.getD 11 undef = .pointer (some ⟨n0, 0, none⟩) := dep_of hdep 3 11 (by kernel_rfl)
   have d11_ := gD d11
   clear hdep hv
   have hb := hA.up hC
   have c0 := hb.at 0 rfl
   simp (config := { decide := true }) [go_sem, opTo, opUpon, *]
   exact hK _ _ rfl hC bR
  refine oC ?_ ?_
  ·intro aa ww hC hdep hv KK hK
   have d12 : aa.tmps.getD 12 undef = .int .u32 a := dep_of hdep 4 12 (by kernel_rfl)
   have d12_ := gD d12
   clear hdep hv
   (unfold opTo; go_simp; try simp only [opUpon])
   exact (ip.refFour a _ ha).mono fun e w2 h => ⟨_, h.1, hK _ _ rfl (Up.on hC h.2) h.2⟩
  refine oC ?_ ?_
  ·intro aa ww hC hdep hv KK hK
   have d9 : aa.tmps.getD 9 undef = .string P1 := dep_of hdep 1 9 (by kernel_rfl)
   have d13 : aa.tmps.getD 13 undef = .string (tx (B32 a)) := dep_of hdep 5 13 (by kernel_rfl)
   have d9_ := gD d9
   have d13_ := gD d13
   clear hdep hv
   have hno : ¬ 9223372036854775807 < 12 + 4 := by omega
   (unfold opTo; go_simp; try simp only [opUpon])
   rw [← HY1.out]
   exact hK _ _ rfl hC bR
  refine oC ?_ ?_
  ·intro aa ww hC hdep hv KK hK
   have d4 : aa.tmps.getD 4 undef = .pointer (some ⟨n0, 0, none⟩) := hv 4 (slotOk_spec (by kernel_rfl))
   have d4_ := gD d4
   clear hdep hv
   (unfold opTo; go_simp; try simp only [opUpon])
   exact hK _ _ rfl hC bR
  refine oC ?_ ?_
  ·intro aa ww hC hdep hv KK hK
   have d15 : aa.tmps.getD 15 undef = .pointer (some ⟨n0, 2, none⟩) := dep_of hdep 7 15 (by kernel_rfl)
   have d15_ := gD d15
   clear hdep hv
   (unfold opTo; go_simp; try simp only [opUpon])
   exact hK _ _ rfl hC bR
  refine oC ?_ ?_
  ·intro aa ww hC hdep hv KK hK
   have d16 : aa.tmps.getD 16 undef = .pointer (some ⟨n0, 2, none⟩) := dep_of hdep 8 16 (by kernel_rfl)
   have d16_ := gD d16
   clear hdep hv
   have hb := hA.up hC
   have c2 := hb.at 2 rfl
   simp (config := { decide := true }) [go_sem, opTo, opUpon, *]
   exact hK _ _ rfl hC bR
  refine oC ?_ ?_
  ·intro aa ww hC hdep hv KK hK
   have d17 : aa.tmps.getD 17 undef = .int .u32 b := dep_of hdep 9 17 (by kernel_rfl)
   have d17_ := gD d17
   clear hdep hv
   (unfold opTo; go_simp; try simp only [opUpon])
   exact (ip.refFour b _ hb).mono fun e w2 h => ⟨_, h.1, hK _ _ rfl (Up.on hC h.2) h.2⟩
  refine oC ?_ ?_
  ·intro aa ww hC hdep hv KK hK
   have d14 : aa.tmps.getD 14 undef = .string Y1 := dep_of hdep 6 14 (by kernel_rfl)
   have d18 : aa.tmps.getD 18 undef = .string (tx (B32 b)) := dep_of hdep 10 18 (by kernel_rfl)
   have d14_ := gD d14
   have d18_ := gD d18
   clear hdep hv
   have hno : ¬ 9223372036854775807 < 16 + 4 := by omega
   (unfold opTo; go_simp; try simp only [opUpon])
   rw [← HY2.out]
   exact hK _ _ rfl hC bR
  refine oC ?_ ?_
  ·intro aa ww hC hdep hv KK hK
   have d19 : aa.tmps.getD 19 undef = .string Y2 := dep_of hdep 11 19 (by kernel_rfl)
   have d19_ := gD d19
   clear hdep hv
   simp (config := { decide := true }) [go_sem, opTo, opUpon, *]
   exact hK _ _ rfl hC bR
  exact obligs_nil
 intro vals ww hC hY
 have e0 : vals 0 = .string x := hY 0 _ _ rfl rfl
 have e1 : vals 1 = .string P1 := hY 1 _ _ rfl rfl
 have e2 : vals 2 = .pointer (some ⟨n0, 0, none⟩) := hY 2 _ _ rfl rfl
 have e3 : vals 3 = .pointer (some ⟨n0, 0, none⟩) := hY 3 _ _ rfl rfl
 have e4 : vals 4 = .int .u32 a := hY 4 _ _ rfl rfl
 have e5 : vals 5 = .string (tx (B32 a)) := hY 5 _ _ rfl rfl
 have e6 : vals 6 = .string Y1 := hY 6 _ _ rfl rfl
 have e7 : vals 7 = .pointer (some ⟨n0, 2, none⟩) := hY 7 _ _ rfl rfl
 have e8 : vals 8 = .pointer (some ⟨n0, 2, none⟩) := hY 8 _ _ rfl rfl
 have e9 : vals 9 = .int .u32 b := hY 9 _ _ rfl rfl
 have e10 : vals 10 = .string (tx (B32 b)) := hY 10 _ _ rfl rfl
 have e11 : vals 11 = .string Y2 := hY 11 _ _ rfl rfl
 have e12 : vals 12 = .string Y2 := hY 12 _ _ rfl rfl
 clear hY
 simp only [putAll, Act.put, List.setIfInBounds_toArray, List.set_cons_zero, List.set_cons_succ, e0, e1, e2, e3, e4, e5, e6, e7, e8, e9, e10, e11, e12]
 clear e0 e1 e2 e3 e4 e5 e6 e7 e8 e9 e10 e11 e12
 have hA1 := hA.up hC
 have hu1 := hu.on hC
 clear hA hu hC
 generalize ww = w1 at hA1 hu1 ⊢
 go_upto_region 2 with fail
 refine wp_region_rel2 (fun W => Up w1 W) (fun W W' => Up W W') (Ys [Det (.string Y2),
  Det (.pointer (some ⟨n0, 0, none⟩)),
  Det (.pointer (some ⟨n0, 1, none⟩)),
  Det (.int .u16 p),
  Det (.string (tx (B16 p))),
  Det (.string Y3),
  Det (.pointer (some ⟨n0, 2, none⟩)),
  Det (.pointer (some ⟨n0, 3, none⟩)),
  Det (.int .u16 q),
  Det (.string (tx (B16 q))),
  Det (.string Y4),
  Det (.pointer (some ⟨n0, 4, none⟩)),
  Det (.int .u32 y),
  Det (.string (tx (B32 y))),
  Det (.string Y5),
  Det (.pointer (some ⟨n0, 5, none⟩)),
  Det (.int .u32 z),
  Det (.string (tx (B32 z))),
  Det (.string Y6),
  Det (.string Y6)]) (by kernel_rfl) (by kernel_rfl) (up_dr bR) (Stable.ys ⟨Det.st _, Det.st _, Det.st _, Det.st _, Det.st _, Det.st _, Det.st _, Det.st _, Det.st _, Det.st _, Det.st _, Det.st _, Det.st _, Det.st _, Det.st _, Det.st _, Det.st _, Det.st _, Det.st _, Det.st _, trivial⟩) ?_ ?_
 ·
  refine oC ?_ ?_
  ·intro aa ww hC hdep hv KK hK
   have d7 : aa.tmps.getD 7 undef = .string Y2 := hv 7 (slotOk_spec (by kernel_rfl))
   have d7_ := gD d7
   clear hdep hv
   simp (config := { decide := true }) [go_sem, opTo, opUpon, *]
   exact hK _ _ rfl hC bR
  refine oC ?_ ?_
  ·intro aa ww hC hdep hv KK hK
   have d4 : aa.tmps.getD 4 undef = .pointer (some ⟨n0, 0, none⟩) := hv 4 (slotOk_spec (by kernel_rfl))
   have d4_ := gD d4
   clear hdep hv
   (unfold opTo; go_simp; try simp only [opUpon])
   exact hK _ _ rfl hC bR
  refine oC ?_ ?_
  ·intro aa ww hC hdep hv KK hK
   have d21 : aa.tmps.getD 21 undef = .pointer (some ⟨n0, 0, none⟩) := dep_of hdep 1 21 (by kernel_rfl)
   have d21_ := gD d21
   clear hdep hv
   (unfold opTo; go_simp; try simp only [opUpon])
   exact hK _ _ rfl hC bR
  refine oC ?_ ?_
  ·intro aa ww hC hdep hv KK hK
   have d22 : aa.tmps.getD 22 undef = .pointer (some ⟨n0, 1, none⟩) := dep_of hdep 2 22 (by kernel_rfl)
   have d22_ := gD d22
   clear hdep hv
   have hb := hA1.up hC
   have c1 := hb.at 1 rfl
   simp (config := { decide := true }) [go_sem, opTo, opUpon, *]
   exact hK _ _ rfl hC bR
  refine oC ?_ ?_
  ·intro aa ww hC hdep hv KK hK
   have d23 : aa.tmps.getD 23 undef = .int .u16 p := dep_of hdep 3 23 (by kernel_rfl)
   have d23_ := gD d23
   clear hdep hv
   (unfold opTo; go_simp; try simp only [opUpon])
   exact (bytesN p _ hp).mono fun e w2 h => ⟨_, h.1, hK _ _ rfl (Up.on hC h.2) h.2⟩
  refine oC ?_ ?_
  ·intro aa ww hC hdep hv KK hK
   have d20 : aa.tmps.getD 20 undef = .string Y2 := dep_of hdep 0 20 (by kernel_rfl)
   have d24 : aa.tmps.getD 24 undef = .string (tx (B16 p)) := dep_of hdep 4 24 (by kernel_rfl)
   have d20_ := gD d20
   have d24_ := gD d24
   clear hdep hv
   have hno : ¬ 9223372036854775807 < 20 + 2 := by omega
   (unfold opTo; go_simp; try simp only [opUpon])
   rw [← HY3.out]
   exact hK _ _ rfl hC bR
  refine oC ?_ ?_
  ·intro aa ww hC hdep hv KK hK
   have d4 : aa.tmps.getD 4 undef = .pointer (some ⟨n0, 0, none⟩) := hv 4 (slotOk_spec (by kernel_rfl))
   have d4_ := gD d4
   clear hdep hv
   (unfold opTo; go_simp; try simp only [opUpon])
   exact hK _ _ rfl hC bR
  refine oC ?_ ?_
  ·intro aa ww hC hdep hv KK hK
   have d26 : aa.tmps.getD 26 undef = .pointer (some ⟨n0, 2, none⟩) := dep_of hdep 6 26 (by kernel_rfl)
   have d26_ := gD d26
   clear hdep hv
   (unfold opTo; go_simp; try simp only [opUpon])
   exact hK _ _ rfl hC bR
  refine oC ?_ ?_
  ·intro aa ww hC hdep hv KK hK
   have d27 : aa.tmps.getD 27 undef = .pointer (some ⟨n0, 3, none⟩) := dep_of hdep 7 27 (by kernel_rfl)
   have d27_ := gD d27
   clear hdep hv
   have hb := hA1.up hC
   have c3 := hb.at 3 rfl
   simp (config := { decide := true }) [go_sem, opTo, opUpon, *]
   exact hK _ _ rfl hC bR
  refine oC ?_ ?_
  ·intro aa ww hC hdep hv KK hK
   have d28 : aa.tmps.getD 28 undef = .int .u16 q := dep_of hdep 8 28 (by kernel_rfl)
   have d28_ := gD d28
   clear hdep hv
   (unfold opTo; go_simp; try simp only [opUpon])
   exact (bytesN q _ hq).mono fun e w2 h => ⟨_, h.1, hK _ _ rfl (Up.on hC h.2) h.2⟩
  refine oC ?_ ?_
  ·intro aa ww hC hdep hv KK hK
   have d25 : aa.tmps.getD 25 undef = .string Y3 := dep_of hdep 5 25 (by kernel_rfl)
   have d29 : aa.tmps.getD 29 undef = .string (tx (B16 q)) := dep_of hdep 9 29 (by kernel_rfl)
   have d25_ := gD d25
   have d29_ := gD d29
   clear hdep hv
   have hno : ¬ 9223372036854775807 < 22 + 2 := by omega
   (unfold opTo; go_simp; try simp only [opUpon])
   rw [← HY4.out]
   exact hK _ _ rfl hC bR
  refine oC ?_ ?_
  ·intro aa ww hC hdep hv KK hK
   have d4 : aa.tmps.getD 4 undef = .pointer (some ⟨n0, 0, none⟩) := hv 4 (slotOk_spec (by kernel_rfl))
   have d4_ := gD d4
   clear hdep hv
   (unfold opTo; go_simp; try simp only [opUpon])
   exact hK _ _ rfl hC bR
  refine oC ?_ ?_
  ·intro aa ww hC hdep hv KK hK
   have d31 : aa.tmps.getD 31 undef = .pointer (some ⟨n0, 4, none⟩) := dep_of hdep 11 31 (by kernel_rfl)
   have d31_ := gD d31
   clear hdep hv
   have hb := hA1.up hC
   have c4 := hb.at 4 rfl
   simp (config := { decide := true }) [go_sem, opTo, opUpon, *]
   exact hK _ _ rfl hC bR
  refine oC ?_ ?_
  ·intro aa ww hC hdep hv KK hK
   have d32 : aa.tmps.getD 32 undef = .int .u32 y := dep_of hdep 12 32 (by kernel_rfl)
   have d32_ := gD d32
   clear hdep hv
   (unfold opTo; go_simp; try simp only [opUpon])
   exact (ip.refFour y _ hy).mono fun e w2 h => ⟨_, h.1, hK _ _ rfl (Up.on hC h.2) h.2⟩
  refine oC ?_ ?_
  ·intro aa ww hC hdep hv KK hK
   have d30 : aa.tmps.getD 30 undef = .string Y4 := dep_of hdep 10 30 (by kernel_rfl)
   have d33 : aa.tmps.getD 33 undef = .string (tx (B32 y)) := dep_of hdep 13 33 (by kernel_rfl)
   have d30_ := gD d30
   have d33_ := gD d33
   clear hdep hv
   have hno : ¬ 9223372036854775807 < 24 + 4 := by omega
   (unfold opTo; go_simp; try simp only [opUpon])
   rw [← HY5.out]
   exact hK _ _ rfl hC bR
  refine oC ?_ ?_
  ·intro aa ww hC hdep hv KK hK
   have d4 : aa.tmps.getD 4 undef = .pointer (some ⟨n0, 0, none⟩) := hv 4 (slotOk_spec (by kernel_rfl))
   have d4_ := gD d4
   clear hdep hv
   (unfold opTo; go_simp; try simp only [opUpon])
   exact hK _ _ rfl hC bR
  refine oC ?_ ?_
  ·intro aa ww hC hdep hv KK hK
   have d35 : aa.tmps.getD 35 undef = .pointer (some ⟨n0, 5, none⟩) := dep_of hdep 15 35 (by kernel_rfl)
   have d35_ := gD d35
   clear hdep hv
   have hb := hA1.up hC
   have c5 := hb.at 5 rfl
   simp (config := { decide := true }) [go_sem, opTo, opUpon, *]
   exact hK _ _ rfl hC bR
  refine oC ?_ ?_
  ·intro aa ww hC hdep hv KK hK
   have d36 : aa.tmps.getD 36 undef = .int .u32 z := dep_of hdep 16 36 (by kernel_rfl)
   have d36_ := gD d36
   clear hdep hv
   (unfold opTo; go_simp; try simp only [opUpon])
   exact (ip.refFour z _ hz).mono fun e w2 h => ⟨_, h.1, hK _ _ rfl (Up.on hC h.2) h.2⟩
  refine oC ?_ ?_
  ·intro aa ww hC hdep hv KK hK
   have d34 : aa.tmps.getD 34 undef = .string Y5 := dep_of hdep 14 34 (by kernel_rfl)
   have d37 : aa.tmps.getD 37 undef = .string (tx (B32 z)) := dep_of hdep 17 37 (by kernel_rfl)
   have d34_ := gD d34
   have d37_ := gD d37
   clear hdep hv
   have hno : ¬ 9223372036854775807 < 28 + 4 := by omega
   (unfold opTo; go_simp; try simp only [opUpon])
   rw [← HY6.out]
   exact hK _ _ rfl hC bR
  refine oC ?_ ?_
  ·intro aa ww hC hdep hv KK hK
   have d38 : aa.tmps.getD 38 undef = .string Y6 := dep_of hdep 18 38 (by kernel_rfl)
   have d38_ := gD d38
   clear hdep hv
   simp (config := { decide := true }) [go_sem, opTo, opUpon, *]
   exact hK _ _ rfl hC bR
  exact obligs_nil
 intro vals ww hC hY
 have e0 : vals 0 = .string Y2 := hY 0 _ _ rfl rfl
 have e1 : vals 1 = .pointer (some ⟨n0, 0, none⟩) := hY 1 _ _ rfl rfl
 have e2 : vals 2 = .pointer (some ⟨n0, 1, none⟩) := hY 2 _ _ rfl rfl
 have e3 : vals 3 = .int .u16 p := hY 3 _ _ rfl rfl
 have e4 : vals 4 = .string (tx (B16 p)) := hY 4 _ _ rfl rfl
 have e5 : vals 5 = .string Y3 := hY 5 _ _ rfl rfl
 have e6 : vals 6 = .pointer (some ⟨n0, 2, none⟩) := hY 6 _ _ rfl rfl
 have e7 : vals 7 = .pointer (some ⟨n0, 3, none⟩) := hY 7 _ _ rfl rfl
 have e8 : vals 8 = .int .u16 q := hY 8 _ _ rfl rfl
 have e9 : vals 9 = .string (tx (B16 q)) := hY 9 _ _ rfl rfl
 have e10 : vals 10 = .string Y4 := hY 10 _ _ rfl rfl
 have e11 : vals 11 = .pointer (some ⟨n0, 4, none⟩) := hY 11 _ _ rfl rfl
 have e12 : vals 12 = .int .u32 y := hY 12 _ _ rfl rfl
 have e13 : vals 13 = .string (tx (B32 y)) := hY 13 _ _ rfl rfl
 have e14 : vals 14 = .string Y5 := hY 14 _ _ rfl rfl
 have e15 : vals 15 = .pointer (some ⟨n0, 5, none⟩) := hY 15 _ _ rfl rfl
 have e16 : vals 16 = .int .u32 z := hY 16 _ _ rfl rfl
 have e17 : vals 17 = .string (tx (B32 z)) := hY 17 _ _ rfl rfl
 have e18 : vals 18 = .string Y6 := hY 18 _ _ rfl rfl
 have e19 : vals 19 = .string Y6 := hY 19 _ _ rfl rfl
 clear hY
 simp only [putAll, Act.put, List.setIfInBounds_toArray, List.set_cons_zero, List.set_cons_succ, e0, e1, e2, e3, e4, e5, e6, e7, e8, e9, e10, e11, e12, e13, e14, e15, e16, e17, e18, e19]
 clear e0 e1 e2 e3 e4 e5 e6 e7 e8 e9 e10 e11 e12 e13 e14 e15 e16 e17 e18 e19
 have hA2 := hA1.up hC
 have hu2 := hu1.on hC
 clear hA1 hu1 hC
 generalize ww = w2 at hA2 hu2 ⊢
 go_upto_region 3 with fail
 refine wp_region_rel2 (fun W => Up w2 W) (fun W W' => Up W W') (Ys [Det (.string Y6),
  Det (.string x),
  Det (.string P2),
  Det (.string Y7),
  Det (.pointer (some ⟨n0, 7, none⟩)),
  Det (.int .u16 i),
  Det (.string (tx (B16 i))),
  Det (.string Y8),
  Det (.string x),
  Det (.string P3),
  Det (.string Y9),
  Det (.string o),
  Det (.string Y10),
  Det (.string Y10)]) (by kernel_rfl) (by kernel_rfl) (up_dr bR) (Stable.ys ⟨Det.st _, Det.st _, Det.st _, Det.st _, Det.st _, Det.st _, Det.st _, Det.st _, Det.st _, Det.st _, Det.st _, Det.st _, Det.st _, Det.st _, trivial⟩) ?_ ?_
 ·
  refine oC ?_ ?_
  ·intro aa ww hC hdep hv KK hK
   have d7 : aa.tmps.getD 7 undef = .string Y6 := hv 7 (slotOk_spec (by kernel_rfl))
   have d7_ := gD d7
   clear hdep hv
   simp (config := { decide := true }) [go_sem, opTo, opUpon, *]
   exact hK _ _ rfl hC bR
  refine oC ?_ ?_
  ·intro aa ww hC hdep hv KK hK
   have d0 : aa.tmps.getD 0 undef = .string x := hv 0 (slotOk_spec (by kernel_rfl))
   have d0_ := gD d0
   clear hdep hv
   simp (config := { decide := true }) [go_sem, opTo, opUpon, *]
   exact hK _ _ rfl hC bR
  refine oC ?_ ?_
  ·intro aa ww hC hdep hv KK hK
   have d40 : aa.tmps.getD 40 undef = .string x := dep_of hdep 1 40 (by kernel_rfl)
   have d40_ := gD d40
   clear hdep hv
   (unfold opTo; go_simp; try simp only [opUpon])
   rw [← HP2.out]
   exact hK _ _ rfl hC bR
  refine oC ?_ ?_
  ·intro aa ww hC hdep hv KK hK
   have d39 : aa.tmps.getD 39 undef = .string Y6 := dep_of hdep 0 39 (by kernel_rfl)
   have d41 : aa.tmps.getD 41 undef = .string P2 := dep_of hdep 2 41 (by kernel_rfl)
   have d39_ := gD d39
   have d41_ := gD d41
   clear hdep hv
   have hno : ¬ 9223372036854775807 < 32 + 2 := by omega
   (unfold opTo; go_simp; try simp only [opUpon])
   rw [← HY7.out]
   exact hK _ _ rfl hC bR
  refine oC ?_ ?_
  ·intro aa ww hC hdep hv KK hK
   have d4 : aa.tmps.getD 4 undef = .pointer (some ⟨n0, 0, none⟩) := hv 4 (slotOk_spec (by kernel_rfl))
   have d4_ := gD d4
   clear hdep hv
   (unfold opTo; go_simp; try simp only [opUpon])
   exact hK _ _ rfl hC bR
  refine oC ?_ ?_
  ·intro aa ww hC hdep hv KK hK
   have d43 : aa.tmps.getD 43 undef = .pointer (some ⟨n0, 7, none⟩) := dep_of hdep 4 43 (by kernel_rfl)
   have d43_ := gD d43
   clear hdep hv
   have hb := hA2.up hC
   have c7 := hb.at 7 rfl
   simp (config := { decide := true }) [go_sem, opTo, opUpon, *]
   exact hK _ _ rfl hC bR
  refine oC ?_ ?_
  ·intro aa ww hC hdep hv KK hK
   have d44 : aa.tmps.getD 44 undef = .int .u16 i := dep_of hdep 5 44 (by kernel_rfl)
   have d44_ := gD d44
   clear hdep hv
   (unfold opTo; go_simp; try simp only [opUpon])
   exact (bytesN i _ hi).mono fun e w2 h => ⟨_, h.1, hK _ _ rfl (Up.on hC h.2) h.2⟩
  refine oC ?_ ?_
  ·intro aa ww hC hdep hv KK hK
   have d42 : aa.tmps.getD 42 undef = .string Y7 := dep_of hdep 3 42 (by kernel_rfl)
   have d45 : aa.tmps.getD 45 undef = .string (tx (B16 i)) := dep_of hdep 6 45 (by kernel_rfl)
   have d42_ := gD d42
   have d45_ := gD d45
   clear hdep hv
   have hno : ¬ 9223372036854775807 < 34 + 2 := by omega
   (unfold opTo; go_simp; try simp only [opUpon])
   rw [← HY8.out]
   exact hK _ _ rfl hC bR
  refine oC ?_ ?_
  ·intro aa ww hC hdep hv KK hK
   have d0 : aa.tmps.getD 0 undef = .string x := hv 0 (slotOk_spec (by kernel_rfl))
   have d0_ := gD d0
   clear hdep hv
   simp (config := { decide := true }) [go_sem, opTo, opUpon, *]
   exact hK _ _ rfl hC bR
  refine oC ?_ ?_
  ·intro aa ww hC hdep hv KK hK
   have d47 : aa.tmps.getD 47 undef = .string x := dep_of hdep 8 47 (by kernel_rfl)
   have d47_ := gD d47
   clear hdep hv
   (unfold opTo; go_simp; try simp only [opUpon])
   rw [← HP3.out]
   exact hK _ _ rfl hC bR
  refine oC ?_ ?_
  ·intro aa ww hC hdep hv KK hK
   have d46 : aa.tmps.getD 46 undef = .string Y8 := dep_of hdep 7 46 (by kernel_rfl)
   have d48 : aa.tmps.getD 48 undef = .string P3 := dep_of hdep 9 48 (by kernel_rfl)
   have d46_ := gD d46
   have d48_ := gD d48
   clear hdep hv
   have hno : ¬ 9223372036854775807 < 36 + 4 := by omega
   (unfold opTo; go_simp; try simp only [opUpon])
   rw [← HY9.out]
   exact hK _ _ rfl hC bR
  refine oC ?_ ?_
  ·intro aa ww hC hdep hv KK hK
   have d2 : aa.tmps.getD 2 undef = .string o := hv 2 (slotOk_spec (by kernel_rfl))
   have d2_ := gD d2
   clear hdep hv
   simp (config := { decide := true }) [go_sem, opTo, opUpon, *]
   exact hK _ _ rfl hC bR
  refine oC ?_ ?_
  ·intro aa ww hC hdep hv KK hK
   have d49 : aa.tmps.getD 49 undef = .string Y9 := dep_of hdep 10 49 (by kernel_rfl)
   have d50 : aa.tmps.getD 50 undef = .string o := dep_of hdep 11 50 (by kernel_rfl)
   have d49_ := gD d49
   have d50_ := gD d50
   clear hdep hv
   have hno : ¬ 9223372036854775807 < 40 + o.size := by omega
   (unfold opTo; go_simp; try simp only [opUpon])
   rw [← HY10.out]
   exact hK _ _ rfl hC bR
  refine oC ?_ ?_
  ·intro aa ww hC hdep hv KK hK
   have d51 : aa.tmps.getD 51 undef = .string Y10 := dep_of hdep 12 51 (by kernel_rfl)
   have d51_ := gD d51
   clear hdep hv
   simp (config := { decide := true }) [go_sem, opTo, opUpon, *]
   exact hK _ _ rfl hC bR
  exact obligs_nil
 intro vals ww hC hY
 have e0 : vals 0 = .string Y6 := hY 0 _ _ rfl rfl
 have e1 : vals 1 = .string x := hY 1 _ _ rfl rfl
 have e2 : vals 2 = .string P2 := hY 2 _ _ rfl rfl
 have e3 : vals 3 = .string Y7 := hY 3 _ _ rfl rfl
 have e4 : vals 4 = .pointer (some ⟨n0, 7, none⟩) := hY 4 _ _ rfl rfl
 have e5 : vals 5 = .int .u16 i := hY 5 _ _ rfl rfl
 have e6 : vals 6 = .string (tx (B16 i)) := hY 6 _ _ rfl rfl
 have e7 : vals 7 = .string Y8 := hY 7 _ _ rfl rfl
 have e8 : vals 8 = .string x := hY 8 _ _ rfl rfl
 have e9 : vals 9 = .string P3 := hY 9 _ _ rfl rfl
 have e10 : vals 10 = .string Y9 := hY 10 _ _ rfl rfl
 have e11 : vals 11 = .string o := hY 11 _ _ rfl rfl
 have e12 : vals 12 = .string Y10 := hY 12 _ _ rfl rfl
 have e13 : vals 13 = .string Y10 := hY 13 _ _ rfl rfl
 clear hY
 simp only [putAll, Act.put, List.setIfInBounds_toArray, List.set_cons_zero, List.set_cons_succ, e0, e1, e2, e3, e4, e5, e6, e7, e8, e9, e10, e11, e12, e13]
 clear e0 e1 e2 e3 e4 e5 e6 e7 e8 e9 e10 e11 e12 e13
 have hu3 := hu2.on hC
 clear hA2 hu2 hC
 go_wp2_with fail
 go_ret
 exact ⟨congrArg Ending.returned (congrArg Value.string HF.out), hu3⟩
end Go.Proofs.YtafckmbgefbonaaGreat.pk
