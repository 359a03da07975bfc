/- B H A: contracts, part 36. Condition: as each says. -/
import Derived.Test.YtafckmbgefbonaaKBHA29
import Derived.Test.YtafckmbgefbonaaKBHA35
set_option linter.unusedVariables false
set_option linter.unusedSimpArgs false
namespace Go.Proofs.Ytafckmbgefbonaa.pk
open Go.RowKit Go.Shelf Go.Lib Go.Proofs.Ytafckmbgefbonaa.sm Go.Proofs.Ytafckmbgefbonaa.nb Go.Proofs.Ytafckmbgefbonaa.pm
set_option linter.unusedVariables false

theorem put7at {W : World} {b : Nat} {x0 x1 x2 x3 x4 x5 x6 x7 x8 x9 x10 x11 x12 x13 x14 x15 : Value} (hB : Box W b [x0, x1, x2, x3, x4, x5, x6, x7, x8, x9, x10, x11, x12, x13, x14, x15]) (y0 y1 y2 y3 y4 y5 y6 : Value) : Box (((((((W.setCell ⟨b, 8, none⟩ y0).setCell ⟨b, 9, none⟩ y1).setCell ⟨b, 10, none⟩ y2).setCell ⟨b, 11, none⟩ y3).setCell ⟨b, 12, none⟩ y4).setCell ⟨b, 13, none⟩ y5).setCell ⟨b, 14, none⟩ y6) b [x0, x1, x2, x3, x4, x5, x6, x7, y0, y1, y2, y3, y4, y5, y6, x15] := (Box.set (Box.set (Box.set (Box.set (Box.set (Box.set (Box.set hB 8 y0) 9 y1) 10 y2) 11 y3) 12 y4) 13 y5) 14 y6)
theorem ups7at {w W : World} {b : Nat} (hu : Up w W) (hb : w.heap.size ≤ b) (y0 y1 y2 y3 y4 y5 y6 : Value) : Up w (((((((W.setCell ⟨b, 8, none⟩ y0).setCell ⟨b, 9, none⟩ y1).setCell ⟨b, 10, none⟩ y2).setCell ⟨b, 11, none⟩ y3).setCell ⟨b, 12, none⟩ y4).setCell ⟨b, 13, none⟩ y5).setCell ⟨b, 14, none⟩ y6) := (up_set (up_set (up_set (up_set (up_set (up_set (up_set hu hb) hb) hb) hb) hb) hb) hb)
theorem far7at {W : World} {b c : Nat} {vs : List Value} (h : Box W b vs) (hc : c ≠ b) (y0 y1 y2 y3 y4 y5 y6 : Value) : Box (((((((W.setCell ⟨c, 8, none⟩ y0).setCell ⟨c, 9, none⟩ y1).setCell ⟨c, 10, none⟩ y2).setCell ⟨c, 11, none⟩ y3).setCell ⟨c, 12, none⟩ y4).setCell ⟨c, 13, none⟩ y5).setCell ⟨c, 14, none⟩ y6) b vs := (Box.far (Box.far (Box.far (Box.far (Box.far (Box.far (Box.far h hc y0) hc y1) hc y2) hc y3) hc y4) hc y5) hc y6)
theorem tg7at {W : World} {A : Option Addr} {b : Nat} (h : TagB W A) (hf : ∀ ad, A = some ad → ad.block ≠ b) (y0 y1 y2 y3 y4 y5 y6 : Value) : TagB (((((((W.setCell ⟨b, 8, none⟩ y0).setCell ⟨b, 9, none⟩ y1).setCell ⟨b, 10, none⟩ y2).setCell ⟨b, 11, none⟩ y3).setCell ⟨b, 12, none⟩ y4).setCell ⟨b, 13, none⟩ y5).setCell ⟨b, 14, none⟩ y6) A := (TagB.set (TagB.set (TagB.set (TagB.set (TagB.set (TagB.set (TagB.set h hf 8 y0) hf 9 y1) hf 10 y2) hf 11 y3) hf 12 y4) hf 13 y5) hf 14 y6)
theorem tg16 {W : World} {A : Option Addr} {b : Nat} (h : TagB W A) (hf : ∀ ad, A = some ad → ad.block ≠ b) (y0 y1 y2 y3 y4 y5 y6 y7 y8 y9 y10 y11 y12 y13 y14 y15 : Value) : TagB ((((((((((((((((W.setCell ⟨b, 0, none⟩ y0).setCell ⟨b, 1, none⟩ y1).setCell ⟨b, 2, none⟩ y2).setCell ⟨b, 3, none⟩ y3).setCell ⟨b, 4, none⟩ y4).setCell ⟨b, 5, none⟩ y5).setCell ⟨b, 6, none⟩ y6).setCell ⟨b, 7, none⟩ y7).setCell ⟨b, 8, none⟩ y8).setCell ⟨b, 9, none⟩ y9).setCell ⟨b, 10, none⟩ y10).setCell ⟨b, 11, none⟩ y11).setCell ⟨b, 12, none⟩ y12).setCell ⟨b, 13, none⟩ y13).setCell ⟨b, 14, none⟩ y14).setCell ⟨b, 15, none⟩ y15) A := (TagB.set (TagB.set (TagB.set (TagB.set (TagB.set (TagB.set (TagB.set (TagB.set (TagB.set (TagB.set (TagB.set (TagB.set (TagB.set (TagB.set (TagB.set (TagB.set h hf 0 y0) hf 1 y1) hf 2 y2) hf 3 y3) hf 4 y4) hf 5 y5) hf 6 y6) hf 7 y7) hf 8 y8) hf 9 y9) hf 10 y10) hf 11 y11) hf 12 y12) hf 13 y13) hf 14 y14) hf 15 y15)
def SegT (W : World) (x : Value) (s : Sg) : Prop := ∃ A n c, x = SA s.sa s.sp s.da s.dp s.sq s.ak s.fl s.wi s.op.mss s.op.sc s.op.sk A n c s.op.tm s.op.va s.op.ec (tx s.dt) ∧ s.op.bl.length = n ∧ op.RdB W A s.op.bl ∧ TagB W A
theorem SegT.seg {w : World} {x : Value} {s : Sg} (h : SegT w x s) : SegV w x s := by
  obtain ⟨A, n, c, h1, h2, h3, _⟩ := h
  exact ⟨A, n, c, h1, h2, h3⟩
theorem SegT.up {w w' : World} {x : Value} {s : Sg} (h : SegT w x s) (u : Up w w') : SegT w' x s := by
  obtain ⟨A, n, c, h1, h2, h3, h4⟩ := h
  exact ⟨A, n, c, h1, h2, h3.up u, h4.up u⟩
theorem rd7at {W : World} {A : Option Addr} {xs : List (Nat × Nat)} {b : Nat} (h : op.RdB W A xs) (hf : ∀ ad, A = some ad → ad.block ≠ b) (y0 y1 y2 y3 y4 y5 y6 : Value) : op.RdB (((((((W.setCell ⟨b, 8, none⟩ y0).setCell ⟨b, 9, none⟩ y1).setCell ⟨b, 10, none⟩ y2).setCell ⟨b, 11, none⟩ y3).setCell ⟨b, 12, none⟩ y4).setCell ⟨b, 13, none⟩ y5).setCell ⟨b, 14, none⟩ y6) A xs := (rd_set (rd_set (rd_set (rd_set (rd_set (rd_set (rd_set h hf 8 y0) hf 9 y1) hf 10 y2) hf 11 y3) hf 12 y4) hf 13 y5) hf 14 y6)
set_option maxHeartbeats 8000000 in
set_option maxRecDepth 100000 in
theorem lturned0 (a p b q y z f i m : Nat) (s : Int) (k : Bool) (A : Option Addr) (n c : Nat) (t : Bool) (v e : Nat) (S : ByteArray) (bl : List (Nat × Nat)) (a1 p1 b1 q1 y1 z1 v1 e1 : Nat) (up dn : Int) (w : World)
    (h1 : f / 16 % 2 = 0) (hg : GoodS ⟨a, b, p, q, y, z, f, i, ⟨m, s, k, bl, t, v, e⟩, L S⟩) (hn : bl.length = n) (hr : op.RdB w A bl) (hy1 : y1 ≤ 4294967295) (hz1 : z1 ≤ 4294967295) (hv1 : v1 ≤ 4294967295) (he1 : e1 ≤ 4294967295) :
    Calls Try.prog 11 #[SA a p b q y z f i m s k A n c t v e S, SHV a1 p1 b1 q1 y1 z1 v1 e1 up dn] w fun e_ w' =>
      ∃ X, e_ = .returned X ∧ SegT w' X (tS ⟨a1, b1, p1, q1, y1, z1, v1, e1, up, dn⟩ ⟨a, b, p, q, y, z, f, i, ⟨m, s, k, bl, t, v, e⟩, L S⟩) ∧ Up w w' := by
  have hy : y ≤ 4294967295 := hg.1.2.2.2.2.1
  have hz : z ≤ 4294967295 := hg.1.2.2.2.2.2.1
  have hf : f ≤ 255 := hg.1.2.2.2.2.2.2.1
  have hi : i ≤ 65535 := hg.1.2.2.2.2.2.2.2.1
  have hop := hg.1.2.2.2.2.2.2.2.2
  have hzS : S.size ≤ 1048576 := hg.2.2.2
  have HO := Lib.hid (fun w (hr : op.RdB w A bl) => turnedOptsC m s k A n c t v e bl a1 p1 b1 q1 y1 z1 v1 e1 up dn w (by have := hop.2.2.1; unfold om.M32 at this; dsimp only at this; omega) (by have := hop.2.2.2; unfold om.M32 at this; dsimp only at this; omega) hop.2.1 hn (by have := hg.2.2.1; dsimp only at this; omega) hr hz1 hv1 he1)
  have HW := Lib.hid (fun w => turnedWindowC i a1 p1 b1 q1 y1 z1 v1 e1 up dn w hi)
  have HC := Lib.hid (fun w => tc.cloneC S w (by omega))
  obtain ⟨T, hT⟩ : ∃ T, T = tS ⟨a1, b1, p1, q1, y1, z1, v1, e1, up, dn⟩ ⟨a, b, p, q, y, z, f, i, ⟨m, s, k, bl, t, v, e⟩, L S⟩ := ⟨_, rfl⟩
  rw [← hT]
  have HT := Lib.hid hT
  clear hT hop
  obtain ⟨y2, hy2⟩ : ∃ y2, y2 = om.addM y y1 := ⟨_, rfl⟩
  have wy : IntKind.u32.wrap ((y : Int) + (y1 : Int)) = (y2 : Int) := by rw [hy2]; exact wrap32 _ _ hy hy1
  have wy' : ((y : Int) + (y1 : Int)) % 4294967296 = (y2 : Int) := by rw [hy2]; exact mod32 _ _
  have HY := Lib.hid hy2
  clear hy2
  have ha : acked f = false := by unfold acked; rw [h1]; rfl
  have HZ : Hid (z = if acked f = true then om.addM z z1 else z) := by rw [ha]; exact Lib.hid rfl
  have q16 := f16 f hf
  rw [h1] at q16
  have r16 : bits .and .u8 (f : Int) 16 = 0 := by rw [q16]; rfl
  have HR := Lib.hid hr
  clear hr q16 ha hg
  go_enter Try.func11, Try.ntmps11
  go_upto_region 1 with fail
  have hA := Box.new w #[.int .u32 a, .int .u16 p, .int .u32 b, .int .u16 q, .int .u32 y, .int .u32 z, .int .u8 f, .int .u16 i, .int .u16 m, .int .i64 s, .bool k, .slice A n c, .bool t, .int .u32 v, .int .u32 e, .string S] 30
  have hu := up_al (w := w) (.cells #[.int .u32 a, .int .u16 p, .int .u32 b, .int .u16 q, .int .u32 y, .int .u32 z, .int .u8 f, .int .u16 i, .int .u16 m, .int .i64 s, .bool k, .slice A n c, .bool t, .int .u32 v, .int .u32 e, .string S] 30) (Below.refl _ _)
  have hs0 : (w.alloc (.cells #[.int .u32 a, .int .u16 p, .int .u32 b, .int .u16 q, .int .u32 y, .int .u32 z, .int .u8 f, .int .u16 i, .int .u16 m, .int .i64 s, .bool k, .slice A n c, .bool t, .int .u32 v, .int .u32 e, .string S] 30)).heap.size = w.heap.size + 1 := World.size_alloc ..
  generalize (w.alloc (.cells #[.int .u32 a, .int .u16 p, .int .u32 b, .int .u16 q, .int .u32 y, .int .u32 z, .int .u8 f, .int .u16 i, .int .u16 m, .int .i64 s, .bool k, .slice A n c, .bool t, .int .u32 v, .int .u32 e, .string S] 30)) = w0 at hA hu hs0 ⊢
  obtain ⟨n0, hn0⟩ : ∃ n0, n0 = w.heap.size := ⟨_, rfl⟩
  have hle : w.heap.size ≤ n0 := by omega
  rw [← hn0] at hA hs0 ⊢
  clear hn0
  have hB := Box.new w0 #[.int .u32 a1, .int .u16 p1, .int .u32 b1, .int .u16 q1, .int .u32 y1, .int .u32 z1, .int .u32 v1, .int .u32 e1, .int .i64 up, .int .i64 dn] 32
  rw [hs0] at hB
  have hA1 := hA.alloc (.cells #[.int .u32 a1, .int .u16 p1, .int .u32 b1, .int .u16 q1, .int .u32 y1, .int .u32 z1, .int .u32 v1, .int .u32 e1, .int .i64 up, .int .i64 dn] 32)
  have hu1 := up_al (.cells #[.int .u32 a1, .int .u16 p1, .int .u32 b1, .int .u16 q1, .int .u32 y1, .int .u32 z1, .int .u32 v1, .int .u32 e1, .int .i64 up, .int .i64 dn] 32) hu
  have hs1 : (w0.alloc (.cells #[.int .u32 a1, .int .u16 p1, .int .u32 b1, .int .u16 q1, .int .u32 y1, .int .u32 z1, .int .u32 v1, .int .u32 e1, .int .i64 up, .int .i64 dn] 32)).heap.size = n0 + 1 + 1 := by rw [← hs0]; exact World.size_alloc ..
  generalize (w0.alloc (.cells #[.int .u32 a1, .int .u16 p1, .int .u32 b1, .int .u16 q1, .int .u32 y1, .int .u32 z1, .int .u32 v1, .int .u32 e1, .int .i64 up, .int .i64 dn] 32)) = w1 at hA1 hB hu1 hs1 ⊢
  clear hA hu hs0 w0
  have hC := Box.new w1 #[.int .u32 0, .int .u16 0, .int .u32 0, .int .u16 0, .int .u32 0, .int .u32 0, .int .u8 0, .int .u16 0, .int .u16 0, .int .i64 0, .bool false, .slice none 0 0, .bool false, .int .u32 0, .int .u32 0, .string { data := #[] }] 30
  rw [hs1] at hC
  have hA2 := hA1.alloc (.cells #[.int .u32 0, .int .u16 0, .int .u32 0, .int .u16 0, .int .u32 0, .int .u32 0, .int .u8 0, .int .u16 0, .int .u16 0, .int .i64 0, .bool false, .slice none 0 0, .bool false, .int .u32 0, .int .u32 0, .string { data := #[] }] 30)
  have hB2 := hB.alloc (.cells #[.int .u32 0, .int .u16 0, .int .u32 0, .int .u16 0, .int .u32 0, .int .u32 0, .int .u8 0, .int .u16 0, .int .u16 0, .int .i64 0, .bool false, .slice none 0 0, .bool false, .int .u32 0, .int .u32 0, .string { data := #[] }] 30)
  have hu2 := up_al (.cells #[.int .u32 0, .int .u16 0, .int .u32 0, .int .u16 0, .int .u32 0, .int .u32 0, .int .u8 0, .int .u16 0, .int .u16 0, .int .i64 0, .bool false, .slice none 0 0, .bool false, .int .u32 0, .int .u32 0, .string { data := #[] }] 30) hu1
  generalize (w1.alloc (.cells #[.int .u32 0, .int .u16 0, .int .u32 0, .int .u16 0, .int .u32 0, .int .u32 0, .int .u8 0, .int .u16 0, .int .u16 0, .int .i64 0, .bool false, .slice none 0 0, .bool false, .int .u32 0, .int .u32 0, .string { data := #[] }] 30)) = w2 at hA2 hB2 hC hu2 ⊢
  clear hA1 hB hu1 hs1 w1
  have k0 := hA2.at 0 rfl; have k1 := hA2.at 1 rfl; have k2 := hA2.at 2 rfl; have k3 := hA2.at 3 rfl; have r0 := hA2.fr 0 rfl; have r1 := hA2.fr 1 rfl; have r2 := hA2.fr 2 rfl; have r3 := hA2.fr 3 rfl; have l0 := hB2.at 0 rfl; have l1 := hB2.at 1 rfl; have l2 := hB2.at 2 rfl; have l3 := hB2.at 3 rfl
  go_region
  clear k0 k1 k2 k3 r0 r1 r2 r3 l0 l1 l2 l3
  have hA3 := ((((hA2.set 0 (.int .u32 a1)).set 1 (.int .u16 p1)).set 2 (.int .u32 b1)).set 3 (.int .u16 q1)).drew
  have hB3 := ((((hB2.far (show n0 ≠ n0 + 1 by omega) (o := 0) (.int .u32 a1)).far (show n0 ≠ n0 + 1 by omega) (o := 1) (.int .u16 p1)).far (show n0 ≠ n0 + 1 by omega) (o := 2) (.int .u32 b1)).far (show n0 ≠ n0 + 1 by omega) (o := 3) (.int .u16 q1)).drew
  have hC3 := ((((hC.far (show n0 ≠ n0 + 1 + 1 by omega) (o := 0) (.int .u32 a1)).far (show n0 ≠ n0 + 1 + 1 by omega) (o := 1) (.int .u16 p1)).far (show n0 ≠ n0 + 1 + 1 by omega) (o := 2) (.int .u32 b1)).far (show n0 ≠ n0 + 1 + 1 by omega) (o := 3) (.int .u16 q1)).drew
  have hu3 := up_dr (up_set (o := 3) (v := .int .u16 q1) (up_set (o := 2) (v := .int .u32 b1) (up_set (o := 1) (v := .int .u16 p1) (up_set (o := 0) (v := .int .u32 a1) hu2 hle) hle) hle) hle)
  generalize World.drew _ = w3 at hA3 hB3 hC3 hu3 ⊢
  clear hA2 hB2 hC hu2
  have hA31 : Box w3 n0 [.int .u32 a1, .int .u16 p1, .int .u32 b1, .int .u16 q1, .int .u32 y, .int .u32 z, .int .u8 f, .int .u16 i, .int .u16 m, .int .i64 s, .bool k, .slice A n c, .bool t, .int .u32 v, .int .u32 e, .string S] := hA3
  have k0 := hA31.at 0 rfl; have k1 := hA31.at 1 rfl; have k2 := hA31.at 2 rfl; have k3 := hA31.at 3 rfl; have k4 := hA31.at 4 rfl; have k5 := hA31.at 5 rfl; have k6 := hA31.at 6 rfl; have k7 := hA31.at 7 rfl; have k8 := hA31.at 8 rfl; have k9 := hA31.at 9 rfl; have k10 := hA31.at 10 rfl; have k11 := hA31.at 11 rfl; have k12 := hA31.at 12 rfl; have k13 := hA31.at 13 rfl; have k14 := hA31.at 14 rfl; have k15 := hA31.at 15 rfl; have r0 := hA31.fr 0 rfl; have r1 := hA31.fr 1 rfl; have r2 := hA31.fr 2 rfl; have r3 := hA31.fr 3 rfl; have r4 := hA31.fr 4 rfl; have r5 := hA31.fr 5 rfl; have r6 := hA31.fr 6 rfl; have r7 := hA31.fr 7 rfl; have r8 := hA31.fr 8 rfl; have r9 := hA31.fr 9 rfl; have r10 := hA31.fr 10 rfl; have r11 := hA31.fr 11 rfl; have r12 := hA31.fr 12 rfl; have r13 := hA31.fr 13 rfl; have r14 := hA31.fr 14 rfl; have r15 := hA31.fr 15 rfl; have l0 := hB3.at 0 rfl; have l1 := hB3.at 1 rfl; have l2 := hB3.at 2 rfl; have l3 := hB3.at 3 rfl; have l4 := hB3.at 4 rfl; have l5 := hB3.at 5 rfl; have l6 := hB3.at 6 rfl; have l7 := hB3.at 7 rfl; have l8 := hB3.at 8 rfl; have l9 := hB3.at 9 rfl
  go_upto_region 3 with fail
  clear k0 k1 k2 k3 k4 k5 k6 k7 k8 k9 k10 k11 k12 k13 k14 k15 r0 r1 r2 r3 r4 r5 r6 r7 r8 r9 r10 r11 r12 r13 r14 r15 l0 l1 l2 l3 l4 l5 l6 l7 l8 l9
  have hA4 : Box (w3.setCell ⟨n0, 4, none⟩ (.int .u32 y2)) n0 [.int .u32 a1, .int .u16 p1, .int .u32 b1, .int .u16 q1, .int .u32 y2, .int .u32 z, .int .u8 f, .int .u16 i, .int .u16 m, .int .i64 s, .bool k, .slice A n c, .bool t, .int .u32 v, .int .u32 e, .string S] := hA31.set 4 _
  have hB4 := hB3.far (show n0 ≠ n0 + 1 by omega) (o := 4) (.int .u32 y2)
  have hC4 := hC3.far (show n0 ≠ n0 + 1 + 1 by omega) (o := 4) (.int .u32 y2)
  have hu4 := up_set (o := 4) (v := .int .u32 y2) hu3 hle
  generalize World.setCell _ ⟨n0, 4, none⟩ _ = w4 at hA4 hB4 hC4 hu4 ⊢
  clear hA3 hA31 hB3 hC3 hu3 w3
  have k0 := hA4.at 0 rfl; have k1 := hA4.at 1 rfl; have k2 := hA4.at 2 rfl; have k3 := hA4.at 3 rfl; have k4 := hA4.at 4 rfl; have k5 := hA4.at 5 rfl; have k6 := hA4.at 6 rfl; have k7 := hA4.at 7 rfl; have k8 := hA4.at 8 rfl; have k9 := hA4.at 9 rfl; have k10 := hA4.at 10 rfl; have k11 := hA4.at 11 rfl; have k12 := hA4.at 12 rfl; have k13 := hA4.at 13 rfl; have k14 := hA4.at 14 rfl; have k15 := hA4.at 15 rfl; have l0 := hB4.at 0 rfl; have l1 := hB4.at 1 rfl; have l2 := hB4.at 2 rfl; have l3 := hB4.at 3 rfl; have l4 := hB4.at 4 rfl; have l5 := hB4.at 5 rfl; have l6 := hB4.at 6 rfl; have l7 := hB4.at 7 rfl; have l8 := hB4.at 8 rfl; have l9 := hB4.at 9 rfl
  go_upto_region 5 with fail
  clear k0 k1 k2 k3 k4 k5 k6 k7 k8 k9 k10 k11 k12 k13 k14 k15 l0 l1 l2 l3 l4 l5 l6 l7 l8 l9
  have hA5 := hA4; have hB5 := hB4; have hC5 := hC4; have hu5 := hu4
  clear hA4 hB4 hC4 hu4
  generalize w4 = w5 at hA5 hB5 hC5 hu5 ⊢
  have k0 := hA5.at 0 rfl; have k1 := hA5.at 1 rfl; have k2 := hA5.at 2 rfl; have k3 := hA5.at 3 rfl; have k4 := hA5.at 4 rfl; have k5 := hA5.at 5 rfl; have k6 := hA5.at 6 rfl; have k7 := hA5.at 7 rfl; have k8 := hA5.at 8 rfl; have k9 := hA5.at 9 rfl; have k10 := hA5.at 10 rfl; have k11 := hA5.at 11 rfl; have k12 := hA5.at 12 rfl; have k13 := hA5.at 13 rfl; have k14 := hA5.at 14 rfl; have k15 := hA5.at 15 rfl; have l0 := hB5.at 0 rfl; have l1 := hB5.at 1 rfl; have l2 := hB5.at 2 rfl; have l3 := hB5.at 3 rfl; have l4 := hB5.at 4 rfl; have l5 := hB5.at 5 rfl; have l6 := hB5.at 6 rfl; have l7 := hB5.at 7 rfl; have l8 := hB5.at 8 rfl; have l9 := hB5.at 9 rfl
  go_wp2_with fail
  refine (HW.out w5).mono ?_
  rintro e_ w6 ⟨rfl, hv6⟩
  obtain ⟨wn, hwn⟩ : ∃ wn, wn = winT ⟨a1, b1, p1, q1, y1, z1, v1, e1, up, dn⟩ i := ⟨_, rfl⟩
  rw [← hwn]
  have HWn := Lib.hid hwn
  clear hwn k0 k1 k2 k3 k4 k5 k6 k7 k8 k9 k10 k11 k12 k13 k14 k15 l0 l1 l2 l3 l4 l5 l6 l7 l8 l9 HW
  have hA6 := hA5.up hv6; have hB6 := hB5.up hv6; have hC6 := hC5.up hv6; have hu6 := hu5.on hv6
  clear hA5 hB5 hC5 hu5 hv6 w5
  have hA61 : Box w6 n0 [.int .u32 a1, .int .u16 p1, .int .u32 b1, .int .u16 q1, .int .u32 y2, .int .u32 z, .int .u8 f, .int .u16 i, .int .u16 m, .int .i64 s, .bool k, .slice A n c, .bool t, .int .u32 v, .int .u32 e, .string S] := hA6
  have k0 := hA61.at 0 rfl; have k1 := hA61.at 1 rfl; have k2 := hA61.at 2 rfl; have k3 := hA61.at 3 rfl; have k4 := hA61.at 4 rfl; have k5 := hA61.at 5 rfl; have k6 := hA61.at 6 rfl; have k7 := hA61.at 7 rfl; have k8 := hA61.at 8 rfl; have k9 := hA61.at 9 rfl; have k10 := hA61.at 10 rfl; have k11 := hA61.at 11 rfl; have k12 := hA61.at 12 rfl; have k13 := hA61.at 13 rfl; have k14 := hA61.at 14 rfl; have k15 := hA61.at 15 rfl; have r0 := hA61.fr 0 rfl; have r1 := hA61.fr 1 rfl; have r2 := hA61.fr 2 rfl; have r3 := hA61.fr 3 rfl; have r4 := hA61.fr 4 rfl; have r5 := hA61.fr 5 rfl; have r6 := hA61.fr 6 rfl; have r7 := hA61.fr 7 rfl; have r8 := hA61.fr 8 rfl; have r9 := hA61.fr 9 rfl; have r10 := hA61.fr 10 rfl; have r11 := hA61.fr 11 rfl; have r12 := hA61.fr 12 rfl; have r13 := hA61.fr 13 rfl; have r14 := hA61.fr 14 rfl; have r15 := hA61.fr 15 rfl; have l0 := hB6.at 0 rfl; have l1 := hB6.at 1 rfl; have l2 := hB6.at 2 rfl; have l3 := hB6.at 3 rfl; have l4 := hB6.at 4 rfl; have l5 := hB6.at 5 rfl; have l6 := hB6.at 6 rfl; have l7 := hB6.at 7 rfl; have l8 := hB6.at 8 rfl; have l9 := hB6.at 9 rfl
  go_upto_region 6 with fail
  clear k0 k1 k2 k3 k4 k5 k6 k7 k8 k9 k10 k11 k12 k13 k14 k15 r0 r1 r2 r3 r4 r5 r6 r7 r8 r9 r10 r11 r12 r13 r14 r15 l0 l1 l2 l3 l4 l5 l6 l7 l8 l9
  have hA7 : Box (w6.setCell ⟨n0, 7, none⟩ (.int .u16 wn)) n0 [.int .u32 a1, .int .u16 p1, .int .u32 b1, .int .u16 q1, .int .u32 y2, .int .u32 z, .int .u8 f, .int .u16 wn, .int .u16 m, .int .i64 s, .bool k, .slice A n c, .bool t, .int .u32 v, .int .u32 e, .string S] := hA61.set 7 _
  have hB7 := hB6.far (show n0 ≠ n0 + 1 by omega) (o := 7) (.int .u16 wn)
  have hC7 := hC6.far (show n0 ≠ n0 + 1 + 1 by omega) (o := 7) (.int .u16 wn)
  have hu7 := up_set (o := 7) (v := .int .u16 wn) hu6 hle
  generalize World.setCell _ ⟨n0, 7, none⟩ _ = w7 at hA7 hB7 hC7 hu7 ⊢
  clear hA6 hA61 hB6 hC6 hu6 w6
  have k0 := hA7.at 0 rfl; have k1 := hA7.at 1 rfl; have k2 := hA7.at 2 rfl; have k3 := hA7.at 3 rfl; have k4 := hA7.at 4 rfl; have k5 := hA7.at 5 rfl; have k6 := hA7.at 6 rfl; have k7 := hA7.at 7 rfl; have k8 := hA7.at 8 rfl; have k9 := hA7.at 9 rfl; have k10 := hA7.at 10 rfl; have k11 := hA7.at 11 rfl; have k12 := hA7.at 12 rfl; have k13 := hA7.at 13 rfl; have k14 := hA7.at 14 rfl; have k15 := hA7.at 15 rfl; have l0 := hB7.at 0 rfl; have l1 := hB7.at 1 rfl; have l2 := hB7.at 2 rfl; have l3 := hB7.at 3 rfl; have l4 := hB7.at 4 rfl; have l5 := hB7.at 5 rfl; have l6 := hB7.at 6 rfl; have l7 := hB7.at 7 rfl; have l8 := hB7.at 8 rfl; have l9 := hB7.at 9 rfl
  have hr7 := HR.out.up hu7
  go_wp2_with fail
  refine (HO.out w7 hr7).mono ?_
  rintro e_ w8 ⟨Xo, rfl, ⟨A2, n2, c2, rfl, hl2, hr8, hfar, hg8⟩, hv8⟩
  have hlt := hC7.1
  have hfar0 : ∀ ad, A2 = some ad → ad.block ≠ n0 := fun ad e => by have := hfar ad e; omega
  have hfar2 : ∀ ad, A2 = some ad → ad.block ≠ n0 + 1 + 1 := fun ad e => by have := hfar ad e; omega
  clear hfar hr7 k0 k1 k2 k3 k4 k5 k6 k7 k8 k9 k10 k11 k12 k13 k14 k15 l0 l1 l2 l3 l4 l5 l6 l7 l8 l9 HO HR hlt
  have hA8 := hA7.up hv8; have hB8 := hB7.up hv8; have hC8 := hC7.up hv8; have hu8 := hu7.on hv8
  clear hA7 hB7 hC7 hu7 hv8 w7
  obtain ⟨Y, hY⟩ : ∃ Y, Y = om.tOp z1 v1 e1 ⟨m, s, k, bl, t, v, e⟩ := ⟨_, rfl⟩
  rw [← hY] at hl2 hr8 ⊢
  have HYo := Lib.hid hY
  clear hY
  obtain ⟨m', s', k', bl', t', v', e'⟩ := Y
  dsimp only at hl2 hr8 ⊢
  have k0 := hA8.at 0 rfl; have k1 := hA8.at 1 rfl; have k2 := hA8.at 2 rfl; have k3 := hA8.at 3 rfl; have k4 := hA8.at 4 rfl; have k5 := hA8.at 5 rfl; have k6 := hA8.at 6 rfl; have k7 := hA8.at 7 rfl; have k8 := hA8.at 8 rfl; have k9 := hA8.at 9 rfl; have k10 := hA8.at 10 rfl; have k11 := hA8.at 11 rfl; have k12 := hA8.at 12 rfl; have k13 := hA8.at 13 rfl; have k14 := hA8.at 14 rfl; have k15 := hA8.at 15 rfl; have r0 := hA8.fr 0 rfl; have r1 := hA8.fr 1 rfl; have r2 := hA8.fr 2 rfl; have r3 := hA8.fr 3 rfl; have r4 := hA8.fr 4 rfl; have r5 := hA8.fr 5 rfl; have r6 := hA8.fr 6 rfl; have r7 := hA8.fr 7 rfl; have r8 := hA8.fr 8 rfl; have r9 := hA8.fr 9 rfl; have r10 := hA8.fr 10 rfl; have r11 := hA8.fr 11 rfl; have r12 := hA8.fr 12 rfl; have r13 := hA8.fr 13 rfl; have r14 := hA8.fr 14 rfl; have r15 := hA8.fr 15 rfl
  go_upto_region 7 with fail
  clear k0 k1 k2 k3 k4 k5 k6 k7 k8 k9 k10 k11 k12 k13 k14 k15 r0 r1 r2 r3 r4 r5 r6 r7 r8 r9 r10 r11 r12 r13 r14 r15
  have hA9 := put7at hA8 (.int .u16 m') (.int .i64 s') (.bool k') (.slice A2 n2 c2) (.bool t') (.int .u32 v') (.int .u32 e')
  have hC9 := far7at hC8 (show n0 ≠ n0 + 1 + 1 by omega) (.int .u16 m') (.int .i64 s') (.bool k') (.slice A2 n2 c2) (.bool t') (.int .u32 v') (.int .u32 e')
  have hu9 := ups7at (b := n0) hu8 hle (.int .u16 m') (.int .i64 s') (.bool k') (.slice A2 n2 c2) (.bool t') (.int .u32 v') (.int .u32 e')
  have hr9 := rd7at hr8 hfar0 (.int .u16 m') (.int .i64 s') (.bool k') (.slice A2 n2 c2) (.bool t') (.int .u32 v') (.int .u32 e')
  have hg9 := tg7at hg8 hfar0 (.int .u16 m') (.int .i64 s') (.bool k') (.slice A2 n2 c2) (.bool t') (.int .u32 v') (.int .u32 e')
  generalize World.setCell _ ⟨n0, 14, none⟩ _ = w9 at hA9 hC9 hu9 hr9 hg9 ⊢
  clear hA8 hB8 hC8 hu8 hr8 hg8 w8
  have k0 := hA9.at 0 rfl; have k1 := hA9.at 1 rfl; have k2 := hA9.at 2 rfl; have k3 := hA9.at 3 rfl; have k4 := hA9.at 4 rfl; have k5 := hA9.at 5 rfl; have k6 := hA9.at 6 rfl; have k7 := hA9.at 7 rfl; have k8 := hA9.at 8 rfl; have k9 := hA9.at 9 rfl; have k10 := hA9.at 10 rfl; have k11 := hA9.at 11 rfl; have k12 := hA9.at 12 rfl; have k13 := hA9.at 13 rfl; have k14 := hA9.at 14 rfl; have k15 := hA9.at 15 rfl
  go_wp2_with fail
  refine (HC.out w9).mono ?_
  rintro e_ w10 ⟨rfl, hv10⟩
  clear HC k0 k1 k2 k3 k4 k5 k6 k7 k8 k9 k10 k11 k12 k13 k14 k15 
  have hA10 := hA9.up hv10; have hC10 := hC9.up hv10; have hu10 := hu9.on hv10; have hr10 := hr9.up hv10; have hg10 := hg9.up hv10
  clear hA9 hC9 hu9 hr9 hg9 hv10 w9
  have k0 := hA10.at 0 rfl; have k1 := hA10.at 1 rfl; have k2 := hA10.at 2 rfl; have k3 := hA10.at 3 rfl; have k4 := hA10.at 4 rfl; have k5 := hA10.at 5 rfl; have k6 := hA10.at 6 rfl; have k7 := hA10.at 7 rfl; have k8 := hA10.at 8 rfl; have k9 := hA10.at 9 rfl; have k10 := hA10.at 10 rfl; have k11 := hA10.at 11 rfl; have k12 := hA10.at 12 rfl; have k13 := hA10.at 13 rfl; have k14 := hA10.at 14 rfl; have k15 := hA10.at 15 rfl; have r0 := hA10.fr 0 rfl; have r1 := hA10.fr 1 rfl; have r2 := hA10.fr 2 rfl; have r3 := hA10.fr 3 rfl; have r4 := hA10.fr 4 rfl; have r5 := hA10.fr 5 rfl; have r6 := hA10.fr 6 rfl; have r7 := hA10.fr 7 rfl; have r8 := hA10.fr 8 rfl; have r9 := hA10.fr 9 rfl; have r10 := hA10.fr 10 rfl; have r11 := hA10.fr 11 rfl; have r12 := hA10.fr 12 rfl; have r13 := hA10.fr 13 rfl; have r14 := hA10.fr 14 rfl; have r15 := hA10.fr 15 rfl
  go_upto_region 8 with fail
  clear k0 k1 k2 k3 k4 k5 k6 k7 k8 k9 k10 k11 k12 k13 k14 k15 r0 r1 r2 r3 r4 r5 r6 r7 r8 r9 r10 r11 r12 r13 r14 r15
  have hA11 : Box (w10.setCell ⟨n0, 15, none⟩ (.string S)) n0 [.int .u32 a1, .int .u16 p1, .int .u32 b1, .int .u16 q1, .int .u32 y2, .int .u32 z, .int .u8 f, .int .u16 wn, .int .u16 m', .int .i64 s', .bool k', .slice A2 n2 c2, .bool t', .int .u32 v', .int .u32 e', .string S] := hA10.set 15 _
  have hC11 := hC10.far (show n0 ≠ n0 + 1 + 1 by omega) (o := 15) (.string S)
  have hu11 := up_set (o := 15) (v := .string S) hu10 hle
  have hr11 := rd_set hr10 hfar0 15 (.string S)
  have hg11 := hg10.set hfar0 15 (.string S)
  generalize World.setCell _ ⟨n0, 15, none⟩ _ = w11 at hA11 hC11 hu11 hr11 hg11 ⊢
  clear hA10 hC10 hu10 hr10 hg10 w10
  have k0 := hA11.at 0 rfl; have k1 := hA11.at 1 rfl; have k2 := hA11.at 2 rfl; have k3 := hA11.at 3 rfl; have k4 := hA11.at 4 rfl; have k5 := hA11.at 5 rfl; have k6 := hA11.at 6 rfl; have k7 := hA11.at 7 rfl; have k8 := hA11.at 8 rfl; have k9 := hA11.at 9 rfl; have k10 := hA11.at 10 rfl; have k11 := hA11.at 11 rfl; have k12 := hA11.at 12 rfl; have k13 := hA11.at 13 rfl; have k14 := hA11.at 14 rfl; have k15 := hA11.at 15 rfl; have l0 := hC11.at 0 rfl; have l1 := hC11.at 1 rfl; have l2 := hC11.at 2 rfl; have l3 := hC11.at 3 rfl; have l4 := hC11.at 4 rfl; have l5 := hC11.at 5 rfl; have l6 := hC11.at 6 rfl; have l7 := hC11.at 7 rfl; have l8 := hC11.at 8 rfl; have l9 := hC11.at 9 rfl; have l10 := hC11.at 10 rfl; have l11 := hC11.at 11 rfl; have l12 := hC11.at 12 rfl; have l13 := hC11.at 13 rfl; have l14 := hC11.at 14 rfl; have l15 := hC11.at 15 rfl; have r0 := hC11.fr 0 rfl; have r1 := hC11.fr 1 rfl; have r2 := hC11.fr 2 rfl; have r3 := hC11.fr 3 rfl; have r4 := hC11.fr 4 rfl; have r5 := hC11.fr 5 rfl; have r6 := hC11.fr 6 rfl; have r7 := hC11.fr 7 rfl; have r8 := hC11.fr 8 rfl; have r9 := hC11.fr 9 rfl; have r10 := hC11.fr 10 rfl; have r11 := hC11.fr 11 rfl; have r12 := hC11.fr 12 rfl; have r13 := hC11.fr 13 rfl; have r14 := hC11.fr 14 rfl; have r15 := hC11.fr 15 rfl
  go_wp2_with fail
  have hC12 := put16 hC11 (.int .u32 a1) (.int .u16 p1) (.int .u32 b1) (.int .u16 q1) (.int .u32 y2) (.int .u32 z) (.int .u8 f) (.int .u16 wn) (.int .u16 m') (.int .i64 s') (.bool k') (.slice A2 n2 c2) (.bool t') (.int .u32 v') (.int .u32 e') (.string S)
  have hu12 := ups16 (b := n0 + 1 + 1) hu11 (by omega) (.int .u32 a1) (.int .u16 p1) (.int .u32 b1) (.int .u16 q1) (.int .u32 y2) (.int .u32 z) (.int .u8 f) (.int .u16 wn) (.int .u16 m') (.int .i64 s') (.bool k') (.slice A2 n2 c2) (.bool t') (.int .u32 v') (.int .u32 e') (.string S)
  have hr12 := rd16 hr11 hfar2 (.int .u32 a1) (.int .u16 p1) (.int .u32 b1) (.int .u16 q1) (.int .u32 y2) (.int .u32 z) (.int .u8 f) (.int .u16 wn) (.int .u16 m') (.int .i64 s') (.bool k') (.slice A2 n2 c2) (.bool t') (.int .u32 v') (.int .u32 e') (.string S)
  have hg12 := tg16 hg11 hfar2 (.int .u32 a1) (.int .u16 p1) (.int .u32 b1) (.int .u16 q1) (.int .u32 y2) (.int .u32 z) (.int .u8 f) (.int .u16 wn) (.int .u16 m') (.int .i64 s') (.bool k') (.slice A2 n2 c2) (.bool t') (.int .u32 v') (.int .u32 e') (.string S)
  generalize World.setCell _ ⟨n0 + 1 + 1, 15, none⟩ _ = w12 at hC12 hu12 hr12 hg12 ⊢
  clear k0 k1 k2 k3 k4 k5 k6 k7 k8 k9 k10 k11 k12 k13 k14 k15 r0 r1 r2 r3 r4 r5 r6 r7 r8 r9 r10 r11 r12 r13 r14 r15 l0 l1 l2 l3 l4 l5 l6 l7 l8 l9 l10 l11 l12 l13 l14 l15 hA11 hC11 hu11 hr11 hg11
  have l0 := hC12.at 0 rfl; have l1 := hC12.at 1 rfl; have l2 := hC12.at 2 rfl; have l3 := hC12.at 3 rfl; have l4 := hC12.at 4 rfl; have l5 := hC12.at 5 rfl; have l6 := hC12.at 6 rfl; have l7 := hC12.at 7 rfl; have l8 := hC12.at 8 rfl; have l9 := hC12.at 9 rfl; have l10 := hC12.at 10 rfl; have l11 := hC12.at 11 rfl; have l12 := hC12.at 12 rfl; have l13 := hC12.at 13 rfl; have l14 := hC12.at 14 rfl; have l15 := hC12.at 15 rfl
  (try simp only [Exit.inBlock, Exit.then])
  refine bodyPost_ret (v := .agg #[.int .u32 a1, .int .u16 p1, .int .u32 b1, .int .u16 q1, .int .u32 y2, .int .u32 z, .int .u8 f, .int .u16 wn, .int .u16 m', .int .i64 s', .bool k', .slice A2 n2 c2, .bool t', .int .u32 v', .int .u32 e', .string S]) ?_ rfl ⟨_, rfl, ?_, hu12⟩
  · rw [ip.results_cell1 rfl]; go_simp
  · have s1 : T.sa = a1 := by rw [HT.out]; rfl
    have s2 : T.sp = p1 := by rw [HT.out]; rfl
    have s3 : T.da = b1 := by rw [HT.out]; rfl
    have s4 : T.dp = q1 := by rw [HT.out]; rfl
    have s5 : T.sq = y2 := by rw [HT.out]; exact HY.out.symm
    have s6 : T.ak = z := by rw [HT.out]; exact HZ.out.symm
    have s7 : T.fl = f := by rw [HT.out]; rfl
    have s8 : T.wi = wn := by rw [HT.out]; exact HWn.out.symm
    have s9 : T.op = ⟨m', s', k', bl', t', v', e'⟩ := by rw [HT.out]; exact HYo.out.symm
    have s10 : T.dt = L S := by rw [HT.out]; rfl
    exact ⟨A2, n2, c2, by rw [s1, s2, s3, s4, s5, s6, s7, s8, s9, s10, tx_L], by rw [s9]; exact hl2, by rw [s9]; exact hr12, hg12⟩
set_option maxHeartbeats 8000000 in
set_option maxRecDepth 100000 in
theorem lturned1 (a p b q y z f i m : Nat) (s : Int) (k : Bool) (A : Option Addr) (n c : Nat) (t : Bool) (v e : Nat) (S : ByteArray) (bl : List (Nat × Nat)) (a1 p1 b1 q1 y1 z1 v1 e1 : Nat) (up dn : Int) (w : World)
    (h1 : f / 16 % 2 = 1) (hg : GoodS ⟨a, b, p, q, y, z, f, i, ⟨m, s, k, bl, t, v, e⟩, L S⟩) (hn : bl.length = n) (hr : op.RdB w A bl) (hy1 : y1 ≤ 4294967295) (hz1 : z1 ≤ 4294967295) (hv1 : v1 ≤ 4294967295) (he1 : e1 ≤ 4294967295) :
    Calls Try.prog 11 #[SA a p b q y z f i m s k A n c t v e S, SHV a1 p1 b1 q1 y1 z1 v1 e1 up dn] w fun e_ w' =>
      ∃ X, e_ = .returned X ∧ SegT w' X (tS ⟨a1, b1, p1, q1, y1, z1, v1, e1, up, dn⟩ ⟨a, b, p, q, y, z, f, i, ⟨m, s, k, bl, t, v, e⟩, L S⟩) ∧ Up w w' := by
  have hy : y ≤ 4294967295 := hg.1.2.2.2.2.1
  have hz : z ≤ 4294967295 := hg.1.2.2.2.2.2.1
  have hf : f ≤ 255 := hg.1.2.2.2.2.2.2.1
  have hi : i ≤ 65535 := hg.1.2.2.2.2.2.2.2.1
  have hop := hg.1.2.2.2.2.2.2.2.2
  have hzS : S.size ≤ 1048576 := hg.2.2.2
  have HO := Lib.hid (fun w (hr : op.RdB w A bl) => turnedOptsC m s k A n c t v e bl a1 p1 b1 q1 y1 z1 v1 e1 up dn w (by have := hop.2.2.1; unfold om.M32 at this; dsimp only at this; omega) (by have := hop.2.2.2; unfold om.M32 at this; dsimp only at this; omega) hop.2.1 hn (by have := hg.2.2.1; dsimp only at this; omega) hr hz1 hv1 he1)
  have HW := Lib.hid (fun w => turnedWindowC i a1 p1 b1 q1 y1 z1 v1 e1 up dn w hi)
  have HC := Lib.hid (fun w => tc.cloneC S w (by omega))
  obtain ⟨T, hT⟩ : ∃ T, T = tS ⟨a1, b1, p1, q1, y1, z1, v1, e1, up, dn⟩ ⟨a, b, p, q, y, z, f, i, ⟨m, s, k, bl, t, v, e⟩, L S⟩ := ⟨_, rfl⟩
  rw [← hT]
  have HT := Lib.hid hT
  clear hT hop
  obtain ⟨y2, hy2⟩ : ∃ y2, y2 = om.addM y y1 := ⟨_, rfl⟩
  have wy : IntKind.u32.wrap ((y : Int) + (y1 : Int)) = (y2 : Int) := by rw [hy2]; exact wrap32 _ _ hy hy1
  have wy' : ((y : Int) + (y1 : Int)) % 4294967296 = (y2 : Int) := by rw [hy2]; exact mod32 _ _
  have HY := Lib.hid hy2
  clear hy2
  obtain ⟨z2, hz2⟩ : ∃ z2, z2 = om.addM z z1 := ⟨_, rfl⟩
  have wz : IntKind.u32.wrap ((z : Int) + (z1 : Int)) = (z2 : Int) := by rw [hz2]; exact wrap32 _ _ hz hz1
  have wz' : ((z : Int) + (z1 : Int)) % 4294967296 = (z2 : Int) := by rw [hz2]; exact mod32 _ _
  have ha : acked f = true := by unfold acked; rw [h1]; rfl
  have HZ : Hid (z2 = if acked f = true then om.addM z z1 else z) := by rw [ha, if_pos rfl, hz2]; exact Lib.hid rfl
  clear hz2
  have q16 := f16 f hf
  rw [h1] at q16
  have r16 : bits .and .u8 (f : Int) 16 = 16 := by rw [q16]; rfl
  have HR := Lib.hid hr
  clear hr q16 ha hg
  go_enter Try.func11, Try.ntmps11
  go_upto_region 1 with fail
  have hA := Box.new w #[.int .u32 a, .int .u16 p, .int .u32 b, .int .u16 q, .int .u32 y, .int .u32 z, .int .u8 f, .int .u16 i, .int .u16 m, .int .i64 s, .bool k, .slice A n c, .bool t, .int .u32 v, .int .u32 e, .string S] 30
  have hu := up_al (w := w) (.cells #[.int .u32 a, .int .u16 p, .int .u32 b, .int .u16 q, .int .u32 y, .int .u32 z, .int .u8 f, .int .u16 i, .int .u16 m, .int .i64 s, .bool k, .slice A n c, .bool t, .int .u32 v, .int .u32 e, .string S] 30) (Below.refl _ _)
  have hs0 : (w.alloc (.cells #[.int .u32 a, .int .u16 p, .int .u32 b, .int .u16 q, .int .u32 y, .int .u32 z, .int .u8 f, .int .u16 i, .int .u16 m, .int .i64 s, .bool k, .slice A n c, .bool t, .int .u32 v, .int .u32 e, .string S] 30)).heap.size = w.heap.size + 1 := World.size_alloc ..
  generalize (w.alloc (.cells #[.int .u32 a, .int .u16 p, .int .u32 b, .int .u16 q, .int .u32 y, .int .u32 z, .int .u8 f, .int .u16 i, .int .u16 m, .int .i64 s, .bool k, .slice A n c, .bool t, .int .u32 v, .int .u32 e, .string S] 30)) = w0 at hA hu hs0 ⊢
  obtain ⟨n0, hn0⟩ : ∃ n0, n0 = w.heap.size := ⟨_, rfl⟩
  have hle : w.heap.size ≤ n0 := by omega
  rw [← hn0] at hA hs0 ⊢
  clear hn0
  have hB := Box.new w0 #[.int .u32 a1, .int .u16 p1, .int .u32 b1, .int .u16 q1, .int .u32 y1, .int .u32 z1, .int .u32 v1, .int .u32 e1, .int .i64 up, .int .i64 dn] 32
  rw [hs0] at hB
  have hA1 := hA.alloc (.cells #[.int .u32 a1, .int .u16 p1, .int .u32 b1, .int .u16 q1, .int .u32 y1, .int .u32 z1, .int .u32 v1, .int .u32 e1, .int .i64 up, .int .i64 dn] 32)
  have hu1 := up_al (.cells #[.int .u32 a1, .int .u16 p1, .int .u32 b1, .int .u16 q1, .int .u32 y1, .int .u32 z1, .int .u32 v1, .int .u32 e1, .int .i64 up, .int .i64 dn] 32) hu
  have hs1 : (w0.alloc (.cells #[.int .u32 a1, .int .u16 p1, .int .u32 b1, .int .u16 q1, .int .u32 y1, .int .u32 z1, .int .u32 v1, .int .u32 e1, .int .i64 up, .int .i64 dn] 32)).heap.size = n0 + 1 + 1 := by rw [← hs0]; exact World.size_alloc ..
  generalize (w0.alloc (.cells #[.int .u32 a1, .int .u16 p1, .int .u32 b1, .int .u16 q1, .int .u32 y1, .int .u32 z1, .int .u32 v1, .int .u32 e1, .int .i64 up, .int .i64 dn] 32)) = w1 at hA1 hB hu1 hs1 ⊢
  clear hA hu hs0 w0
  have hC := Box.new w1 #[.int .u32 0, .int .u16 0, .int .u32 0, .int .u16 0, .int .u32 0, .int .u32 0, .int .u8 0, .int .u16 0, .int .u16 0, .int .i64 0, .bool false, .slice none 0 0, .bool false, .int .u32 0, .int .u32 0, .string { data := #[] }] 30
  rw [hs1] at hC
  have hA2 := hA1.alloc (.cells #[.int .u32 0, .int .u16 0, .int .u32 0, .int .u16 0, .int .u32 0, .int .u32 0, .int .u8 0, .int .u16 0, .int .u16 0, .int .i64 0, .bool false, .slice none 0 0, .bool false, .int .u32 0, .int .u32 0, .string { data := #[] }] 30)
  have hB2 := hB.alloc (.cells #[.int .u32 0, .int .u16 0, .int .u32 0, .int .u16 0, .int .u32 0, .int .u32 0, .int .u8 0, .int .u16 0, .int .u16 0, .int .i64 0, .bool false, .slice none 0 0, .bool false, .int .u32 0, .int .u32 0, .string { data := #[] }] 30)
  have hu2 := up_al (.cells #[.int .u32 0, .int .u16 0, .int .u32 0, .int .u16 0, .int .u32 0, .int .u32 0, .int .u8 0, .int .u16 0, .int .u16 0, .int .i64 0, .bool false, .slice none 0 0, .bool false, .int .u32 0, .int .u32 0, .string { data := #[] }] 30) hu1
  generalize (w1.alloc (.cells #[.int .u32 0, .int .u16 0, .int .u32 0, .int .u16 0, .int .u32 0, .int .u32 0, .int .u8 0, .int .u16 0, .int .u16 0, .int .i64 0, .bool false, .slice none 0 0, .bool false, .int .u32 0, .int .u32 0, .string { data := #[] }] 30)) = w2 at hA2 hB2 hC hu2 ⊢
  clear hA1 hB hu1 hs1 w1
  have k0 := hA2.at 0 rfl; have k1 := hA2.at 1 rfl; have k2 := hA2.at 2 rfl; have k3 := hA2.at 3 rfl; have r0 := hA2.fr 0 rfl; have r1 := hA2.fr 1 rfl; have r2 := hA2.fr 2 rfl; have r3 := hA2.fr 3 rfl; have l0 := hB2.at 0 rfl; have l1 := hB2.at 1 rfl; have l2 := hB2.at 2 rfl; have l3 := hB2.at 3 rfl
  go_region
  clear k0 k1 k2 k3 r0 r1 r2 r3 l0 l1 l2 l3
  have hA3 := ((((hA2.set 0 (.int .u32 a1)).set 1 (.int .u16 p1)).set 2 (.int .u32 b1)).set 3 (.int .u16 q1)).drew
  have hB3 := ((((hB2.far (show n0 ≠ n0 + 1 by omega) (o := 0) (.int .u32 a1)).far (show n0 ≠ n0 + 1 by omega) (o := 1) (.int .u16 p1)).far (show n0 ≠ n0 + 1 by omega) (o := 2) (.int .u32 b1)).far (show n0 ≠ n0 + 1 by omega) (o := 3) (.int .u16 q1)).drew
  have hC3 := ((((hC.far (show n0 ≠ n0 + 1 + 1 by omega) (o := 0) (.int .u32 a1)).far (show n0 ≠ n0 + 1 + 1 by omega) (o := 1) (.int .u16 p1)).far (show n0 ≠ n0 + 1 + 1 by omega) (o := 2) (.int .u32 b1)).far (show n0 ≠ n0 + 1 + 1 by omega) (o := 3) (.int .u16 q1)).drew
  have hu3 := up_dr (up_set (o := 3) (v := .int .u16 q1) (up_set (o := 2) (v := .int .u32 b1) (up_set (o := 1) (v := .int .u16 p1) (up_set (o := 0) (v := .int .u32 a1) hu2 hle) hle) hle) hle)
  generalize World.drew _ = w3 at hA3 hB3 hC3 hu3 ⊢
  clear hA2 hB2 hC hu2
  have hA31 : Box w3 n0 [.int .u32 a1, .int .u16 p1, .int .u32 b1, .int .u16 q1, .int .u32 y, .int .u32 z, .int .u8 f, .int .u16 i, .int .u16 m, .int .i64 s, .bool k, .slice A n c, .bool t, .int .u32 v, .int .u32 e, .string S] := hA3
  have k0 := hA31.at 0 rfl; have k1 := hA31.at 1 rfl; have k2 := hA31.at 2 rfl; have k3 := hA31.at 3 rfl; have k4 := hA31.at 4 rfl; have k5 := hA31.at 5 rfl; have k6 := hA31.at 6 rfl; have k7 := hA31.at 7 rfl; have k8 := hA31.at 8 rfl; have k9 := hA31.at 9 rfl; have k10 := hA31.at 10 rfl; have k11 := hA31.at 11 rfl; have k12 := hA31.at 12 rfl; have k13 := hA31.at 13 rfl; have k14 := hA31.at 14 rfl; have k15 := hA31.at 15 rfl; have r0 := hA31.fr 0 rfl; have r1 := hA31.fr 1 rfl; have r2 := hA31.fr 2 rfl; have r3 := hA31.fr 3 rfl; have r4 := hA31.fr 4 rfl; have r5 := hA31.fr 5 rfl; have r6 := hA31.fr 6 rfl; have r7 := hA31.fr 7 rfl; have r8 := hA31.fr 8 rfl; have r9 := hA31.fr 9 rfl; have r10 := hA31.fr 10 rfl; have r11 := hA31.fr 11 rfl; have r12 := hA31.fr 12 rfl; have r13 := hA31.fr 13 rfl; have r14 := hA31.fr 14 rfl; have r15 := hA31.fr 15 rfl; have l0 := hB3.at 0 rfl; have l1 := hB3.at 1 rfl; have l2 := hB3.at 2 rfl; have l3 := hB3.at 3 rfl; have l4 := hB3.at 4 rfl; have l5 := hB3.at 5 rfl; have l6 := hB3.at 6 rfl; have l7 := hB3.at 7 rfl; have l8 := hB3.at 8 rfl; have l9 := hB3.at 9 rfl
  go_upto_region 3 with fail
  clear k0 k1 k2 k3 k4 k5 k6 k7 k8 k9 k10 k11 k12 k13 k14 k15 r0 r1 r2 r3 r4 r5 r6 r7 r8 r9 r10 r11 r12 r13 r14 r15 l0 l1 l2 l3 l4 l5 l6 l7 l8 l9
  have hA4 : Box (w3.setCell ⟨n0, 4, none⟩ (.int .u32 y2)) n0 [.int .u32 a1, .int .u16 p1, .int .u32 b1, .int .u16 q1, .int .u32 y2, .int .u32 z, .int .u8 f, .int .u16 i, .int .u16 m, .int .i64 s, .bool k, .slice A n c, .bool t, .int .u32 v, .int .u32 e, .string S] := hA31.set 4 _
  have hB4 := hB3.far (show n0 ≠ n0 + 1 by omega) (o := 4) (.int .u32 y2)
  have hC4 := hC3.far (show n0 ≠ n0 + 1 + 1 by omega) (o := 4) (.int .u32 y2)
  have hu4 := up_set (o := 4) (v := .int .u32 y2) hu3 hle
  generalize World.setCell _ ⟨n0, 4, none⟩ _ = w4 at hA4 hB4 hC4 hu4 ⊢
  clear hA3 hA31 hB3 hC3 hu3 w3
  have hA41 : Box w4 n0 [.int .u32 a1, .int .u16 p1, .int .u32 b1, .int .u16 q1, .int .u32 y2, .int .u32 z, .int .u8 f, .int .u16 i, .int .u16 m, .int .i64 s, .bool k, .slice A n c, .bool t, .int .u32 v, .int .u32 e, .string S] := hA4
  have k0 := hA41.at 0 rfl; have k1 := hA41.at 1 rfl; have k2 := hA41.at 2 rfl; have k3 := hA41.at 3 rfl; have k4 := hA41.at 4 rfl; have k5 := hA41.at 5 rfl; have k6 := hA41.at 6 rfl; have k7 := hA41.at 7 rfl; have k8 := hA41.at 8 rfl; have k9 := hA41.at 9 rfl; have k10 := hA41.at 10 rfl; have k11 := hA41.at 11 rfl; have k12 := hA41.at 12 rfl; have k13 := hA41.at 13 rfl; have k14 := hA41.at 14 rfl; have k15 := hA41.at 15 rfl; have r0 := hA41.fr 0 rfl; have r1 := hA41.fr 1 rfl; have r2 := hA41.fr 2 rfl; have r3 := hA41.fr 3 rfl; have r4 := hA41.fr 4 rfl; have r5 := hA41.fr 5 rfl; have r6 := hA41.fr 6 rfl; have r7 := hA41.fr 7 rfl; have r8 := hA41.fr 8 rfl; have r9 := hA41.fr 9 rfl; have r10 := hA41.fr 10 rfl; have r11 := hA41.fr 11 rfl; have r12 := hA41.fr 12 rfl; have r13 := hA41.fr 13 rfl; have r14 := hA41.fr 14 rfl; have r15 := hA41.fr 15 rfl; have l0 := hB4.at 0 rfl; have l1 := hB4.at 1 rfl; have l2 := hB4.at 2 rfl; have l3 := hB4.at 3 rfl; have l4 := hB4.at 4 rfl; have l5 := hB4.at 5 rfl; have l6 := hB4.at 6 rfl; have l7 := hB4.at 7 rfl; have l8 := hB4.at 8 rfl; have l9 := hB4.at 9 rfl
  go_upto_region 5 with fail
  clear k0 k1 k2 k3 k4 k5 k6 k7 k8 k9 k10 k11 k12 k13 k14 k15 r0 r1 r2 r3 r4 r5 r6 r7 r8 r9 r10 r11 r12 r13 r14 r15 l0 l1 l2 l3 l4 l5 l6 l7 l8 l9
  have hA5 : Box (w4.setCell ⟨n0, 5, none⟩ (.int .u32 z2)) n0 [.int .u32 a1, .int .u16 p1, .int .u32 b1, .int .u16 q1, .int .u32 y2, .int .u32 z2, .int .u8 f, .int .u16 i, .int .u16 m, .int .i64 s, .bool k, .slice A n c, .bool t, .int .u32 v, .int .u32 e, .string S] := hA41.set 5 _
  have hB5 := hB4.far (show n0 ≠ n0 + 1 by omega) (o := 5) (.int .u32 z2)
  have hC5 := hC4.far (show n0 ≠ n0 + 1 + 1 by omega) (o := 5) (.int .u32 z2)
  have hu5 := up_set (o := 5) (v := .int .u32 z2) hu4 hle
  generalize World.setCell _ ⟨n0, 5, none⟩ _ = w5 at hA5 hB5 hC5 hu5 ⊢
  clear hA4 hA41 hB4 hC4 hu4 w4
  have k0 := hA5.at 0 rfl; have k1 := hA5.at 1 rfl; have k2 := hA5.at 2 rfl; have k3 := hA5.at 3 rfl; have k4 := hA5.at 4 rfl; have k5 := hA5.at 5 rfl; have k6 := hA5.at 6 rfl; have k7 := hA5.at 7 rfl; have k8 := hA5.at 8 rfl; have k9 := hA5.at 9 rfl; have k10 := hA5.at 10 rfl; have k11 := hA5.at 11 rfl; have k12 := hA5.at 12 rfl; have k13 := hA5.at 13 rfl; have k14 := hA5.at 14 rfl; have k15 := hA5.at 15 rfl; have l0 := hB5.at 0 rfl; have l1 := hB5.at 1 rfl; have l2 := hB5.at 2 rfl; have l3 := hB5.at 3 rfl; have l4 := hB5.at 4 rfl; have l5 := hB5.at 5 rfl; have l6 := hB5.at 6 rfl; have l7 := hB5.at 7 rfl; have l8 := hB5.at 8 rfl; have l9 := hB5.at 9 rfl
  go_wp2_with fail
  refine (HW.out w5).mono ?_
  rintro e_ w6 ⟨rfl, hv6⟩
  obtain ⟨wn, hwn⟩ : ∃ wn, wn = winT ⟨a1, b1, p1, q1, y1, z1, v1, e1, up, dn⟩ i := ⟨_, rfl⟩
  rw [← hwn]
  have HWn := Lib.hid hwn
  clear hwn k0 k1 k2 k3 k4 k5 k6 k7 k8 k9 k10 k11 k12 k13 k14 k15 l0 l1 l2 l3 l4 l5 l6 l7 l8 l9 HW
  have hA6 := hA5.up hv6; have hB6 := hB5.up hv6; have hC6 := hC5.up hv6; have hu6 := hu5.on hv6
  clear hA5 hB5 hC5 hu5 hv6 w5
  have hA61 : Box w6 n0 [.int .u32 a1, .int .u16 p1, .int .u32 b1, .int .u16 q1, .int .u32 y2, .int .u32 z2, .int .u8 f, .int .u16 i, .int .u16 m, .int .i64 s, .bool k, .slice A n c, .bool t, .int .u32 v, .int .u32 e, .string S] := hA6
  have k0 := hA61.at 0 rfl; have k1 := hA61.at 1 rfl; have k2 := hA61.at 2 rfl; have k3 := hA61.at 3 rfl; have k4 := hA61.at 4 rfl; have k5 := hA61.at 5 rfl; have k6 := hA61.at 6 rfl; have k7 := hA61.at 7 rfl; have k8 := hA61.at 8 rfl; have k9 := hA61.at 9 rfl; have k10 := hA61.at 10 rfl; have k11 := hA61.at 11 rfl; have k12 := hA61.at 12 rfl; have k13 := hA61.at 13 rfl; have k14 := hA61.at 14 rfl; have k15 := hA61.at 15 rfl; have r0 := hA61.fr 0 rfl; have r1 := hA61.fr 1 rfl; have r2 := hA61.fr 2 rfl; have r3 := hA61.fr 3 rfl; have r4 := hA61.fr 4 rfl; have r5 := hA61.fr 5 rfl; have r6 := hA61.fr 6 rfl; have r7 := hA61.fr 7 rfl; have r8 := hA61.fr 8 rfl; have r9 := hA61.fr 9 rfl; have r10 := hA61.fr 10 rfl; have r11 := hA61.fr 11 rfl; have r12 := hA61.fr 12 rfl; have r13 := hA61.fr 13 rfl; have r14 := hA61.fr 14 rfl; have r15 := hA61.fr 15 rfl; have l0 := hB6.at 0 rfl; have l1 := hB6.at 1 rfl; have l2 := hB6.at 2 rfl; have l3 := hB6.at 3 rfl; have l4 := hB6.at 4 rfl; have l5 := hB6.at 5 rfl; have l6 := hB6.at 6 rfl; have l7 := hB6.at 7 rfl; have l8 := hB6.at 8 rfl; have l9 := hB6.at 9 rfl
  go_upto_region 6 with fail
  clear k0 k1 k2 k3 k4 k5 k6 k7 k8 k9 k10 k11 k12 k13 k14 k15 r0 r1 r2 r3 r4 r5 r6 r7 r8 r9 r10 r11 r12 r13 r14 r15 l0 l1 l2 l3 l4 l5 l6 l7 l8 l9
  have hA7 : Box (w6.setCell ⟨n0, 7, none⟩ (.int .u16 wn)) n0 [.int .u32 a1, .int .u16 p1, .int .u32 b1, .int .u16 q1, .int .u32 y2, .int .u32 z2, .int .u8 f, .int .u16 wn, .int .u16 m, .int .i64 s, .bool k, .slice A n c, .bool t, .int .u32 v, .int .u32 e, .string S] := hA61.set 7 _
  have hB7 := hB6.far (show n0 ≠ n0 + 1 by omega) (o := 7) (.int .u16 wn)
  have hC7 := hC6.far (show n0 ≠ n0 + 1 + 1 by omega) (o := 7) (.int .u16 wn)
  have hu7 := up_set (o := 7) (v := .int .u16 wn) hu6 hle
  generalize World.setCell _ ⟨n0, 7, none⟩ _ = w7 at hA7 hB7 hC7 hu7 ⊢
  clear hA6 hA61 hB6 hC6 hu6 w6
  have k0 := hA7.at 0 rfl; have k1 := hA7.at 1 rfl; have k2 := hA7.at 2 rfl; have k3 := hA7.at 3 rfl; have k4 := hA7.at 4 rfl; have k5 := hA7.at 5 rfl; have k6 := hA7.at 6 rfl; have k7 := hA7.at 7 rfl; have k8 := hA7.at 8 rfl; have k9 := hA7.at 9 rfl; have k10 := hA7.at 10 rfl; have k11 := hA7.at 11 rfl; have k12 := hA7.at 12 rfl; have k13 := hA7.at 13 rfl; have k14 := hA7.at 14 rfl; have k15 := hA7.at 15 rfl; have l0 := hB7.at 0 rfl; have l1 := hB7.at 1 rfl; have l2 := hB7.at 2 rfl; have l3 := hB7.at 3 rfl; have l4 := hB7.at 4 rfl; have l5 := hB7.at 5 rfl; have l6 := hB7.at 6 rfl; have l7 := hB7.at 7 rfl; have l8 := hB7.at 8 rfl; have l9 := hB7.at 9 rfl
  have hr7 := HR.out.up hu7
  go_wp2_with fail
  refine (HO.out w7 hr7).mono ?_
  rintro e_ w8 ⟨Xo, rfl, ⟨A2, n2, c2, rfl, hl2, hr8, hfar, hg8⟩, hv8⟩
  have hlt := hC7.1
  have hfar0 : ∀ ad, A2 = some ad → ad.block ≠ n0 := fun ad e => by have := hfar ad e; omega
  have hfar2 : ∀ ad, A2 = some ad → ad.block ≠ n0 + 1 + 1 := fun ad e => by have := hfar ad e; omega
  clear hfar hr7 k0 k1 k2 k3 k4 k5 k6 k7 k8 k9 k10 k11 k12 k13 k14 k15 l0 l1 l2 l3 l4 l5 l6 l7 l8 l9 HO HR hlt
  have hA8 := hA7.up hv8; have hB8 := hB7.up hv8; have hC8 := hC7.up hv8; have hu8 := hu7.on hv8
  clear hA7 hB7 hC7 hu7 hv8 w7
  obtain ⟨Y, hY⟩ : ∃ Y, Y = om.tOp z1 v1 e1 ⟨m, s, k, bl, t, v, e⟩ := ⟨_, rfl⟩
  rw [← hY] at hl2 hr8 ⊢
  have HYo := Lib.hid hY
  clear hY
  obtain ⟨m', s', k', bl', t', v', e'⟩ := Y
  dsimp only at hl2 hr8 ⊢
  have k0 := hA8.at 0 rfl; have k1 := hA8.at 1 rfl; have k2 := hA8.at 2 rfl; have k3 := hA8.at 3 rfl; have k4 := hA8.at 4 rfl; have k5 := hA8.at 5 rfl; have k6 := hA8.at 6 rfl; have k7 := hA8.at 7 rfl; have k8 := hA8.at 8 rfl; have k9 := hA8.at 9 rfl; have k10 := hA8.at 10 rfl; have k11 := hA8.at 11 rfl; have k12 := hA8.at 12 rfl; have k13 := hA8.at 13 rfl; have k14 := hA8.at 14 rfl; have k15 := hA8.at 15 rfl; have r0 := hA8.fr 0 rfl; have r1 := hA8.fr 1 rfl; have r2 := hA8.fr 2 rfl; have r3 := hA8.fr 3 rfl; have r4 := hA8.fr 4 rfl; have r5 := hA8.fr 5 rfl; have r6 := hA8.fr 6 rfl; have r7 := hA8.fr 7 rfl; have r8 := hA8.fr 8 rfl; have r9 := hA8.fr 9 rfl; have r10 := hA8.fr 10 rfl; have r11 := hA8.fr 11 rfl; have r12 := hA8.fr 12 rfl; have r13 := hA8.fr 13 rfl; have r14 := hA8.fr 14 rfl; have r15 := hA8.fr 15 rfl
  go_upto_region 7 with fail
  clear k0 k1 k2 k3 k4 k5 k6 k7 k8 k9 k10 k11 k12 k13 k14 k15 r0 r1 r2 r3 r4 r5 r6 r7 r8 r9 r10 r11 r12 r13 r14 r15
  have hA9 := put7at hA8 (.int .u16 m') (.int .i64 s') (.bool k') (.slice A2 n2 c2) (.bool t') (.int .u32 v') (.int .u32 e')
  have hC9 := far7at hC8 (show n0 ≠ n0 + 1 + 1 by omega) (.int .u16 m') (.int .i64 s') (.bool k') (.slice A2 n2 c2) (.bool t') (.int .u32 v') (.int .u32 e')
  have hu9 := ups7at (b := n0) hu8 hle (.int .u16 m') (.int .i64 s') (.bool k') (.slice A2 n2 c2) (.bool t') (.int .u32 v') (.int .u32 e')
  have hr9 := rd7at hr8 hfar0 (.int .u16 m') (.int .i64 s') (.bool k') (.slice A2 n2 c2) (.bool t') (.int .u32 v') (.int .u32 e')
  have hg9 := tg7at hg8 hfar0 (.int .u16 m') (.int .i64 s') (.bool k') (.slice A2 n2 c2) (.bool t') (.int .u32 v') (.int .u32 e')
  generalize World.setCell _ ⟨n0, 14, none⟩ _ = w9 at hA9 hC9 hu9 hr9 hg9 ⊢
  clear hA8 hB8 hC8 hu8 hr8 hg8 w8
  have k0 := hA9.at 0 rfl; have k1 := hA9.at 1 rfl; have k2 := hA9.at 2 rfl; have k3 := hA9.at 3 rfl; have k4 := hA9.at 4 rfl; have k5 := hA9.at 5 rfl; have k6 := hA9.at 6 rfl; have k7 := hA9.at 7 rfl; have k8 := hA9.at 8 rfl; have k9 := hA9.at 9 rfl; have k10 := hA9.at 10 rfl; have k11 := hA9.at 11 rfl; have k12 := hA9.at 12 rfl; have k13 := hA9.at 13 rfl; have k14 := hA9.at 14 rfl; have k15 := hA9.at 15 rfl
  go_wp2_with fail
  refine (HC.out w9).mono ?_
  rintro e_ w10 ⟨rfl, hv10⟩
  clear HC k0 k1 k2 k3 k4 k5 k6 k7 k8 k9 k10 k11 k12 k13 k14 k15 
  have hA10 := hA9.up hv10; have hC10 := hC9.up hv10; have hu10 := hu9.on hv10; have hr10 := hr9.up hv10; have hg10 := hg9.up hv10
  clear hA9 hC9 hu9 hr9 hg9 hv10 w9
  have k0 := hA10.at 0 rfl; have k1 := hA10.at 1 rfl; have k2 := hA10.at 2 rfl; have k3 := hA10.at 3 rfl; have k4 := hA10.at 4 rfl; have k5 := hA10.at 5 rfl; have k6 := hA10.at 6 rfl; have k7 := hA10.at 7 rfl; have k8 := hA10.at 8 rfl; have k9 := hA10.at 9 rfl; have k10 := hA10.at 10 rfl; have k11 := hA10.at 11 rfl; have k12 := hA10.at 12 rfl; have k13 := hA10.at 13 rfl; have k14 := hA10.at 14 rfl; have k15 := hA10.at 15 rfl; have r0 := hA10.fr 0 rfl; have r1 := hA10.fr 1 rfl; have r2 := hA10.fr 2 rfl; have r3 := hA10.fr 3 rfl; have r4 := hA10.fr 4 rfl; have r5 := hA10.fr 5 rfl; have r6 := hA10.fr 6 rfl; have r7 := hA10.fr 7 rfl; have r8 := hA10.fr 8 rfl; have r9 := hA10.fr 9 rfl; have r10 := hA10.fr 10 rfl; have r11 := hA10.fr 11 rfl; have r12 := hA10.fr 12 rfl; have r13 := hA10.fr 13 rfl; have r14 := hA10.fr 14 rfl; have r15 := hA10.fr 15 rfl
  go_upto_region 8 with fail
  clear k0 k1 k2 k3 k4 k5 k6 k7 k8 k9 k10 k11 k12 k13 k14 k15 r0 r1 r2 r3 r4 r5 r6 r7 r8 r9 r10 r11 r12 r13 r14 r15
  have hA11 : Box (w10.setCell ⟨n0, 15, none⟩ (.string S)) n0 [.int .u32 a1, .int .u16 p1, .int .u32 b1, .int .u16 q1, .int .u32 y2, .int .u32 z2, .int .u8 f, .int .u16 wn, .int .u16 m', .int .i64 s', .bool k', .slice A2 n2 c2, .bool t', .int .u32 v', .int .u32 e', .string S] := hA10.set 15 _
  have hC11 := hC10.far (show n0 ≠ n0 + 1 + 1 by omega) (o := 15) (.string S)
  have hu11 := up_set (o := 15) (v := .string S) hu10 hle
  have hr11 := rd_set hr10 hfar0 15 (.string S)
  have hg11 := hg10.set hfar0 15 (.string S)
  generalize World.setCell _ ⟨n0, 15, none⟩ _ = w11 at hA11 hC11 hu11 hr11 hg11 ⊢
  clear hA10 hC10 hu10 hr10 hg10 w10
  have k0 := hA11.at 0 rfl; have k1 := hA11.at 1 rfl; have k2 := hA11.at 2 rfl; have k3 := hA11.at 3 rfl; have k4 := hA11.at 4 rfl; have k5 := hA11.at 5 rfl; have k6 := hA11.at 6 rfl; have k7 := hA11.at 7 rfl; have k8 := hA11.at 8 rfl; have k9 := hA11.at 9 rfl; have k10 := hA11.at 10 rfl; have k11 := hA11.at 11 rfl; have k12 := hA11.at 12 rfl; have k13 := hA11.at 13 rfl; have k14 := hA11.at 14 rfl; have k15 := hA11.at 15 rfl; have l0 := hC11.at 0 rfl; have l1 := hC11.at 1 rfl; have l2 := hC11.at 2 rfl; have l3 := hC11.at 3 rfl; have l4 := hC11.at 4 rfl; have l5 := hC11.at 5 rfl; have l6 := hC11.at 6 rfl; have l7 := hC11.at 7 rfl; have l8 := hC11.at 8 rfl; have l9 := hC11.at 9 rfl; have l10 := hC11.at 10 rfl; have l11 := hC11.at 11 rfl; have l12 := hC11.at 12 rfl; have l13 := hC11.at 13 rfl; have l14 := hC11.at 14 rfl; have l15 := hC11.at 15 rfl; have r0 := hC11.fr 0 rfl; have r1 := hC11.fr 1 rfl; have r2 := hC11.fr 2 rfl; have r3 := hC11.fr 3 rfl; have r4 := hC11.fr 4 rfl; have r5 := hC11.fr 5 rfl; have r6 := hC11.fr 6 rfl; have r7 := hC11.fr 7 rfl; have r8 := hC11.fr 8 rfl; have r9 := hC11.fr 9 rfl; have r10 := hC11.fr 10 rfl; have r11 := hC11.fr 11 rfl; have r12 := hC11.fr 12 rfl; have r13 := hC11.fr 13 rfl; have r14 := hC11.fr 14 rfl; have r15 := hC11.fr 15 rfl
  go_wp2_with fail
  have hC12 := put16 hC11 (.int .u32 a1) (.int .u16 p1) (.int .u32 b1) (.int .u16 q1) (.int .u32 y2) (.int .u32 z2) (.int .u8 f) (.int .u16 wn) (.int .u16 m') (.int .i64 s') (.bool k') (.slice A2 n2 c2) (.bool t') (.int .u32 v') (.int .u32 e') (.string S)
  have hu12 := ups16 (b := n0 + 1 + 1) hu11 (by omega) (.int .u32 a1) (.int .u16 p1) (.int .u32 b1) (.int .u16 q1) (.int .u32 y2) (.int .u32 z2) (.int .u8 f) (.int .u16 wn) (.int .u16 m') (.int .i64 s') (.bool k') (.slice A2 n2 c2) (.bool t') (.int .u32 v') (.int .u32 e') (.string S)
  have hr12 := rd16 hr11 hfar2 (.int .u32 a1) (.int .u16 p1) (.int .u32 b1) (.int .u16 q1) (.int .u32 y2) (.int .u32 z2) (.int .u8 f) (.int .u16 wn) (.int .u16 m') (.int .i64 s') (.bool k') (.slice A2 n2 c2) (.bool t') (.int .u32 v') (.int .u32 e') (.string S)
  have hg12 := tg16 hg11 hfar2 (.int .u32 a1) (.int .u16 p1) (.int .u32 b1) (.int .u16 q1) (.int .u32 y2) (.int .u32 z2) (.int .u8 f) (.int .u16 wn) (.int .u16 m') (.int .i64 s') (.bool k') (.slice A2 n2 c2) (.bool t') (.int .u32 v') (.int .u32 e') (.string S)
  generalize World.setCell _ ⟨n0 + 1 + 1, 15, none⟩ _ = w12 at hC12 hu12 hr12 hg12 ⊢
  clear k0 k1 k2 k3 k4 k5 k6 k7 k8 k9 k10 k11 k12 k13 k14 k15 r0 r1 r2 r3 r4 r5 r6 r7 r8 r9 r10 r11 r12 r13 r14 r15 l0 l1 l2 l3 l4 l5 l6 l7 l8 l9 l10 l11 l12 l13 l14 l15 hA11 hC11 hu11 hr11 hg11
  have l0 := hC12.at 0 rfl; have l1 := hC12.at 1 rfl; have l2 := hC12.at 2 rfl; have l3 := hC12.at 3 rfl; have l4 := hC12.at 4 rfl; have l5 := hC12.at 5 rfl; have l6 := hC12.at 6 rfl; have l7 := hC12.at 7 rfl; have l8 := hC12.at 8 rfl; have l9 := hC12.at 9 rfl; have l10 := hC12.at 10 rfl; have l11 := hC12.at 11 rfl; have l12 := hC12.at 12 rfl; have l13 := hC12.at 13 rfl; have l14 := hC12.at 14 rfl; have l15 := hC12.at 15 rfl
  (try simp only [Exit.inBlock, Exit.then])
  refine bodyPost_ret (v := .agg #[.int .u32 a1, .int .u16 p1, .int .u32 b1, .int .u16 q1, .int .u32 y2, .int .u32 z2, .int .u8 f, .int .u16 wn, .int .u16 m', .int .i64 s', .bool k', .slice A2 n2 c2, .bool t', .int .u32 v', .int .u32 e', .string S]) ?_ rfl ⟨_, rfl, ?_, hu12⟩
  · rw [ip.results_cell1 rfl]; go_simp
  · have s1 : T.sa = a1 := by rw [HT.out]; rfl
    have s2 : T.sp = p1 := by rw [HT.out]; rfl
    have s3 : T.da = b1 := by rw [HT.out]; rfl
    have s4 : T.dp = q1 := by rw [HT.out]; rfl
    have s5 : T.sq = y2 := by rw [HT.out]; exact HY.out.symm
    have s6 : T.ak = z2 := by rw [HT.out]; exact HZ.out.symm
    have s7 : T.fl = f := by rw [HT.out]; rfl
    have s8 : T.wi = wn := by rw [HT.out]; exact HWn.out.symm
    have s9 : T.op = ⟨m', s', k', bl', t', v', e'⟩ := by rw [HT.out]; exact HYo.out.symm
    have s10 : T.dt = L S := by rw [HT.out]; rfl
    exact ⟨A2, n2, c2, by rw [s1, s2, s3, s4, s5, s6, s7, s8, s9, s10, tx_L], by rw [s9]; exact hl2, by rw [s9]; exact hr12, hg12⟩
theorem turnedT {x : Value} {g : Sg} (a1 p1 b1 q1 y1 z1 v1 e1 : Nat) (up dn : Int) (w : World) (h : SegV w x g) (hg : GoodS g) (hX : WfX ⟨a1, b1, p1, q1, y1, z1, v1, e1, up, dn⟩) :
    Calls Try.prog 11 #[x, SHV a1 p1 b1 q1 y1 z1 v1 e1 up dn] w fun e_ w' => ∃ X, e_ = .returned X ∧ SegT w' X (tS ⟨a1, b1, p1, q1, y1, z1, v1, e1, up, dn⟩ g) ∧ Up w w' := by
  obtain ⟨A, n, c, rfl, hn, hr⟩ := h
  obtain ⟨a, b, p, q, y, z, f, i, ⟨m, s, k, bl, t, v, e⟩, D⟩ := g
  have h5 : y1 ≤ 4294967295 := hX.2.2.2.2.1
  have h6 : z1 ≤ 4294967295 := hX.2.2.2.2.2.1
  have h7 : v1 ≤ 4294967295 := hX.2.2.2.2.2.2.1
  have h8 : e1 ≤ 4294967295 := hX.2.2.2.2.2.2.2
  rcases (by omega : f / 16 % 2 = 0 ∨ f / 16 % 2 = 1) with h1 | h1
  · have := lturned0 a p b q y z f i m s k A n c t v e (tx D) bl a1 p1 b1 q1 y1 z1 v1 e1 up dn w h1 (by rw [L_tx]; exact hg) hn hr h5 h6 h7 h8
    rw [L_tx] at this; exact this
  · have := lturned1 a p b q y z f i m s k A n c t v e (tx D) bl a1 p1 b1 q1 y1 z1 v1 e1 up dn w h1 (by rw [L_tx]; exact hg) hn hr h5 h6 h7 h8
    rw [L_tx] at this; exact this
theorem turnedC {x : Value} {g : Sg} (a1 p1 b1 q1 y1 z1 v1 e1 : Nat) (up dn : Int) (w : World) (h : SegV w x g) (hg : GoodS g) (hX : WfX ⟨a1, b1, p1, q1, y1, z1, v1, e1, up, dn⟩) :
    Calls Try.prog 11 #[x, SHV a1 p1 b1 q1 y1 z1 v1 e1 up dn] w fun e_ w' => ∃ X, e_ = .returned X ∧ SegV w' X (tS ⟨a1, b1, p1, q1, y1, z1, v1, e1, up, dn⟩ g) ∧ Up w w' :=
  (turnedT a1 p1 b1 q1 y1 z1 v1 e1 up dn w h hg hX).mono fun _ _ ⟨X, h1, h2, h3⟩ => ⟨X, h1, h2.seg, h3⟩
end Go.Proofs.Ytafckmbgefbonaa.pk
