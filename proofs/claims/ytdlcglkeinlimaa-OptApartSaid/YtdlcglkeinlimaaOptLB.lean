/- The option at a place of a text. Condition: the place lies within, the text has at most 2^20 bytes. -/
import Derived.Test.YtdlcglkeinlimaaOptLA
namespace Go.Proofs.Ytdlcglkeinlimaa.op
open Go.RowKit Go.Shelf Go.Lib Go.Proofs.Ytdlcglkeinlimaa.sm Go.Proofs.Ytdlcglkeinlimaa.nb Go.Proofs.Ytdlcglkeinlimaa.om
set_option linter.unusedVariables false

/-- an option as a value -/
abbrev PV (k z p : Nat) (S : ByteArray) : Value := .agg #[.int .u8 (k : Nat), .int .i64 (z : Nat), .int .i64 (p : Nat), .string S]
theorem Box.e4 {W : World} {b : Nat} {x0 x1 x2 x3 : Value} (h : Box W b [x0, x1, x2, x3]) : W.cell? ⟨b, 0, none⟩ = some x0 ∧ W.cell? ⟨b, 1, none⟩ = some x1 ∧ W.cell? ⟨b, 2, none⟩ = some x2 ∧ W.cell? ⟨b, 3, none⟩ = some x3 :=
  ⟨h.at 0 rfl, h.at 1 rfl, h.at 2 rfl, h.at 3 rfl⟩
theorem Box.f4 {W : World} {b : Nat} {x0 x1 x2 x3 : Value} (h : Box W b [x0, x1, x2, x3]) : W.frozen? ⟨b, 0, none⟩ = false ∧ W.frozen? ⟨b, 1, none⟩ = false ∧ W.frozen? ⟨b, 2, none⟩ = false ∧ W.frozen? ⟨b, 3, none⟩ = false :=
  ⟨h.fr 0 rfl, h.fr 1 rfl, h.fr 2 rfl, h.fr 3 rfl⟩
theorem put4s {W : World} {b : Nat} {x0 x1 x2 x3 : Value} (hB : Box W b [x0, x1, x2, x3]) (y0 y1 y2 y3 : Value) : Box ((((W.setCell ⟨b, 0, none⟩ y0).setCell ⟨b, 1, none⟩ y1).setCell ⟨b, 2, none⟩ y2).setCell ⟨b, 3, none⟩ y3) b [y0, y1, y2, y3] :=
  (((hB.set 0 y0).set 1 y1).set 2 y2).set 3 y3
theorem far4 {W : World} {b c : Nat} {vs : List Value} (h : Box W b vs) (hc : c ≠ b) (y0 y1 y2 y3 : Value) : Box ((((W.setCell ⟨c, 0, none⟩ y0).setCell ⟨c, 1, none⟩ y1).setCell ⟨c, 2, none⟩ y2).setCell ⟨c, 3, none⟩ y3) b vs :=
  (((h.far hc y0).far hc y1).far hc y2).far hc y3
theorem ups4 {w W : World} {b : Nat} (hu : Up w W) (hb : w.heap.size ≤ b) (y0 y1 y2 y3 : Value) : Up w ((((W.setCell ⟨b, 0, none⟩ y0).setCell ⟨b, 1, none⟩ y1).setCell ⟨b, 2, none⟩ y2).setCell ⟨b, 3, none⟩ y3) :=
  up_set (up_set (up_set (up_set hu hb) hb) hb) hb
set_option maxHeartbeats 4000000 in
set_option maxRecDepth 100000 in
theorem optionAtC (s : ByteArray) (p : Nat) (w : World) (hp : p < s.size) (hs : s.size ≤ 1048576) :
    Calls Try.prog 40 #[.string s, .int .i64 (p : Nat)] w fun e w' => e = .returned (PV (nb (L s) p) (osz (L s) p) (p + 2) (tx (osay (L s) p))) ∧ Up w w' := by
  have e0 := bt_at s p hp
  have b0 := bt_bd (L s) p
  rw [nb_bt] at e0 b0
  obtain ⟨K, hK⟩ : ∃ K, nb (L s) p = K := ⟨_, rfl⟩
  rw [hK] at e0 b0 ⊢
  obtain ⟨Z, hZ⟩ : ∃ Z, osz (L s) p = Z := ⟨_, rfl⟩
  obtain ⟨Y, hY⟩ : ∃ Y, tx (osay (L s) p) = Y := ⟨_, rfl⟩
  rw [hZ, hY]
  have HZ := Lib.hid hZ
  have HY := Lib.hid hY
  clear hZ hY hK
  have q1 : IntKind.i64.wrap ((p : Int) + 2) = ((p + 2 : Nat) : Int) := by rw [IntWalk.i64_in _ (by omega)]; omega
  go_enter Try.func40, Try.ntmps40
  go_upto_region 1 with fail
  have hA := Box.new w #[.int .u8 0, .int .i64 0, .int .i64 0, .string { data := #[] }] 54
  have hu : Up w (w.alloc (.cells #[.int .u8 0, .int .i64 0, .int .i64 0, .string { data := #[] }] 54)) := up_al _ (Below.refl _ _)
  generalize (w.alloc (.cells #[.int .u8 0, .int .i64 0, .int .i64 0, .string { data := #[] }] 54)) = w0 at hA hu ⊢
  obtain ⟨n0, hn0⟩ : ∃ n0, n0 = w.heap.size := ⟨_, rfl⟩
  have hle0 : w.heap.size ≤ n0 := by omega
  rw [← hn0] at hA ⊢
  clear hn0
  have i0 : (p : Int) < (s.size : Int) := by omega
  have hlt0 := hA.1
  have hne : n0 ≠ w0.heap.size := by omega
  go_upto_region 2 with fail
  have hX := Box.new w0 #[.int .u8 (K : Nat), .int .i64 0, .int .i64 ((p : Int) + 2), .string { data := #[] }] 54
  have hu1 : Up w (w0.alloc (.cells #[.int .u8 (K : Nat), .int .i64 0, .int .i64 ((p : Int) + 2), .string { data := #[] }] 54)) := up_al _ hu
  have hA1 := hA.alloc (.cells #[.int .u8 (K : Nat), .int .i64 0, .int .i64 ((p : Int) + 2), .string { data := #[] }] 54)
  generalize (w0.alloc (.cells #[.int .u8 (K : Nat), .int .i64 0, .int .i64 ((p : Int) + 2), .string { data := #[] }] 54)) = w1 at hX hu1 hA1 ⊢
  have hle2 : w.heap.size ≤ w0.heap.size := hu.size
  generalize w0.heap.size = n1 at hX hne hle2 ⊢
  clear hA hu hlt0
  have hA := hA1
  have hu := hu1
  clear hA1 hu1
  have hle1 : p ≤ 1048576 := by omega
  by_cases h1 : p + 2 ≤ s.size
  case neg =>
    have i1 : (s.size : Int) < (p : Int) + 2 := by omega
    have EZ := Lib.hid (show Z = 0 by rw [← HZ.out]; unfold osz; rw [if_neg (by rw [L_len]; omega)])
    have EY := Lib.hid (show Y = { data := #[] } by rw [← HY.out]; unfold osay; rw [HZ.out, EZ.out]; rfl)
    obtain ⟨k0, k1, k2, k3⟩ := Box.e4 hX
    obtain ⟨m0, m1, m2, m3⟩ := Box.e4 hA
    obtain ⟨f0, f1, f2, f3⟩ := Box.f4 hA
    go_wp2
    have hAA := put4s hA (.int .u8 (K : Nat)) (.int .i64 0) (.int .i64 ((p : Int) + 2)) (.string { data := #[] })
    have huu := ups4 hu hle0 (.int .u8 (K : Nat)) (.int .i64 0) (.int .i64 ((p : Int) + 2)) (.string { data := #[] })
    generalize World.setCell _ ⟨n0, 3, none⟩ _ = W3 at hAA huu ⊢
    clear k0 k1 k2 k3 m0 m1 m2 m3 f0 f1 f2 f3 hA hu
    obtain ⟨k0, k1, k2, k3⟩ := Box.e4 hAA
    (try simp only [Exit.inBlock, Exit.then])
    refine bodyPost_ret (v := PV K 0 (p + 2) { data := #[] }) ?_ rfl ⟨by rw [EZ.out, EY.out], huu⟩
    rw [results_cell1 rfl]; go_simp
  case pos =>
    have e1 := bt_at s (p + 1) (by omega)
    have b1 := bt_bd (L s) (p + 1)
    rw [nb_bt] at e1 b1
    obtain ⟨z, hz⟩ : ∃ z, nb (L s) (p + 1) = z := ⟨_, rfl⟩
    rw [hz] at e1 b1
    have HN := Lib.hid hz
    clear hz
    have i1 : ¬ (s.size : Int) < (p : Int) + 2 := by omega
    have i2 : (p : Int) + 1 < (s.size : Int) := by omega
    have q3 : IntKind.i64.wrap ((p : Int) + 1) = (p : Int) + 1 := IntWalk.i64_in _ (by omega)
    have q4 : IntKind.i64.wrap ((s.size : Int) - (p : Int)) = (s.size : Int) - (p : Int) := IntWalk.i64_in _ (by omega)
    by_cases h2 : z + p ≤ s.size
    case neg =>
      have i3 : (s.size : Int) - (p : Int) < (z : Int) := by omega
      have EZ := Lib.hid (show Z = 0 by rw [← HZ.out]; unfold osz; rw [HN.out, if_neg (by rw [L_len]; omega)])
      have EY := Lib.hid (show Y = { data := #[] } by rw [← HY.out]; unfold osay; rw [HZ.out, EZ.out]; rfl)
      obtain ⟨k0, k1, k2, k3⟩ := Box.e4 hX
      obtain ⟨m0, m1, m2, m3⟩ := Box.e4 hA
      obtain ⟨f0, f1, f2, f3⟩ := Box.f4 hA
      go_wp2
      have hAA := put4s hA (.int .u8 (K : Nat)) (.int .i64 0) (.int .i64 ((p : Int) + 2)) (.string { data := #[] })
      have huu := ups4 hu hle0 (.int .u8 (K : Nat)) (.int .i64 0) (.int .i64 ((p : Int) + 2)) (.string { data := #[] })
      generalize World.setCell _ ⟨n0, 3, none⟩ _ = W3 at hAA huu ⊢
      clear k0 k1 k2 k3 m0 m1 m2 m3 f0 f1 f2 f3 hA hu
      obtain ⟨k0, k1, k2, k3⟩ := Box.e4 hAA
      (try simp only [Exit.inBlock, Exit.then])
      refine bodyPost_ret (v := PV K 0 (p + 2) { data := #[] }) ?_ rfl ⟨by rw [EZ.out, EY.out], huu⟩
      rw [results_cell1 rfl]; go_simp
    case pos =>
      have i3 : ¬ (s.size : Int) - (p : Int) < (z : Int) := by omega
      have EZ := Lib.hid (show Z = z by rw [← HZ.out]; unfold osz; rw [HN.out, if_pos (by rw [L_len]; omega)])
      obtain ⟨c0, c1, c2, c3⟩ := Box.e4 hX
      obtain ⟨d0, d1, d2, d3⟩ := Box.f4 hX
      go_upto_region 8 with fail
      have hX1 : Box (w1.setCell ⟨n1, 1, none⟩ (.int .i64 (z : Nat))) n1 [.int .u8 (K : Nat), .int .i64 (z : Nat), .int .i64 ((p : Int) + 2), .string { data := #[] }] := hX.set 1 (.int .i64 (z : Nat))
      have hA1 := hA.far (Ne.symm hne) (o := 1) (.int .i64 (z : Nat))
      have hu1 : Up w (w1.setCell ⟨n1, 1, none⟩ (.int .i64 (z : Nat))) := up_set hu hle2
      generalize (w1.setCell ⟨n1, 1, none⟩ (.int .i64 (z : Nat))) = w2 at hX1 hA1 hu1 ⊢
      clear c0 c1 c2 c3 d0 d1 d2 d3 hX hA hu
      have hA := hA1
      have hu := hu1
      clear hA1 hu1
      by_cases h3 : 2 ≤ z
      case neg =>
        have i4 : ¬ (2 : Int) ≤ (z : Int) := by omega
        have i5 : (z : Int) < 2 := by omega
        have EY := Lib.hid (show Y = { data := #[] } by rw [← HY.out]; unfold osay; rw [HZ.out, EZ.out, show z - 2 = 0 by omega]; rfl)
        obtain ⟨k0, k1, k2, k3⟩ := Box.e4 hX1
        obtain ⟨m0, m1, m2, m3⟩ := Box.e4 hA
        obtain ⟨f0, f1, f2, f3⟩ := Box.f4 hA
        go_wp2
        have hAA := put4s hA (.int .u8 (K : Nat)) (.int .i64 (z : Nat)) (.int .i64 ((p : Int) + 2)) (.string { data := #[] })
        have huu := ups4 hu hle0 (.int .u8 (K : Nat)) (.int .i64 (z : Nat)) (.int .i64 ((p : Int) + 2)) (.string { data := #[] })
        generalize World.setCell _ ⟨n0, 3, none⟩ _ = W3 at hAA huu ⊢
        clear k0 k1 k2 k3 m0 m1 m2 m3 f0 f1 f2 f3 hA hu
        obtain ⟨k0, k1, k2, k3⟩ := Box.e4 hAA
        (try simp only [Exit.inBlock, Exit.then])
        refine bodyPost_ret (v := PV K z (p + 2) { data := #[] }) ?_ rfl ⟨by rw [EZ.out, EY.out], huu⟩
        rw [results_cell1 rfl]; go_simp
      case pos =>
        have i4 : (2 : Int) ≤ (z : Int) := by omega
        have i6 : (p : Int) + 2 ≤ (p : Int) + (z : Int) := by omega
        have i7 : (p : Int) + (z : Int) ≤ (s.size : Int) := by omega
        have i8 : (0 : Int) ≤ (p : Int) + 2 := by omega
        have q5 : IntKind.i64.wrap ((p : Int) + (z : Int)) = (p : Int) + (z : Int) := IntWalk.i64_in _ (by omega)
        have j1 : ((p : Int) + 2).toNat = p + 2 := by omega
        have j2 : ((p : Int) + (z : Int)).toNat = p + z := by omega
        obtain ⟨T, hT⟩ : ∃ T, s.extract (p + 2) (p + z) = T := ⟨_, rfl⟩
        have EY := Lib.hid (show Y = T by
          rw [← HY.out, ← hT]; unfold osay; rw [HZ.out, EZ.out, tx_extract, show p + z - (p + 2) = z - 2 by omega])
        obtain ⟨c0, c1, c2, c3⟩ := Box.e4 hX1
        obtain ⟨d0, d1, d2, d3⟩ := Box.f4 hX1
        go_upto_region 10 with fail
        have hX2 : Box (w2.setCell ⟨n1, 3, none⟩ (.string T)) n1 [.int .u8 (K : Nat), .int .i64 (z : Nat), .int .i64 ((p : Int) + 2), .string T] := hX1.set 3 (.string T)
        have hA1 := hA.far (Ne.symm hne) (o := 3) (.string T)
        have hu1 : Up w (w2.setCell ⟨n1, 3, none⟩ (.string T)) := up_set hu hle2
        generalize (w2.setCell ⟨n1, 3, none⟩ (.string T)) = w3 at hX2 hA1 hu1 ⊢
        clear c0 c1 c2 c3 d0 d1 d2 d3 hX1 hA hu hT
        have hA := hA1
        have hu := hu1
        clear hA1 hu1
        obtain ⟨k0, k1, k2, k3⟩ := Box.e4 hX2
        obtain ⟨m0, m1, m2, m3⟩ := Box.e4 hA
        obtain ⟨f0, f1, f2, f3⟩ := Box.f4 hA
        go_wp2
        have hAA := put4s hA (.int .u8 (K : Nat)) (.int .i64 (z : Nat)) (.int .i64 ((p : Int) + 2)) (.string T)
        have huu := ups4 hu hle0 (.int .u8 (K : Nat)) (.int .i64 (z : Nat)) (.int .i64 ((p : Int) + 2)) (.string T)
        generalize World.setCell _ ⟨n0, 3, none⟩ _ = W3 at hAA huu ⊢
        clear k0 k1 k2 k3 m0 m1 m2 m3 f0 f1 f2 f3 hA hu
        obtain ⟨k0, k1, k2, k3⟩ := Box.e4 hAA
        (try simp only [Exit.inBlock, Exit.then])
        refine bodyPost_ret (v := PV K z (p + 2) T) ?_ rfl ⟨by rw [EZ.out, EY.out], huu⟩
        rw [results_cell1 rfl]; go_simp
end Go.Proofs.Ytdlcglkeinlimaa.op
