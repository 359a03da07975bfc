/- B H A: contracts, part 12. Condition: as each says. -/
import Derived.Test.YtafckmbgefbonaaKBHA11
import Derived.Deep.Draws
set_option linter.unusedVariables false
set_option linter.unusedSimpArgs false
namespace Go.Proofs.Ytafckmbgefbonaa.op
open Go.RowKit Go.Shelf Go.Lib Go.Proofs.Ytafckmbgefbonaa.sm Go.Proofs.Ytafckmbgefbonaa.nb Go.Proofs.Ytafckmbgefbonaa.om
set_option linter.unusedVariables false
attribute [local go_sem] Oper.semAt_some

def Kx (X : Nat) (W W' : World) : Prop := W.heap.size ≤ W'.heap.size ∧ ∀ p v, p.block ≠ X → W.cell? p = some v → W'.cell? p = some v
theorem Kx.t {X : Nat} {A B C : World} (h : Kx X A B) (k : Kx X B C) : Kx X A C := ⟨Nat.le_trans h.1 k.1, fun p v hp hc => k.2 p v hp (h.2 p v hp hc)⟩
theorem Kx.b {X : Nat} (W : World) (l : Nat) (o o' : Obj) (h : W.heap[l]? = some o) (ho : o.isCells = false) : Kx X W (W.putObj l o') := by
  have hg := grownBy_putObj' W l o'
  refine ⟨hg.size, fun p v _ hc => cell_kept hc hg (fun r e => by cases e; exact ⟨o, h, ho⟩)⟩
theorem Kx.of {X : Nat} {A B : World} (h : A.grownBy B (some X)) : Kx X A B := ⟨h.size, fun p v hp hc => h.cell hc (fun e => hp (by cases e; rfl))⟩
theorem Kx.up {X : Nat} {A B : World} (h : Up A B) : Kx X A B := Kx.of (grown_up h)
theorem abide_up {β : Type} {B : Nat} {J : β → World → Prop} (h : AbidesFrom B J) {s : β} {W W' : World} (hs : J s W) (hu : Up W W') : J s W' :=
  h s W _ none hs ⟨hu.os, hu.tape, hu.output, hu.size, fun i hi _ => hu.block i hi⟩ (fun r e => by cases e)
abbrev At_ (Q : Nat → Prop) := { p : Nat // Q p }
abbrev ps {Q : Nat → Prop} (l : List (At_ Q)) : List Nat := l.map Subtype.val
abbrev pv (l : List UInt8) (p : Nat) : Value := PV (nb l p) (osz l p) (p + 2) (tx (osay l p))
abbrev OTells (Q : Nat → Prop) (X Bs : Nat) (s : ByteArray) (w : World) : Prop :=
  SeqStopsK Fence.wide 3 Try.prog 72 #[.pointer (some ⟨Bs, 0, none⟩)] (fun x : At_ Q => #[pv (L s) x.1]) (Kx X) (fun xs => OTold (L s) (ps xs)) (fun xs => OPart (L s) (ps xs)) s.size w

set_option maxHeartbeats 1000000 in
theorem optionsC (s : ByteArray) (w : World) :
    Calls Try.prog 44 #[.string s] w fun e w' => e = .returned (.func (.func 72) #[] #[.pointer (some ⟨w.heap.size, 0, none⟩)]) ∧ w' = w.alloc (.cells #[.string s] 9) := by
  go_enter Try.func44, Try.ntmps44
  go_wp2
  go_ret
  exact ⟨rfl, rfl⟩
set_option maxRecDepth 100000 in
set_option maxHeartbeats 4000000 in
theorem optionsTells (Q : Nat → Prop) (X Bs : Nat) (s : ByteArray) (hs : s.size ≤ 1048576) (hQ : ∀ pl p, OSteps (L s) pl p → p < s.size → 2 ≤ nb (L s) p → Q p) (w : World) (hBs : Bs < w.heap.size) (hX : X < w.heap.size) (hne : Bs ≠ X)
    (hS : w.cell? ⟨Bs, 0, none⟩ = some (.string s)) : OTells Q X Bs s w := fun l J Jx W hW hJ hJx hY h0 => by
  have hS' := (hW.cell (p := ⟨Bs, 0, none⟩) hBs).trans hS
  have hXW : X < W.heap.size := Nat.lt_of_lt_of_le hX hW.size
  clear hS hW hX hBs
  have HQ := Lib.hid hQ
  clear hQ
  refine callsIn_of_wp Try.func72 rfl trivial ?_ rfl
  simp only [Try.ntmps72, List.size_toArray, List.length_cons, List.length_nil, Nat.reduceAdd, Nat.reduceSub, Array.replicate_succ, Array.replicate_zero, List.push_toArray, List.append_toArray, List.nil_append, List.cons_append]
  gi_wp2
  gi_loopw [3] (fun i wr => ∃ (p : Nat) (pre : List (At_ Q)), i = .int .i64 (p : Nat) ∧ J pre wr ∧ Hid (OSteps (L s) (ps pre) p) ∧ wr.cell? ⟨Bs, 0, none⟩ = some (.string s) ∧ X < wr.heap.size)
    (fun i _ => s.size - (RowKit.intOf i).toNat)
  case atStart => exact ⟨0, [], rfl, h0, OSteps.nil, hS', hXW⟩
  case round =>
    obtain ⟨p, pre, rfl, hJs, hSt, hc, hXr⟩ := hrel
    by_cases hlt : p < s.size
    · have i0 : (p : Int) < (s.size : Int) := by omega
      have e0 := bt_at s p hlt
      have b0 := bt_bd (L s) p
      rw [nb_bt] at e0 b0
      obtain ⟨K, hK⟩ : ∃ K, nb (L s) p = K := ⟨_, rfl⟩
      rw [hK] at e0 b0
      have HK := Lib.hid hK
      clear hK
      by_cases k0 : K = 0
      · subst k0
        gi_wp2
        go_end0
        exact ⟨⟨_, rfl⟩, .inl ⟨_, .inl ⟨p, hSt.out, .inr ⟨hlt, HK.out⟩⟩, hJs⟩⟩
      · have k0' : ¬ (K : Int) = 0 := by omega
        by_cases k1 : K = 1
        · subst k1
          have q1 : IntKind.i64.wrap ((p : Int) + 1) = (p : Int) + 1 := IntWalk.i64_in _ (by omega)
          gi_wp2
          go_roundw
          case rel => exact ⟨p + 1, pre, by go_num, hJs, OSteps.pad _ _ hSt.out hlt HK.out, hc, hXr⟩
          case measure => simp [RowKit.intOf]; omega
        · have k1' : ¬ (K : Int) = 1 := by omega
          have h2 : 2 ≤ nb (L s) p := by rw [HK.out]; omega
          have hq := HQ.out _ _ hSt.out hlt h2
          have hlen := Lib.hid (show pre.length < s.size by have := (hSt.out).le.1; simp only [ps, List.length_map] at this; omega)
          have hO := Lib.hid (fun w => optionAtC s p w hlt hs)
          have hzb := osz_le (L s) p
          obtain ⟨Z, hZ⟩ : ∃ Z, osz (L s) p = Z := ⟨_, rfl⟩
          have HZ := Lib.hid hZ
          obtain ⟨Y, hYY⟩ : ∃ Y, tx (osay (L s) p) = Y := ⟨_, rfl⟩
          have HE : pv (L s) p = .agg #[.int .u8 K, .int .i64 Z, .int .i64 ((p : Int) + 2), .string Y] := by unfold pv; rw [HK.out, hZ, hYY]; rfl
          rw [HK.out, hZ, hYY] at hO
          rw [hZ] at hzb
          clear hYY hZ
          have HY := Lib.hid (fun W1 (hj : J pre W1) => hY pre ⟨p, hq⟩ W1 hj hlen.out)
          dsimp only at HY
          rw [HE] at HY
          clear HE
          gi_wp2_with fail
          refine ⟨trivial, ?_⟩
          refine (callsIn_wide.2 (hO.out wr)).mono ?_
          rintro e_ w2 ⟨rfl, hu2⟩
          have hJ2 := abide_up hJ hJs hu2
          have hc2 := (hu2.cell (p := ⟨Bs, 0, none⟩) (World.block_lt_of_cell? wr _ hc)).trans hc
          have hX2 := Nat.lt_of_lt_of_le hXr hu2.size
          gi_upto_region 5 with fail
          have hB3 := Box.new w2 #[.int .u8 K, .int .i64 Z, .int .i64 ((p : Int) + 2), .string Y] 95
          have hu3 : Up w2 (w2.alloc (.cells #[.int .u8 K, .int .i64 Z, .int .i64 ((p : Int) + 2), .string Y] 95)) := up_al _ (Below.refl _ _)
          generalize (w2.alloc (.cells #[.int .u8 K, .int .i64 Z, .int .i64 ((p : Int) + 2), .string Y] 95)) = w3 at hB3 hu3 ⊢
          have hnX : w2.heap.size ≠ X := by omega
          generalize w2.heap.size = n1 at hB3 hnX ⊢
          have hJ3 := abide_up hJ hJ2 hu3
          have hc3 := (hu3.cell (p := ⟨Bs, 0, none⟩) (World.block_lt_of_cell? w2 _ hc2)).trans hc2
          have hX3 := Nat.lt_of_lt_of_le hX2 hu3.size
          clear hJ2 hc2 hX2 hu3 hu2
          obtain ⟨m0, m1, m2, m3⟩ := Box.e4 hB3
          obtain ⟨fn, tmps, assign, body, hy, hR⟩ := HY.out w3 hJ3
          gi_wp2
          refine hR.mono ?_
          rintro e_ W4 (⟨rfl, hJ4, hk4⟩ | ⟨rfl, hJx4⟩)
          · have c4 := hk4.2 _ _ (by show n1 ≠ X; exact hnX) m1
            have hc4 := hk4.2 _ _ (by show Bs ≠ X; exact hne) hc3
            have hX4 := Nat.lt_of_lt_of_le hX3 hk4.1
            by_cases hz : Z < 2
            · have i5 : (Z : Int) < 2 := by omega
              gi_wp2
              refine bodyPost_ret (results_none rfl _ _ _) rfl ?_
              exact ⟨⟨_, rfl⟩, .inl ⟨_, .inr ⟨_, p, by simp [ps], hSt.out, hlt, h2, by rw [HZ.out]; exact hz⟩, hJ4⟩⟩
            · have i5 : ¬ (Z : Int) < 2 := by omega
              have q1 : IntKind.i64.wrap ((p : Int) + (Z : Int)) = (p : Int) + (Z : Int) := IntWalk.i64_in _ (by omega)
              gi_wp2
              go_roundw
              case rel => exact ⟨p + Z, _, by go_num, hJ4, by have := OSteps.next _ _ hSt.out hlt h2 (by rw [HZ.out]; omega); rw [HZ.out] at this; show OSteps _ _ _; simpa [ps] using this, hc4, hX4⟩
              case measure => simp [RowKit.intOf]; omega
          · gi_wp2
            refine bodyPost_ret (results_none rfl _ _ _) rfl ?_
            exact ⟨⟨_, rfl⟩, .inr ⟨_, ⟨_, p, by simp [ps], hSt.out, hlt, h2⟩, hJx4⟩⟩
    · have i0 : ¬ (p : Int) < (s.size : Int) := by omega
      gi_wp2
      go_end0
      exact ⟨⟨_, rfl⟩, .inl ⟨_, .inl ⟨p, hSt.out, .inl (by rw [L_len]; omega)⟩, hJs⟩⟩
end Go.Proofs.Ytafckmbgefbonaa.op

namespace Go.Proofs.Ytafckmbgefbonaa.op
open Go.RowKit Go.Shelf Go.Lib Go.Proofs.Ytafckmbgefbonaa.sm Go.Proofs.Ytafckmbgefbonaa.nb Go.Proofs.Ytafckmbgefbonaa.om
set_option linter.unusedVariables false

set_option maxHeartbeats 1000000 in
set_option maxRecDepth 100000 in
theorem fits2 (Z P : Nat) (S : ByteArray) (w : World) (hZ : Z ≤ 255) (hS : S.size = Z - 2) : Calls Try.prog 45 #[PV 2 Z P S] w fun e w' => e = .returned (.bool (lenOk 2 Z && nzb 2 (L S))) ∧ Up w w' := by
  by_cases h4 : Z = 4
  · subst h4
    have HA := Lib.hid (fun w => at16i S 0 w (by omega) (by omega))
    obtain ⟨z, hz⟩ : ∃ z, wd (L S) 0 = z := ⟨_, rfl⟩
    rw [show (0 : Int).toNat = 0 from rfl, hz] at HA
    have HE := Lib.hid (show (lenOk 2 4 && nzb 2 (L S)) = (z != 0) by unfold nzb; rw [hz]; simp [lenOk, bne]; rfl)
    clear hz
    go_enter Try.func45, Try.ntmps45
    go_upto_region 1 with fail
    have hA := Box.new w #[.int .u8 (2 : Nat), .int .i64 4, .int .i64 P, .string S] 95
    have hu : Up w (w.alloc (.cells #[.int .u8 (2 : Nat), .int .i64 4, .int .i64 P, .string S] 95)) := up_al _ (Below.refl _ _)
    generalize (w.alloc (.cells #[.int .u8 (2 : Nat), .int .i64 4, .int .i64 P, .string S] 95)) = w0 at hA hu ⊢
    generalize w.heap.size = n0 at hA ⊢
    obtain ⟨k0, k1, k2, k3⟩ := Box.e4 hA
    go_wp2_with fail
    refine (HA.out w0).mono ?_
    rintro e_ w2 ⟨rfl, rfl⟩
    go_wp2
    go_ret
    exact ⟨ret_bool HE.out.symm, hu⟩
  · have i4 : ¬ (Z : Int) = 4 := by omega
    have HE := Lib.hid (show (lenOk 2 Z && nzb 2 (L S)) = false by simp [lenOk, h4])
    go_enter Try.func45, Try.ntmps45
    go_upto_region 1 with fail
    have hA := Box.new w #[.int .u8 (2 : Nat), .int .i64 Z, .int .i64 P, .string S] 95
    have hu : Up w (w.alloc (.cells #[.int .u8 (2 : Nat), .int .i64 Z, .int .i64 P, .string S] 95)) := up_al _ (Below.refl _ _)
    generalize (w.alloc (.cells #[.int .u8 (2 : Nat), .int .i64 Z, .int .i64 P, .string S] 95)) = w0 at hA hu ⊢
    generalize w.heap.size = n0 at hA ⊢
    obtain ⟨k0, k1, k2, k3⟩ := Box.e4 hA
    go_wp2
    go_ret
    exact ⟨ret_bool HE.out.symm, hu⟩
set_option maxHeartbeats 1000000 in
set_option maxRecDepth 100000 in
theorem fits3 (Z P : Nat) (S : ByteArray) (w : World) (hZ : Z ≤ 255) (hS : S.size = Z - 2) : Calls Try.prog 45 #[PV 3 Z P S] w fun e w' => e = .returned (.bool (lenOk 3 Z && nzb 3 (L S))) ∧ Up w w' := by
  have HE := Lib.hid (show (lenOk 3 Z && nzb 3 (L S)) = (Z == 3) by rw [nzb_x (by decide), Bool.and_true]; rfl)
  go_enter Try.func45, Try.ntmps45
  go_upto_region 1 with fail
  have hA := Box.new w #[.int .u8 (3 : Nat), .int .i64 Z, .int .i64 P, .string S] 95
  have hu : Up w (w.alloc (.cells #[.int .u8 (3 : Nat), .int .i64 Z, .int .i64 P, .string S] 95)) := up_al _ (Below.refl _ _)
  generalize (w.alloc (.cells #[.int .u8 (3 : Nat), .int .i64 Z, .int .i64 P, .string S] 95)) = w0 at hA hu ⊢
  generalize w.heap.size = n0 at hA ⊢
  obtain ⟨k0, k1, k2, k3⟩ := Box.e4 hA
  go_wp2
  go_ret
  exact ⟨ret_bool (by rw [HE.out]; exact eqb Z 3), hu⟩
set_option maxHeartbeats 1000000 in
set_option maxRecDepth 100000 in
theorem fits4 (Z P : Nat) (S : ByteArray) (w : World) (hZ : Z ≤ 255) (hS : S.size = Z - 2) : Calls Try.prog 45 #[PV 4 Z P S] w fun e w' => e = .returned (.bool (lenOk 4 Z && nzb 4 (L S))) ∧ Up w w' := by
  have HE := Lib.hid (show (lenOk 4 Z && nzb 4 (L S)) = (Z == 2) by rw [nzb_x (by decide), Bool.and_true]; rfl)
  go_enter Try.func45, Try.ntmps45
  go_upto_region 1 with fail
  have hA := Box.new w #[.int .u8 (4 : Nat), .int .i64 Z, .int .i64 P, .string S] 95
  have hu : Up w (w.alloc (.cells #[.int .u8 (4 : Nat), .int .i64 Z, .int .i64 P, .string S] 95)) := up_al _ (Below.refl _ _)
  generalize (w.alloc (.cells #[.int .u8 (4 : Nat), .int .i64 Z, .int .i64 P, .string S] 95)) = w0 at hA hu ⊢
  generalize w.heap.size = n0 at hA ⊢
  obtain ⟨k0, k1, k2, k3⟩ := Box.e4 hA
  go_wp2
  go_ret
  exact ⟨ret_bool (by rw [HE.out]; exact eqb Z 2), hu⟩
set_option maxHeartbeats 1000000 in
set_option maxRecDepth 100000 in
theorem fits8 (Z P : Nat) (S : ByteArray) (w : World) (hZ : Z ≤ 255) (hS : S.size = Z - 2) : Calls Try.prog 45 #[PV 8 Z P S] w fun e w' => e = .returned (.bool (lenOk 8 Z && nzb 8 (L S))) ∧ Up w w' := by
  have HE := Lib.hid (show (lenOk 8 Z && nzb 8 (L S)) = (Z == 10) by rw [nzb_x (by decide), Bool.and_true]; rfl)
  go_enter Try.func45, Try.ntmps45
  go_upto_region 1 with fail
  have hA := Box.new w #[.int .u8 (8 : Nat), .int .i64 Z, .int .i64 P, .string S] 95
  have hu : Up w (w.alloc (.cells #[.int .u8 (8 : Nat), .int .i64 Z, .int .i64 P, .string S] 95)) := up_al _ (Below.refl _ _)
  generalize (w.alloc (.cells #[.int .u8 (8 : Nat), .int .i64 Z, .int .i64 P, .string S] 95)) = w0 at hA hu ⊢
  generalize w.heap.size = n0 at hA ⊢
  obtain ⟨k0, k1, k2, k3⟩ := Box.e4 hA
  go_wp2
  go_ret
  exact ⟨ret_bool (by rw [HE.out]; exact eqb Z 10), hu⟩
set_option maxHeartbeats 1000000 in
set_option maxRecDepth 100000 in
theorem fits5 (Z P : Nat) (S : ByteArray) (w : World) (hZ : Z ≤ 255) (hS : S.size = Z - 2) : Calls Try.prog 45 #[PV 5 Z P S] w fun e w' => e = .returned (.bool (lenOk 5 Z && nzb 5 (L S))) ∧ Up w w' := by
  have HE := Lib.hid (show (lenOk 5 Z && nzb 5 (L S)) = (Z == 10 || Z == 18 || Z == 26 || Z == 34) by rw [nzb_x (by decide), Bool.and_true]; rfl)
  obtain ⟨n, hn⟩ : ∃ n, S.size = n := ⟨_, rfl⟩
  have HS := Lib.hid hS
  rw [hn] at hS
  by_cases h0 : n = 0
  · have i0 : ¬ (0 : Int) < (n : Int) := by omega
    have HF := Lib.hid (show (Z == 10 || Z == 18 || Z == 26 || Z == 34) = false by simp; omega)
    go_enter Try.func45, Try.ntmps45
    go_upto_region 1 with fail
    have hA := Box.new w #[.int .u8 (5 : Nat), .int .i64 Z, .int .i64 P, .string S] 95
    have hu : Up w (w.alloc (.cells #[.int .u8 (5 : Nat), .int .i64 Z, .int .i64 P, .string S] 95)) := up_al _ (Below.refl _ _)
    generalize (w.alloc (.cells #[.int .u8 (5 : Nat), .int .i64 Z, .int .i64 P, .string S] 95)) = w0 at hA hu ⊢
    generalize w.heap.size = n0 at hA ⊢
    obtain ⟨k0, k1, k2, k3⟩ := Box.e4 hA
    go_wp2
    go_ret
    exact ⟨ret_bool (by rw [HE.out, HF.out]), hu⟩
  have i0 : (0 : Int) < (n : Int) := by omega
  by_cases h8 : n % 8 = 0
  · have i8 : Int.tmod (n : Int) 8 = 0 := by rw [Int.tmod_eq_emod_of_nonneg (by omega)]; omega
    have HF := Lib.hid (show (Z == 10 || Z == 18 || Z == 26 || Z == 34) = decide (n ≤ 32) by rw [Bool.eq_iff_iff]; simp; omega)
    go_enter Try.func45, Try.ntmps45
    go_upto_region 1 with fail
    have hA := Box.new w #[.int .u8 (5 : Nat), .int .i64 Z, .int .i64 P, .string S] 95
    have hu : Up w (w.alloc (.cells #[.int .u8 (5 : Nat), .int .i64 Z, .int .i64 P, .string S] 95)) := up_al _ (Below.refl _ _)
    generalize (w.alloc (.cells #[.int .u8 (5 : Nat), .int .i64 Z, .int .i64 P, .string S] 95)) = w0 at hA hu ⊢
    generalize w.heap.size = n0 at hA ⊢
    obtain ⟨k0, k1, k2, k3⟩ := Box.e4 hA
    go_wp2
    go_ret
    exact ⟨ret_bool (by rw [HE.out, HF.out]; exact decide_eq_decide.2 (by omega)), hu⟩
  · have i8 : ¬ Int.tmod (n : Int) 8 = 0 := by rw [Int.tmod_eq_emod_of_nonneg (by omega)]; omega
    have HF := Lib.hid (show (Z == 10 || Z == 18 || Z == 26 || Z == 34) = false by simp; omega)
    go_enter Try.func45, Try.ntmps45
    go_upto_region 1 with fail
    have hA := Box.new w #[.int .u8 (5 : Nat), .int .i64 Z, .int .i64 P, .string S] 95
    have hu : Up w (w.alloc (.cells #[.int .u8 (5 : Nat), .int .i64 Z, .int .i64 P, .string S] 95)) := up_al _ (Below.refl _ _)
    generalize (w.alloc (.cells #[.int .u8 (5 : Nat), .int .i64 Z, .int .i64 P, .string S] 95)) = w0 at hA hu ⊢
    generalize w.heap.size = n0 at hA ⊢
    obtain ⟨k0, k1, k2, k3⟩ := Box.e4 hA
    go_wp2
    go_ret
    exact ⟨ret_bool (by rw [HE.out, HF.out]), hu⟩
set_option maxHeartbeats 1000000 in
set_option maxRecDepth 100000 in
theorem fitsx (K : Nat) (hK : K ≤ 255) (h2 : K ≠ 2) (h3 : K ≠ 3) (h4 : K ≠ 4) (h5 : K ≠ 5) (h8 : K ≠ 8) (Z P : Nat) (S : ByteArray) (w : World) (hZ : Z ≤ 255) (hS : S.size = Z - 2) : Calls Try.prog 45 #[PV K Z P S] w fun e w' => e = .returned (.bool (lenOk K Z && nzb K (L S))) ∧ Up w w' := by
  have HE := Lib.hid (show (lenOk K Z && nzb K (L S)) = decide (2 ≤ Z) by rw [nzb_x h2, Bool.and_true]; simp [lenOk, h2, h3, h4, h5, h8])
  have i2 : ¬ (K : Int) = 2 := by omega
  have i3 : ¬ (K : Int) = 3 := by omega
  have i4 : ¬ (K : Int) = 4 := by omega
  have i5 : ¬ (K : Int) = 5 := by omega
  have i8 : ¬ (K : Int) = 8 := by omega
  go_enter Try.func45, Try.ntmps45
  go_upto_region 1 with fail
  have hA := Box.new w #[.int .u8 K, .int .i64 Z, .int .i64 P, .string S] 95
  have hu : Up w (w.alloc (.cells #[.int .u8 K, .int .i64 Z, .int .i64 P, .string S] 95)) := up_al _ (Below.refl _ _)
  generalize (w.alloc (.cells #[.int .u8 K, .int .i64 Z, .int .i64 P, .string S] 95)) = w0 at hA hu ⊢
  generalize w.heap.size = n0 at hA ⊢
  obtain ⟨k0, k1, k2, k3⟩ := Box.e4 hA
  go_wp2
  go_ret
  exact ⟨ret_bool (by rw [HE.out]; exact decide_eq_decide.2 (by omega)), hu⟩
set_option maxHeartbeats 1000000 in
set_option maxRecDepth 100000 in
theorem fitsC (K : Nat) (hK : K ≤ 255) (Z P : Nat) (S : ByteArray) (w : World) (hZ : Z ≤ 255) (hS : S.size = Z - 2) : Calls Try.prog 45 #[PV K Z P S] w fun e w' => e = .returned (.bool (lenOk K Z && nzb K (L S))) ∧ Up w w' := by
  by_cases h2 : K = 2
  · subst h2; exact fits2 Z P S w hZ hS
  by_cases h3 : K = 3
  · subst h3; exact fits3 Z P S w hZ hS
  by_cases h4 : K = 4
  · subst h4; exact fits4 Z P S w hZ hS
  by_cases h5 : K = 5
  · subst h5; exact fits5 Z P S w hZ hS
  by_cases h8 : K = 8
  · subst h8; exact fits8 Z P S w hZ hS
  exact fitsx K hK h2 h3 h4 h5 h8 Z P S w hZ hS
set_option maxHeartbeats 1000000 in
set_option maxRecDepth 100000 in
theorem among2 (Z P : Nat) (S : ByteArray) (m : Nat) (s : Int) (k t : Bool) (v e : Nat) (A : Option Addr) (n c : Nat) (bl : List (Nat × Nat)) (w : World) (hn : bl.length = n) : Calls Try.prog 46 #[PV 2 Z P S, OA m s k A n c t v e] w fun e_ w' => e_ = .returned (.bool (amg ⟨m, s, k, bl, t, v, e⟩ 2)) ∧ Up w w' := by
  have HE := Lib.hid (show amg ⟨m, s, k, bl, t, v, e⟩ 2 = decide (m ≠ 0) from rfl)
  go_enter Try.func46, Try.ntmps46
  go_upto_region 1 with fail
  have hA := (Box.new w #[.int .u8 (2 : Nat), .int .i64 Z, .int .i64 P, .string S] 95).alloc (.cells #[.int .u16 m, .int .i64 s, .bool k, .slice A n c, .bool t, .int .u32 v, .int .u32 e] 28)
  have hB := Box.new (w.alloc (.cells #[.int .u8 (2 : Nat), .int .i64 Z, .int .i64 P, .string S] 95)) #[.int .u16 m, .int .i64 s, .bool k, .slice A n c, .bool t, .int .u32 v, .int .u32 e] 28
  rw [show (w.alloc (.cells #[.int .u8 (2 : Nat), .int .i64 Z, .int .i64 P, .string S] 95)).heap.size = w.heap.size + 1 by simp] at hB
  have hu : Up w ((w.alloc (.cells #[.int .u8 (2 : Nat), .int .i64 Z, .int .i64 P, .string S] 95)).alloc (.cells #[.int .u16 m, .int .i64 s, .bool k, .slice A n c, .bool t, .int .u32 v, .int .u32 e] 28)) := up_al _ (up_al _ (Below.refl _ _))
  generalize ((w.alloc (.cells #[.int .u8 (2 : Nat), .int .i64 Z, .int .i64 P, .string S] 95)).alloc (.cells #[.int .u16 m, .int .i64 s, .bool k, .slice A n c, .bool t, .int .u32 v, .int .u32 e] 28)) = w0 at hA hB hu ⊢
  generalize w.heap.size = n0 at hA hB ⊢
  obtain ⟨k0, k1, k2, k3⟩ := Box.e4 hA
  obtain ⟨m0, m1, m2, m3, m4, m5, m6⟩ := Box.e7 hB
  go_wp2
  go_ret
  exact ⟨ret_bool (by rw [HE.out]; simp [bne]; first | done | (rw [Bool.eq_iff_iff]; simp)), hu⟩
set_option maxHeartbeats 1000000 in
set_option maxRecDepth 100000 in
theorem among3 (Z P : Nat) (S : ByteArray) (m : Nat) (s : Int) (k t : Bool) (v e : Nat) (A : Option Addr) (n c : Nat) (bl : List (Nat × Nat)) (w : World) (hn : bl.length = n) : Calls Try.prog 46 #[PV 3 Z P S, OA m s k A n c t v e] w fun e_ w' => e_ = .returned (.bool (amg ⟨m, s, k, bl, t, v, e⟩ 3)) ∧ Up w w' := by
  have HE := Lib.hid (show amg ⟨m, s, k, bl, t, v, e⟩ 3 = decide (s ≠ -1) from rfl)
  go_enter Try.func46, Try.ntmps46
  go_upto_region 1 with fail
  have hA := (Box.new w #[.int .u8 (3 : Nat), .int .i64 Z, .int .i64 P, .string S] 95).alloc (.cells #[.int .u16 m, .int .i64 s, .bool k, .slice A n c, .bool t, .int .u32 v, .int .u32 e] 28)
  have hB := Box.new (w.alloc (.cells #[.int .u8 (3 : Nat), .int .i64 Z, .int .i64 P, .string S] 95)) #[.int .u16 m, .int .i64 s, .bool k, .slice A n c, .bool t, .int .u32 v, .int .u32 e] 28
  rw [show (w.alloc (.cells #[.int .u8 (3 : Nat), .int .i64 Z, .int .i64 P, .string S] 95)).heap.size = w.heap.size + 1 by simp] at hB
  have hu : Up w ((w.alloc (.cells #[.int .u8 (3 : Nat), .int .i64 Z, .int .i64 P, .string S] 95)).alloc (.cells #[.int .u16 m, .int .i64 s, .bool k, .slice A n c, .bool t, .int .u32 v, .int .u32 e] 28)) := up_al _ (up_al _ (Below.refl _ _))
  generalize ((w.alloc (.cells #[.int .u8 (3 : Nat), .int .i64 Z, .int .i64 P, .string S] 95)).alloc (.cells #[.int .u16 m, .int .i64 s, .bool k, .slice A n c, .bool t, .int .u32 v, .int .u32 e] 28)) = w0 at hA hB hu ⊢
  generalize w.heap.size = n0 at hA hB ⊢
  obtain ⟨k0, k1, k2, k3⟩ := Box.e4 hA
  obtain ⟨m0, m1, m2, m3, m4, m5, m6⟩ := Box.e7 hB
  go_wp2
  go_ret
  exact ⟨ret_bool (by rw [HE.out]; simp [bne]; rw [Bool.eq_iff_iff]; simp), hu⟩
set_option maxHeartbeats 1000000 in
set_option maxRecDepth 100000 in
theorem among4 (Z P : Nat) (S : ByteArray) (m : Nat) (s : Int) (k t : Bool) (v e : Nat) (A : Option Addr) (n c : Nat) (bl : List (Nat × Nat)) (w : World) (hn : bl.length = n) : Calls Try.prog 46 #[PV 4 Z P S, OA m s k A n c t v e] w fun e_ w' => e_ = .returned (.bool (amg ⟨m, s, k, bl, t, v, e⟩ 4)) ∧ Up w w' := by
  have HE := Lib.hid (show amg ⟨m, s, k, bl, t, v, e⟩ 4 = k from rfl)
  go_enter Try.func46, Try.ntmps46
  go_upto_region 1 with fail
  have hA := (Box.new w #[.int .u8 (4 : Nat), .int .i64 Z, .int .i64 P, .string S] 95).alloc (.cells #[.int .u16 m, .int .i64 s, .bool k, .slice A n c, .bool t, .int .u32 v, .int .u32 e] 28)
  have hB := Box.new (w.alloc (.cells #[.int .u8 (4 : Nat), .int .i64 Z, .int .i64 P, .string S] 95)) #[.int .u16 m, .int .i64 s, .bool k, .slice A n c, .bool t, .int .u32 v, .int .u32 e] 28
  rw [show (w.alloc (.cells #[.int .u8 (4 : Nat), .int .i64 Z, .int .i64 P, .string S] 95)).heap.size = w.heap.size + 1 by simp] at hB
  have hu : Up w ((w.alloc (.cells #[.int .u8 (4 : Nat), .int .i64 Z, .int .i64 P, .string S] 95)).alloc (.cells #[.int .u16 m, .int .i64 s, .bool k, .slice A n c, .bool t, .int .u32 v, .int .u32 e] 28)) := up_al _ (up_al _ (Below.refl _ _))
  generalize ((w.alloc (.cells #[.int .u8 (4 : Nat), .int .i64 Z, .int .i64 P, .string S] 95)).alloc (.cells #[.int .u16 m, .int .i64 s, .bool k, .slice A n c, .bool t, .int .u32 v, .int .u32 e] 28)) = w0 at hA hB hu ⊢
  generalize w.heap.size = n0 at hA hB ⊢
  obtain ⟨k0, k1, k2, k3⟩ := Box.e4 hA
  obtain ⟨m0, m1, m2, m3, m4, m5, m6⟩ := Box.e7 hB
  go_wp2
  go_ret
  exact ⟨ret_bool (by exact HE.out.symm), hu⟩
set_option maxHeartbeats 1000000 in
set_option maxRecDepth 100000 in
theorem among5 (Z P : Nat) (S : ByteArray) (m : Nat) (s : Int) (k t : Bool) (v e : Nat) (A : Option Addr) (n c : Nat) (bl : List (Nat × Nat)) (w : World) (hn : bl.length = n) : Calls Try.prog 46 #[PV 5 Z P S, OA m s k A n c t v e] w fun e_ w' => e_ = .returned (.bool (amg ⟨m, s, k, bl, t, v, e⟩ 5)) ∧ Up w w' := by
  have HE := Lib.hid (show amg ⟨m, s, k, bl, t, v, e⟩ 5 = decide (0 < n) from (show decide (bl ≠ []) = _ from decide_eq_decide.2 (by rw [← hn]; exact List.length_pos_iff.symm)))
  go_enter Try.func46, Try.ntmps46
  go_upto_region 1 with fail
  have hA := (Box.new w #[.int .u8 (5 : Nat), .int .i64 Z, .int .i64 P, .string S] 95).alloc (.cells #[.int .u16 m, .int .i64 s, .bool k, .slice A n c, .bool t, .int .u32 v, .int .u32 e] 28)
  have hB := Box.new (w.alloc (.cells #[.int .u8 (5 : Nat), .int .i64 Z, .int .i64 P, .string S] 95)) #[.int .u16 m, .int .i64 s, .bool k, .slice A n c, .bool t, .int .u32 v, .int .u32 e] 28
  rw [show (w.alloc (.cells #[.int .u8 (5 : Nat), .int .i64 Z, .int .i64 P, .string S] 95)).heap.size = w.heap.size + 1 by simp] at hB
  have hu : Up w ((w.alloc (.cells #[.int .u8 (5 : Nat), .int .i64 Z, .int .i64 P, .string S] 95)).alloc (.cells #[.int .u16 m, .int .i64 s, .bool k, .slice A n c, .bool t, .int .u32 v, .int .u32 e] 28)) := up_al _ (up_al _ (Below.refl _ _))
  generalize ((w.alloc (.cells #[.int .u8 (5 : Nat), .int .i64 Z, .int .i64 P, .string S] 95)).alloc (.cells #[.int .u16 m, .int .i64 s, .bool k, .slice A n c, .bool t, .int .u32 v, .int .u32 e] 28)) = w0 at hA hB hu ⊢
  generalize w.heap.size = n0 at hA hB ⊢
  obtain ⟨k0, k1, k2, k3⟩ := Box.e4 hA
  obtain ⟨m0, m1, m2, m3, m4, m5, m6⟩ := Box.e7 hB
  go_wp2
  go_ret
  exact ⟨ret_bool (by rw [HE.out]), hu⟩
set_option maxHeartbeats 1000000 in
set_option maxRecDepth 100000 in
theorem among8 (Z P : Nat) (S : ByteArray) (m : Nat) (s : Int) (k t : Bool) (v e : Nat) (A : Option Addr) (n c : Nat) (bl : List (Nat × Nat)) (w : World) (hn : bl.length = n) : Calls Try.prog 46 #[PV 8 Z P S, OA m s k A n c t v e] w fun e_ w' => e_ = .returned (.bool (amg ⟨m, s, k, bl, t, v, e⟩ 8)) ∧ Up w w' := by
  have HE := Lib.hid (show amg ⟨m, s, k, bl, t, v, e⟩ 8 = t from rfl)
  go_enter Try.func46, Try.ntmps46
  go_upto_region 1 with fail
  have hA := (Box.new w #[.int .u8 (8 : Nat), .int .i64 Z, .int .i64 P, .string S] 95).alloc (.cells #[.int .u16 m, .int .i64 s, .bool k, .slice A n c, .bool t, .int .u32 v, .int .u32 e] 28)
  have hB := Box.new (w.alloc (.cells #[.int .u8 (8 : Nat), .int .i64 Z, .int .i64 P, .string S] 95)) #[.int .u16 m, .int .i64 s, .bool k, .slice A n c, .bool t, .int .u32 v, .int .u32 e] 28
  rw [show (w.alloc (.cells #[.int .u8 (8 : Nat), .int .i64 Z, .int .i64 P, .string S] 95)).heap.size = w.heap.size + 1 by simp] at hB
  have hu : Up w ((w.alloc (.cells #[.int .u8 (8 : Nat), .int .i64 Z, .int .i64 P, .string S] 95)).alloc (.cells #[.int .u16 m, .int .i64 s, .bool k, .slice A n c, .bool t, .int .u32 v, .int .u32 e] 28)) := up_al _ (up_al _ (Below.refl _ _))
  generalize ((w.alloc (.cells #[.int .u8 (8 : Nat), .int .i64 Z, .int .i64 P, .string S] 95)).alloc (.cells #[.int .u16 m, .int .i64 s, .bool k, .slice A n c, .bool t, .int .u32 v, .int .u32 e] 28)) = w0 at hA hB hu ⊢
  generalize w.heap.size = n0 at hA hB ⊢
  obtain ⟨k0, k1, k2, k3⟩ := Box.e4 hA
  obtain ⟨m0, m1, m2, m3, m4, m5, m6⟩ := Box.e7 hB
  go_wp2
  go_ret
  exact ⟨ret_bool (by exact HE.out.symm), hu⟩
set_option maxHeartbeats 1000000 in
set_option maxRecDepth 100000 in
theorem amongx (K : Nat) (hK : K ≤ 255) (h2 : K ≠ 2) (h3 : K ≠ 3) (h4 : K ≠ 4) (h5 : K ≠ 5) (h8 : K ≠ 8) (Z P : Nat) (S : ByteArray) (m : Nat) (s : Int) (k t : Bool) (v e : Nat) (A : Option Addr) (n c : Nat) (bl : List (Nat × Nat)) (w : World) (hn : bl.length = n) : Calls Try.prog 46 #[PV K Z P S, OA m s k A n c t v e] w fun e_ w' => e_ = .returned (.bool (amg ⟨m, s, k, bl, t, v, e⟩ K)) ∧ Up w w' := by
  have HE := Lib.hid (show amg ⟨m, s, k, bl, t, v, e⟩ K = false by unfold amg; rw [if_neg h2, if_neg h3, if_neg h4, if_neg h5, if_neg h8])
  have i2 : ¬ (K : Int) = 2 := by omega
  have i3 : ¬ (K : Int) = 3 := by omega
  have i4 : ¬ (K : Int) = 4 := by omega
  have i5 : ¬ (K : Int) = 5 := by omega
  have i8 : ¬ (K : Int) = 8 := by omega
  go_enter Try.func46, Try.ntmps46
  go_upto_region 1 with fail
  have hA := (Box.new w #[.int .u8 K, .int .i64 Z, .int .i64 P, .string S] 95).alloc (.cells #[.int .u16 m, .int .i64 s, .bool k, .slice A n c, .bool t, .int .u32 v, .int .u32 e] 28)
  have hB := Box.new (w.alloc (.cells #[.int .u8 K, .int .i64 Z, .int .i64 P, .string S] 95)) #[.int .u16 m, .int .i64 s, .bool k, .slice A n c, .bool t, .int .u32 v, .int .u32 e] 28
  rw [show (w.alloc (.cells #[.int .u8 K, .int .i64 Z, .int .i64 P, .string S] 95)).heap.size = w.heap.size + 1 by simp] at hB
  have hu : Up w ((w.alloc (.cells #[.int .u8 K, .int .i64 Z, .int .i64 P, .string S] 95)).alloc (.cells #[.int .u16 m, .int .i64 s, .bool k, .slice A n c, .bool t, .int .u32 v, .int .u32 e] 28)) := up_al _ (up_al _ (Below.refl _ _))
  generalize ((w.alloc (.cells #[.int .u8 K, .int .i64 Z, .int .i64 P, .string S] 95)).alloc (.cells #[.int .u16 m, .int .i64 s, .bool k, .slice A n c, .bool t, .int .u32 v, .int .u32 e] 28)) = w0 at hA hB hu ⊢
  generalize w.heap.size = n0 at hA hB ⊢
  obtain ⟨k0, k1, k2, k3⟩ := Box.e4 hA
  obtain ⟨m0, m1, m2, m3, m4, m5, m6⟩ := Box.e7 hB
  go_wp2
  go_ret
  exact ⟨ret_bool HE.out.symm, hu⟩
set_option maxHeartbeats 1000000 in
set_option maxRecDepth 100000 in
theorem amongC (K : Nat) (hK : K ≤ 255) (Z P : Nat) (S : ByteArray) (m : Nat) (s : Int) (k t : Bool) (v e : Nat) (A : Option Addr) (n c : Nat) (bl : List (Nat × Nat)) (w : World) (hn : bl.length = n) : Calls Try.prog 46 #[PV K Z P S, OA m s k A n c t v e] w fun e_ w' => e_ = .returned (.bool (amg ⟨m, s, k, bl, t, v, e⟩ K)) ∧ Up w w' := by
  by_cases h2 : K = 2
  · subst h2; exact among2 Z P S m s k t v e A n c bl w hn
  by_cases h3 : K = 3
  · subst h3; exact among3 Z P S m s k t v e A n c bl w hn
  by_cases h4 : K = 4
  · subst h4; exact among4 Z P S m s k t v e A n c bl w hn
  by_cases h5 : K = 5
  · subst h5; exact among5 Z P S m s k t v e A n c bl w hn
  by_cases h8 : K = 8
  · subst h8; exact among8 Z P S m s k t v e A n c bl w hn
  exact amongx K hK h2 h3 h4 h5 h8 Z P S m s k t v e A n c bl w hn
end Go.Proofs.Ytafckmbgefbonaa.op
