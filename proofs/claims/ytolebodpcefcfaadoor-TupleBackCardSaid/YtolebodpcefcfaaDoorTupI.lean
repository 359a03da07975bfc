/- Package tuple: an address's text. Condition: the library's variables lie as laid. -/
import Derived.Test.YtolebodpcefcfaaDoorTupH
namespace Go.Proofs.YtolebodpcefcfaaDoor.tu
open Go.RowKit Go.Shelf Go.Proofs.YtolebodpcefcfaaDoor.tm
set_option linter.unusedVariables false

/-- rounds of Text: ahead of each number but the first a dot -/
def Y (i : Nat) : Nat → List UInt8
  | 0 => []
  | 1 => D (q3 i)
  | 2 => D (q3 i) ++ [46] ++ D (q2 i)
  | 3 => D (q3 i) ++ [46] ++ D (q2 i) ++ [46] ++ D (q1 i)
  | _ => D (q3 i) ++ [46] ++ D (q2 i) ++ [46] ++ D (q1 i) ++ [46] ++ D (q0 i)
theorem T_Y (i p : Nat) : T i p = Y i 4 ++ [58] ++ D p := by simp [T, T4, Y]
theorem Y_len (i k : Nat) : (Y i k).length ≤ 29 := by
  have k := q_le i
  have h3 := D_len (n := q3 i) (by omega)
  have h2 := D_len (n := q2 i) (by omega)
  have h1 := D_len (n := q1 i) (by omega)
  have h0 := D_len (n := q0 i) (by omega)
  unfold Y
  split <;> simp <;> omega
theorem own_bytes {w : World} {B : Nat} {v : Value} {xs : List UInt8} (h : OwnB w B v xs) (n : Nat) (hn : xs.length = n) (h0 : 0 < n) :
    ∃ g cap, v = .slice (some ⟨g, 0, none⟩) n cap ∧ g < w.heap.size ∧ n ≤ cap ∧ ∀ k (hk : k < n), w.cell? ⟨g, k, none⟩ = some (.int .u8 ((xs[k]'(by omega)).toNat : Int)) := by
  subst hn
  rcases own_form h with ⟨_, he⟩ | ⟨g, cap, rfl, hB, hg, hc, hm⟩
  · omega
  · refine ⟨g, cap, rfl, hg, hc, fun k hk => ?_⟩
    have := World.ownsRow.cells h (g := g) rfl k (.int .u8 ((xs[k]'hk).toNat : Int)) (by simp [BC, Lib.byteCells, hk])
    rw [show (⟨g, 0, none⟩ : Addr).add k = ⟨g, k, none⟩ by unfold Addr.add; split <;> simp_all] at this
    exact this

set_option maxHeartbeats 1000000 in
set_option maxRecDepth 100000 in
theorem textC (i p : Nat) (w : World) (hi : i ≤ 4294967295) (hp : p ≤ 65535) (E : Env w) :
    Calls Tryd.prog 10 #[.agg #[.int .u32 i, .int .u16 p]] w fun e w' => e = .returned (.string (tS i p)) ∧ Up w w' := by
  have hq := q_le i
  go_enter Tryd.func10, Tryd.ntmps10
  go_upto_region 2 with fail
  have B0 := Box.new w i p
  have hu : Up w (w.alloc (.cells #[.int .u32 i, .int .u16 p] 25)) := up_al _ (Below.refl _ _)
  generalize (w.alloc (.cells #[.int .u32 i, .int .u16 p] 25)) = w0 at B0 hu ⊢
  have hz0 := B0.2.2.2.2
  have b0 := B0.1
  have b1 := B0.2.1
  go_wp2_with (go_at_call 26; refine (lay32 w0.heap.size (.slice none 0 0) [] i w0 hi (OwnB.nil_ _ _) (by simp) (Nat.le_refl _)).mono ?_; rintro e w1 ⟨⟨v1, rfl, ho1⟩, hb1⟩; obtain ⟨g, cap, rfl, hg, hc, hcell⟩ := own_bytes ho1 4 rfl (by decide); refine Hid.out ?_)
  refine Lib.hid ?_
  have B1 := B0.up hb1
  have hu1 := hu.on hb1
  have hz1 := hb1.size
  have c0 : w1.cell? ⟨g, 0, none⟩ = some (.int .u8 (q3 i : Nat)) := by rw [hcell 0 (by omega)]; show some (Value.int .u8 ((oct (q3 i)).toNat : Int)) = _; rw [oct_nat hq.1]
  have c1 : w1.cell? ⟨g, 1, none⟩ = some (.int .u8 (q2 i : Nat)) := by rw [hcell 1 (by omega)]; show some (Value.int .u8 ((oct (q2 i)).toNat : Int)) = _; rw [oct_nat hq.2.1]
  have c2 : w1.cell? ⟨g, 2, none⟩ = some (.int .u8 (q1 i : Nat)) := by rw [hcell 2 (by omega)]; show some (Value.int .u8 ((oct (q1 i)).toNat : Int)) = _; rw [oct_nat hq.2.2.1]
  have c3 : w1.cell? ⟨g, 3, none⟩ = some (.int .u8 (q0 i : Nat)) := by rw [hcell 3 (by omega)]; show some (Value.int .u8 ((oct (q0 i)).toNat : Int)) = _; rw [oct_nat hq.2.2.2]
  clear hcell b0 b1
  have HC := Lib.hid (⟨c0, c1, c2, c3⟩ : _ ∧ _ ∧ _ ∧ _)
  clear c0 c1 c2 c3 ho1
  go_wp2
  go_loopw [3, 10] (fun s x wr => ∃ (k : Nat), k ≤ 4 ∧ x = .int .i64 (k : Nat) ∧ OwnB wr w1.heap.size s (Y i k) ∧ Below w1.heap.size w1 wr)
    (fun _ x _ => (4 - intOf x).toNat)
  case atStart => exact ⟨0, by omega, rfl, OwnB.nil_ _ _, Below.refl _ _⟩
  case round =>
    obtain ⟨k, hk, rfl, ho, hb⟩ := hrel
    have hB1 := hb.size
    have E1 := E.up (hu1.on hb)
    rcases (by omega : k = 0 ∨ k = 1 ∨ k = 2 ∨ k = 3 ∨ k = 4) with rfl | rfl | rfl | rfl | rfl
    · have ck := (hb.cell (p := ⟨g, 0, none⟩) hg).trans HC.out.1
      have hqk : (q3 i : Nat) ≤ 255 := hq.1
      have hYl := Y_len i 0
      go_wp2_with (go_at_call 27; refine (appendU w1.heap.size (q3 i) _ _ wr (by omega) ho (by omega) hB1 E1).mono ?_; rintro e w3 ⟨⟨v3, rfl, ho3⟩, hb4⟩; have hb5 := hb.trans hb4)
      go_roundw
      case rel => exact ⟨1, by omega, by go_num, by simpa [Y] using ho3, hb5⟩
      case measure => simp [intOf]
    · have ck := (hb.cell (p := ⟨g, 1, none⟩) hg).trans HC.out.2.1
      have hqk : (q2 i : Nat) ≤ 255 := hq.2.1
      have hYl := Y_len i 1
      go_wp2_with (first
        | (at_builtin; refine app1 (.tmp 17) (.tmp 18) _ 46 46 rfl (ho.up ((Below.refl _ _).alloc (Nat.le_refl _) _)) rfl rfl rfl rfl (by go_simp) (by omega) (by simp; omega) ?_; intro v2 w2 ho2 hb2; have hb3 := (hb.alloc hB1 _).trans hb2; have E3 := E.up (hu1.on hb3); have hB3 := hb3.size; have hl2 : (Y i 1 ++ [46]).length ≤ 1024 := by rw [List.length_append]; simp; omega)
        | (go_at_call 27; refine (appendU w1.heap.size (q2 i) v2 _ w2 (by omega) ho2 hl2 hB3 E3).mono ?_; rintro e w3 ⟨⟨v3, rfl, ho3⟩, hb4⟩; have hb5 := hb3.trans hb4))
      go_roundw
      case rel => exact ⟨2, by omega, by go_num, by simpa [Y] using ho3, hb5⟩
      case measure => simp [intOf]
    · have ck := (hb.cell (p := ⟨g, 2, none⟩) hg).trans HC.out.2.2.1
      have hqk : (q1 i : Nat) ≤ 255 := hq.2.2.1
      have hYl := Y_len i 2
      go_wp2_with (first
        | (at_builtin; refine app1 (.tmp 17) (.tmp 18) _ 46 46 rfl (ho.up ((Below.refl _ _).alloc (Nat.le_refl _) _)) rfl rfl rfl rfl (by go_simp) (by omega) (by simp; omega) ?_; intro v2 w2 ho2 hb2; have hb3 := (hb.alloc hB1 _).trans hb2; have E3 := E.up (hu1.on hb3); have hB3 := hb3.size; have hl2 : (Y i 2 ++ [46]).length ≤ 1024 := by rw [List.length_append]; simp; omega)
        | (go_at_call 27; refine (appendU w1.heap.size (q1 i) v2 _ w2 (by omega) ho2 hl2 hB3 E3).mono ?_; rintro e w3 ⟨⟨v3, rfl, ho3⟩, hb4⟩; have hb5 := hb3.trans hb4))
      go_roundw
      case rel => exact ⟨3, by omega, by go_num, by simpa [Y] using ho3, hb5⟩
      case measure => simp [intOf]
    · have ck := (hb.cell (p := ⟨g, 3, none⟩) hg).trans HC.out.2.2.2
      have hqk : (q0 i : Nat) ≤ 255 := hq.2.2.2
      have hYl := Y_len i 3
      go_wp2_with (first
        | (at_builtin; refine app1 (.tmp 17) (.tmp 18) _ 46 46 rfl (ho.up ((Below.refl _ _).alloc (Nat.le_refl _) _)) rfl rfl rfl rfl (by go_simp) (by omega) (by simp; omega) ?_; intro v2 w2 ho2 hb2; have hb3 := (hb.alloc hB1 _).trans hb2; have E3 := E.up (hu1.on hb3); have hB3 := hb3.size; have hl2 : (Y i 3 ++ [46]).length ≤ 1024 := by rw [List.length_append]; simp; omega)
        | (go_at_call 27; refine (appendU w1.heap.size (q0 i) v2 _ w2 (by omega) ho2 hl2 hB3 E3).mono ?_; rintro e w3 ⟨⟨v3, rfl, ho3⟩, hb4⟩; have hb5 := hb3.trans hb4))
      go_roundw
      case rel => exact ⟨4, by omega, by go_num, by simpa [Y] using ho3, hb5⟩
      case measure => simp [intOf]
    · have hYl := Y_len i 4
      have BB := Lib.hid (B1.up hb)
      go_wp2_with (first
        | (at_builtin; refine app1 (.tmp 25) (.tmp 26) _ 58 58 rfl (ho.up ((Below.refl _ _).alloc (Nat.le_refl _) _)) rfl rfl rfl rfl (by go_simp) (by omega) (by simp; omega) ?_; intro v2 w2 ho2 hb2; have hb3 := (hb.alloc hB1 _).trans hb2; have E3 := E.up (hu1.on hb3); have hB3 := hb3.size; have hl2 : (Y i 4 ++ [58]).length ≤ 1024 := by { rw [List.length_append]; simp; omega }; have b1 := (B1.up hb3).2.1)
        | (go_at_call 27; refine (appendU w1.heap.size p v2 _ w2 hp ho2 hl2 hB3 E3).mono ?_; rintro e w3 ⟨⟨v3, rfl, ho3⟩, hb4⟩; have hb5 := hb3.trans hb4; rw [← T_Y] at ho3; obtain ⟨n, hn⟩ : ∃ n, (T i p).length = n := ⟨_, rfl⟩; have hn0 : 0 < n := by { rw [← hn]; simp [T, T4]; omega }; obtain ⟨g', cap', rfl, -, hcv, -⟩ := conv_own ho3 n hn hn0; rw [show (⟨(T i p).toArray⟩ : ByteArray) = tS i p from rfl] at hcv))
      go_ret
      exact ⟨rfl, hu1.on hb5⟩
end Go.Proofs.YtolebodpcefcfaaDoor.tu
