/- B H A: contracts, part 22. Condition: as each says. -/
import Derived.Test.YtafckmbgefbonaaKBHA10
import Derived.Test.YtafckmbgefbonaaKBHA18
set_option linter.unusedVariables false
set_option linter.unusedSimpArgs false
namespace Go.Proofs.Ytafckmbgefbonaa.ip
open Go.RowKit Go.Shelf Go.Proofs.Ytafckmbgefbonaa.sm Go.Proofs.Ytafckmbgefbonaa.nb Go.Proofs.Ytafckmbgefbonaa.im
set_option linter.unusedVariables false

abbrev HV (a b p t s i : Int) (d : Bool) : Value := .agg #[.int .u32 a, .int .u32 b, .int .u8 p, .int .u8 t, .int .u8 s, .int .u16 i, .bool d]
abbrev HC (a b p t s i : Int) (d : Bool) : List Value := [.int .u32 a, .int .u32 b, .int .u8 p, .int .u8 t, .int .u8 s, .int .u16 i, .bool d]
theorem out_own {w : World} {B : Nat} {v : Value} {xs ys : List UInt8} (h : OwnB w B v xs) (e : xs = ys) : OwnB w B v ys := e ▸ h

set_option maxHeartbeats 2000000 in
set_option maxRecDepth 100000 in
theorem laidC (a b p t s i n c : Nat) (d : Bool) (w : World) (h : Ok a b p t s i) (hn : n ≤ 65535) (hc : c ≤ 65535) :
    Calls Try.prog 38 #[HV a b p t s i d, .int .u16 n, .int .u16 c] w fun e w' => e = .returned (.string (tx (hd a b p t s i d n c))) ∧ Up w w' := by
  obtain ⟨ha, hb, hp, ht, hs, hi⟩ := h
  obtain ⟨f, hf, hff⟩ : ∃ f : Nat, f ≤ 65535 ∧ f = if d then 16384 else 0 := ⟨if d then 16384 else 0, by cases d <;> decide, rfl⟩
  have HF := Lib.hid hff; clear hff
  go_enter Try.func38, Try.ntmps38
  go_upto_region 2 with fail
  have hB := Box.new w #[.int .u32 a, .int .u32 b, .int .u8 p, .int .u8 t, .int .u8 s, .int .u16 i, .bool d] 57
  have hu : Up w (w.alloc (.cells #[.int .u32 a, .int .u32 b, .int .u8 p, .int .u8 t, .int .u8 s, .int .u16 i, .bool d] 57)) := up_al _ (Below.refl _ _)
  have hz : w.heap.size + 1 ≤ (w.alloc (.cells #[.int .u32 a, .int .u32 b, .int .u8 p, .int .u8 t, .int .u8 s, .int .u16 i, .bool d] 57)).heap.size := by simp
  generalize (w.alloc (.cells #[.int .u32 a, .int .u32 b, .int .u8 p, .int .u8 t, .int .u8 s, .int .u16 i, .bool d] 57)) = w0 at hB hu hz ⊢
  have k6 := hB.at 6 rfl
  go_upto_if 10 with fail
  go_cut [7] (fun v wc => v = .int .u16 f ∧ w0 = wc)
  case first =>
    cases d
    · go_wp2
      go_meet
      exact ⟨by rw [HF.out]; rfl, rfl⟩
    · go_wp2
      go_meet
      exact ⟨by rw [HF.out]; rfl, rfl⟩
  case rest =>
  obtain ⟨rfl, rfl⟩ := hcut
  clear k6
  go_wp2_with fail
  refine (lay8 (w.heap.size + 1) _ _ 69 _ (by decide) (OwnB.nil_ _ _) (by simp [B16, B32]) hz).mono ?_
  rintro e w1 ⟨⟨v1, rfl, ho1⟩, hb1⟩
  have hz1 := Nat.le_trans hz hb1.size
  have hB1 := hB.below hb1 (Nat.lt_succ_self _)
  have hu1 : Up w w1 := Below.trans hu (hb1.mono (Nat.le_succ _))
  clear hB hz hb1 hu
  have k1 := hB1.at 4 rfl
  go_wp2_with fail
  refine (lay8 (w.heap.size + 1) _ _ s _ hs ho1 (by simp [B16, B32]) hz1).mono ?_
  rintro e w2 ⟨⟨v2, rfl, ho2⟩, hb2⟩
  have hz2 := Nat.le_trans hz1 hb2.size
  have hB2 := hB1.below hb2 (Nat.lt_succ_self _)
  have hu2 : Up w w2 := Below.trans hu1 (hb2.mono (Nat.le_succ _))
  clear k1 ho1 hB1 hz1 hb2 hu1
  go_wp2_with fail
  refine (lay16 (w.heap.size + 1) _ _ n _ hn ho2 (by simp [B16, B32]) hz2).mono ?_
  rintro e w3 ⟨⟨v3, rfl, ho3⟩, hb3⟩
  have hz3 := Nat.le_trans hz2 hb3.size
  have hB3 := hB2.below hb3 (Nat.lt_succ_self _)
  have hu3 : Up w w3 := Below.trans hu2 (hb3.mono (Nat.le_succ _))
  clear ho2 hB2 hz2 hb3 hu2
  have k3 := hB3.at 5 rfl
  go_wp2_with fail
  refine (lay16 (w.heap.size + 1) _ _ i _ hi ho3 (by simp [B16, B32]) hz3).mono ?_
  rintro e w4 ⟨⟨v4, rfl, ho4⟩, hb4⟩
  have hz4 := Nat.le_trans hz3 hb4.size
  have hB4 := hB3.below hb4 (Nat.lt_succ_self _)
  have hu4 : Up w w4 := Below.trans hu3 (hb4.mono (Nat.le_succ _))
  clear k3 ho3 hB3 hz3 hb4 hu3
  go_wp2_with fail
  refine (lay16 (w.heap.size + 1) _ _ f _ hf ho4 (by simp [B16, B32]) hz4).mono ?_
  rintro e w5 ⟨⟨v5, rfl, ho5⟩, hb5⟩
  have hz5 := Nat.le_trans hz4 hb5.size
  have hB5 := hB4.below hb5 (Nat.lt_succ_self _)
  have hu5 : Up w w5 := Below.trans hu4 (hb5.mono (Nat.le_succ _))
  clear ho4 hB4 hz4 hb5 hu4
  have k5 := hB5.at 3 rfl
  go_wp2_with fail
  refine (lay8 (w.heap.size + 1) _ _ t _ ht ho5 (by simp [B16, B32]) hz5).mono ?_
  rintro e w6 ⟨⟨v6, rfl, ho6⟩, hb6⟩
  have hz6 := Nat.le_trans hz5 hb6.size
  have hB6 := hB5.below hb6 (Nat.lt_succ_self _)
  have hu6 : Up w w6 := Below.trans hu5 (hb6.mono (Nat.le_succ _))
  clear k5 ho5 hB5 hz5 hb6 hu5
  have k6 := hB6.at 2 rfl
  go_wp2_with fail
  refine (lay8 (w.heap.size + 1) _ _ p _ hp ho6 (by simp [B16, B32]) hz6).mono ?_
  rintro e w7 ⟨⟨v7, rfl, ho7⟩, hb7⟩
  have hz7 := Nat.le_trans hz6 hb7.size
  have hB7 := hB6.below hb7 (Nat.lt_succ_self _)
  have hu7 : Up w w7 := Below.trans hu6 (hb7.mono (Nat.le_succ _))
  clear k6 ho6 hB6 hz6 hb7 hu6
  go_wp2_with fail
  refine (lay16 (w.heap.size + 1) _ _ c _ hc ho7 (by simp [B16, B32]) hz7).mono ?_
  rintro e w8 ⟨⟨v8, rfl, ho8⟩, hb8⟩
  have hz8 := Nat.le_trans hz7 hb8.size
  have hB8 := hB7.below hb8 (Nat.lt_succ_self _)
  have hu8 : Up w w8 := Below.trans hu7 (hb8.mono (Nat.le_succ _))
  clear ho7 hB7 hz7 hb8 hu7
  have k8 := hB8.at 0 rfl
  go_wp2_with fail
  refine (lay32 (w.heap.size + 1) _ _ a _ ha ho8 (by simp [B16, B32]) hz8).mono ?_
  rintro e w9 ⟨⟨v9, rfl, ho9⟩, hb9⟩
  have hz9 := Nat.le_trans hz8 hb9.size
  have hB9 := hB8.below hb9 (Nat.lt_succ_self _)
  have hu9 : Up w w9 := Below.trans hu8 (hb9.mono (Nat.le_succ _))
  clear k8 ho8 hB8 hz8 hb9 hu8
  have k9 := hB9.at 1 rfl
  go_wp2_with fail
  refine (lay32 (w.heap.size + 1) _ _ b _ hb ho9 (by simp [B16, B32]) hz9).mono ?_
  rintro e w10 ⟨⟨v10, rfl, ho10⟩, hb10⟩
  have hz10 := Nat.le_trans hz9 hb10.size
  have hB10 := hB9.below hb10 (Nat.lt_succ_self _)
  have hu10 : Up w w10 := Below.trans hu9 (hb10.mono (Nat.le_succ _))
  clear k9 ho9 hB9 hz9 hb10 hu9
  have hE : ([] ++ [oct 69] ++ [oct s] ++ B16 n ++ B16 i ++ B16 f ++ [oct t] ++ [oct p] ++ B16 c ++ B32 a ++ B32 b) = hd a b p t s i d n c := by
    rw [HF.out]; cases d <;> rfl
  have ho := out_own ho10 hE
  clear ho10 hE
  obtain ⟨g, cap, rfl, hcvN, hcv, hcv1, hcv2⟩ := conv_own ho 20 rfl (by decide)
  go_wp2
  go_ret
  exact ⟨rfl, hu10⟩

def EV (a b p t s i : Nat) (d : Bool) (l : ByteArray) : Value :=
  if 65515 < l.size then .tuple #[.string ByteArray.empty, .int .i64 4] else .tuple #[.string (tx (en a b p t s i d (L l))), .int .i64 0]
theorem EV_long {a b p t s i : Nat} {d : Bool} {l : ByteArray} (h : 65515 < l.size) : EV a b p t s i d l = .tuple #[.string ByteArray.empty, .int .i64 4] := if_pos h
theorem EV_ok {a b p t s i : Nat} {d : Bool} {l : ByteArray} (h : ¬ 65515 < l.size) : EV a b p t s i d l = .tuple #[.string (tx (en a b p t s i d (L l))), .int .i64 0] := if_neg h
theorem hd_size (a b p t s i : Nat) (d : Bool) (n c : Nat) : (tx (hd a b p t s i d n c)).size = 20 := by rw [tx_size, hd_len]
theorem of_one (b : Nat) (l : List UInt8) (w : World) (h : w.cell? ⟨b, 0, none⟩ = some (.string (tx l))) (hs : l.length ≤ 1099511627776) :
    Calls Try.prog 37 #[.slice (some ⟨b, 0, none⟩) 1 1] w fun e w' => e = .returned (.int .u16 (ck (wsum l))) ∧ Up w w' := by
  have hc := su.ofC (some ⟨b, 0, none⟩) 1 1 [tx l] rfl (by simp) (by show (L (tx l) ++ []).length ≤ _; rw [L_tx, List.append_nil]; exact hs) w
    (fun _ => ⟨b, 0, rfl, World.block_lt_of_cell? w _ h, fun j hj => by match j, hj with | 0, _ => exact h⟩)
  have e : su.cat [tx l] = l := by show L (tx l) ++ [] = l; rw [L_tx, List.append_nil]
  rw [e] at hc
  exact hc

set_option maxHeartbeats 2000000 in
set_option maxRecDepth 100000 in
theorem encodeC (a b p t s i : Nat) (d : Bool) (l : ByteArray) (w : World) (h : Ok a b p t s i) (hl : l.size ≤ 1099511627776) :
    Calls Try.prog 19 #[HV a b p t s i d, .string l] w fun e w' => e = .returned (EV a b p t s i d l) ∧ Up w w' := by
  by_cases hlong : 65515 < l.size
  · have HE := Lib.hid (EV_long (a := a) (b := b) (p := p) (t := t) (s := s) (i := i) (d := d) hlong)
    go_enter Try.func19, Try.ntmps19
    go_wp2_with fail
    go_ret2
    exact ⟨congrArg Ending.returned HE.out.symm, up_al _ (Below.refl _ _)⟩
  · have HE := Lib.hid (EV_ok (a := a) (b := b) (p := p) (t := t) (s := s) (i := i) (d := d) hlong)
    obtain ⟨n, hn⟩ : ∃ n : Nat, n = 20 + l.size := ⟨_, rfl⟩
    have hn1 : n ≤ 65535 := by omega
    have q1 : IntKind.u16.wrap (20 + (l.size : Int)) = (n : Int) := by rw [IntKind.wrap_u16]; omega
    have HN := Lib.hid hn; clear hn
    have hcs := cs_le a b p t s i d n
    have HS := Lib.hid (cs_int a b p t s i d n)
    go_enter Try.func19, Try.ntmps19
    go_upto_region 3 with fail
    have hB := Box.new w #[.int .u32 a, .int .u32 b, .int .u8 p, .int .u8 t, .int .u8 s, .int .u16 i, .bool d] 57
    have hu : Up w (w.alloc (.cells #[.int .u32 a, .int .u32 b, .int .u8 p, .int .u8 t, .int .u8 s, .int .u16 i, .bool d] 57)) := up_al _ (Below.refl _ _)
    generalize (w.alloc (.cells #[.int .u32 a, .int .u32 b, .int .u8 p, .int .u8 t, .int .u8 s, .int .u16 i, .bool d] 57)) = w0 at hB hu ⊢
    have k0 := hB.at 0 rfl; have k1 := hB.at 1 rfl; have k2 := hB.at 2 rfl; have k3 := hB.at 3 rfl; have k4 := hB.at 4 rfl; have k5 := hB.at 5 rfl; have k6 := hB.at 6 rfl
    go_wp2_with fail
    refine (laidC a b p t s i n 0 d w0 h hn1 (by decide)).mono ?_
    rintro e w1 ⟨rfl, hv1⟩
    have hB1 := hB.up hv1
    have hu1 := hu.on hv1
    clear k0 k1 k2 k3 k4 k5 k6 hB hu hv1
    go_wp2_with fail
    refine (of_one _ _ _ (World.cell?_alloc_new _ _ _ _) (by rw [hd_len]; decide)).mono ?_
    rintro e w2 ⟨rfl, hv2⟩
    have hB2 := (hB1.alloc _).up hv2
    have hu2 := (up_al _ hu1).on hv2
    clear hB1 hu1 hv2
    rw [← HS.out]
    have k0 := hB2.at 0 rfl; have k1 := hB2.at 1 rfl; have k2 := hB2.at 2 rfl; have k3 := hB2.at 3 rfl; have k4 := hB2.at 4 rfl; have k5 := hB2.at 5 rfl; have k6 := hB2.at 6 rfl
    go_wp2_with fail
    refine (laidC a b p t s i n (cs a b p t s i d n) d w2 h hn1 hcs).mono ?_
    rintro e w3 ⟨rfl, hv3⟩
    have hu3 := hu2.on hv3
    clear k0 k1 k2 k3 k4 k5 k6 hB2 hu2 hv3
    have hsz := hd_size a b p t s i d n (cs a b p t s i d n)
    have hcat : tx (hd a b p t s i d n (cs a b p t s i d n)) ++ l = tx (en a b p t s i d (L l)) := by
      conv => lhs; rw [← tx_L l]
      rw [tx_app]
      show _ = tx (hc a b p t s i d (20 + l.size) ++ L l)
      rw [← HN.out]; rfl
    have HC := Lib.hid hcat; clear hcat
    go_wp2_with fail
    go_ret2
    exact ⟨by rw [HE.out, ← HC.out]; rfl, hu3⟩
end Go.Proofs.Ytafckmbgefbonaa.ip
