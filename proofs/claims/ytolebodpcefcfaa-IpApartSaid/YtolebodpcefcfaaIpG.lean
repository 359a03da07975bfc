/- The document's answer for ip: a packet's bytes. Condition: the arguments fit their kinds. -/
import Derived.Test.YtolebodpcefcfaaIpF
namespace Go.Proofs.Ytolebodpcefcfaa.ip
open Go.RowKit Go.Shelf Go.Proofs.Ytolebodpcefcfaa.sm Go.Proofs.Ytolebodpcefcfaa.nb Go.Proofs.Ytolebodpcefcfaa.im
set_option linter.unusedVariables false

theorem refOfT (l : List UInt8) (w : World) (h : l.length ≤ 1099511627776) :
    Calls Try.prog 15 #[.string (tx l)] w fun e w' => e = .returned (.int .u16 (ck (wsum l))) ∧ w = w' := by
  have := su.refOf (tx l) w (by rw [tx_size]; exact h)
  rwa [L_tx] at this
set_option maxHeartbeats 4000000 in
set_option maxRecDepth 100000 in
theorem refEncode (a b p t s i : Nat) (d : Bool) (l : ByteArray) (w : World) (h : Ok a b p t s i) (hl : l.size ≤ 1099511627776) :
    Calls Try.prog 9 #[HV a b p t s i d, .string l] w fun e w' => e = .returned (EV a b p t s i d l) ∧ Up w w' := by
  by_cases hlong : 65515 < l.size
  · have HE := Lib.hid (EV_long (a := a) (b := b) (p := p) (t := t) (s := s) (i := i) (d := d) hlong)
    have h1 : 65535 < 20 + l.size := by omega
    go_enter Try.func9, Try.ntmps9
    go_wp2_with fail
    go_ret2
    exact ⟨congrArg Ending.returned HE.out.symm, up_al _ (Below.refl _ _)⟩
  · have HE := Lib.hid (EV_ok (a := a) (b := b) (p := p) (t := t) (s := s) (i := i) (d := d) hlong)
    obtain ⟨n, hn⟩ : ∃ n : Nat, n = 20 + l.size := ⟨_, rfl⟩
    have hn1 : n ≤ 65535 := by omega
    have HN := Lib.hid hn
    have hcs := cs_le a b p t s i d n
    have HS := Lib.hid (cs_int a b p t s i d n)
    have hsz := hd_size a b p t s i d n (cs a b p t s i d n)
    go_enter Try.func9, Try.ntmps9
    go_upto_region 1 with fail
    have hB := Box.new w #[.int .u32 a, .int .u32 b, .int .u8 p, .int .u8 t, .int .u8 s, .int .u16 i, .bool d] 25
    have hu : Up w (w.alloc (.cells #[.int .u32 a, .int .u32 b, .int .u8 p, .int .u8 t, .int .u8 s, .int .u16 i, .bool d] 25)) := up_al _ (Below.refl _ _)
    generalize (w.alloc (.cells #[.int .u32 a, .int .u32 b, .int .u8 p, .int .u8 t, .int .u8 s, .int .u16 i, .bool d] 25)) = w0 at hB hu ⊢
    go_upto_region 4 with fail
    rw [show ((20 : Int) + (l.size : Int)) = (n : Int) by omega]
    clear hn
    obtain ⟨A8, hA8⟩ : ∃ A : ByteArray, A = (tx (hd a b p t s i d n (cs a b p t s i d n))) ++ l := ⟨_, rfl⟩
    have HA8 := Lib.hid hA8; clear hA8
    have hcat : Hid ((tx (hd a b p t s i d n (cs a b p t s i d n))) ++ l = tx (en a b p t s i d (L l))) := by
      unfold Hid
      conv => lhs; rw [← tx_L l]
      rw [tx_app]
      show _ = tx (hc a b p t s i d (20 + l.size) ++ L l)
      rw [← HN.out]; rfl
    refine wp_region_rel2 (fun W => Up w0 W) (fun W W' => Up W W') (Ys [Det (.agg #[.int .u32 a, .int .u32 b, .int .u8 p, .int .u8 t, .int .u8 s, .int .u16 i, .bool d]),
    Det (.int .i64 n),
    Det (.agg #[.int .u32 a, .int .u32 b, .int .u8 p, .int .u8 t, .int .u8 s, .int .u16 i, .bool d]),
    Det (.int .i64 n),
    Det (.string (tx (hd a b p t s i d n 0))),
    Det (.int .u16 (cs a b p t s i d n : Nat)),
    Det (.string (tx (hd a b p t s i d n (cs a b p t s i d n)))),
    Det (.string l),
    Det (.string A8),
    Det (.string A8),
    Det (.int .i64 0)]) (by kernel_rfl) (by kernel_rfl) (up_dr (Below.refl _ _)) (Stable.ys ⟨Det.st _, Det.st _, Det.st _, Det.st _, Det.st _, Det.st _, Det.st _, Det.st _, Det.st _, Det.st _, Det.st _, trivial⟩) ?_ ?_
    ·
      -- 0: Op.load 25 t2
      refine obligs_cons ?_ ?_
      · intro aa ww hC hdep hvar KK hK
        have d2 : aa.tmps.getD 2 undef = .pointer (some ⟨w.heap.size, 0, none⟩) := hvar 2 (slotOk_spec (by kernel_rfl))
        have d2_ := d2; rw [Array.getD_eq_getD_getElem?] at d2_
        clear hdep hvar
        have hb := hB.up hC
        have c0 := hb.at 0 rfl; have c1 := hb.at 1 rfl; have c2 := hb.at 2 rfl; have c3 := hb.at 3 rfl; have c4 := hb.at 4 rfl; have c5 := hb.at 5 rfl; have c6 := hb.at 6 rfl
        (unfold opTo; go_simp; try simp only [opUpon])
        exact hK _ _ rfl hC (Below.refl _ _)
      -- 1: Op.move t6
      refine obligs_cons ?_ ?_
      · intro aa ww hC hdep hvar KK hK
        have d6 : aa.tmps.getD 6 undef = .int .i64 n := hvar 6 (slotOk_spec (by kernel_rfl))
        have d6_ := d6; rw [Array.getD_eq_getD_getElem?] at d6_
        clear hdep hvar
        (unfold opTo; go_simp; try simp only [opUpon])
        exact hK _ _ rfl hC (Below.refl _ _)
      -- 2: Op.load 25 t2
      refine obligs_cons ?_ ?_
      · intro aa ww hC hdep hvar KK hK
        have d2 : aa.tmps.getD 2 undef = .pointer (some ⟨w.heap.size, 0, none⟩) := hvar 2 (slotOk_spec (by kernel_rfl))
        have d2_ := d2; rw [Array.getD_eq_getD_getElem?] at d2_
        clear hdep hvar
        have hb := hB.up hC
        have c0 := hb.at 0 rfl; have c1 := hb.at 1 rfl; have c2 := hb.at 2 rfl; have c3 := hb.at 3 rfl; have c4 := hb.at 4 rfl; have c5 := hb.at 5 rfl; have c6 := hb.at 6 rfl
        (unfold opTo; go_simp; try simp only [opUpon])
        exact hK _ _ rfl hC (Below.refl _ _)
      -- 3: Op.move t6
      refine obligs_cons ?_ ?_
      · intro aa ww hC hdep hvar KK hK
        have d6 : aa.tmps.getD 6 undef = .int .i64 n := hvar 6 (slotOk_spec (by kernel_rfl))
        have d6_ := d6; rw [Array.getD_eq_getD_getElem?] at d6_
        clear hdep hvar
        (unfold opTo; go_simp; try simp only [opUpon])
        exact hK _ _ rfl hC (Below.refl _ _)
      -- 4: Op.call { value (Operand.func 14), args := #[t14, t15, const (0:u16)], argTypes := #[25, 3, 23] }
      refine obligs_cons ?_ ?_
      · intro aa ww hC hdep hvar KK hK
        have d14 : aa.tmps.getD 14 undef = .agg #[.int .u32 a, .int .u32 b, .int .u8 p, .int .u8 t, .int .u8 s, .int .u16 i, .bool d] := dep_of hdep 2 14 (by kernel_rfl)
        have d15 : aa.tmps.getD 15 undef = .int .i64 n := dep_of hdep 3 15 (by kernel_rfl)
        have d14_ := d14; rw [Array.getD_eq_getD_getElem?] at d14_
        have d15_ := d15; rw [Array.getD_eq_getD_getElem?] at d15_
        clear hdep hvar
        (unfold opTo; go_simp; try simp only [opUpon])
        exact (refHead a b p t s i n 0 d _ h hn1 (by decide)).mono fun e w2 h => ⟨_, h.1, hK _ _ rfl (Up.on hC h.2) h.2⟩
      -- 5: Op.call { value (Operand.func 15), args := #[t16], argTypes := #[9] }
      refine obligs_cons ?_ ?_
      · intro aa ww hC hdep hvar KK hK
        have d16 : aa.tmps.getD 16 undef = .string (tx (hd a b p t s i d n 0)) := dep_of hdep 4 16 (by kernel_rfl)
        have d16_ := d16; rw [Array.getD_eq_getD_getElem?] at d16_
        clear hdep hvar
        (unfold opTo; go_simp; try simp only [opUpon])
        exact (refOfT _ _ (by rw [hd_len]; decide)).mono fun e w2 h => by obtain ⟨h1, rfl⟩ := h; exact ⟨_, h1, hK _ _ (show Value.int .u16 _ = Value.int .u16 _ by rw [HS.out]) hC (Below.refl _ _)⟩
      -- 6: Op.call { value (Operand.func 14), args := #[t12, t13, t17], argTypes := #[25, 3, 23] }
      refine obligs_cons ?_ ?_
      · intro aa ww hC hdep hvar KK hK
        have d12 : aa.tmps.getD 12 undef = .agg #[.int .u32 a, .int .u32 b, .int .u8 p, .int .u8 t, .int .u8 s, .int .u16 i, .bool d] := dep_of hdep 0 12 (by kernel_rfl)
        have d13 : aa.tmps.getD 13 undef = .int .i64 n := dep_of hdep 1 13 (by kernel_rfl)
        have d17 : aa.tmps.getD 17 undef = .int .u16 (cs a b p t s i d n : Nat) := dep_of hdep 5 17 (by kernel_rfl)
        have d12_ := d12; rw [Array.getD_eq_getD_getElem?] at d12_
        have d13_ := d13; rw [Array.getD_eq_getD_getElem?] at d13_
        have d17_ := d17; rw [Array.getD_eq_getD_getElem?] at d17_
        clear hdep hvar
        (unfold opTo; go_simp; try simp only [opUpon])
        exact (refHead a b p t s i n (cs a b p t s i d n : Nat) d _ h hn1 (by omega)).mono fun e w2 h => ⟨_, h.1, hK _ _ rfl (Up.on hC h.2) h.2⟩
      -- 7: Op.move t1
      refine obligs_cons ?_ ?_
      · intro aa ww hC hdep hvar KK hK
        have d1 : aa.tmps.getD 1 undef = .string l := hvar 1 (slotOk_spec (by kernel_rfl))
        have d1_ := d1; rw [Array.getD_eq_getD_getElem?] at d1_
        clear hdep hvar
        (unfold opTo; go_simp; try simp only [opUpon])
        exact hK _ _ rfl hC (Below.refl _ _)
      -- 8: Op.binOp BinOp.add 9 t18 t19 9
      refine obligs_cons ?_ ?_
      · intro aa ww hC hdep hvar KK hK
        have d18 : aa.tmps.getD 18 undef = .string (tx (hd a b p t s i d n (cs a b p t s i d n))) := dep_of hdep 6 18 (by kernel_rfl)
        have d19 : aa.tmps.getD 19 undef = .string l := dep_of hdep 7 19 (by kernel_rfl)
        have d18_ := d18; rw [Array.getD_eq_getD_getElem?] at d18_
        have d19_ := d19; rw [Array.getD_eq_getD_getElem?] at d19_
        clear hdep hvar
        have hno : ¬ 9223372036854775807 < 20 + l.size := by omega
        (unfold opTo; go_simp; try simp only [opUpon])
        rw [← HA8.out]
        exact hK _ _ rfl hC (Below.refl _ _)
      -- 9: Op.assign t20
      refine obligs_cons ?_ ?_
      · intro aa ww hC hdep hvar KK hK
        have d20 : aa.tmps.getD 20 undef = .string A8 := dep_of hdep 8 20 (by kernel_rfl)
        have d20_ := d20; rw [Array.getD_eq_getD_getElem?] at d20_
        clear hdep hvar
        (unfold opTo; go_simp; try simp only [opUpon])
        exact hK _ _ rfl hC (Below.refl _ _)
      -- 10: Op.assign (const (0:i64))
      refine obligs_cons ?_ ?_
      · intro aa ww hC hdep hvar KK hK
        clear hdep hvar
        (unfold opTo; go_simp; try simp only [opUpon])
        exact hK _ _ rfl hC (Below.refl _ _)
      exact obligs_nil
    intro vals ww hC hY
    have e0 : vals 0 = .agg #[.int .u32 a, .int .u32 b, .int .u8 p, .int .u8 t, .int .u8 s, .int .u16 i, .bool d] := hY 0 _ _ rfl rfl
    have e1 : vals 1 = .int .i64 n := hY 1 _ _ rfl rfl
    have e2 : vals 2 = .agg #[.int .u32 a, .int .u32 b, .int .u8 p, .int .u8 t, .int .u8 s, .int .u16 i, .bool d] := hY 2 _ _ rfl rfl
    have e3 : vals 3 = .int .i64 n := hY 3 _ _ rfl rfl
    have e4 : vals 4 = .string (tx (hd a b p t s i d n 0)) := hY 4 _ _ rfl rfl
    have e5 : vals 5 = .int .u16 (cs a b p t s i d n : Nat) := hY 5 _ _ rfl rfl
    have e6 : vals 6 = .string (tx (hd a b p t s i d n (cs a b p t s i d n))) := hY 6 _ _ rfl rfl
    have e7 : vals 7 = .string l := hY 7 _ _ rfl rfl
    have e8 : vals 8 = .string A8 := hY 8 _ _ rfl rfl
    have e9 : vals 9 = .string A8 := hY 9 _ _ rfl rfl
    have e10 : vals 10 = .int .i64 0 := hY 10 _ _ rfl rfl
    clear hY
    simp only [putAll, Act.put, List.setIfInBounds_toArray, List.set_cons_zero, List.set_cons_succ, e0, e1, e2, e3, e4, e5, e6, e7, e8, e9, e10]
    clear e0 e1 e2 e3 e4 e5 e6 e7 e8 e9 e10
    go_wp2
    go_ret2
    exact ⟨by rw [HE.out, HA8.out]; exact congrArg Ending.returned (congrArg (fun x => Value.tuple #[.string x, .int .i64 0]) (by rw [← hcat.out])), hu.on hC⟩
end Go.Proofs.Ytolebodpcefcfaa.ip
