/- A: contracts, part 3. Condition: as each says. -/
import Derived.Test.YtafckmbgefbonaaKA2
import Derived.Test.YtafckmbgefbonaaKHA1
import Derived.Test.YtafckmbgefbonaaKBA3
set_option linter.unusedVariables false
set_option linter.unusedSimpArgs false
namespace Go.Proofs.Ytafckmbgefbonaa.pk
open Go.RowKit Go.Shelf Go.Lib Go.Proofs.Ytafckmbgefbonaa.sm Go.Proofs.Ytafckmbgefbonaa.nb Go.Proofs.Ytafckmbgefbonaa.pm
set_option linter.unusedVariables false

theorem EVP_some (g : Sg) : ∃ (S : ByteArray) (n : Int), EVP g = .tuple #[.string S, .int .i64 n] := by
  by_cases h : MayS g
  · exact ⟨_, _, EVP_ok h⟩
  · exact ⟨_, _, EVP_no h⟩
end Go.Proofs.Ytafckmbgefbonaa.pk

namespace Go.Proofs.Ytafckmbgefbonaa.pk
open Go.RowKit Go.Shelf Go.Lib Go.Proofs.Ytafckmbgefbonaa.sm Go.Proofs.Ytafckmbgefbonaa.nb Go.Proofs.Ytafckmbgefbonaa.pm
set_option linter.unusedVariables false

theorem fld5 (a p b q y z f i m : Nat) (s : Int) (k : Bool) (A : Option Addr) (n c : Nat) (t : Bool) (v e : Nat) (S : ByteArray) : ∀ W, (Instr.field 30 (SA a p b q y z f i m s k A n c t v e S) 5).run Try.prog W = .ok (.int .u16 i) W := fun W => by kernel_rfl
theorem negW (a : Nat) (h : a ≤ 4294967295) : IntKind.u32.wrap (-(a : Int)) = ((om.negM a : Nat) : Int) := by rw [IntKind.wrap_u32]; unfold om.negM om.M32; omega
theorem negW' (a : Nat) (h : a ≤ 4294967295) : (-(a : Int)) % 4294967296 = ((om.negM a : Nat) : Int) := by unfold om.negM om.M32; omega
def TkS (t : Sg) (v : Value) (w : World) : Prop := SegT w v t
theorem TkS.st (t : Sg) : ∀ v w w', TkS t v w → Up w w' → TkS t v w' := fun _ _ _ h u => SegT.up h u
def NewT (B : Nat) (cs : List Value) (v : Value) (W : World) : Prop := ∃ n, v = .pointer (some ⟨n, 0, none⟩) ∧ B ≤ n ∧ Box W n cs ∧ ∃ ar fz, W.heap[n]? = some (.cells ar 30 fz)
theorem NewT.st (B : Nat) (cs : List Value) : ∀ v w w', NewT B cs v w → Up w w' → NewT B cs v w' := fun v w w' h u => by
  obtain ⟨n, h1, h2, h3, ar, fz, h4⟩ := h
  exact ⟨n, h1, h2, h3.up u, ar, fz, (u.block n h3.1).trans h4⟩
structure Later (Q : Prop) : Prop where
  out : Q
set_option maxHeartbeats 8000000 in
set_option maxRecDepth 100000 in
noncomputable def lawApart1 (g : Sg) (A : Option Addr) (n c : Nat) (h : Sg) (A2 : Option Addr) (n2 c2 : Nat) (a1 p1 b1 q1 y1 z1 v1 ec : Nat) (up dn : Int) (w : World) : {Q : Prop // Later Q → ∀ (hg : SegX w g A n) (hh : SegX w h A2 n2) (hX : WfX ⟨a1, b1, p1, q1, y1, z1, v1, ec, up, dn⟩), Calls Try.prog 5 #[SGV g A n c, SGV h A2 n2 c2, SHV a1 p1 b1 q1 y1 z1 v1 ec up dn] w fun e_ w' => e_ = .returned (.bool true) ∧ Up w w'} := by
  apply Subtype.mk
  · intro hrest
    intro hg hh hX
    have HG := Lib.hid hg
    have HH := Lib.hid hh
    clear hg hh
    go_enter Try.func5, Try.ntmps5
    go_upto_region 1 with fail
    have hA_1 := ((Box.new w #[.int .u32 g.sa, .int .u16 g.sp, .int .u32 g.da, .int .u16 g.dp, .int .u32 g.sq, .int .u32 g.ak, .int .u8 g.fl, .int .u16 g.wi, .int .u16 g.op.mss, .int .i64 g.op.sc, .bool g.op.sk, .slice A n c, .bool g.op.tm, .int .u32 g.op.va, .int .u32 g.op.ec, .string (tx g.dt)] 30).alloc (.cells #[.int .u32 h.sa, .int .u16 h.sp, .int .u32 h.da, .int .u16 h.dp, .int .u32 h.sq, .int .u32 h.ak, .int .u8 h.fl, .int .u16 h.wi, .int .u16 h.op.mss, .int .i64 h.op.sc, .bool h.op.sk, .slice A2 n2 c2, .bool h.op.tm, .int .u32 h.op.va, .int .u32 h.op.ec, .string (tx h.dt)] 30)).alloc (.cells #[.int .u32 a1, .int .u16 p1, .int .u32 b1, .int .u16 q1, .int .u32 y1, .int .u32 z1, .int .u32 v1, .int .u32 ec, .int .i64 up, .int .i64 dn] 32)
    have hB_2 := (Box.new (w.alloc (.cells #[.int .u32 g.sa, .int .u16 g.sp, .int .u32 g.da, .int .u16 g.dp, .int .u32 g.sq, .int .u32 g.ak, .int .u8 g.fl, .int .u16 g.wi, .int .u16 g.op.mss, .int .i64 g.op.sc, .bool g.op.sk, .slice A n c, .bool g.op.tm, .int .u32 g.op.va, .int .u32 g.op.ec, .string (tx g.dt)] 30)) #[.int .u32 h.sa, .int .u16 h.sp, .int .u32 h.da, .int .u16 h.dp, .int .u32 h.sq, .int .u32 h.ak, .int .u8 h.fl, .int .u16 h.wi, .int .u16 h.op.mss, .int .i64 h.op.sc, .bool h.op.sk, .slice A2 n2 c2, .bool h.op.tm, .int .u32 h.op.va, .int .u32 h.op.ec, .string (tx h.dt)] 30).alloc (.cells #[.int .u32 a1, .int .u16 p1, .int .u32 b1, .int .u16 q1, .int .u32 y1, .int .u32 z1, .int .u32 v1, .int .u32 ec, .int .i64 up, .int .i64 dn] 32)
    rw [show (w.alloc (.cells #[.int .u32 g.sa, .int .u16 g.sp, .int .u32 g.da, .int .u16 g.dp, .int .u32 g.sq, .int .u32 g.ak, .int .u8 g.fl, .int .u16 g.wi, .int .u16 g.op.mss, .int .i64 g.op.sc, .bool g.op.sk, .slice A n c, .bool g.op.tm, .int .u32 g.op.va, .int .u32 g.op.ec, .string (tx g.dt)] 30)).heap.size = w.heap.size + 1 by simp] at hB_2
    have hX_3 := Box.new ((w.alloc (.cells #[.int .u32 g.sa, .int .u16 g.sp, .int .u32 g.da, .int .u16 g.dp, .int .u32 g.sq, .int .u32 g.ak, .int .u8 g.fl, .int .u16 g.wi, .int .u16 g.op.mss, .int .i64 g.op.sc, .bool g.op.sk, .slice A n c, .bool g.op.tm, .int .u32 g.op.va, .int .u32 g.op.ec, .string (tx g.dt)] 30)).alloc (.cells #[.int .u32 h.sa, .int .u16 h.sp, .int .u32 h.da, .int .u16 h.dp, .int .u32 h.sq, .int .u32 h.ak, .int .u8 h.fl, .int .u16 h.wi, .int .u16 h.op.mss, .int .i64 h.op.sc, .bool h.op.sk, .slice A2 n2 c2, .bool h.op.tm, .int .u32 h.op.va, .int .u32 h.op.ec, .string (tx h.dt)] 30)) #[.int .u32 a1, .int .u16 p1, .int .u32 b1, .int .u16 q1, .int .u32 y1, .int .u32 z1, .int .u32 v1, .int .u32 ec, .int .i64 up, .int .i64 dn] 32
    rw [show ((w.alloc (.cells #[.int .u32 g.sa, .int .u16 g.sp, .int .u32 g.da, .int .u16 g.dp, .int .u32 g.sq, .int .u32 g.ak, .int .u8 g.fl, .int .u16 g.wi, .int .u16 g.op.mss, .int .i64 g.op.sc, .bool g.op.sk, .slice A n c, .bool g.op.tm, .int .u32 g.op.va, .int .u32 g.op.ec, .string (tx g.dt)] 30)).alloc (.cells #[.int .u32 h.sa, .int .u16 h.sp, .int .u32 h.da, .int .u16 h.dp, .int .u32 h.sq, .int .u32 h.ak, .int .u8 h.fl, .int .u16 h.wi, .int .u16 h.op.mss, .int .i64 h.op.sc, .bool h.op.sk, .slice A2 n2 c2, .bool h.op.tm, .int .u32 h.op.va, .int .u32 h.op.ec, .string (tx h.dt)] 30)).heap.size = w.heap.size + 1 + 1 by simp] at hX_3
    have hv3 : Up w (((w.alloc (.cells #[.int .u32 g.sa, .int .u16 g.sp, .int .u32 g.da, .int .u16 g.dp, .int .u32 g.sq, .int .u32 g.ak, .int .u8 g.fl, .int .u16 g.wi, .int .u16 g.op.mss, .int .i64 g.op.sc, .bool g.op.sk, .slice A n c, .bool g.op.tm, .int .u32 g.op.va, .int .u32 g.op.ec, .string (tx g.dt)] 30)).alloc (.cells #[.int .u32 h.sa, .int .u16 h.sp, .int .u32 h.da, .int .u16 h.dp, .int .u32 h.sq, .int .u32 h.ak, .int .u8 h.fl, .int .u16 h.wi, .int .u16 h.op.mss, .int .i64 h.op.sc, .bool h.op.sk, .slice A2 n2 c2, .bool h.op.tm, .int .u32 h.op.va, .int .u32 h.op.ec, .string (tx h.dt)] 30)).alloc (.cells #[.int .u32 a1, .int .u16 p1, .int .u32 b1, .int .u16 q1, .int .u32 y1, .int .u32 z1, .int .u32 v1, .int .u32 ec, .int .i64 up, .int .i64 dn] 32)) := (up_al _ (up_al _ (up_al _ (Below.refl _ _))))
    generalize (((w.alloc (.cells #[.int .u32 g.sa, .int .u16 g.sp, .int .u32 g.da, .int .u16 g.dp, .int .u32 g.sq, .int .u32 g.ak, .int .u8 g.fl, .int .u16 g.wi, .int .u16 g.op.mss, .int .i64 g.op.sc, .bool g.op.sk, .slice A n c, .bool g.op.tm, .int .u32 g.op.va, .int .u32 g.op.ec, .string (tx g.dt)] 30)).alloc (.cells #[.int .u32 h.sa, .int .u16 h.sp, .int .u32 h.da, .int .u16 h.dp, .int .u32 h.sq, .int .u32 h.ak, .int .u8 h.fl, .int .u16 h.wi, .int .u16 h.op.mss, .int .i64 h.op.sc, .bool h.op.sk, .slice A2 n2 c2, .bool h.op.tm, .int .u32 h.op.va, .int .u32 h.op.ec, .string (tx h.dt)] 30)).alloc (.cells #[.int .u32 a1, .int .u16 p1, .int .u32 b1, .int .u16 q1, .int .u32 y1, .int .u32 z1, .int .u32 v1, .int .u32 ec, .int .i64 up, .int .i64 dn] 32)) = w3 at hA_1 hB_2 hX_3 hv3 ⊢
    generalize hq0 : w.heap.size = n0 at hA_1 hB_2 hX_3 ⊢
    have hle0 : w.heap.size ≤ n0 := by omega
    clear hq0
    have hu3 := hv3
    clear hv3
    have k0 := hA_1.at 0 rfl; have k1 := hA_1.at 1 rfl; have k2 := hA_1.at 2 rfl; have k3 := hA_1.at 3 rfl; have k4 := hA_1.at 4 rfl; have k5 := hA_1.at 5 rfl; have k6 := hA_1.at 6 rfl; have k7 := hA_1.at 7 rfl; have k8 := hA_1.at 8 rfl; have k9 := hA_1.at 9 rfl; have k10 := hA_1.at 10 rfl; have k11 := hA_1.at 11 rfl; have k12 := hA_1.at 12 rfl; have k13 := hA_1.at 13 rfl; have k14 := hA_1.at 14 rfl; have k15 := hA_1.at 15 rfl; have l0 := hB_2.at 0 rfl; have l1 := hB_2.at 1 rfl; have l2 := hB_2.at 2 rfl; have l3 := hB_2.at 3 rfl; have l4 := hB_2.at 4 rfl; have l5 := hB_2.at 5 rfl; have l6 := hB_2.at 6 rfl; have l7 := hB_2.at 7 rfl; have l8 := hB_2.at 8 rfl; have l9 := hB_2.at 9 rfl; have l10 := hB_2.at 10 rfl; have l11 := hB_2.at 11 rfl; have l12 := hB_2.at 12 rfl; have l13 := hB_2.at 13 rfl; have l14 := hB_2.at 14 rfl; have l15 := hB_2.at 15 rfl; have m0 := hX_3.at 0 rfl; have m1 := hX_3.at 1 rfl; have m2 := hX_3.at 2 rfl; have m3 := hX_3.at 3 rfl; have m4 := hX_3.at 4 rfl; have m5 := hX_3.at 5 rfl; have m6 := hX_3.at 6 rfl; have m7 := hX_3.at 7 rfl; have m8 := hX_3.at 8 rfl; have m9 := hX_3.at 9 rfl
    go_wp2_with fail
    refine (heavyV w3 ((HG.out.up hu3).seg c)).mono ?_
    rintro e_ w4 ⟨rfl, hv4⟩
    (try generalize (Value.agg #[.int .u32 g.sa, .int .u16 g.sp, .int .u32 g.da, .int .u16 g.dp, .int .u32 g.sq, .int .u32 g.ak, .int .u8 g.fl, .int .u16 g.wi, .int .u16 g.op.mss, .int .i64 g.op.sc, .bool g.op.sk, .slice A n c, .bool g.op.tm, .int .u32 g.op.va, .int .u32 g.op.ec, .string (tx g.dt)]) = XV4_0)
    (try generalize (Value.agg #[.int .u32 h.sa, .int .u16 h.sp, .int .u32 h.da, .int .u16 h.dp, .int .u32 h.sq, .int .u32 h.ak, .int .u8 h.fl, .int .u16 h.wi, .int .u16 h.op.mss, .int .i64 h.op.sc, .bool h.op.sk, .slice A2 n2 c2, .bool h.op.tm, .int .u32 h.op.va, .int .u32 h.op.ec, .string (tx h.dt)]) = XV4_1)
    (try generalize (Value.agg #[.int .u32 a1, .int .u16 p1, .int .u32 b1, .int .u16 q1, .int .u32 y1, .int .u32 z1, .int .u32 v1, .int .u32 ec, .int .i64 up, .int .i64 dn]) = XV4_2)
    clear k0 k1 k2 k3 k4 k5 k6 k7 k8 k9 k10 k11 k12 k13 k14 k15 l0 l1 l2 l3 l4 l5 l6 l7 l8 l9 l10 l11 l12 l13 l14 l15 m0 m1 m2 m3 m4 m5 m6 m7 m8 m9
    have hu4 := hu3.on hv4
    have hA_4 := hA_1.up hv4
    have hB_4 := hB_2.up hv4
    have hX_4 := hX_3.up hv4
    clear hA_1 hB_2 hX_3 hu3 hv4
    by_cases c0 : heavy g = true
    · rw [c0]
      go_wp2_with fail
      refine (aliveC w4).mono ?_
      rintro e_ w5 ⟨rfl, hv5⟩
      (try generalize (Value.agg #[.int .u32 g.sa, .int .u16 g.sp, .int .u32 g.da, .int .u16 g.dp, .int .u32 g.sq, .int .u32 g.ak, .int .u8 g.fl, .int .u16 g.wi, .int .u16 g.op.mss, .int .i64 g.op.sc, .bool g.op.sk, .slice A n c, .bool g.op.tm, .int .u32 g.op.va, .int .u32 g.op.ec, .string (tx g.dt)]) = XV5_0)
      (try generalize (Value.agg #[.int .u32 h.sa, .int .u16 h.sp, .int .u32 h.da, .int .u16 h.dp, .int .u32 h.sq, .int .u32 h.ak, .int .u8 h.fl, .int .u16 h.wi, .int .u16 h.op.mss, .int .i64 h.op.sc, .bool h.op.sk, .slice A2 n2 c2, .bool h.op.tm, .int .u32 h.op.va, .int .u32 h.op.ec, .string (tx h.dt)]) = XV5_1)
      (try generalize (Value.agg #[.int .u32 a1, .int .u16 p1, .int .u32 b1, .int .u16 q1, .int .u32 y1, .int .u32 z1, .int .u32 v1, .int .u32 ec, .int .i64 up, .int .i64 dn]) = XV5_2)
      have hu5 := hu4.on hv5
      have hA_5 := hA_4.up hv5
      have hB_5 := hB_4.up hv5
      have hX_5 := hX_4.up hv5
      clear hA_4 hB_4 hX_4 hu4 hv5
      go_wp2
      go_ret
      exact ⟨rfl, hu5⟩
    · have c0' : heavy g = false := by simpa using c0
      rw [c0']
      have k0 := hA_4.at 0 rfl; have k1 := hA_4.at 1 rfl; have k2 := hA_4.at 2 rfl; have k3 := hA_4.at 3 rfl; have k4 := hA_4.at 4 rfl; have k5 := hA_4.at 5 rfl; have k6 := hA_4.at 6 rfl; have k7 := hA_4.at 7 rfl; have k8 := hA_4.at 8 rfl; have k9 := hA_4.at 9 rfl; have k10 := hA_4.at 10 rfl; have k11 := hA_4.at 11 rfl; have k12 := hA_4.at 12 rfl; have k13 := hA_4.at 13 rfl; have k14 := hA_4.at 14 rfl; have k15 := hA_4.at 15 rfl; have l0 := hB_4.at 0 rfl; have l1 := hB_4.at 1 rfl; have l2 := hB_4.at 2 rfl; have l3 := hB_4.at 3 rfl; have l4 := hB_4.at 4 rfl; have l5 := hB_4.at 5 rfl; have l6 := hB_4.at 6 rfl; have l7 := hB_4.at 7 rfl; have l8 := hB_4.at 8 rfl; have l9 := hB_4.at 9 rfl; have l10 := hB_4.at 10 rfl; have l11 := hB_4.at 11 rfl; have l12 := hB_4.at 12 rfl; have l13 := hB_4.at 13 rfl; have l14 := hB_4.at 14 rfl; have l15 := hB_4.at 15 rfl
      go_wp2_with fail
      refine (heavyV w4 ((HH.out.up hu4).seg c2)).mono ?_
      rintro e_ w5 ⟨rfl, hv5⟩
      (try generalize (Value.agg #[.int .u32 g.sa, .int .u16 g.sp, .int .u32 g.da, .int .u16 g.dp, .int .u32 g.sq, .int .u32 g.ak, .int .u8 g.fl, .int .u16 g.wi, .int .u16 g.op.mss, .int .i64 g.op.sc, .bool g.op.sk, .slice A n c, .bool g.op.tm, .int .u32 g.op.va, .int .u32 g.op.ec, .string (tx g.dt)]) = XV5_0)
      (try generalize (Value.agg #[.int .u32 h.sa, .int .u16 h.sp, .int .u32 h.da, .int .u16 h.dp, .int .u32 h.sq, .int .u32 h.ak, .int .u8 h.fl, .int .u16 h.wi, .int .u16 h.op.mss, .int .i64 h.op.sc, .bool h.op.sk, .slice A2 n2 c2, .bool h.op.tm, .int .u32 h.op.va, .int .u32 h.op.ec, .string (tx h.dt)]) = XV5_1)
      (try generalize (Value.agg #[.int .u32 a1, .int .u16 p1, .int .u32 b1, .int .u16 q1, .int .u32 y1, .int .u32 z1, .int .u32 v1, .int .u32 ec, .int .i64 up, .int .i64 dn]) = XV5_2)
      clear k0 k1 k2 k3 k4 k5 k6 k7 k8 k9 k10 k11 k12 k13 k14 k15 l0 l1 l2 l3 l4 l5 l6 l7 l8 l9 l10 l11 l12 l13 l14 l15
      have hu5 := hu4.on hv5
      have hA_5 := hA_4.up hv5
      have hB_5 := hB_4.up hv5
      have hX_5 := hX_4.up hv5
      clear hA_4 hB_4 hX_4 hu4 hv5
      by_cases c1 : heavy h = true
      · rw [c1]
        go_wp2_with fail
        refine (aliveC w5).mono ?_
        rintro e_ w6 ⟨rfl, hv6⟩
        (try generalize (Value.agg #[.int .u32 g.sa, .int .u16 g.sp, .int .u32 g.da, .int .u16 g.dp, .int .u32 g.sq, .int .u32 g.ak, .int .u8 g.fl, .int .u16 g.wi, .int .u16 g.op.mss, .int .i64 g.op.sc, .bool g.op.sk, .slice A n c, .bool g.op.tm, .int .u32 g.op.va, .int .u32 g.op.ec, .string (tx g.dt)]) = XV6_0)
        (try generalize (Value.agg #[.int .u32 h.sa, .int .u16 h.sp, .int .u32 h.da, .int .u16 h.dp, .int .u32 h.sq, .int .u32 h.ak, .int .u8 h.fl, .int .u16 h.wi, .int .u16 h.op.mss, .int .i64 h.op.sc, .bool h.op.sk, .slice A2 n2 c2, .bool h.op.tm, .int .u32 h.op.va, .int .u32 h.op.ec, .string (tx h.dt)]) = XV6_1)
        (try generalize (Value.agg #[.int .u32 a1, .int .u16 p1, .int .u32 b1, .int .u16 q1, .int .u32 y1, .int .u32 z1, .int .u32 v1, .int .u32 ec, .int .i64 up, .int .i64 dn]) = XV6_2)
        have hu6 := hu5.on hv6
        have hA_6 := hA_5.up hv6
        have hB_6 := hB_5.up hv6
        have hX_6 := hX_5.up hv6
        clear hA_5 hB_5 hX_5 hu5 hv6
        go_wp2
        go_ret
        exact ⟨rfl, hu6⟩
      · have c1' : heavy h = false := by simpa using c1
        rw [c1']
        have h1 : g.dt.length ≤ 4096 ∧ g.op.bl.length ≤ 100 := by unfold heavy at c0'; simp at c0'; omega
        have h2 : h.dt.length ≤ 4096 ∧ h.op.bl.length ≤ 100 := by unfold heavy at c1'; simp at c1'; omega
        have gg := HG.out.good h1.1 h1.2
        have gh := HH.out.good h2.1 h2.2
        obtain ⟨SP, NP, hP⟩ := EVP_some g
        obtain ⟨SQ, NQ, hQ⟩ := EVP_some h
        have H1 := Lib.hid (fun w (h : SegV w (SGV g A n c) g) => encV w h gg)
        have H2 := Lib.hid (fun w (h' : SegV w (SGV h A2 n2 c2) h) => encV w h' gh)
        rw [hP] at H1
        rw [hQ] at H2
        have HCASE : NP ≠ 0 ∨ (NP = 0 ∧ NQ ≠ 0) ∨ (NP = 0 ∧ NQ = 0 ∧ (SP.toList == SQ.toList) = sameS g h) := by
          by_cases m1 : MayS g
          · rw [EVP_ok m1] at hP
            cases hP
            by_cases m2 : MayS h
            · rw [EVP_ok m2] at hQ
              cases hQ
              refine .inr (.inr ⟨rfl, rfl, ?_⟩)
              by_cases e : g = h
              · rw [sameS_t e, e]; simp
              · rw [sameS_f e, beq_eq_false_iff_ne]
                intro h0
                rw [ByteArray.toList_eq, ByteArray.toList_eq] at h0
                have := ba_eq (a := tx (encS g)) (b := tx (encS h)) h0
                have e2 : encS g = encS h := by have := congrArg L this; rwa [L_tx, L_tx] at this
                exact e (enc_inj m1 m2 gg.1 gh.1 e2)
            · rw [EVP_no m2] at hQ
              cases hQ
              exact .inr (.inl ⟨rfl, by decide⟩)
          · rw [EVP_no m1] at hP
            cases hP
            exact .inl (by decide)
        have hXw := hX
        have hX5 : y1 ≤ 4294967295 := hX.2.2.2.2.1
        have hX6 : z1 ≤ 4294967295 := hX.2.2.2.2.2.1
        have hX7 : v1 ≤ 4294967295 := hX.2.2.2.2.2.2.1
        have hX8 : ec ≤ 4294967295 := hX.2.2.2.2.2.2.2
        have hback := tS_back gg.1 hX
        have hgt := good_t hX gg
        have H3 := Lib.hid (fun w (h : SegV w (SGV g A n c) g) => turnedC a1 p1 b1 q1 y1 z1 v1 ec up dn w h gg hX)
        have hXy : WfX (backX g ⟨a1, b1, p1, q1, y1, z1, v1, ec, up, dn⟩) := ⟨gg.1.1, gg.1.2.1, gg.1.2.2.1, gg.1.2.2.2.1, by show W32 (om.negM _); unfold W32 om.negM om.M32; omega, by show W32 (om.negM _); unfold W32 om.negM om.M32; omega, by show W32 (om.negM _); unfold W32 om.negM om.M32; omega, by show W32 (om.negM _); unfold W32 om.negM om.M32; omega⟩
        have hX0 : WfX ⟨a1, b1, p1, q1, y1, z1, v1, ec, 0, 0⟩ := hX
        have H5 := Lib.hid (fun w (h : SegV w (SGV g A n c) g) => turnedC a1 p1 b1 q1 y1 z1 v1 ec 0 0 w h gg hX0)
        have hwin : (tS ⟨a1, b1, p1, q1, y1, z1, v1, ec, 0, 0⟩ g).wi = g.wi := win_0 rfl rfl gg.1.2.2.2.2.2.2.2.1
        have wy := negW y1 hX5; have wz := negW z1 hX6; have wv := negW v1 hX7; have we := negW ec hX8
        have wy' := negW' y1 hX5; have wz' := negW' z1 hX6; have wv' := negW' v1 hX7; have we' := negW' ec hX8
        have eY : backX g ⟨a1, b1, p1, q1, y1, z1, v1, ec, up, dn⟩ = ⟨g.sa, g.da, g.sp, g.dp, om.negM y1, om.negM z1, om.negM v1, om.negM ec, 0, 0⟩ := rfl
        rw [eY] at hback hXy
        have hgu := good_t hXy hgt
        generalize hny : om.negM y1 = ny at *
        generalize hnz : om.negM z1 = nz at *
        generalize hnv : om.negM v1 = nv at *
        generalize hne : om.negM ec = ne at *
        have H4 := Lib.hid (fun v w (h : SegV w v (tS ⟨a1, b1, p1, q1, y1, z1, v1, ec, up, dn⟩ g)) => turnedT g.sa g.sp g.da g.dp ny nz nv ne 0 0 w h hgt hXy)
        generalize tS ⟨a1, b1, p1, q1, y1, z1, v1, ec, up, dn⟩ g = t1 at *
        generalize tS ⟨g.sa, g.da, g.sp, g.dp, ny, nz, nv, ne, 0, 0⟩ t1 = t2 at *
        generalize tS ⟨a1, b1, p1, q1, y1, z1, v1, ec, 0, 0⟩ g = t3 at *
        have HBK := Lib.hid hback
        have HWI := Lib.hid hwin
        clear hP hQ c0 c0' c1 c1' h1 h2 hX hXw hX5 hX6 hX7 hX8 hback hXy hX0 hwin hny hnz hnv hne eY hgt hgu
        have k0 := hA_5.at 0 rfl; have k1 := hA_5.at 1 rfl; have k2 := hA_5.at 2 rfl; have k3 := hA_5.at 3 rfl; have k4 := hA_5.at 4 rfl; have k5 := hA_5.at 5 rfl; have k6 := hA_5.at 6 rfl; have k7 := hA_5.at 7 rfl; have k8 := hA_5.at 8 rfl; have k9 := hA_5.at 9 rfl; have k10 := hA_5.at 10 rfl; have k11 := hA_5.at 11 rfl; have k12 := hA_5.at 12 rfl; have k13 := hA_5.at 13 rfl; have k14 := hA_5.at 14 rfl; have k15 := hA_5.at 15 rfl
        go_wp2_with fail
        refine (H1.out w5 ((HG.out.up hu5).seg c)).mono ?_
        rintro e_ w6 ⟨rfl, hv6⟩
        (try generalize (Value.agg #[.int .u32 g.sa, .int .u16 g.sp, .int .u32 g.da, .int .u16 g.dp, .int .u32 g.sq, .int .u32 g.ak, .int .u8 g.fl, .int .u16 g.wi, .int .u16 g.op.mss, .int .i64 g.op.sc, .bool g.op.sk, .slice A n c, .bool g.op.tm, .int .u32 g.op.va, .int .u32 g.op.ec, .string (tx g.dt)]) = XV6_0)
        (try generalize (Value.agg #[.int .u32 h.sa, .int .u16 h.sp, .int .u32 h.da, .int .u16 h.dp, .int .u32 h.sq, .int .u32 h.ak, .int .u8 h.fl, .int .u16 h.wi, .int .u16 h.op.mss, .int .i64 h.op.sc, .bool h.op.sk, .slice A2 n2 c2, .bool h.op.tm, .int .u32 h.op.va, .int .u32 h.op.ec, .string (tx h.dt)]) = XV6_1)
        (try generalize (Value.agg #[.int .u32 a1, .int .u16 p1, .int .u32 b1, .int .u16 q1, .int .u32 y1, .int .u32 z1, .int .u32 v1, .int .u32 ec, .int .i64 up, .int .i64 dn]) = XV6_2)
        clear k0 k1 k2 k3 k4 k5 k6 k7 k8 k9 k10 k11 k12 k13 k14 k15
        have hu6 := hu5.on hv6
        have hA_6 := hA_5.up hv6
        have hB_6 := hB_5.up hv6
        have hX_6 := hX_5.up hv6
        clear hA_5 hB_5 hX_5 hu5 hv6
        have k0 := hB_6.at 0 rfl; have k1 := hB_6.at 1 rfl; have k2 := hB_6.at 2 rfl; have k3 := hB_6.at 3 rfl; have k4 := hB_6.at 4 rfl; have k5 := hB_6.at 5 rfl; have k6 := hB_6.at 6 rfl; have k7 := hB_6.at 7 rfl; have k8 := hB_6.at 8 rfl; have k9 := hB_6.at 9 rfl; have k10 := hB_6.at 10 rfl; have k11 := hB_6.at 11 rfl; have k12 := hB_6.at 12 rfl; have k13 := hB_6.at 13 rfl; have k14 := hB_6.at 14 rfl; have k15 := hB_6.at 15 rfl
        go_wp2_with fail
        refine (H2.out w6 ((HH.out.up hu6).seg c2)).mono ?_
        rintro e_ w7 ⟨rfl, hv7⟩
        (try generalize (Value.agg #[.int .u32 g.sa, .int .u16 g.sp, .int .u32 g.da, .int .u16 g.dp, .int .u32 g.sq, .int .u32 g.ak, .int .u8 g.fl, .int .u16 g.wi, .int .u16 g.op.mss, .int .i64 g.op.sc, .bool g.op.sk, .slice A n c, .bool g.op.tm, .int .u32 g.op.va, .int .u32 g.op.ec, .string (tx g.dt)]) = XV7_0)
        (try generalize (Value.agg #[.int .u32 h.sa, .int .u16 h.sp, .int .u32 h.da, .int .u16 h.dp, .int .u32 h.sq, .int .u32 h.ak, .int .u8 h.fl, .int .u16 h.wi, .int .u16 h.op.mss, .int .i64 h.op.sc, .bool h.op.sk, .slice A2 n2 c2, .bool h.op.tm, .int .u32 h.op.va, .int .u32 h.op.ec, .string (tx h.dt)]) = XV7_1)
        (try generalize (Value.agg #[.int .u32 a1, .int .u16 p1, .int .u32 b1, .int .u16 q1, .int .u32 y1, .int .u32 z1, .int .u32 v1, .int .u32 ec, .int .i64 up, .int .i64 dn]) = XV7_2)
        clear k0 k1 k2 k3 k4 k5 k6 k7 k8 k9 k10 k11 k12 k13 k14 k15
        have hu7 := hu6.on hv7
        have hA_7 := hA_6.up hv7
        have hB_7 := hB_6.up hv7
        have hX_7 := hX_6.up hv7
        clear hA_6 hB_6 hX_6 hu6 hv7
        rename_i y1_1 y1_2 y1_3 y1_4 y1_5
        revert HG HH y1_1 w3 n0 hle0 w4 XV4_0 XV4_1 XV4_2 w5 XV5_0 XV5_1 XV5_2 gg gh SP NP SQ NQ H1 H2 HCASE ny wy wy' nz wz wz' nv
          wv wv' ne we we' t1 H3 t2 H4 t3 H5 HBK HWI w6 XV6_0 XV6_1 XV6_2 y1_2 y1_3 y1_4 y1_5 w7 XV7_0 XV7_1 XV7_2 hu7 hA_7 hB_7 hX_7
        exact hrest.out
set_option maxHeartbeats 8000000 in
set_option maxRecDepth 100000 in
noncomputable def lawApart2 (g : Sg) (A : Option Addr) (n c : Nat) (h : Sg) (A2 : Option Addr) (n2 c2 : Nat) (a1 p1 b1 q1 y1 z1 v1 ec : Nat) (up dn : Int) (w : World) : {Q : Prop // Later Q → (lawApart1 g A n c h A2 n2 c2 a1 p1 b1 q1 y1 z1 v1 ec up dn w).1} := by
  apply Subtype.mk
  · intro hrest
    intro HG HH y1_1 w3 n0 hle0 w4 XV4_0 XV4_1 XV4_2 w5 XV5_0 XV5_1 XV5_2 gg gh SP NP SQ NQ H1 H2 HCASE ny wy wy' nz wz wz' nv
        wv wv' ne we we' t1 H3 t2 H4 t3 H5 HBK HWI w6 XV6_0 XV6_1 XV6_2 y1_2 y1_3 y1_4 y1_5 w7 XV7_0 XV7_1 XV7_2 hu7 hA_7 hB_7 hX_7
    go_upto_region 5 with fail
    go_cut [44] (fun v_ wc => v_ = .bool false ∧ Up w wc ∧ Box wc n0 [.int .u32 g.sa, .int .u16 g.sp, .int .u32 g.da, .int .u16 g.dp, .int .u32 g.sq, .int .u32 g.ak, .int .u8 g.fl, .int .u16 g.wi, .int .u16 g.op.mss, .int .i64 g.op.sc, .bool g.op.sk, .slice A n c, .bool g.op.tm, .int .u32 g.op.va, .int .u32 g.op.ec, .string (tx g.dt)] ∧ Box wc (n0 + 1) [.int .u32 h.sa, .int .u16 h.sp, .int .u32 h.da, .int .u16 h.dp, .int .u32 h.sq, .int .u32 h.ak, .int .u8 h.fl, .int .u16 h.wi, .int .u16 h.op.mss, .int .i64 h.op.sc, .bool h.op.sk, .slice A2 n2 c2, .bool h.op.tm, .int .u32 h.op.va, .int .u32 h.op.ec, .string (tx h.dt)] ∧ Box wc (n0 + 1 + 1) [.int .u32 a1, .int .u16 p1, .int .u32 b1, .int .u16 q1, .int .u32 y1, .int .u32 z1, .int .u32 v1, .int .u32 ec, .int .i64 up, .int .i64 dn])
    case first =>
      rcases HCASE with hc | ⟨rfl, hc⟩ | ⟨rfl, rfl, hc⟩
      · have hc1 := hc
        go_wp2
        go_meet
        exact ⟨rfl, hu7, hA_7, hB_7, hX_7⟩
      · have hc1 := hc
        go_wp2
        go_meet
        exact ⟨rfl, hu7, hA_7, hB_7, hX_7⟩
      · have k0 := hA_7.at 0 rfl; have k1 := hA_7.at 1 rfl; have k2 := hA_7.at 2 rfl; have k3 := hA_7.at 3 rfl; have k4 := hA_7.at 4 rfl; have k5 := hA_7.at 5 rfl; have k6 := hA_7.at 6 rfl; have k7 := hA_7.at 7 rfl; have k8 := hA_7.at 8 rfl; have k9 := hA_7.at 9 rfl; have k10 := hA_7.at 10 rfl; have k11 := hA_7.at 11 rfl; have k12 := hA_7.at 12 rfl; have k13 := hA_7.at 13 rfl; have k14 := hA_7.at 14 rfl; have k15 := hA_7.at 15 rfl; have l0 := hB_7.at 0 rfl; have l1 := hB_7.at 1 rfl; have l2 := hB_7.at 2 rfl; have l3 := hB_7.at 3 rfl; have l4 := hB_7.at 4 rfl; have l5 := hB_7.at 5 rfl; have l6 := hB_7.at 6 rfl; have l7 := hB_7.at 7 rfl; have l8 := hB_7.at 8 rfl; have l9 := hB_7.at 9 rfl; have l10 := hB_7.at 10 rfl; have l11 := hB_7.at 11 rfl; have l12 := hB_7.at 12 rfl; have l13 := hB_7.at 13 rfl; have l14 := hB_7.at 14 rfl; have l15 := hB_7.at 15 rfl
        go_wp2_with fail
        refine (sameC w7 ((HG.out.up hu7).seg c) ((HH.out.up hu7).seg c2) gg gh).mono ?_
        rintro e_ w8 ⟨rfl, hv8⟩
        (try generalize (Value.agg #[.int .u32 g.sa, .int .u16 g.sp, .int .u32 g.da, .int .u16 g.dp, .int .u32 g.sq, .int .u32 g.ak, .int .u8 g.fl, .int .u16 g.wi, .int .u16 g.op.mss, .int .i64 g.op.sc, .bool g.op.sk, .slice A n c, .bool g.op.tm, .int .u32 g.op.va, .int .u32 g.op.ec, .string (tx g.dt)]) = XV8_0)
        (try generalize (Value.agg #[.int .u32 h.sa, .int .u16 h.sp, .int .u32 h.da, .int .u16 h.dp, .int .u32 h.sq, .int .u32 h.ak, .int .u8 h.fl, .int .u16 h.wi, .int .u16 h.op.mss, .int .i64 h.op.sc, .bool h.op.sk, .slice A2 n2 c2, .bool h.op.tm, .int .u32 h.op.va, .int .u32 h.op.ec, .string (tx h.dt)]) = XV8_1)
        (try generalize (Value.agg #[.int .u32 a1, .int .u16 p1, .int .u32 b1, .int .u16 q1, .int .u32 y1, .int .u32 z1, .int .u32 v1, .int .u32 ec, .int .i64 up, .int .i64 dn]) = XV8_2)
        clear k0 k1 k2 k3 k4 k5 k6 k7 k8 k9 k10 k11 k12 k13 k14 k15 l0 l1 l2 l3 l4 l5 l6 l7 l8 l9 l10 l11 l12 l13 l14 l15
        have hu8 := hu7.on hv8
        have hA_8 := hA_7.up hv8
        have hB_8 := hB_7.up hv8
        have hX_8 := hX_7.up hv8
        clear hA_7 hB_7 hX_7 hu7 hv8
        rw [← hc]
        go_wp2
        go_meet
        exact ⟨by simp, hu8, hA_8, hB_8, hX_8⟩
    case rest =>
    obtain ⟨rfl, huc, hA_c, hB_c, hX_c⟩ := hcut
    clear hA_7 hB_7 hX_7 hu7
    rename_i y2_1 y2_2 y2_3 y2_4
    revert HG HH y1_1 w3 n0 hle0 w4 XV4_0 XV4_1 XV4_2 w5 XV5_0 XV5_1 XV5_2 gg gh SP NP SQ NQ H1 H2 HCASE ny wy wy' nz wz wz' nv
      wv wv' ne we we' t1 H3 t2 H4 t3 H5 HBK HWI w6 XV6_0 XV6_1 XV6_2 w7 XV7_0 XV7_1 XV7_2 y2_1 y2_2 y2_3 y2_4 wc u13 u14 u15 u16
      u17 u18 u19 u20 u21 u22 u23 u24 u25 u26 u27 u28 u29 u30 u31 u32 u33 u34 u35 u36 u37 u38 u39 u40 u41 u42 u43 u45 u46 u47
      u48 u49 u50 u51 u52 u53 u54 u55 u56 u57 u58 u59 u60 u61 u62 u63 u64 u65 u66 u67 u68 u69 u70 u71 u72 u73 u74 u75 u76 u77
      u78 u79 u80 u81 u82 u83 u84 u85 u86 u87 huc hA_c hB_c hX_c
    exact hrest.out
set_option maxHeartbeats 8000000 in
set_option maxRecDepth 100000 in
noncomputable def lawApart3 (g : Sg) (A : Option Addr) (n c : Nat) (h : Sg) (A2 : Option Addr) (n2 c2 : Nat) (a1 p1 b1 q1 y1 z1 v1 ec : Nat) (up dn : Int) (w : World) : {Q : Prop // Later Q → (lawApart2 g A n c h A2 n2 c2 a1 p1 b1 q1 y1 z1 v1 ec up dn w).1} := by
  apply Subtype.mk
  · intro hrest
    intro HG HH y1_1 w3 n0 hle0 w4 XV4_0 XV4_1 XV4_2 w5 XV5_0 XV5_1 XV5_2 gg gh SP NP SQ NQ H1 H2 HCASE ny wy wy' nz wz wz' nv
        wv wv' ne we we' t1 H3 t2 H4 t3 H5 HBK HWI w6 XV6_0 XV6_1 XV6_2 w7 XV7_0 XV7_1 XV7_2 y2_1 y2_2 y2_3 y2_4 wc u13 u14 u15 u16
        u17 u18 u19 u20 u21 u22 u23 u24 u25 u26 u27 u28 u29 u30 u31 u32 u33 u34 u35 u36 u37 u38 u39 u40 u41 u42 u43 u45 u46 u47
        u48 u49 u50 u51 u52 u53 u54 u55 u56 u57 u58 u59 u60 u61 u62 u63 u64 u65 u66 u67 u68 u69 u70 u71 u72 u73 u74 u75 u76 u77
        u78 u79 u80 u81 u82 u83 u84 u85 u86 u87 huc hA_c hB_c hX_c
    have k0 := hA_c.at 0 rfl; have k1 := hA_c.at 1 rfl; have k2 := hA_c.at 2 rfl; have k3 := hA_c.at 3 rfl; have k4 := hA_c.at 4 rfl; have k5 := hA_c.at 5 rfl; have k6 := hA_c.at 6 rfl; have k7 := hA_c.at 7 rfl; have k8 := hA_c.at 8 rfl; have k9 := hA_c.at 9 rfl; have k10 := hA_c.at 10 rfl; have k11 := hA_c.at 11 rfl; have k12 := hA_c.at 12 rfl; have k13 := hA_c.at 13 rfl; have k14 := hA_c.at 14 rfl; have k15 := hA_c.at 15 rfl; have l0 := hX_c.at 0 rfl; have l1 := hX_c.at 1 rfl; have l2 := hX_c.at 2 rfl; have l3 := hX_c.at 3 rfl; have l4 := hX_c.at 4 rfl; have l5 := hX_c.at 5 rfl; have l6 := hX_c.at 6 rfl; have l7 := hX_c.at 7 rfl; have l8 := hX_c.at 8 rfl; have l9 := hX_c.at 9 rfl
    go_upto_region 8 with fail
    clear k0 k1 k2 k3 k4 k5 k6 k7 k8 k9 k10 k11 k12 k13 k14 k15 l0 l1 l2 l3 l4 l5 l6 l7 l8 l9
    have hY_8 := Box.new wc #[.int .u32 g.sa, .int .u16 g.sp, .int .u32 g.da, .int .u16 g.dp, .int .u32 ny, .int .u32 nz, .int .u32 nv, .int .u32 ne, .int .i64 0, .int .i64 0] 32
    have hv8 : Up wc (wc.alloc (.cells #[.int .u32 g.sa, .int .u16 g.sp, .int .u32 g.da, .int .u16 g.dp, .int .u32 ny, .int .u32 nz, .int .u32 nv, .int .u32 ne, .int .i64 0, .int .i64 0] 32)) := up_al _ (Below.refl _ _)
    generalize (wc.alloc (.cells #[.int .u32 g.sa, .int .u16 g.sp, .int .u32 g.da, .int .u16 g.dp, .int .u32 ny, .int .u32 nz, .int .u32 nv, .int .u32 ne, .int .i64 0, .int .i64 0] 32)) = w8 at hY_8 hv8 ⊢
    generalize wc.heap.size = bY at hY_8 ⊢
    have hu8 := huc.on hv8
    have hA_8 := hA_c.up hv8
    have hB_8 := hB_c.up hv8
    have hX_8 := hX_c.up hv8
    clear hA_c hB_c hX_c huc hv8
    refine wp_region_rel4 6 (fun W => Up w8 W) (fun W W' => Up W W') (Ys [Det ((.agg #[.int .u32 g.sa, .int .u16 g.sp, .int .u32 g.da, .int .u16 g.dp, .int .u32 g.sq, .int .u32 g.ak, .int .u8 g.fl, .int .u16 g.wi, .int .u16 g.op.mss, .int .i64 g.op.sc, .bool g.op.sk, .slice A n c, .bool g.op.tm, .int .u32 g.op.va, .int .u32 g.op.ec, .string (tx g.dt)])),
  Det ((.agg #[.int .u32 a1, .int .u16 p1, .int .u32 b1, .int .u16 q1, .int .u32 y1, .int .u32 z1, .int .u32 v1, .int .u32 ec, .int .i64 up, .int .i64 dn])),
  TkV t1,
  Det ((.agg #[.int .u32 g.sa, .int .u16 g.sp, .int .u32 g.da, .int .u16 g.dp, .int .u32 ny, .int .u32 nz, .int .u32 nv, .int .u32 ne, .int .i64 0, .int .i64 0])),
  TkS t2,
  NewT w8.heap.size [.int .u32 0, .int .u16 0, .int .u32 0, .int .u16 0, .int .u32 0, .int .u32 0, .int .u8 0, .int .u16 0, .int .u16 0, .int .i64 0, .bool false, .slice none 0 0, .bool false, .int .u32 0, .int .u32 0, .string { data := #[] }]]) (by kernel_rfl) (by kernel_rfl) (by kernel_rfl) (up_dr (Below.refl _ _)) (Stable.ys ⟨Det.st _, Det.st _, TkV.st t1, Det.st _, TkS.st t2, NewT.st _ _, trivial⟩) ?_ ?_
    all_goals simp only [List.take_succ_cons, List.take_zero, List.drop_succ_cons, List.drop_zero]
    ·
      refine obligs_cons ?_ ?_
      · as_aux_lemma =>
          intro aa ww hC hdep hvar KK hK
          have d3 : aa.tmps.getD 3 undef = .pointer (some ⟨n0, 0, none⟩) := hvar 3 (slotOk_spec (by kernel_rfl))
          have d3_ := d3; rw [Array.getD_eq_getD_getElem?] at d3_
          clear hdep hvar
          have hb := hA_8.up hC
          have cc0 := hb.at 0 rfl; have cc1 := hb.at 1 rfl; have cc2 := hb.at 2 rfl; have cc3 := hb.at 3 rfl; have cc4 := hb.at 4 rfl; have cc5 := hb.at 5 rfl; have cc6 := hb.at 6 rfl; have cc7 := hb.at 7 rfl; have cc8 := hb.at 8 rfl; have cc9 := hb.at 9 rfl; have cc10 := hb.at 10 rfl; have cc11 := hb.at 11 rfl; have cc12 := hb.at 12 rfl; have cc13 := hb.at 13 rfl; have cc14 := hb.at 14 rfl; have cc15 := hb.at 15 rfl
          (unfold opTo; go_simp; try simp only [opUpon])
          exact hK _ _ rfl hC (Below.refl _ _)
      refine obligs_cons ?_ ?_
      · as_aux_lemma =>
          intro aa ww hC hdep hvar KK hK
          have d5 : aa.tmps.getD 5 undef = .pointer (some ⟨(n0 + 1 + 1), 0, none⟩) := hvar 5 (slotOk_spec (by kernel_rfl))
          have d5_ := d5; rw [Array.getD_eq_getD_getElem?] at d5_
          clear hdep hvar
          have hb := hX_8.up hC
          have cc0 := hb.at 0 rfl; have cc1 := hb.at 1 rfl; have cc2 := hb.at 2 rfl; have cc3 := hb.at 3 rfl; have cc4 := hb.at 4 rfl; have cc5 := hb.at 5 rfl; have cc6 := hb.at 6 rfl; have cc7 := hb.at 7 rfl; have cc8 := hb.at 8 rfl; have cc9 := hb.at 9 rfl
          (unfold opTo; go_simp; try simp only [opUpon])
          exact hK _ _ rfl hC (Below.refl _ _)
      refine obligs_cons ?_ ?_
      · as_aux_lemma =>
          intro aa ww hC hdep hvar KK hK
          have d62 : aa.tmps.getD 62 undef = (.agg #[.int .u32 g.sa, .int .u16 g.sp, .int .u32 g.da, .int .u16 g.dp, .int .u32 g.sq, .int .u32 g.ak, .int .u8 g.fl, .int .u16 g.wi, .int .u16 g.op.mss, .int .i64 g.op.sc, .bool g.op.sk, .slice A n c, .bool g.op.tm, .int .u32 g.op.va, .int .u32 g.op.ec, .string (tx g.dt)]) := dep_of hdep 0 62 (by kernel_rfl)
          have d63 : aa.tmps.getD 63 undef = (.agg #[.int .u32 a1, .int .u16 p1, .int .u32 b1, .int .u16 q1, .int .u32 y1, .int .u32 z1, .int .u32 v1, .int .u32 ec, .int .i64 up, .int .i64 dn]) := dep_of hdep 1 63 (by kernel_rfl)
          have d62_ := d62; rw [Array.getD_eq_getD_getElem?] at d62_
          have d63_ := d63; rw [Array.getD_eq_getD_getElem?] at d63_
          clear hdep hvar
          (unfold opTo; go_simp; try simp only [opUpon])
          refine (H3.out _ ((HG.out.up (hu8.on hC)).seg c)).mono ?_; rintro e w9 ⟨X, rfl, hX9, hu9⟩; exact ⟨_, rfl, hK _ _ hX9 (Up.on hC hu9) hu9⟩
      refine obligs_cons ?_ ?_
      · as_aux_lemma =>
          intro aa ww hC hdep hvar KK hK
          have d11 : aa.tmps.getD 11 undef = .pointer (some ⟨bY, 0, none⟩) := hvar 11 (slotOk_spec (by kernel_rfl))
          have d11_ := d11; rw [Array.getD_eq_getD_getElem?] at d11_
          clear hdep hvar
          have hb := hY_8.up hC
          have cc0 := hb.at 0 rfl; have cc1 := hb.at 1 rfl; have cc2 := hb.at 2 rfl; have cc3 := hb.at 3 rfl; have cc4 := hb.at 4 rfl; have cc5 := hb.at 5 rfl; have cc6 := hb.at 6 rfl; have cc7 := hb.at 7 rfl; have cc8 := hb.at 8 rfl; have cc9 := hb.at 9 rfl
          (unfold opTo; go_simp; try simp only [opUpon])
          exact hK _ _ rfl hC (Below.refl _ _)
      refine obligs_cons ?_ ?_
      · as_aux_lemma =>
          intro aa ww hC hdep hvar KK hK
          have g64 : TkV t1 (aa.tmps.getD 64 undef) ww := dep_of hdep 2 64 (by kernel_rfl); generalize hx64 : aa.tmps.getD 64 undef = X64 at g64; have d64 := hx64; clear hx64
          have d65 : aa.tmps.getD 65 undef = (.agg #[.int .u32 g.sa, .int .u16 g.sp, .int .u32 g.da, .int .u16 g.dp, .int .u32 ny, .int .u32 nz, .int .u32 nv, .int .u32 ne, .int .i64 0, .int .i64 0]) := dep_of hdep 3 65 (by kernel_rfl)
          have d64_ := d64; rw [Array.getD_eq_getD_getElem?] at d64_
          have d65_ := d65; rw [Array.getD_eq_getD_getElem?] at d65_
          clear hdep hvar
          (unfold opTo; go_simp; try simp only [opUpon])
          refine (H4.out _ _ g64).mono ?_; rintro e w9 ⟨X, rfl, hX9, hu9⟩; exact ⟨_, rfl, hK _ _ hX9 (Up.on hC hu9) hu9⟩
      refine obligs_cons ?_ ?_
      · as_aux_lemma =>
          intro aa ww hC hdep hvar KK hK
          clear hdep hvar
          (unfold opTo; go_simp; try simp only [opUpon])
          exact hK _ _ ⟨_, rfl, hC.size, Box.new _ _ _, _, _, World.alloc_heap_new _ _⟩ (up_al _ hC) (up_al _ (Below.refl _ _))
      exact obligs_nil
    intro vals ww hC hY
    have e0 : vals 0 = (.agg #[.int .u32 g.sa, .int .u16 g.sp, .int .u32 g.da, .int .u16 g.dp, .int .u32 g.sq, .int .u32 g.ak, .int .u8 g.fl, .int .u16 g.wi, .int .u16 g.op.mss, .int .i64 g.op.sc, .bool g.op.sk, .slice A n c, .bool g.op.tm, .int .u32 g.op.va, .int .u32 g.op.ec, .string (tx g.dt)]) := hY 0 _ _ rfl rfl
    have e1 : vals 1 = (.agg #[.int .u32 a1, .int .u16 p1, .int .u32 b1, .int .u16 q1, .int .u32 y1, .int .u32 z1, .int .u32 v1, .int .u32 ec, .int .i64 up, .int .i64 dn]) := hY 1 _ _ rfl rfl
    have q2 : TkV t1 (vals 2) ww := hY 2 _ _ rfl rfl; generalize hx2 : vals 2 = X2 at q2; have e2 := hx2; clear hx2
    have e3 : vals 3 = (.agg #[.int .u32 g.sa, .int .u16 g.sp, .int .u32 g.da, .int .u16 g.dp, .int .u32 ny, .int .u32 nz, .int .u32 nv, .int .u32 ne, .int .i64 0, .int .i64 0]) := hY 3 _ _ rfl rfl
    have q4 : TkS t2 (vals 4) ww := hY 4 _ _ rfl rfl; generalize hx4 : vals 4 = X4 at q4; have e4 := hx4; clear hx4
    obtain ⟨n12, e5, hB12, hN12, ar12, fz12, ht12⟩ : NewT w8.heap.size [.int .u32 0, .int .u16 0, .int .u32 0, .int .u16 0, .int .u32 0, .int .u32 0, .int .u8 0, .int .u16 0, .int .u16 0, .int .i64 0, .bool false, .slice none 0 0, .bool false, .int .u32 0, .int .u32 0, .string { data := #[] }] (vals 5) ww := hY 5 _ _ rfl rfl
    clear hY
    simp only [putAll, Act.put, List.setIfInBounds_toArray, List.set_cons_zero, List.set_cons_succ, e0, e1, e2, e3, e4, e5]
    clear e0 e1 e2 e3 e4 e5
    have huD := hu8.on hC
    have hAD := hA_8.up hC; have hXD := hX_8.up hC
    obtain ⟨A6, n6, c6, eX, hl6, hr6, htg6⟩ := q4
    subst eX
    have hlow : w.heap.size ≤ n12 := Nat.le_trans hu8.size hB12
    have hbl : n0 < n12 ∧ (n0 + 1 + 1) < n12 := ⟨Nat.lt_of_lt_of_le hA_8.1 hB12, Nat.lt_of_lt_of_le hX_8.1 hB12⟩
    clear hu8 hA_8 hB_8 hX_8 hY_8 hC q2 hB12
    have hfar6 : ∀ ad, A6 = some ad → ad.block ≠ n12 := fun ad e h0 => by
      obtain ⟨cs, fz, hb⟩ := htg6 ad e
      rw [h0, ht12] at hb
      simp at hb
    clear htg6 ht12
    generalize ww = wD at *
    rename_i y3_1 y3_2
    revert HG HH y1_1 w3 n0 hle0 w4 XV4_0 XV4_1 XV4_2 w5 XV5_0 XV5_1 XV5_2 gg gh SP NP SQ NQ H1 H2 HCASE ny wy wy' nz wz wz' nv
      wv wv' ne we we' t1 H3 t2 H4 t3 H5 HBK HWI w6 XV6_0 XV6_1 XV6_2 w7 XV7_0 XV7_1 XV7_2 wc u13 u14 u15 u16 u17 u18 u19 u20
      u21 u22 u23 u24 u25 u26 u27 u28 u29 u30 u31 u32 u33 u34 u35 u36 u37 u38 u39 u40 u41 u42 u43 u45 u46 u47 u48 u49 u50 u51
      u52 u53 u54 u55 u56 u57 u58 u59 u60 u61 u62 u63 u64 u65 u66 u67 u68 u69 u70 u71 u72 u73 u74 u75 u76 u77 u78 u79 u80 u81
      u82 u83 u84 u85 u86 u87 y3_1 y3_2 w8 bY vals ww X2 n12 ar12 fz12 A6 n6 c6 hl6 hlow hbl hfar6 wD hN12 huD hAD hXD hr6
    exact hrest.out
set_option maxHeartbeats 8000000 in
set_option maxRecDepth 100000 in
noncomputable def lawApart4 (g : Sg) (A : Option Addr) (n c : Nat) (h : Sg) (A2 : Option Addr) (n2 c2 : Nat) (a1 p1 b1 q1 y1 z1 v1 ec : Nat) (up dn : Int) (w : World) : {Q : Prop // Later Q → (lawApart3 g A n c h A2 n2 c2 a1 p1 b1 q1 y1 z1 v1 ec up dn w).1} := by
  apply Subtype.mk
  · intro hrest
    intro HG HH y1_1 w3 n0 hle0 w4 XV4_0 XV4_1 XV4_2 w5 XV5_0 XV5_1 XV5_2 gg gh SP NP SQ NQ H1 H2 HCASE ny wy wy' nz wz wz' nv
        wv wv' ne we we' t1 H3 t2 H4 t3 H5 HBK HWI w6 XV6_0 XV6_1 XV6_2 w7 XV7_0 XV7_1 XV7_2 wc u13 u14 u15 u16 u17 u18 u19 u20
        u21 u22 u23 u24 u25 u26 u27 u28 u29 u30 u31 u32 u33 u34 u35 u36 u37 u38 u39 u40 u41 u42 u43 u45 u46 u47 u48 u49 u50 u51
        u52 u53 u54 u55 u56 u57 u58 u59 u60 u61 u62 u63 u64 u65 u66 u67 u68 u69 u70 u71 u72 u73 u74 u75 u76 u77 u78 u79 u80 u81
        u82 u83 u84 u85 u86 u87 y3_1 y3_2 w8 bY vals ww X2 n12 ar12 fz12 A6 n6 c6 hl6 hlow hbl hfar6 wD hN12 huD hAD hXD hr6
    have k0 := hN12.at 0 rfl; have k1 := hN12.at 1 rfl; have k2 := hN12.at 2 rfl; have k3 := hN12.at 3 rfl; have k4 := hN12.at 4 rfl; have k5 := hN12.at 5 rfl; have k6 := hN12.at 6 rfl; have k7 := hN12.at 7 rfl; have k8 := hN12.at 8 rfl; have k9 := hN12.at 9 rfl; have k10 := hN12.at 10 rfl; have k11 := hN12.at 11 rfl; have k12 := hN12.at 12 rfl; have k13 := hN12.at 13 rfl; have k14 := hN12.at 14 rfl; have k15 := hN12.at 15 rfl; have r0 := hN12.fr 0 rfl; have r1 := hN12.fr 1 rfl; have r2 := hN12.fr 2 rfl; have r3 := hN12.fr 3 rfl; have r4 := hN12.fr 4 rfl; have r5 := hN12.fr 5 rfl; have r6 := hN12.fr 6 rfl; have r7 := hN12.fr 7 rfl; have r8 := hN12.fr 8 rfl; have r9 := hN12.fr 9 rfl; have r10 := hN12.fr 10 rfl; have r11 := hN12.fr 11 rfl; have r12 := hN12.fr 12 rfl; have r13 := hN12.fr 13 rfl; have r14 := hN12.fr 14 rfl; have r15 := hN12.fr 15 rfl
    go_upto_region 9 with fail
    clear k0 k1 k2 k3 k4 k5 k6 k7 k8 k9 k10 k11 k12 k13 k14 k15 r0 r1 r2 r3 r4 r5 r6 r7 r8 r9 r10 r11 r12 r13 r14 r15
    have hN13 := put16 hN12 (.int .u32 t2.sa) (.int .u16 t2.sp) (.int .u32 t2.da) (.int .u16 t2.dp) (.int .u32 t2.sq) (.int .u32 t2.ak) (.int .u8 t2.fl) (.int .u16 t2.wi) (.int .u16 t2.op.mss) (.int .i64 t2.op.sc) (.bool t2.op.sk) (.slice A6 n6 c6) (.bool t2.op.tm) (.int .u32 t2.op.va) (.int .u32 t2.op.ec) (.string (tx t2.dt))
    have huE := ups16 (b := n12) huD hlow (.int .u32 t2.sa) (.int .u16 t2.sp) (.int .u32 t2.da) (.int .u16 t2.dp) (.int .u32 t2.sq) (.int .u32 t2.ak) (.int .u8 t2.fl) (.int .u16 t2.wi) (.int .u16 t2.op.mss) (.int .i64 t2.op.sc) (.bool t2.op.sk) (.slice A6 n6 c6) (.bool t2.op.tm) (.int .u32 t2.op.va) (.int .u32 t2.op.ec) (.string (tx t2.dt))
    have hAE := far16 hAD (show n12 ≠ n0 by omega) (.int .u32 t2.sa) (.int .u16 t2.sp) (.int .u32 t2.da) (.int .u16 t2.dp) (.int .u32 t2.sq) (.int .u32 t2.ak) (.int .u8 t2.fl) (.int .u16 t2.wi) (.int .u16 t2.op.mss) (.int .i64 t2.op.sc) (.bool t2.op.sk) (.slice A6 n6 c6) (.bool t2.op.tm) (.int .u32 t2.op.va) (.int .u32 t2.op.ec) (.string (tx t2.dt))
    have hXE := far16 hXD (show n12 ≠ (n0 + 1 + 1) by omega) (.int .u32 t2.sa) (.int .u16 t2.sp) (.int .u32 t2.da) (.int .u16 t2.dp) (.int .u32 t2.sq) (.int .u32 t2.ak) (.int .u8 t2.fl) (.int .u16 t2.wi) (.int .u16 t2.op.mss) (.int .i64 t2.op.sc) (.bool t2.op.sk) (.slice A6 n6 c6) (.bool t2.op.tm) (.int .u32 t2.op.va) (.int .u32 t2.op.ec) (.string (tx t2.dt))
    have hrE := rd16 hr6 hfar6 (.int .u32 t2.sa) (.int .u16 t2.sp) (.int .u32 t2.da) (.int .u16 t2.dp) (.int .u32 t2.sq) (.int .u32 t2.ak) (.int .u8 t2.fl) (.int .u16 t2.wi) (.int .u16 t2.op.mss) (.int .i64 t2.op.sc) (.bool t2.op.sk) (.slice A6 n6 c6) (.bool t2.op.tm) (.int .u32 t2.op.va) (.int .u32 t2.op.ec) (.string (tx t2.dt))
    generalize World.setCell _ ⟨n12, 15, none⟩ _ = wE at hN13 huE hAE hXE hrE ⊢
    clear hN12 huD hAD hXD hr6
    have k0 := hN13.at 0 rfl; have k1 := hN13.at 1 rfl; have k2 := hN13.at 2 rfl; have k3 := hN13.at 3 rfl; have k4 := hN13.at 4 rfl; have k5 := hN13.at 5 rfl; have k6 := hN13.at 6 rfl; have k7 := hN13.at 7 rfl; have k8 := hN13.at 8 rfl; have k9 := hN13.at 9 rfl; have k10 := hN13.at 10 rfl; have k11 := hN13.at 11 rfl; have k12 := hN13.at 12 rfl; have k13 := hN13.at 13 rfl; have k14 := hN13.at 14 rfl; have k15 := hN13.at 15 rfl; have r0 := hN13.fr 0 rfl; have r1 := hN13.fr 1 rfl; have r2 := hN13.fr 2 rfl; have r3 := hN13.fr 3 rfl; have r4 := hN13.fr 4 rfl; have r5 := hN13.fr 5 rfl; have r6 := hN13.fr 6 rfl; have r7 := hN13.fr 7 rfl; have r8 := hN13.fr 8 rfl; have r9 := hN13.fr 9 rfl; have r10 := hN13.fr 10 rfl; have r11 := hN13.fr 11 rfl; have r12 := hN13.fr 12 rfl; have r13 := hN13.fr 13 rfl; have r14 := hN13.fr 14 rfl; have r15 := hN13.fr 15 rfl; have l0 := hAE.at 0 rfl; have l1 := hAE.at 1 rfl; have l2 := hAE.at 2 rfl; have l3 := hAE.at 3 rfl; have l4 := hAE.at 4 rfl; have l5 := hAE.at 5 rfl; have l6 := hAE.at 6 rfl; have l7 := hAE.at 7 rfl; have l8 := hAE.at 8 rfl; have l9 := hAE.at 9 rfl; have l10 := hAE.at 10 rfl; have l11 := hAE.at 11 rfl; have l12 := hAE.at 12 rfl; have l13 := hAE.at 13 rfl; have l14 := hAE.at 14 rfl; have l15 := hAE.at 15 rfl
    go_upto_region 10 with fail
    clear k0 k1 k2 k3 k4 k5 k6 k7 k8 k9 k10 k11 k12 k13 k14 k15 r0 r1 r2 r3 r4 r5 r6 r7 r8 r9 r10 r11 r12 r13 r14 r15 l0 l1 l2 l3 l4 l5 l6 l7 l8 l9 l10 l11 l12 l13 l14 l15
    have hN14 : Box (wE.setCell ⟨n12, 7, none⟩ (.int .u16 g.wi)) n12 [.int .u32 t2.sa, .int .u16 t2.sp, .int .u32 t2.da, .int .u16 t2.dp, .int .u32 t2.sq, .int .u32 t2.ak, .int .u8 t2.fl, .int .u16 g.wi, .int .u16 t2.op.mss, .int .i64 t2.op.sc, .bool t2.op.sk, .slice A6 n6 c6, .bool t2.op.tm, .int .u32 t2.op.va, .int .u32 t2.op.ec, .string (tx t2.dt)] := hN13.set 7 _
    have huF := up_set (o := 7) (v := .int .u16 g.wi) huE hlow
    have hAF := hAE.far (show n12 ≠ n0 by omega) (o := 7) (.int .u16 g.wi)
    have hXF := hXE.far (show n12 ≠ (n0 + 1 + 1) by omega) (o := 7) (.int .u16 g.wi)
    have hrF := rd_set hrE hfar6 7 (.int .u16 g.wi)
    generalize World.setCell _ ⟨n12, 7, none⟩ _ = wF at hN14 huF hAF hXF hrF ⊢
    clear hN13 huE hAE hXE hrE
    have k0 := hN14.at 0 rfl; have k1 := hN14.at 1 rfl; have k2 := hN14.at 2 rfl; have k3 := hN14.at 3 rfl; have k4 := hN14.at 4 rfl; have k5 := hN14.at 5 rfl; have k6 := hN14.at 6 rfl; have k7 := hN14.at 7 rfl; have k8 := hN14.at 8 rfl; have k9 := hN14.at 9 rfl; have k10 := hN14.at 10 rfl; have k11 := hN14.at 11 rfl; have k12 := hN14.at 12 rfl; have k13 := hN14.at 13 rfl; have k14 := hN14.at 14 rfl; have k15 := hN14.at 15 rfl; have l0 := hAF.at 0 rfl; have l1 := hAF.at 1 rfl; have l2 := hAF.at 2 rfl; have l3 := hAF.at 3 rfl; have l4 := hAF.at 4 rfl; have l5 := hAF.at 5 rfl; have l6 := hAF.at 6 rfl; have l7 := hAF.at 7 rfl; have l8 := hAF.at 8 rfl; have l9 := hAF.at 9 rfl; have l10 := hAF.at 10 rfl; have l11 := hAF.at 11 rfl; have l12 := hAF.at 12 rfl; have l13 := hAF.at 13 rfl; have l14 := hAF.at 14 rfl; have l15 := hAF.at 15 rfl
    go_wp2_with fail
    refine (sameC wF (g := { t2 with wi := g.wi }) ⟨A6, n6, c6, rfl, hl6, hrF⟩ ((HG.out.up huF).seg c) (by rw [HBK.out]; exact gg) gg).mono ?_
    rintro e_ wG ⟨rfl, hvG⟩
    rw [sameS_t HBK.out]
    (try generalize (Value.agg #[.int .u32 t2.sa, .int .u16 t2.sp, .int .u32 t2.da, .int .u16 t2.dp, .int .u32 t2.sq, .int .u32 t2.ak, .int .u8 t2.fl, .int .u16 g.wi, .int .u16 t2.op.mss, .int .i64 t2.op.sc, .bool t2.op.sk, .slice A6 n6 c6, .bool t2.op.tm, .int .u32 t2.op.va, .int .u32 t2.op.ec, .string (tx t2.dt)]) = XZ1)
    (try generalize (Value.agg #[.int .u32 t2.sa, .int .u16 t2.sp, .int .u32 t2.da, .int .u16 t2.dp, .int .u32 t2.sq, .int .u32 t2.ak, .int .u8 t2.fl, .int .u16 t2.wi, .int .u16 t2.op.mss, .int .i64 t2.op.sc, .bool t2.op.sk, .slice A6 n6 c6, .bool t2.op.tm, .int .u32 t2.op.va, .int .u32 t2.op.ec, .string (tx t2.dt)]) = XZ2)
    (try generalize (Value.agg #[.int .u32 g.sa, .int .u16 g.sp, .int .u32 g.da, .int .u16 g.dp, .int .u32 g.sq, .int .u32 g.ak, .int .u8 g.fl, .int .u16 g.wi, .int .u16 g.op.mss, .int .i64 g.op.sc, .bool g.op.sk, .slice A n c, .bool g.op.tm, .int .u32 g.op.va, .int .u32 g.op.ec, .string (tx g.dt)]) = XZ3)
    clear k0 k1 k2 k3 k4 k5 k6 k7 k8 k9 k10 k11 k12 k13 k14 k15 l0 l1 l2 l3 l4 l5 l6 l7 l8 l9 l10 l11 l12 l13 l14 l15
    have huG := huF.on hvG; have hAG := hAF.up hvG; have hXG := hXF.up hvG
    clear huF hAF hXF hN14 hrF hvG
    rename_i y4_1 y4_2 y4_3 y4_4 y4_5 y4_6
    revert HG HH y1_1 w3 n0 hle0 w4 XV4_0 XV4_1 XV4_2 w5 XV5_0 XV5_1 XV5_2 gg gh SP NP SQ NQ H1 H2 HCASE ny wy wy' nz wz wz' nv
      wv wv' ne we we' t1 H3 t2 H4 t3 H5 HBK HWI w6 XV6_0 XV6_1 XV6_2 w7 XV7_0 XV7_1 XV7_2 wc u13 u14 u15 u16 u17 u18 u19 u20
      u21 u22 u23 u24 u25 u26 u27 u28 u29 u30 u31 u32 u33 u34 u35 u36 u37 u38 u39 u40 u41 u42 u43 u45 u46 u47 u48 u49 u50 u51
      u52 u53 u54 u55 u56 u57 u58 u59 u60 u61 u62 u63 u64 u65 u66 u67 u68 u69 u70 u71 u72 u73 u74 u75 u76 u77 u78 u79 u80 u81
      u82 u83 u84 u85 u86 u87 w8 bY vals ww X2 n12 ar12 fz12 A6 n6 c6 hl6 hlow hbl hfar6 wD wE y4_1 y4_2 y4_3 y4_4 wF y4_5 y4_6
      wG XZ1 XZ2 XZ3 huG hAG hXG
    exact hrest.out
set_option maxHeartbeats 8000000 in
set_option maxRecDepth 100000 in
theorem lawApart5 (g : Sg) (A : Option Addr) (n c : Nat) (h : Sg) (A2 : Option Addr) (n2 c2 : Nat) (a1 p1 b1 q1 y1 z1 v1 ec : Nat) (up dn : Int) (w : World) : (lawApart4 g A n c h A2 n2 c2 a1 p1 b1 q1 y1 z1 v1 ec up dn w).1 := by
  intro HG HH y1_1 w3 n0 hle0 w4 XV4_0 XV4_1 XV4_2 w5 XV5_0 XV5_1 XV5_2 gg gh SP NP SQ NQ H1 H2 HCASE ny wy wy' nz wz wz' nv
        wv wv' ne we we' t1 H3 t2 H4 t3 H5 HBK HWI w6 XV6_0 XV6_1 XV6_2 w7 XV7_0 XV7_1 XV7_2 wc u13 u14 u15 u16 u17 u18 u19 u20
        u21 u22 u23 u24 u25 u26 u27 u28 u29 u30 u31 u32 u33 u34 u35 u36 u37 u38 u39 u40 u41 u42 u43 u45 u46 u47 u48 u49 u50 u51
        u52 u53 u54 u55 u56 u57 u58 u59 u60 u61 u62 u63 u64 u65 u66 u67 u68 u69 u70 u71 u72 u73 u74 u75 u76 u77 u78 u79 u80 u81
        u82 u83 u84 u85 u86 u87 w8 bY vals ww X2 n12 ar12 fz12 A6 n6 c6 hl6 hlow hbl hfar6 wD wE y4_1 y4_2 y4_3 y4_4 wF y4_5 y4_6
        wG XZ1 XZ2 XZ3 huG hAG hXG
  have k0 := hXG.at 0 rfl; have k1 := hXG.at 1 rfl; have k2 := hXG.at 2 rfl; have k3 := hXG.at 3 rfl; have k4 := hXG.at 4 rfl; have k5 := hXG.at 5 rfl; have k6 := hXG.at 6 rfl; have k7 := hXG.at 7 rfl; have k8 := hXG.at 8 rfl; have k9 := hXG.at 9 rfl; have r0 := hXG.fr 0 rfl; have r1 := hXG.fr 1 rfl; have r2 := hXG.fr 2 rfl; have r3 := hXG.fr 3 rfl; have r4 := hXG.fr 4 rfl; have r5 := hXG.fr 5 rfl; have r6 := hXG.fr 6 rfl; have r7 := hXG.fr 7 rfl; have r8 := hXG.fr 8 rfl; have r9 := hXG.fr 9 rfl
  go_upto_region 14 with fail
  clear k0 k1 k2 k3 k4 k5 k6 k7 k8 k9 r0 r1 r2 r3 r4 r5 r6 r7 r8 r9
  have hXH0 : Box ((wG.setCell ⟨(n0 + 1 + 1), 8, none⟩ (.int .i64 0)).setCell ⟨(n0 + 1 + 1), 9, none⟩ (.int .i64 0)) (n0 + 1 + 1) [.int .u32 a1, .int .u16 p1, .int .u32 b1, .int .u16 q1, .int .u32 y1, .int .u32 z1, .int .u32 v1, .int .u32 ec, .int .i64 0, .int .i64 0] := (hXG.set 8 _).set 9 _
  have hAH0 := (hAG.far (show (n0 + 1 + 1) ≠ n0 by omega) (o := 8) (.int .i64 0)).far (show (n0 + 1 + 1) ≠ n0 by omega) (o := 9) (.int .i64 0)
  have huH0 := up_set (o := 9) (v := .int .i64 0) (up_set (o := 8) (v := .int .i64 0) huG (show w.heap.size ≤ (n0 + 1 + 1) by omega)) (show w.heap.size ≤ (n0 + 1 + 1) by omega)
  generalize World.setCell _ ⟨(n0 + 1 + 1), 9, none⟩ _ = wH at hXH0 hAH0 huH0 ⊢
  clear hXG hAG huG
  refine wp_region_rel2h (fun W => Up wH W) (fun W W' => Up W W') (Ys [Det ((.agg #[.int .u32 g.sa, .int .u16 g.sp, .int .u32 g.da, .int .u16 g.dp, .int .u32 g.sq, .int .u32 g.ak, .int .u8 g.fl, .int .u16 g.wi, .int .u16 g.op.mss, .int .i64 g.op.sc, .bool g.op.sk, .slice A n c, .bool g.op.tm, .int .u32 g.op.va, .int .u32 g.op.ec, .string (tx g.dt)])),
  Det ((.agg #[.int .u32 a1, .int .u16 p1, .int .u32 b1, .int .u16 q1, .int .u32 y1, .int .u32 z1, .int .u32 v1, .int .u32 ec, .int .i64 0, .int .i64 0])),
  TkV t3,
  Det (.int .u16 t3.wi),
  Det (.pointer (some ⟨n0, 7, none⟩)),
  Det (.int .u16 g.wi),
  Det (.bool true),
  Det (.bool true),
  Det (.bool true),
  Det (.bool true),
  Det (.bool true),
  Det (.bool true),
  Det (.bool true)]) (by kernel_rfl) (by kernel_rfl) (up_dr (Below.refl _ _)) (Stable.ys ⟨Det.st _, Det.st _, TkV.st t3, Det.st _, Det.st _, Det.st _, Det.st _, Det.st _, Det.st _, Det.st _, Det.st _, Det.st _, Det.st _, trivial⟩) [(9, true)] (by kernel_rfl) (by intro p hp v w h; simp only [List.mem_cons, List.not_mem_nil, or_false] at hp; rcases hp with rfl <;> exact h) ?_ ?_
  ·
    refine obligs_cons ?_ ?_
    · as_aux_lemma =>
        intro aa ww hC hdep hvar KK hK
        have d3 : aa.tmps.getD 3 undef = .pointer (some ⟨n0, 0, none⟩) := hvar 3 (slotOk_spec (by kernel_rfl))
        have d3_ := d3; rw [Array.getD_eq_getD_getElem?] at d3_
        clear hdep hvar
        have hb := hAH0.up hC
        have cc0 := hb.at 0 rfl; have cc1 := hb.at 1 rfl; have cc2 := hb.at 2 rfl; have cc3 := hb.at 3 rfl; have cc4 := hb.at 4 rfl; have cc5 := hb.at 5 rfl; have cc6 := hb.at 6 rfl; have cc7 := hb.at 7 rfl; have cc8 := hb.at 8 rfl; have cc9 := hb.at 9 rfl; have cc10 := hb.at 10 rfl; have cc11 := hb.at 11 rfl; have cc12 := hb.at 12 rfl; have cc13 := hb.at 13 rfl; have cc14 := hb.at 14 rfl; have cc15 := hb.at 15 rfl
        (unfold opTo; go_simp; try simp only [opUpon])
        exact hK _ _ rfl hC (Below.refl _ _)
    refine obligs_cons ?_ ?_
    · as_aux_lemma =>
        intro aa ww hC hdep hvar KK hK
        have d5 : aa.tmps.getD 5 undef = .pointer (some ⟨(n0 + 1 + 1), 0, none⟩) := hvar 5 (slotOk_spec (by kernel_rfl))
        have d5_ := d5; rw [Array.getD_eq_getD_getElem?] at d5_
        clear hdep hvar
        have hb := hXH0.up hC
        have cc0 := hb.at 0 rfl; have cc1 := hb.at 1 rfl; have cc2 := hb.at 2 rfl; have cc3 := hb.at 3 rfl; have cc4 := hb.at 4 rfl; have cc5 := hb.at 5 rfl; have cc6 := hb.at 6 rfl; have cc7 := hb.at 7 rfl; have cc8 := hb.at 8 rfl; have cc9 := hb.at 9 rfl
        (unfold opTo; go_simp; try simp only [opUpon])
        exact hK _ _ rfl hC (Below.refl _ _)
    refine obligs_cons ?_ ?_
    · as_aux_lemma =>
        intro aa ww hC hdep hvar KK hK
        have d76 : aa.tmps.getD 76 undef = (.agg #[.int .u32 g.sa, .int .u16 g.sp, .int .u32 g.da, .int .u16 g.dp, .int .u32 g.sq, .int .u32 g.ak, .int .u8 g.fl, .int .u16 g.wi, .int .u16 g.op.mss, .int .i64 g.op.sc, .bool g.op.sk, .slice A n c, .bool g.op.tm, .int .u32 g.op.va, .int .u32 g.op.ec, .string (tx g.dt)]) := dep_of hdep 0 76 (by kernel_rfl)
        have d77 : aa.tmps.getD 77 undef = (.agg #[.int .u32 a1, .int .u16 p1, .int .u32 b1, .int .u16 q1, .int .u32 y1, .int .u32 z1, .int .u32 v1, .int .u32 ec, .int .i64 0, .int .i64 0]) := dep_of hdep 1 77 (by kernel_rfl)
        have d76_ := d76; rw [Array.getD_eq_getD_getElem?] at d76_
        have d77_ := d77; rw [Array.getD_eq_getD_getElem?] at d77_
        clear hdep hvar
        (unfold opTo; go_simp; try simp only [opUpon])
        refine (H5.out _ ((HG.out.up (huH0.on hC)).seg c)).mono ?_; rintro e w9 ⟨X, rfl, hX9, hu9⟩; exact ⟨_, rfl, hK _ _ hX9 (Up.on hC hu9) hu9⟩
    refine obligs_cons ?_ ?_
    · as_aux_lemma =>
        intro aa ww hC hdep hvar KK hK
        obtain ⟨A9, n9, c9, d78, _, _⟩ : TkV t3 (aa.tmps.getD 78 undef) ww := dep_of hdep 2 78 (by kernel_rfl)
        have d78_ := d78; rw [Array.getD_eq_getD_getElem?] at d78_
        clear hdep hvar
        have hfx := fld5 t3.sa t3.sp t3.da t3.dp t3.sq t3.ak t3.fl t3.wi t3.op.mss t3.op.sc t3.op.sk A9 n9 c9 t3.op.tm t3.op.va t3.op.ec (tx t3.dt)
        (unfold opTo; go_simp; try simp only [opUpon])
        exact hK _ _ rfl hC (Below.refl _ _)
    refine obligs_cons ?_ ?_
    · as_aux_lemma =>
        intro aa ww hC hdep hvar KK hK
        have d3 : aa.tmps.getD 3 undef = .pointer (some ⟨n0, 0, none⟩) := hvar 3 (slotOk_spec (by kernel_rfl))
        have d3_ := d3; rw [Array.getD_eq_getD_getElem?] at d3_
        clear hdep hvar
        (unfold opTo; go_simp; try simp only [opUpon])
        exact hK _ _ rfl hC (Below.refl _ _)
    refine obligs_cons ?_ ?_
    · as_aux_lemma =>
        intro aa ww hC hdep hvar KK hK
        have d80 : aa.tmps.getD 80 undef = .pointer (some ⟨n0, 7, none⟩) := dep_of hdep 4 80 (by kernel_rfl)
        have d80_ := d80; rw [Array.getD_eq_getD_getElem?] at d80_
        clear hdep hvar
        have cc := (hAH0.up hC).at 7 rfl
        (unfold opTo; go_simp; try simp only [opUpon])
        exact hK _ _ rfl hC (Below.refl _ _)
    refine obligs_cons ?_ ?_
    · as_aux_lemma =>
        intro aa ww hC hdep hvar KK hK
        have d79 : aa.tmps.getD 79 undef = .int .u16 t3.wi := dep_of hdep 3 79 (by kernel_rfl)
        have d81 : aa.tmps.getD 81 undef = .int .u16 g.wi := dep_of hdep 5 81 (by kernel_rfl)
        have d79_ := d79; rw [Array.getD_eq_getD_getElem?] at d79_
        have d81_ := d81; rw [Array.getD_eq_getD_getElem?] at d81_
        clear hdep hvar
        have hwi := HWI.out
        (unfold opTo; go_simp; try simp only [opUpon])
        exact hK _ _ rfl hC (Below.refl _ _)
    refine obligs_cons ?_ ?_
    · as_aux_lemma =>
        intro aa ww hC hdep hvar KK hK
        have d82 : aa.tmps.getD 82 undef = .bool true := dep_of hdep 6 82 (by kernel_rfl)
        have d82_ := d82; rw [Array.getD_eq_getD_getElem?] at d82_
        clear hdep hvar
        (unfold opTo; go_simp; try simp only [opUpon])
        exact hK _ _ rfl hC (Below.refl _ _)
    refine obligs_cons ?_ ?_
    · as_aux_lemma =>
        intro aa ww hC hdep hvar KK hK
        have d83 : aa.tmps.getD 83 undef = .bool true := dep_of hdep 7 83 (by kernel_rfl)
        have d83_ := d83; rw [Array.getD_eq_getD_getElem?] at d83_
        clear hdep hvar
        (unfold opTo; go_simp; try simp only [opUpon])
        exact hK _ _ rfl hC (Below.refl _ _)
    refine obligs_cons ?_ ?_
    · as_aux_lemma =>
        intro aa ww hC hdep hvar KK hK
        have d84 : aa.tmps.getD 84 undef = .bool true := dep_of hdep 8 84 (by kernel_rfl)
        have d84_ := d84; rw [Array.getD_eq_getD_getElem?] at d84_
        clear hdep hvar
        (unfold opTo; go_simp; try simp only [opUpon])
        exact hK _ _ rfl hC (Below.refl _ _)
    refine obligs_cons ?_ ?_
    · as_aux_lemma =>
        intro aa ww hC hdep hvar KK hK
        clear hdep hvar
        (unfold opTo; go_simp; try simp only [opUpon])
        exact (aliveC _).mono fun e w9 h => ⟨_, h.1, hK _ _ rfl (Up.on hC h.2) h.2⟩
    refine obligs_cons ?_ ?_
    · as_aux_lemma =>
        intro aa ww hC hdep hvar KK hK
        have d85 : aa.tmps.getD 85 undef = .bool true := dep_of hdep 9 85 (by kernel_rfl)
        have d86 : aa.tmps.getD 86 undef = .bool true := dep_of hdep 10 86 (by kernel_rfl)
        have d85_ := d85; rw [Array.getD_eq_getD_getElem?] at d85_
        have d86_ := d86; rw [Array.getD_eq_getD_getElem?] at d86_
        clear hdep hvar
        (unfold opTo; go_simp; try simp only [opUpon])
        exact hK _ _ rfl hC (Below.refl _ _)
    refine obligs_cons ?_ ?_
    · as_aux_lemma =>
        intro aa ww hC hdep hvar KK hK
        have d87 : aa.tmps.getD 87 undef = .bool true := dep_of hdep 11 87 (by kernel_rfl)
        have d87_ := d87; rw [Array.getD_eq_getD_getElem?] at d87_
        clear hdep hvar
        (unfold opTo; go_simp; try simp only [opUpon])
        exact hK _ _ rfl hC (Below.refl _ _)
    exact obligs_nil
  intro vals ww hC hY
  have e0 : vals 0 = (.agg #[.int .u32 g.sa, .int .u16 g.sp, .int .u32 g.da, .int .u16 g.dp, .int .u32 g.sq, .int .u32 g.ak, .int .u8 g.fl, .int .u16 g.wi, .int .u16 g.op.mss, .int .i64 g.op.sc, .bool g.op.sk, .slice A n c, .bool g.op.tm, .int .u32 g.op.va, .int .u32 g.op.ec, .string (tx g.dt)]) := hY 0 _ _ rfl rfl
  have e1 : vals 1 = (.agg #[.int .u32 a1, .int .u16 p1, .int .u32 b1, .int .u16 q1, .int .u32 y1, .int .u32 z1, .int .u32 v1, .int .u32 ec, .int .i64 0, .int .i64 0]) := hY 1 _ _ rfl rfl
  obtain ⟨A9, n9, c9, e2, _, _⟩ : TkV t3 (vals 2) ww := hY 2 _ _ rfl rfl
  have e3 : vals 3 = .int .u16 t3.wi := hY 3 _ _ rfl rfl
  have e4 : vals 4 = .pointer (some ⟨n0, 7, none⟩) := hY 4 _ _ rfl rfl
  have e5 : vals 5 = .int .u16 g.wi := hY 5 _ _ rfl rfl
  have e6 : vals 6 = .bool true := hY 6 _ _ rfl rfl
  have e7 : vals 7 = .bool true := hY 7 _ _ rfl rfl
  have e8 : vals 8 = .bool true := hY 8 _ _ rfl rfl
  have e9 : vals 9 = .bool true := hY 9 _ _ rfl rfl
  have e10 : vals 10 = .bool true := hY 10 _ _ rfl rfl
  have e11 : vals 11 = .bool true := hY 11 _ _ rfl rfl
  have e12 : vals 12 = .bool true := hY 12 _ _ rfl rfl
  clear hY
  (try simp only [List.append_eq, List.cons_append, List.nil_append])
  simp only [putAll, Act.put, List.setIfInBounds_toArray, List.set_cons_zero, List.set_cons_succ, e0, e1, e2, e3, e4, e5, e6, e7, e8, e9, e10, e11, e12]
  clear e0 e1 e2 e3 e4 e5 e6 e7 e8 e9 e10 e11 e12
  have huZ := huH0.on hC
  generalize ww = wZ at huZ ⊢
  go_wp2
  go_ret
  exact ⟨rfl, huZ⟩
theorem lawApart (g : Sg) (A : Option Addr) (n c : Nat) (h : Sg) (A2 : Option Addr) (n2 c2 : Nat) (a1 p1 b1 q1 y1 z1 v1 ec : Nat) (up dn : Int) (w : World) (hg : SegX w g A n) (hh : SegX w h A2 n2) (hX : WfX ⟨a1, b1, p1, q1, y1, z1, v1, ec, up, dn⟩) :
    Calls Try.prog 5 #[SGV g A n c, SGV h A2 n2 c2, SHV a1 p1 b1 q1 y1 z1 v1 ec up dn] w fun e_ w' => e_ = .returned (.bool true) ∧ Up w w' :=
  (lawApart1 g A n c h A2 n2 c2 a1 p1 b1 q1 y1 z1 v1 ec up dn w).2 ⟨(lawApart2 g A n c h A2 n2 c2 a1 p1 b1 q1 y1 z1 v1 ec up dn w).2 ⟨(lawApart3 g A n c h A2 n2 c2 a1 p1 b1 q1 y1 z1 v1 ec up dn w).2 ⟨(lawApart4 g A n c h A2 n2 c2 a1 p1 b1 q1 y1 z1 v1 ec up dn w).2 ⟨lawApart5 g A n c h A2 n2 c2 a1 p1 b1 q1 y1 z1 v1 ec up dn w⟩⟩⟩⟩ hg hh hX
end Go.Proofs.Ytafckmbgefbonaa.pk
