/- B H A: contracts, part 27. Condition: as each says. -/
import Derived.Test.YtafckmbgefbonaaKBHA25
import Derived.Test.YtafckmbgefbonaaKBHA26
import Derived.Test.YtafckmbgefbonaaKBHA15
set_option linter.unusedVariables false
set_option linter.unusedSimpArgs false
namespace Go.Proofs.Ytafckmbgefbonaa.pk
open Go.RowKit Go.Shelf Go.Lib Go.Proofs.Ytafckmbgefbonaa.sm Go.Proofs.Ytafckmbgefbonaa.nb Go.Proofs.Ytafckmbgefbonaa.pm
set_option linter.unusedVariables false

theorem Box.c16 {W : World} {b : Nat} {x0 x1 x2 x3 x4 x5 x6 x7 x8 x9 x10 x11 x12 x13 x14 x15 : Value} (h : Box W b [x0, x1, x2, x3, x4, x5, x6, x7, x8, x9, x10, x11, x12, x13, x14, x15]) : W.cell? ⟨b, 0, none⟩ = some x0 ∧ W.cell? ⟨b, 1, none⟩ = some x1 ∧ W.cell? ⟨b, 2, none⟩ = some x2 ∧ W.cell? ⟨b, 3, none⟩ = some x3 ∧ W.cell? ⟨b, 4, none⟩ = some x4 ∧ W.cell? ⟨b, 5, none⟩ = some x5 ∧ W.cell? ⟨b, 6, none⟩ = some x6 ∧ W.cell? ⟨b, 7, none⟩ = some x7 ∧ W.cell? ⟨b, 8, none⟩ = some x8 ∧ W.cell? ⟨b, 9, none⟩ = some x9 ∧ W.cell? ⟨b, 10, none⟩ = some x10 ∧ W.cell? ⟨b, 11, none⟩ = some x11 ∧ W.cell? ⟨b, 12, none⟩ = some x12 ∧ W.cell? ⟨b, 13, none⟩ = some x13 ∧ W.cell? ⟨b, 14, none⟩ = some x14 ∧ W.cell? ⟨b, 15, none⟩ = some x15 ∧ W.frozen? ⟨b, 0, none⟩ = false ∧ W.frozen? ⟨b, 1, none⟩ = false ∧ W.frozen? ⟨b, 2, none⟩ = false ∧ W.frozen? ⟨b, 3, none⟩ = false ∧ W.frozen? ⟨b, 4, none⟩ = false ∧ W.frozen? ⟨b, 5, none⟩ = false ∧ W.frozen? ⟨b, 6, none⟩ = false ∧ W.frozen? ⟨b, 7, none⟩ = false ∧ W.frozen? ⟨b, 8, none⟩ = false ∧ W.frozen? ⟨b, 9, none⟩ = false ∧ W.frozen? ⟨b, 10, none⟩ = false ∧ W.frozen? ⟨b, 11, none⟩ = false ∧ W.frozen? ⟨b, 12, none⟩ = false ∧ W.frozen? ⟨b, 13, none⟩ = false ∧ W.frozen? ⟨b, 14, none⟩ = false ∧ W.frozen? ⟨b, 15, none⟩ = false :=
  ⟨h.at 0 rfl, h.at 1 rfl, h.at 2 rfl, h.at 3 rfl, h.at 4 rfl, h.at 5 rfl, h.at 6 rfl, h.at 7 rfl, h.at 8 rfl, h.at 9 rfl, h.at 10 rfl, h.at 11 rfl, h.at 12 rfl, h.at 13 rfl, h.at 14 rfl, h.at 15 rfl, h.fr 0 rfl, h.fr 1 rfl, h.fr 2 rfl, h.fr 3 rfl, h.fr 4 rfl, h.fr 5 rfl, h.fr 6 rfl, h.fr 7 rfl, h.fr 8 rfl, h.fr 9 rfl, h.fr 10 rfl, h.fr 11 rfl, h.fr 12 rfl, h.fr 13 rfl, h.fr 14 rfl, h.fr 15 rfl⟩
theorem put16 {W : World} {b : Nat} {x0 x1 x2 x3 x4 x5 x6 x7 x8 x9 x10 x11 x12 x13 x14 x15 : Value} (hB : Box W b [x0, x1, x2, x3, x4, x5, x6, x7, x8, x9, x10, x11, x12, x13, x14, x15]) (y0 y1 y2 y3 y4 y5 y6 y7 y8 y9 y10 y11 y12 y13 y14 y15 : Value) : Box ((((((((((((((((W.setCell ⟨b, 0, none⟩ y0).setCell ⟨b, 1, none⟩ y1).setCell ⟨b, 2, none⟩ y2).setCell ⟨b, 3, none⟩ y3).setCell ⟨b, 4, none⟩ y4).setCell ⟨b, 5, none⟩ y5).setCell ⟨b, 6, none⟩ y6).setCell ⟨b, 7, none⟩ y7).setCell ⟨b, 8, none⟩ y8).setCell ⟨b, 9, none⟩ y9).setCell ⟨b, 10, none⟩ y10).setCell ⟨b, 11, none⟩ y11).setCell ⟨b, 12, none⟩ y12).setCell ⟨b, 13, none⟩ y13).setCell ⟨b, 14, none⟩ y14).setCell ⟨b, 15, none⟩ y15) b [y0, y1, y2, y3, y4, y5, y6, y7, y8, y9, y10, y11, y12, y13, y14, y15] := (Box.set (Box.set (Box.set (Box.set (Box.set (Box.set (Box.set (Box.set (Box.set (Box.set (Box.set (Box.set (Box.set (Box.set (Box.set (Box.set hB 0 y0) 1 y1) 2 y2) 3 y3) 4 y4) 5 y5) 6 y6) 7 y7) 8 y8) 9 y9) 10 y10) 11 y11) 12 y12) 13 y13) 14 y14) 15 y15)
theorem ups16 {w W : World} {b : Nat} (hu : Up w W) (hb : w.heap.size ≤ b) (y0 y1 y2 y3 y4 y5 y6 y7 y8 y9 y10 y11 y12 y13 y14 y15 : Value) : Up w ((((((((((((((((W.setCell ⟨b, 0, none⟩ y0).setCell ⟨b, 1, none⟩ y1).setCell ⟨b, 2, none⟩ y2).setCell ⟨b, 3, none⟩ y3).setCell ⟨b, 4, none⟩ y4).setCell ⟨b, 5, none⟩ y5).setCell ⟨b, 6, none⟩ y6).setCell ⟨b, 7, none⟩ y7).setCell ⟨b, 8, none⟩ y8).setCell ⟨b, 9, none⟩ y9).setCell ⟨b, 10, none⟩ y10).setCell ⟨b, 11, none⟩ y11).setCell ⟨b, 12, none⟩ y12).setCell ⟨b, 13, none⟩ y13).setCell ⟨b, 14, none⟩ y14).setCell ⟨b, 15, none⟩ y15) := (up_set (up_set (up_set (up_set (up_set (up_set (up_set (up_set (up_set (up_set (up_set (up_set (up_set (up_set (up_set (up_set hu hb) hb) hb) hb) hb) hb) hb) hb) hb) hb) hb) hb) hb) hb) hb) hb)
theorem rd_set {W : World} {A : Option Addr} {xs : List (Nat × Nat)} {b : Nat} (h : op.RdB W A xs) (hf : ∀ ad, A = some ad → ad.block ≠ b) (j : Nat) (y : Value) : op.RdB (W.setCell ⟨b, j, none⟩ y) A xs := op.RdB.grown h (op.grown_set W b j y) (fun ad e => hf ad e)
theorem rd16 {W : World} {A : Option Addr} {xs : List (Nat × Nat)} {b : Nat} (h : op.RdB W A xs) (hf : ∀ ad, A = some ad → ad.block ≠ b) (y0 y1 y2 y3 y4 y5 y6 y7 y8 y9 y10 y11 y12 y13 y14 y15 : Value) : op.RdB ((((((((((((((((W.setCell ⟨b, 0, none⟩ y0).setCell ⟨b, 1, none⟩ y1).setCell ⟨b, 2, none⟩ y2).setCell ⟨b, 3, none⟩ y3).setCell ⟨b, 4, none⟩ y4).setCell ⟨b, 5, none⟩ y5).setCell ⟨b, 6, none⟩ y6).setCell ⟨b, 7, none⟩ y7).setCell ⟨b, 8, none⟩ y8).setCell ⟨b, 9, none⟩ y9).setCell ⟨b, 10, none⟩ y10).setCell ⟨b, 11, none⟩ y11).setCell ⟨b, 12, none⟩ y12).setCell ⟨b, 13, none⟩ y13).setCell ⟨b, 14, none⟩ y14).setCell ⟨b, 15, none⟩ y15) A xs := (rd_set (rd_set (rd_set (rd_set (rd_set (rd_set (rd_set (rd_set (rd_set (rd_set (rd_set (rd_set (rd_set (rd_set (rd_set (rd_set h hf 0 y0) hf 1 y1) hf 2 y2) hf 3 y3) hf 4 y4) hf 5 y5) hf 6 y6) hf 7 y7) hf 8 y8) hf 9 y9) hf 10 y10) hf 11 y11) hf 12 y12) hf 13 y13) hf 14 y14) hf 15 y15)
def SegV (W : World) (x : Value) (s : Sg) : Prop := ∃ A n c, x = SA s.sa s.sp s.da s.dp s.sq s.ak s.fl s.wi s.op.mss s.op.sc s.op.sk A n c s.op.tm s.op.va s.op.ec (tx s.dt) ∧ s.op.bl.length = n ∧ op.RdB W A s.op.bl
theorem SegV.up {w w' : World} {x : Value} {s : Sg} (h : SegV w x s) (hb : Up w w') : SegV w' x s := by
  obtain ⟨A, n, c, h1, h2, h3⟩ := h
  exact ⟨A, n, c, h1, h2, h3.up hb⟩
def zeroS : Sg := ⟨0, 0, 0, 0, 0, 0, 0, 0, om.zero_, []⟩
def DecR (n : Nat) (v : Sg) (w : World) (e_ : Ending) (w' : World) : Prop := ∃ x, e_ = .returned (.tuple #[x, .int .i64 n]) ∧ SegV w' x v ∧ Up w w'
theorem DecR.bad {n : Nat} {w w' : World} (hu : Up w w') : DecR n zeroS w (.returned (.tuple #[SA 0 0 0 0 0 0 0 0 0 0 false none 0 0 false 0 0 ByteArray.empty, .int .i64 n])) w' :=
  ⟨_, rfl, ⟨none, 0, 0, rfl, rfl, fun h => absurd rfl h⟩, hu⟩

end Go.Proofs.Ytafckmbgefbonaa.pk

namespace Go.Proofs.Ytafckmbgefbonaa.pk
open Go.RowKit Go.Shelf Go.Lib Go.Proofs.Ytafckmbgefbonaa.sm Go.Proofs.Ytafckmbgefbonaa.nb Go.Proofs.Ytafckmbgefbonaa.pm
set_option linter.unusedVariables false

def decP (l : List UInt8) : Sg := if errP l = 0 then valP l else zeroS
theorem decP_ok {l : List UInt8} (h : errP l = 0) : decP l = valP l := if_pos h
theorem decP_bad {l : List UInt8} (h : errP l ≠ 0) : decP l = zeroS := if_neg h
theorem nat_of {x : Int} (h : 0 ≤ x) : ((x.toNat : Nat) : Int) = x := Int.toNat_of_nonneg h
abbrev gx (l : List UInt8) : Nat := (qd l 12).toNat
abbrev gy (l : List UInt8) : Nat := (qd l 16).toNat
abbrev gg (l : List UInt8) : List UInt8 := l.drop 20
theorem gx_le (l : List UInt8) : gx l ≤ 4294967295 := by have := qd_bd l 12; show (qd l 12).toNat ≤ _; omega
theorem gy_le (l : List UInt8) : gy l ≤ 4294967295 := by have := qd_bd l 16; show (qd l 16).toNat ≤ _; omega
theorem DV6 {l : List UInt8} (h : im.dec l = 0) (h9 : bt l 9 = 6) :
    ip.DV l = .tuple #[ip.HV (gx l : Nat) (gy l : Nat) 6 (bt l 8) (bt l 1) (wd l 4) (decide (wd l 6 ≠ 0)), .string (tx (gg l)), .int .i64 0] := by
  rw [ip.DV_ok h]
  show Value.tuple #[ip.HV (qd l 12) (qd l 16) (bt l 9) (bt l 8) (bt l 1) (wd l 4) (decide (wd l 6 ≠ 0)), _, _] = _
  rw [h9, nat_of (qd_bd l 12).1, nat_of (qd_bd l 16).1]
theorem TVg (g : List UInt8) : tc.TV g = tc.HV ((wd g 0).toNat : Nat) ((wd g 2).toNat : Nat) ((qd g 4).toNat : Nat) ((qd g 8).toNat : Nat) ((bt g 13).toNat : Nat) ((wd g 14).toNat : Nat) (wd g 18) (tx (optsOf g)) := by
  rw [nat_of (wd_bd g 0).1, nat_of (wd_bd g 2).1, nat_of (qd_bd g 4).1, nat_of (qd_bd g 8).1, nat_of (bt_bd g 13).1, nat_of (wd_bd g 14).1]
  rfl
theorem tx_gg (s : ByteArray) (hs : s.size ≤ 1048576) : (tx (gg (L s))).size ≤ 1048576 := by rw [tx_size, List.length_drop, L_len]; omega
theorem optsOf_len (g : List UInt8) : (optsOf g).length ≤ g.length := by
  unfold optsOf; rw [List.length_take, List.length_drop]; omega
end Go.Proofs.Ytafckmbgefbonaa.pk

namespace Go.Proofs.Ytafckmbgefbonaa.pk
open Go.RowKit Go.Shelf Go.Lib Go.Proofs.Ytafckmbgefbonaa.sm Go.Proofs.Ytafckmbgefbonaa.nb Go.Proofs.Ytafckmbgefbonaa.pm
set_option linter.unusedVariables false

theorem wrap32 (x y : Nat) (hx : x ≤ 4294967295) (hy : y ≤ 4294967295) : IntKind.u32.wrap ((x : Int) + (y : Int)) = ((om.addM x y : Nat) : Int) := by
  rw [IntKind.wrap_u32]; unfold om.addM om.M32; omega
theorem mod32 (x y : Nat) : ((x : Int) + (y : Int)) % 4294967296 = ((om.addM x y : Nat) : Int) := by
  unfold om.addM om.M32; omega

end Go.Proofs.Ytafckmbgefbonaa.pk

namespace Go.Proofs.Ytafckmbgefbonaa.pk
open Go.RowKit Go.Shelf Go.Lib Go.Proofs.Ytafckmbgefbonaa.sm Go.Proofs.Ytafckmbgefbonaa.nb Go.Proofs.Ytafckmbgefbonaa.pm
set_option linter.unusedVariables false

def GoodS (g : Sg) : Prop := WfS g ∧ (-9223372036854775808 ≤ g.op.sc ∧ g.op.sc ≤ 9223372036854775807) ∧ g.op.bl.length ≤ 1048576 ∧ g.dt.length ≤ 1048576
def maysb (g : Sg) : Bool := flg g.fl && op.mayb g.op && decide (g.dt.length ≤ 1460)
theorem maysb_t {g : Sg} (h : MayS g) : maysb g = true := by
  unfold maysb op.mayb
  rw [h.1, decide_eq_true h.2.1, decide_eq_true h.2.2]; rfl
theorem maysb_f {g : Sg} (h : ¬ MayS g) : maysb g = false := by
  unfold maysb op.mayb
  cases hf : flg g.fl
  · rfl
  · by_cases ho : om.May g.op
    · have hd : ¬ g.dt.length ≤ 1460 := fun hd => h ⟨hf, ho, hd⟩
      rw [decide_eq_false hd, Bool.and_false]
    · rw [decide_eq_false ho]; rfl
noncomputable def EVP (g : Sg) : Value := open Classical in if MayS g then .tuple #[.string (tx (encS g)), .int .i64 0] else .tuple #[.string ByteArray.empty, .int .i64 2]
theorem EVP_ok {g : Sg} (h : MayS g) : EVP g = .tuple #[.string (tx (encS g)), .int .i64 0] := by unfold EVP; exact if_pos h
theorem EVP_no {g : Sg} (h : ¬ MayS g) : EVP g = .tuple #[.string ByteArray.empty, .int .i64 2] := by unfold EVP; exact if_neg h
theorem enc_steps {g : Sg} (hm : MayS g) (hw : WfS g) :
    op.EVo g.op = .tuple #[.string (tx (om.raw g.op)), .int .i64 0] ∧
    tc.EV g.sa g.da g.sp g.dp g.sq g.ak g.fl g.wi 0 (tx (om.raw g.op)) (tx g.dt) = .tuple #[.string (tx (inner g)), .int .i64 0] ∧
    ip.EV g.sa g.da 6 64 0 0 true (tx (inner g)) = .tuple #[.string (tx (encS g)), .int .i64 0] ∧
    (tx (om.raw g.op)).size ≤ 40 ∧ (tx g.dt).size ≤ 1460 ∧ (tx (inner g)).size ≤ 1520 := by
  have h1 := may_cm hm
  have h2 := inner_le hm
  have h3 := raw40 hm
  have h4 := hm.2.2
  refine ⟨op.EVo_ok hm.2.1, ?_, ?_, by rw [tx_size]; exact h3, by rw [tx_size]; exact h4, by rw [tx_size]; exact h2⟩
  · rw [tc.EV_ok (by rw [tx_size]; have := h1.1; have := h1.2.1; have := h1.2.2; omega) (by rw [tx_size, tx_size]; omega), L_tx, L_tx]; rfl
  · rw [ip.EV_ok (by rw [tx_size]; omega), L_tx]; rfl
theorem ok_cm {g : Sg} (hw : WfS g) : cm.Ok g.sp g.dp g.sq g.ak g.fl g.wi 0 := ⟨hw.2.2.1, hw.2.2.2.1, hw.2.2.2.2.1, hw.2.2.2.2.2.1, hw.2.2.2.2.2.2.1, hw.2.2.2.2.2.2.2.1, by decide⟩
end Go.Proofs.Ytafckmbgefbonaa.pk

namespace Go.Proofs.Ytafckmbgefbonaa.pk
open Go.RowKit Go.Shelf Go.Lib Go.Proofs.Ytafckmbgefbonaa.sm Go.Proofs.Ytafckmbgefbonaa.nb Go.Proofs.Ytafckmbgefbonaa.pm
set_option linter.unusedVariables false

theorem good_dec (l : List UInt8) (h : l.length ≤ 1048576) : GoodS (decP l) := by
  unfold decP
  split
  · have hr := (om.decO_rdn (optsOf (l.drop 20))).1
    have hl := (om.decO_rdn (optsOf (l.drop 20))).2
    have ho := optsOf_len (l.drop 20)
    have hd : (l.drop 20).length ≤ l.length := by rw [List.length_drop]; omega
    refine ⟨valP_wf l, ?_, ?_, ?_⟩
    · show _ ≤ (om.decO (optsOf (l.drop 20))).sc ∧ (om.decO (optsOf (l.drop 20))).sc ≤ _
      have h1 := hr.2.1; have h2 := hr.2.2; omega
    · show (om.decO (optsOf (l.drop 20))).bl.length ≤ _
      omega
    · show ((l.drop 20).drop (cm.hl (l.drop 20)).toNat).length ≤ _
      rw [List.length_drop]; omega
  · refine ⟨⟨by decide, by decide, by decide, by decide, by decide, by decide, by decide, by decide, om.rdn_zero.1⟩, by decide, by decide, by decide⟩
theorem good_t {x : Sh} {g : Sg} (hx : WfX x) (h : GoodS g) : GoodS (tS x g) := by
  refine ⟨tS_wf hx h.1, h.2.1, ?_, h.2.2.2⟩
  show (List.map _ _).length ≤ _
  rw [List.length_map]; exact h.2.2.1
set_option maxHeartbeats 4000000 in
set_option maxRecDepth 100000 in
theorem lsame0 (a p b q y z f i m : Nat) (s : Int) (k : Bool) (A : Option Addr) (n c : Nat) (t : Bool) (v e : Nat) (S : ByteArray) (a' : Nat) (p' : Nat) (b' : Nat) (q' : Nat) (y' : Nat) (z' : Nat) (f' : Nat) (i' : Nat) (m' : Nat) (s' : Int) (k' : Bool) (A' : Option Addr) (n' : Nat) (c' : Nat) (t' : Bool) (v' : Nat) (e' : Nat) (S' : ByteArray) (w : World) (h : ¬ (a : Int) = a') :
    Calls Try.prog 12 #[SA a p b q y z f i m s k A n c t v e S, SA a' p' b' q' y' z' f' i' m' s' k' A' n' c' t' v' e' S'] w fun e_ w' => e_ = .returned (.bool false) ∧ Up w w' := by
  go_enter Try.func12, Try.ntmps12
  go_upto_region 1 with fail
  have U0 : Up w ((w.alloc (.cells #[.int .u32 a, .int .u16 p, .int .u32 b, .int .u16 q, .int .u32 y, .int .u32 z, .int .u8 f, .int .u16 i, .int .u16 m, .int .i64 s, .bool k, .slice A n c, .bool t, .int .u32 v, .int .u32 e, .string S] 30)).alloc (.cells #[.int .u32 a', .int .u16 p', .int .u32 b', .int .u16 q', .int .u32 y', .int .u32 z', .int .u8 f', .int .u16 i', .int .u16 m', .int .i64 s', .bool k', .slice A' n' c', .bool t', .int .u32 v', .int .u32 e', .string S'] 30)) := up_al _ (up_al _ (Below.refl _ _))
  have A0 := (Box.new w #[.int .u32 a, .int .u16 p, .int .u32 b, .int .u16 q, .int .u32 y, .int .u32 z, .int .u8 f, .int .u16 i, .int .u16 m, .int .i64 s, .bool k, .slice A n c, .bool t, .int .u32 v, .int .u32 e, .string S] 30).alloc (.cells #[.int .u32 a', .int .u16 p', .int .u32 b', .int .u16 q', .int .u32 y', .int .u32 z', .int .u8 f', .int .u16 i', .int .u16 m', .int .i64 s', .bool k', .slice A' n' c', .bool t', .int .u32 v', .int .u32 e', .string S'] 30)
  have B0 := Box.new (w.alloc (.cells #[.int .u32 a, .int .u16 p, .int .u32 b, .int .u16 q, .int .u32 y, .int .u32 z, .int .u8 f, .int .u16 i, .int .u16 m, .int .i64 s, .bool k, .slice A n c, .bool t, .int .u32 v, .int .u32 e, .string S] 30)) #[.int .u32 a', .int .u16 p', .int .u32 b', .int .u16 q', .int .u32 y', .int .u32 z', .int .u8 f', .int .u16 i', .int .u16 m', .int .i64 s', .bool k', .slice A' n' c', .bool t', .int .u32 v', .int .u32 e', .string S'] 30
  rw [show (w.alloc (.cells #[.int .u32 a, .int .u16 p, .int .u32 b, .int .u16 q, .int .u32 y, .int .u32 z, .int .u8 f, .int .u16 i, .int .u16 m, .int .i64 s, .bool k, .slice A n c, .bool t, .int .u32 v, .int .u32 e, .string S] 30)).heap.size = w.heap.size + 1 by simp] at B0
  generalize ((w.alloc (.cells #[.int .u32 a, .int .u16 p, .int .u32 b, .int .u16 q, .int .u32 y, .int .u32 z, .int .u8 f, .int .u16 i, .int .u16 m, .int .i64 s, .bool k, .slice A n c, .bool t, .int .u32 v, .int .u32 e, .string S] 30)).alloc (.cells #[.int .u32 a', .int .u16 p', .int .u32 b', .int .u16 q', .int .u32 y', .int .u32 z', .int .u8 f', .int .u16 i', .int .u16 m', .int .i64 s', .bool k', .slice A' n' c', .bool t', .int .u32 v', .int .u32 e', .string S'] 30)) = w0 at U0 A0 B0 ⊢
  generalize w.heap.size = n0 at A0 B0 ⊢
  obtain ⟨k0, k1, k2, k3, k4, k5, k6, k7, k8, k9, k10, k11, k12, k13, k14, k15⟩ := e16 A0
  obtain ⟨m0, m1, m2, m3, m4, m5, m6, m7, m8, m9, m10, m11, m12, m13, m14, m15⟩ := e16 B0
  go_wp2
  go_ret
  exact ⟨rfl, U0⟩
set_option maxHeartbeats 4000000 in
set_option maxRecDepth 100000 in
theorem lsame1 (a p b q y z f i m : Nat) (s : Int) (k : Bool) (A : Option Addr) (n c : Nat) (t : Bool) (v e : Nat) (S : ByteArray) (p' : Nat) (b' : Nat) (q' : Nat) (y' : Nat) (z' : Nat) (f' : Nat) (i' : Nat) (m' : Nat) (s' : Int) (k' : Bool) (A' : Option Addr) (n' : Nat) (c' : Nat) (t' : Bool) (v' : Nat) (e' : Nat) (S' : ByteArray) (w : World) (h : ¬ (p : Int) = p') :
    Calls Try.prog 12 #[SA a p b q y z f i m s k A n c t v e S, SA a p' b' q' y' z' f' i' m' s' k' A' n' c' t' v' e' S'] w fun e_ w' => e_ = .returned (.bool false) ∧ Up w w' := by
  go_enter Try.func12, Try.ntmps12
  go_upto_region 1 with fail
  have U0 : Up w ((w.alloc (.cells #[.int .u32 a, .int .u16 p, .int .u32 b, .int .u16 q, .int .u32 y, .int .u32 z, .int .u8 f, .int .u16 i, .int .u16 m, .int .i64 s, .bool k, .slice A n c, .bool t, .int .u32 v, .int .u32 e, .string S] 30)).alloc (.cells #[.int .u32 a, .int .u16 p', .int .u32 b', .int .u16 q', .int .u32 y', .int .u32 z', .int .u8 f', .int .u16 i', .int .u16 m', .int .i64 s', .bool k', .slice A' n' c', .bool t', .int .u32 v', .int .u32 e', .string S'] 30)) := up_al _ (up_al _ (Below.refl _ _))
  have A0 := (Box.new w #[.int .u32 a, .int .u16 p, .int .u32 b, .int .u16 q, .int .u32 y, .int .u32 z, .int .u8 f, .int .u16 i, .int .u16 m, .int .i64 s, .bool k, .slice A n c, .bool t, .int .u32 v, .int .u32 e, .string S] 30).alloc (.cells #[.int .u32 a, .int .u16 p', .int .u32 b', .int .u16 q', .int .u32 y', .int .u32 z', .int .u8 f', .int .u16 i', .int .u16 m', .int .i64 s', .bool k', .slice A' n' c', .bool t', .int .u32 v', .int .u32 e', .string S'] 30)
  have B0 := Box.new (w.alloc (.cells #[.int .u32 a, .int .u16 p, .int .u32 b, .int .u16 q, .int .u32 y, .int .u32 z, .int .u8 f, .int .u16 i, .int .u16 m, .int .i64 s, .bool k, .slice A n c, .bool t, .int .u32 v, .int .u32 e, .string S] 30)) #[.int .u32 a, .int .u16 p', .int .u32 b', .int .u16 q', .int .u32 y', .int .u32 z', .int .u8 f', .int .u16 i', .int .u16 m', .int .i64 s', .bool k', .slice A' n' c', .bool t', .int .u32 v', .int .u32 e', .string S'] 30
  rw [show (w.alloc (.cells #[.int .u32 a, .int .u16 p, .int .u32 b, .int .u16 q, .int .u32 y, .int .u32 z, .int .u8 f, .int .u16 i, .int .u16 m, .int .i64 s, .bool k, .slice A n c, .bool t, .int .u32 v, .int .u32 e, .string S] 30)).heap.size = w.heap.size + 1 by simp] at B0
  generalize ((w.alloc (.cells #[.int .u32 a, .int .u16 p, .int .u32 b, .int .u16 q, .int .u32 y, .int .u32 z, .int .u8 f, .int .u16 i, .int .u16 m, .int .i64 s, .bool k, .slice A n c, .bool t, .int .u32 v, .int .u32 e, .string S] 30)).alloc (.cells #[.int .u32 a, .int .u16 p', .int .u32 b', .int .u16 q', .int .u32 y', .int .u32 z', .int .u8 f', .int .u16 i', .int .u16 m', .int .i64 s', .bool k', .slice A' n' c', .bool t', .int .u32 v', .int .u32 e', .string S'] 30)) = w0 at U0 A0 B0 ⊢
  generalize w.heap.size = n0 at A0 B0 ⊢
  obtain ⟨k0, k1, k2, k3, k4, k5, k6, k7, k8, k9, k10, k11, k12, k13, k14, k15⟩ := e16 A0
  obtain ⟨m0, m1, m2, m3, m4, m5, m6, m7, m8, m9, m10, m11, m12, m13, m14, m15⟩ := e16 B0
  go_wp2
  go_ret
  exact ⟨rfl, U0⟩
set_option maxHeartbeats 4000000 in
set_option maxRecDepth 100000 in
theorem lsame2 (a p b q y z f i m : Nat) (s : Int) (k : Bool) (A : Option Addr) (n c : Nat) (t : Bool) (v e : Nat) (S : ByteArray) (b' : Nat) (q' : Nat) (y' : Nat) (z' : Nat) (f' : Nat) (i' : Nat) (m' : Nat) (s' : Int) (k' : Bool) (A' : Option Addr) (n' : Nat) (c' : Nat) (t' : Bool) (v' : Nat) (e' : Nat) (S' : ByteArray) (w : World) (h : ¬ (b : Int) = b') :
    Calls Try.prog 12 #[SA a p b q y z f i m s k A n c t v e S, SA a p b' q' y' z' f' i' m' s' k' A' n' c' t' v' e' S'] w fun e_ w' => e_ = .returned (.bool false) ∧ Up w w' := by
  go_enter Try.func12, Try.ntmps12
  go_upto_region 1 with fail
  have U0 : Up w ((w.alloc (.cells #[.int .u32 a, .int .u16 p, .int .u32 b, .int .u16 q, .int .u32 y, .int .u32 z, .int .u8 f, .int .u16 i, .int .u16 m, .int .i64 s, .bool k, .slice A n c, .bool t, .int .u32 v, .int .u32 e, .string S] 30)).alloc (.cells #[.int .u32 a, .int .u16 p, .int .u32 b', .int .u16 q', .int .u32 y', .int .u32 z', .int .u8 f', .int .u16 i', .int .u16 m', .int .i64 s', .bool k', .slice A' n' c', .bool t', .int .u32 v', .int .u32 e', .string S'] 30)) := up_al _ (up_al _ (Below.refl _ _))
  have A0 := (Box.new w #[.int .u32 a, .int .u16 p, .int .u32 b, .int .u16 q, .int .u32 y, .int .u32 z, .int .u8 f, .int .u16 i, .int .u16 m, .int .i64 s, .bool k, .slice A n c, .bool t, .int .u32 v, .int .u32 e, .string S] 30).alloc (.cells #[.int .u32 a, .int .u16 p, .int .u32 b', .int .u16 q', .int .u32 y', .int .u32 z', .int .u8 f', .int .u16 i', .int .u16 m', .int .i64 s', .bool k', .slice A' n' c', .bool t', .int .u32 v', .int .u32 e', .string S'] 30)
  have B0 := Box.new (w.alloc (.cells #[.int .u32 a, .int .u16 p, .int .u32 b, .int .u16 q, .int .u32 y, .int .u32 z, .int .u8 f, .int .u16 i, .int .u16 m, .int .i64 s, .bool k, .slice A n c, .bool t, .int .u32 v, .int .u32 e, .string S] 30)) #[.int .u32 a, .int .u16 p, .int .u32 b', .int .u16 q', .int .u32 y', .int .u32 z', .int .u8 f', .int .u16 i', .int .u16 m', .int .i64 s', .bool k', .slice A' n' c', .bool t', .int .u32 v', .int .u32 e', .string S'] 30
  rw [show (w.alloc (.cells #[.int .u32 a, .int .u16 p, .int .u32 b, .int .u16 q, .int .u32 y, .int .u32 z, .int .u8 f, .int .u16 i, .int .u16 m, .int .i64 s, .bool k, .slice A n c, .bool t, .int .u32 v, .int .u32 e, .string S] 30)).heap.size = w.heap.size + 1 by simp] at B0
  generalize ((w.alloc (.cells #[.int .u32 a, .int .u16 p, .int .u32 b, .int .u16 q, .int .u32 y, .int .u32 z, .int .u8 f, .int .u16 i, .int .u16 m, .int .i64 s, .bool k, .slice A n c, .bool t, .int .u32 v, .int .u32 e, .string S] 30)).alloc (.cells #[.int .u32 a, .int .u16 p, .int .u32 b', .int .u16 q', .int .u32 y', .int .u32 z', .int .u8 f', .int .u16 i', .int .u16 m', .int .i64 s', .bool k', .slice A' n' c', .bool t', .int .u32 v', .int .u32 e', .string S'] 30)) = w0 at U0 A0 B0 ⊢
  generalize w.heap.size = n0 at A0 B0 ⊢
  obtain ⟨k0, k1, k2, k3, k4, k5, k6, k7, k8, k9, k10, k11, k12, k13, k14, k15⟩ := e16 A0
  obtain ⟨m0, m1, m2, m3, m4, m5, m6, m7, m8, m9, m10, m11, m12, m13, m14, m15⟩ := e16 B0
  go_wp2
  go_ret
  exact ⟨rfl, U0⟩
set_option maxHeartbeats 4000000 in
set_option maxRecDepth 100000 in
theorem lsame3 (a p b q y z f i m : Nat) (s : Int) (k : Bool) (A : Option Addr) (n c : Nat) (t : Bool) (v e : Nat) (S : ByteArray) (q' : Nat) (y' : Nat) (z' : Nat) (f' : Nat) (i' : Nat) (m' : Nat) (s' : Int) (k' : Bool) (A' : Option Addr) (n' : Nat) (c' : Nat) (t' : Bool) (v' : Nat) (e' : Nat) (S' : ByteArray) (w : World) (h : ¬ (q : Int) = q') :
    Calls Try.prog 12 #[SA a p b q y z f i m s k A n c t v e S, SA a p b q' y' z' f' i' m' s' k' A' n' c' t' v' e' S'] w fun e_ w' => e_ = .returned (.bool false) ∧ Up w w' := by
  go_enter Try.func12, Try.ntmps12
  go_upto_region 1 with fail
  have U0 : Up w ((w.alloc (.cells #[.int .u32 a, .int .u16 p, .int .u32 b, .int .u16 q, .int .u32 y, .int .u32 z, .int .u8 f, .int .u16 i, .int .u16 m, .int .i64 s, .bool k, .slice A n c, .bool t, .int .u32 v, .int .u32 e, .string S] 30)).alloc (.cells #[.int .u32 a, .int .u16 p, .int .u32 b, .int .u16 q', .int .u32 y', .int .u32 z', .int .u8 f', .int .u16 i', .int .u16 m', .int .i64 s', .bool k', .slice A' n' c', .bool t', .int .u32 v', .int .u32 e', .string S'] 30)) := up_al _ (up_al _ (Below.refl _ _))
  have A0 := (Box.new w #[.int .u32 a, .int .u16 p, .int .u32 b, .int .u16 q, .int .u32 y, .int .u32 z, .int .u8 f, .int .u16 i, .int .u16 m, .int .i64 s, .bool k, .slice A n c, .bool t, .int .u32 v, .int .u32 e, .string S] 30).alloc (.cells #[.int .u32 a, .int .u16 p, .int .u32 b, .int .u16 q', .int .u32 y', .int .u32 z', .int .u8 f', .int .u16 i', .int .u16 m', .int .i64 s', .bool k', .slice A' n' c', .bool t', .int .u32 v', .int .u32 e', .string S'] 30)
  have B0 := Box.new (w.alloc (.cells #[.int .u32 a, .int .u16 p, .int .u32 b, .int .u16 q, .int .u32 y, .int .u32 z, .int .u8 f, .int .u16 i, .int .u16 m, .int .i64 s, .bool k, .slice A n c, .bool t, .int .u32 v, .int .u32 e, .string S] 30)) #[.int .u32 a, .int .u16 p, .int .u32 b, .int .u16 q', .int .u32 y', .int .u32 z', .int .u8 f', .int .u16 i', .int .u16 m', .int .i64 s', .bool k', .slice A' n' c', .bool t', .int .u32 v', .int .u32 e', .string S'] 30
  rw [show (w.alloc (.cells #[.int .u32 a, .int .u16 p, .int .u32 b, .int .u16 q, .int .u32 y, .int .u32 z, .int .u8 f, .int .u16 i, .int .u16 m, .int .i64 s, .bool k, .slice A n c, .bool t, .int .u32 v, .int .u32 e, .string S] 30)).heap.size = w.heap.size + 1 by simp] at B0
  generalize ((w.alloc (.cells #[.int .u32 a, .int .u16 p, .int .u32 b, .int .u16 q, .int .u32 y, .int .u32 z, .int .u8 f, .int .u16 i, .int .u16 m, .int .i64 s, .bool k, .slice A n c, .bool t, .int .u32 v, .int .u32 e, .string S] 30)).alloc (.cells #[.int .u32 a, .int .u16 p, .int .u32 b, .int .u16 q', .int .u32 y', .int .u32 z', .int .u8 f', .int .u16 i', .int .u16 m', .int .i64 s', .bool k', .slice A' n' c', .bool t', .int .u32 v', .int .u32 e', .string S'] 30)) = w0 at U0 A0 B0 ⊢
  generalize w.heap.size = n0 at A0 B0 ⊢
  obtain ⟨k0, k1, k2, k3, k4, k5, k6, k7, k8, k9, k10, k11, k12, k13, k14, k15⟩ := e16 A0
  obtain ⟨m0, m1, m2, m3, m4, m5, m6, m7, m8, m9, m10, m11, m12, m13, m14, m15⟩ := e16 B0
  go_wp2
  go_ret
  exact ⟨rfl, U0⟩
set_option maxHeartbeats 4000000 in
set_option maxRecDepth 100000 in
theorem lsame4 (a p b q y z f i m : Nat) (s : Int) (k : Bool) (A : Option Addr) (n c : Nat) (t : Bool) (v e : Nat) (S : ByteArray) (y' : Nat) (z' : Nat) (f' : Nat) (i' : Nat) (m' : Nat) (s' : Int) (k' : Bool) (A' : Option Addr) (n' : Nat) (c' : Nat) (t' : Bool) (v' : Nat) (e' : Nat) (S' : ByteArray) (w : World) (h : ¬ (y : Int) = y') :
    Calls Try.prog 12 #[SA a p b q y z f i m s k A n c t v e S, SA a p b q y' z' f' i' m' s' k' A' n' c' t' v' e' S'] w fun e_ w' => e_ = .returned (.bool false) ∧ Up w w' := by
  go_enter Try.func12, Try.ntmps12
  go_upto_region 1 with fail
  have U0 : Up w ((w.alloc (.cells #[.int .u32 a, .int .u16 p, .int .u32 b, .int .u16 q, .int .u32 y, .int .u32 z, .int .u8 f, .int .u16 i, .int .u16 m, .int .i64 s, .bool k, .slice A n c, .bool t, .int .u32 v, .int .u32 e, .string S] 30)).alloc (.cells #[.int .u32 a, .int .u16 p, .int .u32 b, .int .u16 q, .int .u32 y', .int .u32 z', .int .u8 f', .int .u16 i', .int .u16 m', .int .i64 s', .bool k', .slice A' n' c', .bool t', .int .u32 v', .int .u32 e', .string S'] 30)) := up_al _ (up_al _ (Below.refl _ _))
  have A0 := (Box.new w #[.int .u32 a, .int .u16 p, .int .u32 b, .int .u16 q, .int .u32 y, .int .u32 z, .int .u8 f, .int .u16 i, .int .u16 m, .int .i64 s, .bool k, .slice A n c, .bool t, .int .u32 v, .int .u32 e, .string S] 30).alloc (.cells #[.int .u32 a, .int .u16 p, .int .u32 b, .int .u16 q, .int .u32 y', .int .u32 z', .int .u8 f', .int .u16 i', .int .u16 m', .int .i64 s', .bool k', .slice A' n' c', .bool t', .int .u32 v', .int .u32 e', .string S'] 30)
  have B0 := Box.new (w.alloc (.cells #[.int .u32 a, .int .u16 p, .int .u32 b, .int .u16 q, .int .u32 y, .int .u32 z, .int .u8 f, .int .u16 i, .int .u16 m, .int .i64 s, .bool k, .slice A n c, .bool t, .int .u32 v, .int .u32 e, .string S] 30)) #[.int .u32 a, .int .u16 p, .int .u32 b, .int .u16 q, .int .u32 y', .int .u32 z', .int .u8 f', .int .u16 i', .int .u16 m', .int .i64 s', .bool k', .slice A' n' c', .bool t', .int .u32 v', .int .u32 e', .string S'] 30
  rw [show (w.alloc (.cells #[.int .u32 a, .int .u16 p, .int .u32 b, .int .u16 q, .int .u32 y, .int .u32 z, .int .u8 f, .int .u16 i, .int .u16 m, .int .i64 s, .bool k, .slice A n c, .bool t, .int .u32 v, .int .u32 e, .string S] 30)).heap.size = w.heap.size + 1 by simp] at B0
  generalize ((w.alloc (.cells #[.int .u32 a, .int .u16 p, .int .u32 b, .int .u16 q, .int .u32 y, .int .u32 z, .int .u8 f, .int .u16 i, .int .u16 m, .int .i64 s, .bool k, .slice A n c, .bool t, .int .u32 v, .int .u32 e, .string S] 30)).alloc (.cells #[.int .u32 a, .int .u16 p, .int .u32 b, .int .u16 q, .int .u32 y', .int .u32 z', .int .u8 f', .int .u16 i', .int .u16 m', .int .i64 s', .bool k', .slice A' n' c', .bool t', .int .u32 v', .int .u32 e', .string S'] 30)) = w0 at U0 A0 B0 ⊢
  generalize w.heap.size = n0 at A0 B0 ⊢
  obtain ⟨k0, k1, k2, k3, k4, k5, k6, k7, k8, k9, k10, k11, k12, k13, k14, k15⟩ := e16 A0
  obtain ⟨m0, m1, m2, m3, m4, m5, m6, m7, m8, m9, m10, m11, m12, m13, m14, m15⟩ := e16 B0
  go_wp2
  go_ret
  exact ⟨rfl, U0⟩
set_option maxHeartbeats 4000000 in
set_option maxRecDepth 100000 in
theorem lsame5 (a p b q y z f i m : Nat) (s : Int) (k : Bool) (A : Option Addr) (n c : Nat) (t : Bool) (v e : Nat) (S : ByteArray) (z' : Nat) (f' : Nat) (i' : Nat) (m' : Nat) (s' : Int) (k' : Bool) (A' : Option Addr) (n' : Nat) (c' : Nat) (t' : Bool) (v' : Nat) (e' : Nat) (S' : ByteArray) (w : World) (h : ¬ (z : Int) = z') :
    Calls Try.prog 12 #[SA a p b q y z f i m s k A n c t v e S, SA a p b q y z' f' i' m' s' k' A' n' c' t' v' e' S'] w fun e_ w' => e_ = .returned (.bool false) ∧ Up w w' := by
  go_enter Try.func12, Try.ntmps12
  go_upto_region 1 with fail
  have U0 : Up w ((w.alloc (.cells #[.int .u32 a, .int .u16 p, .int .u32 b, .int .u16 q, .int .u32 y, .int .u32 z, .int .u8 f, .int .u16 i, .int .u16 m, .int .i64 s, .bool k, .slice A n c, .bool t, .int .u32 v, .int .u32 e, .string S] 30)).alloc (.cells #[.int .u32 a, .int .u16 p, .int .u32 b, .int .u16 q, .int .u32 y, .int .u32 z', .int .u8 f', .int .u16 i', .int .u16 m', .int .i64 s', .bool k', .slice A' n' c', .bool t', .int .u32 v', .int .u32 e', .string S'] 30)) := up_al _ (up_al _ (Below.refl _ _))
  have A0 := (Box.new w #[.int .u32 a, .int .u16 p, .int .u32 b, .int .u16 q, .int .u32 y, .int .u32 z, .int .u8 f, .int .u16 i, .int .u16 m, .int .i64 s, .bool k, .slice A n c, .bool t, .int .u32 v, .int .u32 e, .string S] 30).alloc (.cells #[.int .u32 a, .int .u16 p, .int .u32 b, .int .u16 q, .int .u32 y, .int .u32 z', .int .u8 f', .int .u16 i', .int .u16 m', .int .i64 s', .bool k', .slice A' n' c', .bool t', .int .u32 v', .int .u32 e', .string S'] 30)
  have B0 := Box.new (w.alloc (.cells #[.int .u32 a, .int .u16 p, .int .u32 b, .int .u16 q, .int .u32 y, .int .u32 z, .int .u8 f, .int .u16 i, .int .u16 m, .int .i64 s, .bool k, .slice A n c, .bool t, .int .u32 v, .int .u32 e, .string S] 30)) #[.int .u32 a, .int .u16 p, .int .u32 b, .int .u16 q, .int .u32 y, .int .u32 z', .int .u8 f', .int .u16 i', .int .u16 m', .int .i64 s', .bool k', .slice A' n' c', .bool t', .int .u32 v', .int .u32 e', .string S'] 30
  rw [show (w.alloc (.cells #[.int .u32 a, .int .u16 p, .int .u32 b, .int .u16 q, .int .u32 y, .int .u32 z, .int .u8 f, .int .u16 i, .int .u16 m, .int .i64 s, .bool k, .slice A n c, .bool t, .int .u32 v, .int .u32 e, .string S] 30)).heap.size = w.heap.size + 1 by simp] at B0
  generalize ((w.alloc (.cells #[.int .u32 a, .int .u16 p, .int .u32 b, .int .u16 q, .int .u32 y, .int .u32 z, .int .u8 f, .int .u16 i, .int .u16 m, .int .i64 s, .bool k, .slice A n c, .bool t, .int .u32 v, .int .u32 e, .string S] 30)).alloc (.cells #[.int .u32 a, .int .u16 p, .int .u32 b, .int .u16 q, .int .u32 y, .int .u32 z', .int .u8 f', .int .u16 i', .int .u16 m', .int .i64 s', .bool k', .slice A' n' c', .bool t', .int .u32 v', .int .u32 e', .string S'] 30)) = w0 at U0 A0 B0 ⊢
  generalize w.heap.size = n0 at A0 B0 ⊢
  obtain ⟨k0, k1, k2, k3, k4, k5, k6, k7, k8, k9, k10, k11, k12, k13, k14, k15⟩ := e16 A0
  obtain ⟨m0, m1, m2, m3, m4, m5, m6, m7, m8, m9, m10, m11, m12, m13, m14, m15⟩ := e16 B0
  go_wp2
  go_ret
  exact ⟨rfl, U0⟩
set_option maxHeartbeats 4000000 in
set_option maxRecDepth 100000 in
theorem lsame6 (a p b q y z f i m : Nat) (s : Int) (k : Bool) (A : Option Addr) (n c : Nat) (t : Bool) (v e : Nat) (S : ByteArray) (f' : Nat) (i' : Nat) (m' : Nat) (s' : Int) (k' : Bool) (A' : Option Addr) (n' : Nat) (c' : Nat) (t' : Bool) (v' : Nat) (e' : Nat) (S' : ByteArray) (w : World) (h : ¬ (f : Int) = f') :
    Calls Try.prog 12 #[SA a p b q y z f i m s k A n c t v e S, SA a p b q y z f' i' m' s' k' A' n' c' t' v' e' S'] w fun e_ w' => e_ = .returned (.bool false) ∧ Up w w' := by
  go_enter Try.func12, Try.ntmps12
  go_upto_region 1 with fail
  have U0 : Up w ((w.alloc (.cells #[.int .u32 a, .int .u16 p, .int .u32 b, .int .u16 q, .int .u32 y, .int .u32 z, .int .u8 f, .int .u16 i, .int .u16 m, .int .i64 s, .bool k, .slice A n c, .bool t, .int .u32 v, .int .u32 e, .string S] 30)).alloc (.cells #[.int .u32 a, .int .u16 p, .int .u32 b, .int .u16 q, .int .u32 y, .int .u32 z, .int .u8 f', .int .u16 i', .int .u16 m', .int .i64 s', .bool k', .slice A' n' c', .bool t', .int .u32 v', .int .u32 e', .string S'] 30)) := up_al _ (up_al _ (Below.refl _ _))
  have A0 := (Box.new w #[.int .u32 a, .int .u16 p, .int .u32 b, .int .u16 q, .int .u32 y, .int .u32 z, .int .u8 f, .int .u16 i, .int .u16 m, .int .i64 s, .bool k, .slice A n c, .bool t, .int .u32 v, .int .u32 e, .string S] 30).alloc (.cells #[.int .u32 a, .int .u16 p, .int .u32 b, .int .u16 q, .int .u32 y, .int .u32 z, .int .u8 f', .int .u16 i', .int .u16 m', .int .i64 s', .bool k', .slice A' n' c', .bool t', .int .u32 v', .int .u32 e', .string S'] 30)
  have B0 := Box.new (w.alloc (.cells #[.int .u32 a, .int .u16 p, .int .u32 b, .int .u16 q, .int .u32 y, .int .u32 z, .int .u8 f, .int .u16 i, .int .u16 m, .int .i64 s, .bool k, .slice A n c, .bool t, .int .u32 v, .int .u32 e, .string S] 30)) #[.int .u32 a, .int .u16 p, .int .u32 b, .int .u16 q, .int .u32 y, .int .u32 z, .int .u8 f', .int .u16 i', .int .u16 m', .int .i64 s', .bool k', .slice A' n' c', .bool t', .int .u32 v', .int .u32 e', .string S'] 30
  rw [show (w.alloc (.cells #[.int .u32 a, .int .u16 p, .int .u32 b, .int .u16 q, .int .u32 y, .int .u32 z, .int .u8 f, .int .u16 i, .int .u16 m, .int .i64 s, .bool k, .slice A n c, .bool t, .int .u32 v, .int .u32 e, .string S] 30)).heap.size = w.heap.size + 1 by simp] at B0
  generalize ((w.alloc (.cells #[.int .u32 a, .int .u16 p, .int .u32 b, .int .u16 q, .int .u32 y, .int .u32 z, .int .u8 f, .int .u16 i, .int .u16 m, .int .i64 s, .bool k, .slice A n c, .bool t, .int .u32 v, .int .u32 e, .string S] 30)).alloc (.cells #[.int .u32 a, .int .u16 p, .int .u32 b, .int .u16 q, .int .u32 y, .int .u32 z, .int .u8 f', .int .u16 i', .int .u16 m', .int .i64 s', .bool k', .slice A' n' c', .bool t', .int .u32 v', .int .u32 e', .string S'] 30)) = w0 at U0 A0 B0 ⊢
  generalize w.heap.size = n0 at A0 B0 ⊢
  obtain ⟨k0, k1, k2, k3, k4, k5, k6, k7, k8, k9, k10, k11, k12, k13, k14, k15⟩ := e16 A0
  obtain ⟨m0, m1, m2, m3, m4, m5, m6, m7, m8, m9, m10, m11, m12, m13, m14, m15⟩ := e16 B0
  go_wp2
  go_ret
  exact ⟨rfl, U0⟩
set_option maxHeartbeats 4000000 in
set_option maxRecDepth 100000 in
theorem lsame7 (a p b q y z f i m : Nat) (s : Int) (k : Bool) (A : Option Addr) (n c : Nat) (t : Bool) (v e : Nat) (S : ByteArray) (i' : Nat) (m' : Nat) (s' : Int) (k' : Bool) (A' : Option Addr) (n' : Nat) (c' : Nat) (t' : Bool) (v' : Nat) (e' : Nat) (S' : ByteArray) (w : World) (h : ¬ (i : Int) = i') :
    Calls Try.prog 12 #[SA a p b q y z f i m s k A n c t v e S, SA a p b q y z f i' m' s' k' A' n' c' t' v' e' S'] w fun e_ w' => e_ = .returned (.bool false) ∧ Up w w' := by
  go_enter Try.func12, Try.ntmps12
  go_upto_region 1 with fail
  have U0 : Up w ((w.alloc (.cells #[.int .u32 a, .int .u16 p, .int .u32 b, .int .u16 q, .int .u32 y, .int .u32 z, .int .u8 f, .int .u16 i, .int .u16 m, .int .i64 s, .bool k, .slice A n c, .bool t, .int .u32 v, .int .u32 e, .string S] 30)).alloc (.cells #[.int .u32 a, .int .u16 p, .int .u32 b, .int .u16 q, .int .u32 y, .int .u32 z, .int .u8 f, .int .u16 i', .int .u16 m', .int .i64 s', .bool k', .slice A' n' c', .bool t', .int .u32 v', .int .u32 e', .string S'] 30)) := up_al _ (up_al _ (Below.refl _ _))
  have A0 := (Box.new w #[.int .u32 a, .int .u16 p, .int .u32 b, .int .u16 q, .int .u32 y, .int .u32 z, .int .u8 f, .int .u16 i, .int .u16 m, .int .i64 s, .bool k, .slice A n c, .bool t, .int .u32 v, .int .u32 e, .string S] 30).alloc (.cells #[.int .u32 a, .int .u16 p, .int .u32 b, .int .u16 q, .int .u32 y, .int .u32 z, .int .u8 f, .int .u16 i', .int .u16 m', .int .i64 s', .bool k', .slice A' n' c', .bool t', .int .u32 v', .int .u32 e', .string S'] 30)
  have B0 := Box.new (w.alloc (.cells #[.int .u32 a, .int .u16 p, .int .u32 b, .int .u16 q, .int .u32 y, .int .u32 z, .int .u8 f, .int .u16 i, .int .u16 m, .int .i64 s, .bool k, .slice A n c, .bool t, .int .u32 v, .int .u32 e, .string S] 30)) #[.int .u32 a, .int .u16 p, .int .u32 b, .int .u16 q, .int .u32 y, .int .u32 z, .int .u8 f, .int .u16 i', .int .u16 m', .int .i64 s', .bool k', .slice A' n' c', .bool t', .int .u32 v', .int .u32 e', .string S'] 30
  rw [show (w.alloc (.cells #[.int .u32 a, .int .u16 p, .int .u32 b, .int .u16 q, .int .u32 y, .int .u32 z, .int .u8 f, .int .u16 i, .int .u16 m, .int .i64 s, .bool k, .slice A n c, .bool t, .int .u32 v, .int .u32 e, .string S] 30)).heap.size = w.heap.size + 1 by simp] at B0
  generalize ((w.alloc (.cells #[.int .u32 a, .int .u16 p, .int .u32 b, .int .u16 q, .int .u32 y, .int .u32 z, .int .u8 f, .int .u16 i, .int .u16 m, .int .i64 s, .bool k, .slice A n c, .bool t, .int .u32 v, .int .u32 e, .string S] 30)).alloc (.cells #[.int .u32 a, .int .u16 p, .int .u32 b, .int .u16 q, .int .u32 y, .int .u32 z, .int .u8 f, .int .u16 i', .int .u16 m', .int .i64 s', .bool k', .slice A' n' c', .bool t', .int .u32 v', .int .u32 e', .string S'] 30)) = w0 at U0 A0 B0 ⊢
  generalize w.heap.size = n0 at A0 B0 ⊢
  obtain ⟨k0, k1, k2, k3, k4, k5, k6, k7, k8, k9, k10, k11, k12, k13, k14, k15⟩ := e16 A0
  obtain ⟨m0, m1, m2, m3, m4, m5, m6, m7, m8, m9, m10, m11, m12, m13, m14, m15⟩ := e16 B0
  go_wp2
  go_ret
  exact ⟨rfl, U0⟩
set_option maxHeartbeats 4000000 in
set_option maxRecDepth 100000 in
theorem lsame8 (a p b q y z f i m : Nat) (s : Int) (k : Bool) (A : Option Addr) (n c : Nat) (t : Bool) (v e : Nat) (S : ByteArray) (m' : Nat) (s' : Int) (k' : Bool) (A' : Option Addr) (n' : Nat) (c' : Nat) (t' : Bool) (v' : Nat) (e' : Nat) (S' : ByteArray) (w : World) (hE : ∀ w', Up w w' → Calls Try.prog 32 #[op.OA m s k A n c t v e, op.OA m' s' k' A' n' c' t' v' e'] w' fun e_ w'' => e_ = .returned (.bool false) ∧ Up w' w'') :
    Calls Try.prog 12 #[SA a p b q y z f i m s k A n c t v e S, SA a p b q y z f i m' s' k' A' n' c' t' v' e' S'] w fun e_ w' => e_ = .returned (.bool false) ∧ Up w w' := by
  have HE := Lib.hid hE
  clear hE
  go_enter Try.func12, Try.ntmps12
  go_upto_region 1 with fail
  have U0 : Up w ((w.alloc (.cells #[.int .u32 a, .int .u16 p, .int .u32 b, .int .u16 q, .int .u32 y, .int .u32 z, .int .u8 f, .int .u16 i, .int .u16 m, .int .i64 s, .bool k, .slice A n c, .bool t, .int .u32 v, .int .u32 e, .string S] 30)).alloc (.cells #[.int .u32 a, .int .u16 p, .int .u32 b, .int .u16 q, .int .u32 y, .int .u32 z, .int .u8 f, .int .u16 i, .int .u16 m', .int .i64 s', .bool k', .slice A' n' c', .bool t', .int .u32 v', .int .u32 e', .string S'] 30)) := up_al _ (up_al _ (Below.refl _ _))
  have A0 := (Box.new w #[.int .u32 a, .int .u16 p, .int .u32 b, .int .u16 q, .int .u32 y, .int .u32 z, .int .u8 f, .int .u16 i, .int .u16 m, .int .i64 s, .bool k, .slice A n c, .bool t, .int .u32 v, .int .u32 e, .string S] 30).alloc (.cells #[.int .u32 a, .int .u16 p, .int .u32 b, .int .u16 q, .int .u32 y, .int .u32 z, .int .u8 f, .int .u16 i, .int .u16 m', .int .i64 s', .bool k', .slice A' n' c', .bool t', .int .u32 v', .int .u32 e', .string S'] 30)
  have B0 := Box.new (w.alloc (.cells #[.int .u32 a, .int .u16 p, .int .u32 b, .int .u16 q, .int .u32 y, .int .u32 z, .int .u8 f, .int .u16 i, .int .u16 m, .int .i64 s, .bool k, .slice A n c, .bool t, .int .u32 v, .int .u32 e, .string S] 30)) #[.int .u32 a, .int .u16 p, .int .u32 b, .int .u16 q, .int .u32 y, .int .u32 z, .int .u8 f, .int .u16 i, .int .u16 m', .int .i64 s', .bool k', .slice A' n' c', .bool t', .int .u32 v', .int .u32 e', .string S'] 30
  rw [show (w.alloc (.cells #[.int .u32 a, .int .u16 p, .int .u32 b, .int .u16 q, .int .u32 y, .int .u32 z, .int .u8 f, .int .u16 i, .int .u16 m, .int .i64 s, .bool k, .slice A n c, .bool t, .int .u32 v, .int .u32 e, .string S] 30)).heap.size = w.heap.size + 1 by simp] at B0
  generalize ((w.alloc (.cells #[.int .u32 a, .int .u16 p, .int .u32 b, .int .u16 q, .int .u32 y, .int .u32 z, .int .u8 f, .int .u16 i, .int .u16 m, .int .i64 s, .bool k, .slice A n c, .bool t, .int .u32 v, .int .u32 e, .string S] 30)).alloc (.cells #[.int .u32 a, .int .u16 p, .int .u32 b, .int .u16 q, .int .u32 y, .int .u32 z, .int .u8 f, .int .u16 i, .int .u16 m', .int .i64 s', .bool k', .slice A' n' c', .bool t', .int .u32 v', .int .u32 e', .string S'] 30)) = w0 at U0 A0 B0 ⊢
  generalize w.heap.size = n0 at A0 B0 ⊢
  obtain ⟨k0, k1, k2, k3, k4, k5, k6, k7, k8, k9, k10, k11, k12, k13, k14, k15⟩ := e16 A0
  obtain ⟨m0, m1, m2, m3, m4, m5, m6, m7, m8, m9, m10, m11, m12, m13, m14, m15⟩ := e16 B0
  go_wp2_with fail
  refine (HE.out w0 U0).mono ?_
  rintro e_ w1 ⟨rfl, hv⟩
  have A1 := A0.up hv
  have B1 := B0.up hv
  clear k0 m0 k1 m1 k2 m2 k3 m3 k4 m4 k5 m5 k6 m6 k7 m7 k8 m8 k9 m9 k10 m10 k11 m11 k12 m12 k13 m13 k14 m14 k15 m15
  obtain ⟨k0, k1, k2, k3, k4, k5, k6, k7, k8, k9, k10, k11, k12, k13, k14, k15⟩ := e16 A1
  obtain ⟨m0, m1, m2, m3, m4, m5, m6, m7, m8, m9, m10, m11, m12, m13, m14, m15⟩ := e16 B1
  go_wp2
  go_ret
  exact ⟨rfl, U0.on hv⟩
set_option maxHeartbeats 4000000 in
set_option maxRecDepth 100000 in
theorem lsame9 (a p b q y z f i m : Nat) (s : Int) (k : Bool) (A : Option Addr) (n c : Nat) (t : Bool) (v e : Nat) (S : ByteArray) (m' : Nat) (s' : Int) (k' : Bool) (A' : Option Addr) (n' : Nat) (c' : Nat) (t' : Bool) (v' : Nat) (e' : Nat) (S' : ByteArray) (w : World) (hE : ∀ w', Up w w' → Calls Try.prog 32 #[op.OA m s k A n c t v e, op.OA m' s' k' A' n' c' t' v' e'] w' fun e_ w'' => e_ = .returned (.bool true) ∧ Up w' w'') (hS : S ≠ S') :
    Calls Try.prog 12 #[SA a p b q y z f i m s k A n c t v e S, SA a p b q y z f i m' s' k' A' n' c' t' v' e' S'] w fun e_ w' => e_ = .returned (.bool false) ∧ Up w w' := by
  have HE := Lib.hid hE
  clear hE
  have hs : (S.toList == S'.toList) = false := by rw [beq_eq_false_iff_ne]; intro h; rw [ByteArray.toList_eq, ByteArray.toList_eq] at h; exact hS (ba_eq h)
  go_enter Try.func12, Try.ntmps12
  go_upto_region 1 with fail
  have U0 : Up w ((w.alloc (.cells #[.int .u32 a, .int .u16 p, .int .u32 b, .int .u16 q, .int .u32 y, .int .u32 z, .int .u8 f, .int .u16 i, .int .u16 m, .int .i64 s, .bool k, .slice A n c, .bool t, .int .u32 v, .int .u32 e, .string S] 30)).alloc (.cells #[.int .u32 a, .int .u16 p, .int .u32 b, .int .u16 q, .int .u32 y, .int .u32 z, .int .u8 f, .int .u16 i, .int .u16 m', .int .i64 s', .bool k', .slice A' n' c', .bool t', .int .u32 v', .int .u32 e', .string S'] 30)) := up_al _ (up_al _ (Below.refl _ _))
  have A0 := (Box.new w #[.int .u32 a, .int .u16 p, .int .u32 b, .int .u16 q, .int .u32 y, .int .u32 z, .int .u8 f, .int .u16 i, .int .u16 m, .int .i64 s, .bool k, .slice A n c, .bool t, .int .u32 v, .int .u32 e, .string S] 30).alloc (.cells #[.int .u32 a, .int .u16 p, .int .u32 b, .int .u16 q, .int .u32 y, .int .u32 z, .int .u8 f, .int .u16 i, .int .u16 m', .int .i64 s', .bool k', .slice A' n' c', .bool t', .int .u32 v', .int .u32 e', .string S'] 30)
  have B0 := Box.new (w.alloc (.cells #[.int .u32 a, .int .u16 p, .int .u32 b, .int .u16 q, .int .u32 y, .int .u32 z, .int .u8 f, .int .u16 i, .int .u16 m, .int .i64 s, .bool k, .slice A n c, .bool t, .int .u32 v, .int .u32 e, .string S] 30)) #[.int .u32 a, .int .u16 p, .int .u32 b, .int .u16 q, .int .u32 y, .int .u32 z, .int .u8 f, .int .u16 i, .int .u16 m', .int .i64 s', .bool k', .slice A' n' c', .bool t', .int .u32 v', .int .u32 e', .string S'] 30
  rw [show (w.alloc (.cells #[.int .u32 a, .int .u16 p, .int .u32 b, .int .u16 q, .int .u32 y, .int .u32 z, .int .u8 f, .int .u16 i, .int .u16 m, .int .i64 s, .bool k, .slice A n c, .bool t, .int .u32 v, .int .u32 e, .string S] 30)).heap.size = w.heap.size + 1 by simp] at B0
  generalize ((w.alloc (.cells #[.int .u32 a, .int .u16 p, .int .u32 b, .int .u16 q, .int .u32 y, .int .u32 z, .int .u8 f, .int .u16 i, .int .u16 m, .int .i64 s, .bool k, .slice A n c, .bool t, .int .u32 v, .int .u32 e, .string S] 30)).alloc (.cells #[.int .u32 a, .int .u16 p, .int .u32 b, .int .u16 q, .int .u32 y, .int .u32 z, .int .u8 f, .int .u16 i, .int .u16 m', .int .i64 s', .bool k', .slice A' n' c', .bool t', .int .u32 v', .int .u32 e', .string S'] 30)) = w0 at U0 A0 B0 ⊢
  generalize w.heap.size = n0 at A0 B0 ⊢
  obtain ⟨k0, k1, k2, k3, k4, k5, k6, k7, k8, k9, k10, k11, k12, k13, k14, k15⟩ := e16 A0
  obtain ⟨m0, m1, m2, m3, m4, m5, m6, m7, m8, m9, m10, m11, m12, m13, m14, m15⟩ := e16 B0
  go_wp2_with fail
  refine (HE.out w0 U0).mono ?_
  rintro e_ w1 ⟨rfl, hv⟩
  have A1 := A0.up hv
  have B1 := B0.up hv
  clear k0 m0 k1 m1 k2 m2 k3 m3 k4 m4 k5 m5 k6 m6 k7 m7 k8 m8 k9 m9 k10 m10 k11 m11 k12 m12 k13 m13 k14 m14 k15 m15
  obtain ⟨k0, k1, k2, k3, k4, k5, k6, k7, k8, k9, k10, k11, k12, k13, k14, k15⟩ := e16 A1
  obtain ⟨m0, m1, m2, m3, m4, m5, m6, m7, m8, m9, m10, m11, m12, m13, m14, m15⟩ := e16 B1
  go_wp2
  go_ret
  exact ⟨rfl, U0.on hv⟩
set_option maxHeartbeats 4000000 in
set_option maxRecDepth 100000 in
theorem lsame10 (a p b q y z f i m : Nat) (s : Int) (k : Bool) (A : Option Addr) (n c : Nat) (t : Bool) (v e : Nat) (S : ByteArray) (m' : Nat) (s' : Int) (k' : Bool) (A' : Option Addr) (n' : Nat) (c' : Nat) (t' : Bool) (v' : Nat) (e' : Nat) (w : World) (hE : ∀ w', Up w w' → Calls Try.prog 32 #[op.OA m s k A n c t v e, op.OA m' s' k' A' n' c' t' v' e'] w' fun e_ w'' => e_ = .returned (.bool true) ∧ Up w' w'') :
    Calls Try.prog 12 #[SA a p b q y z f i m s k A n c t v e S, SA a p b q y z f i m' s' k' A' n' c' t' v' e' S] w fun e_ w' => e_ = .returned (.bool true) ∧ Up w w' := by
  have HE := Lib.hid hE
  clear hE
  go_enter Try.func12, Try.ntmps12
  go_upto_region 1 with fail
  have U0 : Up w ((w.alloc (.cells #[.int .u32 a, .int .u16 p, .int .u32 b, .int .u16 q, .int .u32 y, .int .u32 z, .int .u8 f, .int .u16 i, .int .u16 m, .int .i64 s, .bool k, .slice A n c, .bool t, .int .u32 v, .int .u32 e, .string S] 30)).alloc (.cells #[.int .u32 a, .int .u16 p, .int .u32 b, .int .u16 q, .int .u32 y, .int .u32 z, .int .u8 f, .int .u16 i, .int .u16 m', .int .i64 s', .bool k', .slice A' n' c', .bool t', .int .u32 v', .int .u32 e', .string S] 30)) := up_al _ (up_al _ (Below.refl _ _))
  have A0 := (Box.new w #[.int .u32 a, .int .u16 p, .int .u32 b, .int .u16 q, .int .u32 y, .int .u32 z, .int .u8 f, .int .u16 i, .int .u16 m, .int .i64 s, .bool k, .slice A n c, .bool t, .int .u32 v, .int .u32 e, .string S] 30).alloc (.cells #[.int .u32 a, .int .u16 p, .int .u32 b, .int .u16 q, .int .u32 y, .int .u32 z, .int .u8 f, .int .u16 i, .int .u16 m', .int .i64 s', .bool k', .slice A' n' c', .bool t', .int .u32 v', .int .u32 e', .string S] 30)
  have B0 := Box.new (w.alloc (.cells #[.int .u32 a, .int .u16 p, .int .u32 b, .int .u16 q, .int .u32 y, .int .u32 z, .int .u8 f, .int .u16 i, .int .u16 m, .int .i64 s, .bool k, .slice A n c, .bool t, .int .u32 v, .int .u32 e, .string S] 30)) #[.int .u32 a, .int .u16 p, .int .u32 b, .int .u16 q, .int .u32 y, .int .u32 z, .int .u8 f, .int .u16 i, .int .u16 m', .int .i64 s', .bool k', .slice A' n' c', .bool t', .int .u32 v', .int .u32 e', .string S] 30
  rw [show (w.alloc (.cells #[.int .u32 a, .int .u16 p, .int .u32 b, .int .u16 q, .int .u32 y, .int .u32 z, .int .u8 f, .int .u16 i, .int .u16 m, .int .i64 s, .bool k, .slice A n c, .bool t, .int .u32 v, .int .u32 e, .string S] 30)).heap.size = w.heap.size + 1 by simp] at B0
  generalize ((w.alloc (.cells #[.int .u32 a, .int .u16 p, .int .u32 b, .int .u16 q, .int .u32 y, .int .u32 z, .int .u8 f, .int .u16 i, .int .u16 m, .int .i64 s, .bool k, .slice A n c, .bool t, .int .u32 v, .int .u32 e, .string S] 30)).alloc (.cells #[.int .u32 a, .int .u16 p, .int .u32 b, .int .u16 q, .int .u32 y, .int .u32 z, .int .u8 f, .int .u16 i, .int .u16 m', .int .i64 s', .bool k', .slice A' n' c', .bool t', .int .u32 v', .int .u32 e', .string S] 30)) = w0 at U0 A0 B0 ⊢
  generalize w.heap.size = n0 at A0 B0 ⊢
  obtain ⟨k0, k1, k2, k3, k4, k5, k6, k7, k8, k9, k10, k11, k12, k13, k14, k15⟩ := e16 A0
  obtain ⟨m0, m1, m2, m3, m4, m5, m6, m7, m8, m9, m10, m11, m12, m13, m14, m15⟩ := e16 B0
  go_wp2_with fail
  refine (HE.out w0 U0).mono ?_
  rintro e_ w1 ⟨rfl, hv⟩
  have A1 := A0.up hv
  have B1 := B0.up hv
  clear k0 m0 k1 m1 k2 m2 k3 m3 k4 m4 k5 m5 k6 m6 k7 m7 k8 m8 k9 m9 k10 m10 k11 m11 k12 m12 k13 m13 k14 m14 k15 m15
  obtain ⟨k0, k1, k2, k3, k4, k5, k6, k7, k8, k9, k10, k11, k12, k13, k14, k15⟩ := e16 A1
  obtain ⟨m0, m1, m2, m3, m4, m5, m6, m7, m8, m9, m10, m11, m12, m13, m14, m15⟩ := e16 B1
  go_wp2
  go_ret
  exact ⟨rfl, U0.on hv⟩
theorem sameC0 (a p b q y z f i m : Nat) (s : Int) (k : Bool) (A : Option Addr) (n c : Nat) (t : Bool) (v e : Nat) (S : ByteArray) (bl : List (Nat × Nat)) (a' p' b' q' y' z' f' i' m' : Nat) (s' : Int) (k' : Bool) (A' : Option Addr) (n' c' : Nat) (t' : Bool) (v' e' : Nat) (S' : ByteArray) (bl' : List (Nat × Nat)) (w : World)
    (hr : op.RdB w A bl) (hr' : op.RdB w A' bl') (hn : bl.length = n) (hn' : bl'.length = n') (hg : GoodS ⟨a, b, p, q, y, z, f, i, ⟨m, s, k, bl, t, v, e⟩, L S⟩) (hg' : GoodS ⟨a', b', p', q', y', z', f', i', ⟨m', s', k', bl', t', v', e'⟩, L S'⟩) :
    Calls Try.prog 12 #[SA a p b q y z f i m s k A n c t v e S, SA a' p' b' q' y' z' f' i' m' s' k' A' n' c' t' v' e' S'] w fun e_ w' =>
      e_ = .returned (.bool (sameS ⟨a, b, p, q, y, z, f, i, ⟨m, s, k, bl, t, v, e⟩, L S⟩ ⟨a', b', p', q', y', z', f', i', ⟨m', s', k', bl', t', v', e'⟩, L S'⟩)) ∧ Up w w' := by
  by_cases h0 : a = a'
  case neg => rw [sameS_f (by intro h; exact h0 (congrArg Sg.sa h))]; apply lsame0; omega
  subst h0
  by_cases h1 : p = p'
  case neg => rw [sameS_f (by intro h; exact h1 (congrArg Sg.sp h))]; apply lsame1; omega
  subst h1
  by_cases h2 : b = b'
  case neg => rw [sameS_f (by intro h; exact h2 (congrArg Sg.da h))]; apply lsame2; omega
  subst h2
  by_cases h3 : q = q'
  case neg => rw [sameS_f (by intro h; exact h3 (congrArg Sg.dp h))]; apply lsame3; omega
  subst h3
  by_cases h4 : y = y'
  case neg => rw [sameS_f (by intro h; exact h4 (congrArg Sg.sq h))]; apply lsame4; omega
  subst h4
  by_cases h5 : z = z'
  case neg => rw [sameS_f (by intro h; exact h5 (congrArg Sg.ak h))]; apply lsame5; omega
  subst h5
  by_cases h6 : f = f'
  case neg => rw [sameS_f (by intro h; exact h6 (congrArg Sg.fl h))]; apply lsame6; omega
  subst h6
  by_cases h7 : i = i'
  case neg => rw [sameS_f (by intro h; exact h7 (congrArg Sg.wi h))]; apply lsame7; omega
  subst h7
  have hE : ∀ w', Up w w' → Calls Try.prog 32 #[op.OA m s k A n c t v e, op.OA m' s' k' A' n' c' t' v' e'] w' fun e_ w'' => e_ = .returned (.bool (om.same ⟨m, s, k, bl, t, v, e⟩ ⟨m', s', k', bl', t', v', e'⟩)) ∧ Up w' w'' :=
    fun w' hu => op.sameC m s k bl t v e A n c m' s' k' bl' t' v' e' A' n' c' w' ⟨hg.1.2.2.2.2.2.2.2.2, hg.2.1, hr.up hu, hn, by have := hg.2.2.1; unfold maxLen; dsimp only at this; omega⟩ ⟨hg'.1.2.2.2.2.2.2.2.2, hg'.2.1, hr'.up hu, hn', by have := hg'.2.2.1; unfold maxLen; dsimp only at this; omega⟩
  by_cases h8 : (⟨m, s, k, bl, t, v, e⟩ : om.Opz) = ⟨m', s', k', bl', t', v', e'⟩
  case neg =>
    rw [sameS_f (by intro h; exact h8 (congrArg Sg.op h))]
    apply lsame8
    rw [op.same_f _ _ h8] at hE
    exact hE
  rw [(om.same_iff _ _).2 h8] at hE
  by_cases h9 : S = S'
  case neg =>
    rw [sameS_f (by intro h; exact h9 (ba_eq (congrArg Sg.dt h)))]
    apply lsame9
    · exact hE
    · exact h9
  subst h9
  rw [sameS_t (by rw [h8])]
  apply lsame10
  exact hE
theorem sameC {x x' : Value} {g g' : Sg} (w : World) (h : SegV w x g) (h' : SegV w x' g') (hg : GoodS g) (hg' : GoodS g') : Calls Try.prog 12 #[x, x'] w fun e_ w' => e_ = .returned (.bool (sameS g g')) ∧ Up w w' := by
  obtain ⟨A, n, c, rfl, hn, hr⟩ := h
  obtain ⟨A', n', c', rfl, hn', hr'⟩ := h'
  obtain ⟨a, b, p, q, y, z, f, i, ⟨m, s, k, bl, t, v, e⟩, D⟩ := g
  obtain ⟨a', b', p', q', y', z', f', i', ⟨m', s', k', bl', t', v', e'⟩, D'⟩ := g'
  have := sameC0 a p b q y z f i m s k A n c t v e (tx D) bl a' p' b' q' y' z' f' i' m' s' k' A' n' c' t' v' e' (tx D') bl' w hr hr' hn hn' (by rw [L_tx]; exact hg) (by rw [L_tx]; exact hg')
  rw [L_tx, L_tx] at this
  exact this
end Go.Proofs.Ytafckmbgefbonaa.pk

namespace Go.Proofs.Ytafckmbgefbonaa.pk
open Go.RowKit Go.Shelf Go.Lib Go.Proofs.Ytafckmbgefbonaa.sm Go.Proofs.Ytafckmbgefbonaa.nb Go.Proofs.Ytafckmbgefbonaa.pm
set_option linter.unusedVariables false

theorem room {l : List UInt8} (h : errP l = 0) : 40 + (optsOf (l.drop 20)).length ≤ l.length ∧ (optsOf (l.drop 20)).length % 2 = 0 ∧ (optsOf (l.drop 20)).length ≤ 40 := by
  obtain ⟨i1, i2, i3⟩ := errP_is0 h
  obtain ⟨g1, g2, g3, g4⟩ := errG_is0 i3
  obtain ⟨k1, k2, k3, k4, k5⟩ := cm.dec_is0 g1
  have hlen : (l.drop 20).length = l.length - 20 := List.length_drop
  have hb12 := bt_bd (l.drop 20) 12
  have h40 := (om.err_is0 g2).1
  obtain ⟨n, n1, n2, n3, n4⟩ : ∃ n : Nat, cm.hl (l.drop 20) = (n : Int) ∧ 20 ≤ n ∧ n ≤ l.length - 20 ∧ n % 4 = 0 := by
    refine ⟨(cm.hl (l.drop 20)).toNat, ?_⟩
    unfold cm.hl at *
    omega
  have nn : (cm.hl (l.drop 20)).toNat = n := by omega
  have hO : (optsOf (l.drop 20)).length = n - 20 := by unfold optsOf; rw [nn, List.length_take, List.length_drop, hlen]; omega
  omega
def RWV (l : List UInt8) (x : Sh) : Value := if errP l = 0 then .tuple #[.string (tx (rwP x l)), .int .i64 0] else .tuple #[.string ByteArray.empty, .int .i64 (errP l : Nat)]
end Go.Proofs.Ytafckmbgefbonaa.pk
