/- B H A: contracts, part 4. Condition: as each says. -/
import Derived.Test.YtafckmbgefbonaaKBHA3
set_option linter.unusedVariables false
set_option linter.unusedSimpArgs false
namespace Go.Proofs.Ytafckmbgefbonaa.pm
open Go.Proofs.Ytafckmbgefbonaa.sm Go.Proofs.Ytafckmbgefbonaa.nb
set_option linter.unusedVariables false

section
variable {b v e : Nat}
theorem tpay_id {k : Nat} (p : List UInt8) (h8 : k ≠ 8) (h5 : k ≠ 5) : om.tpay b v e k p = p := by unfold om.tpay; rw [if_neg h8, if_neg h5]
theorem t_mss (o : om.Opz) (t : List UInt8) : om.turnL b v e (om.rMss o ++ t) = om.rMss (om.tOp b v e o) ++ om.turnL b v e t := by
  show _ = om.rMss o ++ _
  unfold om.rMss; split
  · rfl
  · show om.turnL b v e (2 :: 4 :: (B16 o.mss ++ t)) = _
    rw [om.turn_item 2 4 (B16 o.mss) t (by decide) rfl, tpay_id _ (by decide) (by decide)]; rfl
theorem t_sc (o : om.Opz) (t : List UInt8) : om.turnL b v e (om.rSc o ++ t) = om.rSc (om.tOp b v e o) ++ om.turnL b v e t := by
  show _ = om.rSc o ++ _
  unfold om.rSc; split
  · show om.turnL b v e (1 :: 3 :: 3 :: ([oct o.sc.toNat] ++ t)) = _
    rw [om.turn_1 1 _ rfl, om.turn_item 3 3 _ t (by decide) rfl, tpay_id _ (by decide) (by decide)]; rfl
  · rfl
theorem t_sk (o : om.Opz) (t : List UInt8) : om.turnL b v e (om.rSk o ++ t) = om.rSk (om.tOp b v e o) ++ om.turnL b v e t := by
  show _ = om.rSk o ++ _
  unfold om.rSk; split
  · show om.turnL b v e (1 :: 1 :: 4 :: 2 :: ([] ++ t)) = _
    rw [om.turn_1 1 _ rfl, om.turn_1 1 _ rfl, om.turn_item 4 2 _ t (by decide) rfl, tpay_id _ (by decide) (by decide)]; rfl
  · rfl
theorem t_tm (o : om.Opz) (hw : om.Wf o) (t : List UInt8) : om.turnL b v e (om.rTm o ++ t) = om.rTm (om.tOp b v e o) ++ om.turnL b v e t := by
  obtain ⟨w1, w2, w3, w4⟩ := hw
  cases htm : o.tm with
  | false =>
    have e1 : om.rTm o = [] := by unfold om.rTm; rw [if_neg (by rw [htm]; decide)]
    have e2 : om.rTm (om.tOp b v e o) = [] := by unfold om.rTm; rw [if_neg (by show ¬ o.tm = true; rw [htm]; decide)]
    rw [e1, e2]; rfl
  | true =>
    have e1 : om.rTm o = 1 :: 1 :: 8 :: 10 :: (B32 o.va ++ B32 o.ec) := by unfold om.rTm; rw [if_pos htm]
    have e2 : om.rTm (om.tOp b v e o) = 1 :: 1 :: 8 :: 10 :: (B32 (om.addM o.va v) ++ B32 (om.addM o.ec e)) := by
      unfold om.rTm om.tOp
      dsimp only
      rw [if_pos htm, if_pos htm, if_pos htm]
    have f2 := om.qd_B32' o.va o.ec w4 []
    rw [List.append_nil] at f2
    have f1 := om.qd_B32 o.va w3 (B32 o.ec)
    rw [e1, e2]
    show om.turnL b v e (1 :: 1 :: 8 :: 10 :: ((B32 o.va ++ B32 o.ec) ++ t)) = _
    rw [om.turn_1 1 _ rfl, om.turn_1 1 _ rfl, om.turn_item 8 10 _ t (by decide) rfl]
    have e3 : om.tpay b v e 8 (B32 o.va ++ B32 o.ec) = B32 (om.addM o.va v) ++ B32 (om.addM o.ec e) := by
      unfold om.tpay
      rw [if_pos rfl, f1, f2, Int.toNat_natCast, Int.toNat_natCast]
    show 1 :: 1 :: 8 :: 10 :: (om.tpay b v e 8 (B32 o.va ++ B32 o.ec) ++ om.turnL b v e t) = _
    rw [e3]; rfl
theorem t_bl (o : om.Opz) (hw : om.Wf o) (h : o.bl.length ≤ 4) (t : List UInt8) : om.turnL b v e (om.rBl o ++ t) = om.rBl (om.tOp b v e o) ++ om.turnL b v e t := by
  by_cases hb : o.bl = []
  · have e1 : om.rBl o = [] := by unfold om.rBl; rw [if_pos hb]
    have e2 : om.rBl (om.tOp b v e o) = [] := by
      unfold om.rBl om.tOp
      dsimp only
      rw [hb]; rfl
    rw [e1, e2]; rfl
  · have hn : 0 < o.bl.length := List.length_pos_iff.2 hb
    have e0 : (oct (2 + 8 * o.bl.length)).toNat = 2 + 8 * o.bl.length := oct_nat (by omega)
    have e1 : om.rBl o = 1 :: 1 :: 5 :: oct (2 + 8 * o.bl.length) :: om.flat o.bl := by unfold om.rBl; rw [if_neg hb]
    have e2 : om.rBl (om.tOp b v e o) = 1 :: 1 :: 5 :: oct (2 + 8 * o.bl.length) :: om.flat (o.bl.map fun x => (om.addM x.1 b, om.addM x.2 b)) := by
      unfold om.rBl om.tOp
      dsimp only
      rw [if_neg (by simpa using hb), List.length_map]
    have e3 : om.tpay b v e 5 (om.flat o.bl) = om.flat (o.bl.map fun x => (om.addM x.1 b, om.addM x.2 b)) := by
      unfold om.tpay
      rw [if_neg (by decide), if_pos rfl, om.blocks_flat _ hw.2.1]
    rw [e1, e2]
    show om.turnL b v e (1 :: 1 :: 5 :: oct (2 + 8 * o.bl.length) :: (om.flat o.bl ++ t)) = _
    rw [om.turn_1 1 _ rfl, om.turn_1 1 _ rfl, om.turn_item 5 _ _ t (by decide) (by rw [e0, om.flat_len]; omega)]
    show 1 :: 1 :: 5 :: _ :: (om.tpay b v e 5 (om.flat o.bl) ++ om.turnL b v e t) = _
    rw [e3]; rfl
theorem turn_raw {o : om.Opz} (hw : om.Wf o) (h : o.bl.length ≤ 4) : om.turnL b v e (om.raw o) = om.raw (om.tOp b v e o) := by
  have n := om.turn_nil (b := b) (v := v) (e := e)
  have l := t_bl (b := b) (v := v) (e := e) o hw h []
  rw [List.append_nil, n, List.append_nil] at l
  unfold om.raw
  rw [t_mss, t_sc, t_sk, t_tm o hw, l]
theorem tOp_len (o : om.Opz) : om.rawLen (om.tOp b v e o) = om.rawLen o := by
  unfold om.rawLen om.tOp
  dsimp only
  rw [List.length_map]
  cases o.bl <;> simp
theorem tOp_may {o : om.Opz} (h : om.May o) : om.May (om.tOp b v e o) := by
  obtain ⟨h1, h2, h3, h4, h5⟩ := h
  refine ⟨h1, h2, by show (o.bl.map _).length ≤ 4; rw [List.length_map]; exact h3, ?_, by rw [tOp_len]; exact h5⟩
  intro (htm : o.tm = false)
  obtain ⟨a, c⟩ := h4 htm
  unfold om.tOp
  dsimp only
  rw [if_neg (by rw [htm]; decide), if_neg (by rw [htm]; decide)]
  exact ⟨a, c⟩
end
theorem tS_may {x : Sh} {s : Sg} (h : MayS s) : MayS (tS x s) := ⟨h.1, tOp_may h.2.1, h.2.2⟩

def preP (n : Nat) : List UInt8 := [69, oct 0, oct (n / 256), oct (n % 256), oct (0 / 256), oct (0 % 256), 64, 0, oct 64, oct 6]
def flP (n f : Nat) : List UInt8 := [oct ((20 + n) / 4 * 16), oct f]
def c1P (s : Sg) : Nat := im.cs s.sa s.da 6 64 0 0 true (20 + (inner s).length)
def c2P (s : Sg) : Nat := cm.cs s.sa s.da s.sp s.dp s.sq s.ak s.fl s.wi 0 (om.raw s.op) s.dt
theorem hd_eq (a b n c : Nat) : im.hd a b 6 64 0 0 true n c = preP n ++ (B16 c ++ (B32 a ++ B32 b)) := rfl
theorem rw_sgs (s : Sg) (c : Nat) : cm.rw_ s.sp s.dp s.sq s.ak s.fl s.wi 0 (om.raw s.op) s.dt c = sgs s (flP (om.raw s.op).length s.fl) c (B16 0) (om.raw s.op) s.dt := by
  unfold cm.rw_
  generalize om.raw s.op = O
  rfl
theorem enc_fms (s : Sg) : encS s = fms (preP (40 + (om.raw s.op).length + s.dt.length)) (c1P s) s (flP (om.raw s.op).length s.fl) (c2P s) (B16 0) (om.raw s.op) s.dt := by
  have e : 20 + (inner s).length = 40 + (om.raw s.op).length + s.dt.length := by rw [inner_len]; omega
  have ei : inner s = sgs s (flP (om.raw s.op).length s.fl) (c2P s) (B16 0) (om.raw s.op) s.dt := rw_sgs s (c2P s)
  have eh : im.hc s.sa s.da 6 64 0 0 true (20 + (inner s).length) = preP (20 + (inner s).length) ++ (B16 (c1P s) ++ (B32 s.sa ++ B32 s.da)) := hd_eq _ _ _ _
  unfold encS im.en
  rw [eh, e, List.append_assoc, List.append_assoc, List.append_assoc, ei]
  show _ = fm _ _ _ _ _ _ _ _ _ _ _ _
  unfold fm
  rfl
theorem hd_wsum (a b n c : Nat) (ha : W32 a) (hb : W32 b) (hc : W16 c) : wsum (im.hd a b 6 64 0 0 true n c) = wsum (preP n) + (c : Int) + hl32 a + hl32 b := by
  rw [← head_sum (P := preP n) (c1 := c) rfl hc ha hb]; rfl
theorem c1_is {s : Sg} (hs : WfN s) (t : Sg) : ((c1P s : Nat) : Int) = ck (wsum (preP (40 + (om.raw s.op).length + s.dt.length)) + was (psH s t)) := by
  have e : 20 + (inner s).length = 40 + (om.raw s.op).length + s.dt.length := by rw [inner_len]; omega
  unfold c1P
  rw [im.cs_int, e, hd_wsum _ _ _ 0 hs.1 hs.2.1 (Nat.zero_le _), was_H]
  exact congrArg ck (show _ + ((0 : Nat) : Int) + _ + _ = _ by omega)
theorem raw_two (o : om.Opz) : (om.raw o).length % 2 = 0 := by rw [om.raw_len]; have := om.rawLen_four o; omega
abbrev restP (n m f : Nat) (d : List UInt8) : Int := 6 + ((20 + n + m : Nat) : Int) + wsum (flP n f) + wsum (B16 0) + wsum d
theorem c2_is {s : Sg} (hs : WfN s) (hl : 20 + (om.raw s.op).length + s.dt.length ≤ 65515) (t : Sg) (O' : List UInt8) : ((c2P s : Nat) : Int) = ck (restP (om.raw s.op).length s.dt.length s.fl s.dt + was (psG s t (om.raw s.op) O')) := by
  unfold c2P
  rw [cm.cs_int, rw_sgs, sgs_sum rfl rfl (raw_two _) (Nat.zero_le _) hs hl, was_G _ _ _ _ (raw_two _)]
  congr 1
  show _ + ((0 : Nat) : Int) + _ = _
  unfold restP
  omega
theorem was_now_H (s t u : Sg) : was (psH t u) = now (psH s t) := by rw [was_H, now_H]
theorem was_now_G (s t u : Sg) (O O' O'' : List UInt8) (h : O.length % 2 = 0) (h' : O'.length = O.length) : was (psG t u O' O'') = now (psG s t O O') := by
  rw [was_G _ _ _ _ (by omega), now_G _ _ _ _ h h']
theorem rw_enc {s : Sg} {x : Sh} (hm : MayS s) (hw : WfS s) (hx : WfX x) : rwP x (encS s) = encS (tS x s) := by
  have hn := wfN hw
  have ht := tS_wf hx hw; have hnt := wfN ht
  have hmt := tS_may (x := x) hm
  have hr := turn_raw (b := x.ak) (v := x.va) (e := x.ec) hw.2.2.2.2.2.2.2.2 hm.2.1.2.2.1
  have hrl : (om.raw (tS x s).op).length = (om.raw s.op).length := by rw [om.raw_len, om.raw_len]; exact tOp_len _
  have hO := raw_two s.op
  have h40 := raw40 hm
  have hdl := hm.2.2
  obtain ⟨d1, d2⟩ := om.err_0 (om.raw_dec hm.2.1 hw.2.2.2.2.2.2.2.2) h40
  have hf : bt (flP (om.raw s.op).length s.fl) 0 = (((20 + (om.raw s.op).length) / 4 * 16 : Nat) : Int) := im.bt_nat _ _ _ rfl (by omega)
  have hf1 : bt (flP (om.raw s.op).length s.fl) 1 = ((s.fl : Nat) : Int) := im.bt_nat _ _ _ rfl hw.2.2.2.2.2.2.1
  have h4 : (om.raw s.op).length % 4 = 0 := by rw [om.raw_len]; exact om.rawLen_four _
  have w1 : W16 (c1P s) := im.cs_le _ _ _ _ _ _ _ _
  have w2 : W16 (c2P s) := cm.cs_le _ _ _ _ _ _ _ _ _ _ _
  have wH := psH_words hn hnt
  have wG := psG_words (om.raw s.op) (om.raw (tS x s).op) hn hnt
  have nn : ∀ a : Nat, 0 ≤ hl32 a := fun a => by unfold hl32; omega
  have e := (fms_rw (P := preP (40 + (om.raw s.op).length + s.dt.length)) (F := flP (om.raw s.op).length s.fl) (U := B16 0) (O := om.raw s.op) (D := s.dt) (c1 := c1P s) (c2 := c2P s) hx hw rfl rfl rfl hO w1 w2
    (by rw [hf]; omega) (by rw [hf1]; rfl) d2 rfl d1).2
  rw [← enc_fms, show om.turnL x.ak x.va x.ec (om.raw s.op) = om.raw (tS x s).op from hr] at e
  rw [e, enc_fms (tS x s), hrl]
  have hP : 0 < wsum (preP (40 + (om.raw s.op).length + s.dt.length)) := by
    rw [wsum_cons _ (show 0 < (preP _).length from Nat.succ_pos 9)]
    have b0 : bt (preP (40 + (om.raw s.op).length + s.dt.length)) 0 = 69 := rfl
    have b1 := bt_bd (preP (40 + (om.raw s.op).length + s.dt.length)) 1; have wb := (wsum_bd ((preP (40 + (om.raw s.op).length + s.dt.length)).drop 2)).1
    unfold wd; rw [b0, Nat.zero_add]; omega
  have q1 : foldT (c1P s) (psH s (tS x s)) = ((c1P (tS x s) : Nat) : Int) := by
    have n1 := nn s.sa; have n2 := nn s.da; have n3 := nn (tS x s).sa; have n4 := nn (tS x s).da
    rw [same_sum (wsum (preP (40 + (om.raw s.op).length + s.dt.length))) _ (psH s (tS x s)) wH (by rw [was_H]; omega) (by rw [now_H]; omega) (c1_is hn (tS x s)), c1_is hnt (tS x s), hrl, was_now_H s]
    rfl
  have q2 : foldT (c2P s) (psG s (tS x s) (om.raw s.op) (om.raw (tS x s).op)) = ((c2P (tS x s) : Nat) : Int) := by
    have wF := (wsum_bd (flP (om.raw s.op).length s.fl)).1; have wU := (wsum_bd (B16 0)).1; have wD := (wsum_bd s.dt).1; have wO := (wsum_bd (om.raw s.op)).1; have wO' := (wsum_bd (om.raw (tS x s).op)).1
    have n1 := nn s.sa; have n2 := nn s.da; have n3 := nn s.sq; have n4 := nn s.ak; have m1 := nn (tS x s).sa; have m2 := nn (tS x s).da; have m3 := nn (tS x s).sq; have m4 := nn (tS x s).ak
    rw [same_sum (restP (om.raw s.op).length s.dt.length s.fl s.dt) _ _ wG (by rw [was_G _ _ _ _ hO]; unfold restP; omega) (by rw [now_G _ _ _ _ hO hrl]; unfold restP; omega) (c2_is hn (by omega) _ _), c2_is hnt (by rw [hrl]; show _ + s.dt.length ≤ _; omega) (tS x s) (om.raw (tS x s).op), hrl, was_now_G s _ _ (om.raw s.op) _ _ hO hrl]
    rfl
  rw [q1, q2, Int.toNat_natCast, Int.toNat_natCast]
  rfl
end Go.Proofs.Ytafckmbgefbonaa.pm

namespace Go.Proofs.Ytafckmbgefbonaa.pm
open Go.Proofs.Ytafckmbgefbonaa.sm Go.Proofs.Ytafckmbgefbonaa.nb
set_option linter.unusedVariables false

def next (s : Sg) : Nat := (s.sq + s.dt.length + s.fl / 2 % 2 + s.fl % 2) % 4294967296
end Go.Proofs.Ytafckmbgefbonaa.pm

namespace Go.Proofs.Ytafckmbgefbonaa.om
open Go.Proofs.Ytafckmbgefbonaa.sm Go.Proofs.Ytafckmbgefbonaa.nb
set_option linter.unusedVariables false

def nb (s : List UInt8) (p : Nat) : Nat := (s.getD p 0).toNat
theorem nb_bt (s : List UInt8) (p : Nat) : bt s p = (nb s p : Int) := rfl
theorem nb_le (s : List UInt8) (p : Nat) : nb s p ≤ 255 := by have := bt_bd s p; rw [nb_bt] at this; omega
def itm (s : List UInt8) (p : Nat) : Item := (nb s p, (s.drop (p + 2)).take (nb s (p + 1) - 2))
def At (s : List UInt8) (p : Nat) : Prop := 2 ≤ nb s p ∧ lenOk (nb s p) (nb s (p + 1)) = true ∧ p + nb s (p + 1) ≤ s.length
def stepT (b v e : Nat) (s t : List UInt8) (q : Nat) : List UInt8 := t.take (q + 2) ++ (tpay b v e (nb s q) (itm s q).2 ++ t.drop (q + nb s (q + 1)))
def tw (b v e : Nat) (s : List UInt8) (pl : List Nat) : List UInt8 := pl.foldl (stepT b v e s) s
theorem pay_len {s : List UInt8} {q : Nat} (h : At s q) : (itm s q).2.length + 2 = nb s (q + 1) := by
  obtain ⟨_, h2, h3⟩ := h
  have := lenOk_two h2
  show ((s.drop (q + 2)).take (nb s (q + 1) - 2)).length + 2 = _
  rw [List.length_take, List.length_drop]; omega
theorem tpay_at {s : List UInt8} {q : Nat} (h : At s q) (b v e : Nat) : (tpay b v e (nb s q) (itm s q).2).length + 2 = nb s (q + 1) := by
  rw [tpay_len h.2.1 (pay_len h).symm]; exact pay_len h
theorem step_keep {s t : List UInt8} {q : Nat} (h : At s q) (ht : t.length = s.length) (b v e : Nat) : (stepT b v e s t q).length = s.length ∧ ∀ p, q + nb s (q + 1) ≤ p → (stepT b v e s t q).drop p = t.drop p := by
  have hp := tpay_at h b v e
  have h3 := h.2.2
  refine ⟨?_, fun p hpq => ?_⟩
  · unfold stepT; simp only [List.length_append, List.length_take, List.length_drop]; omega
  · unfold stepT
    rw [← List.append_assoc, List.drop_append, List.drop_of_length_le (by simp only [List.length_append, List.length_take]; omega), List.nil_append, List.drop_drop]
    congr 1
    simp only [List.length_append, List.length_take]; omega
theorem fold_keep {s : List UInt8} (b v e : Nat) : ∀ (pl : List Nat) (t : List UInt8), t.length = s.length → (∀ q ∈ pl, At s q) → (pl.foldl (stepT b v e s) t).length = s.length ∧ ∀ p, (∀ q ∈ pl, q + nb s (q + 1) ≤ p) → (pl.foldl (stepT b v e s) t).drop p = t.drop p
  | [], t, ht, _ => ⟨ht, fun _ _ => rfl⟩
  | q :: r, t, ht, h => by
    have h1 := step_keep (h q (by simp)) ht b v e
    have ih := fold_keep b v e r (stepT b v e s t q) h1.1 (fun x hx => h x (by simp [hx]))
    refine ⟨ih.1, fun p hp => ?_⟩
    rw [List.foldl_cons, ih.2 p (fun x hx => hp x (by simp [hx])), h1.2 p (hp q (by simp))]
theorem tw_len {s : List UInt8} {pl : List Nat} (h : ∀ q ∈ pl, At s q) (b v e : Nat) : (tw b v e s pl).length = s.length := (fold_keep b v e pl s rfl h).1
theorem tw_drop {s : List UInt8} {pl : List Nat} (h : ∀ q ∈ pl, At s q) (b v e p : Nat) (hp : ∀ q ∈ pl, q + nb s (q + 1) ≤ p) : (tw b v e s pl).drop p = s.drop p := (fold_keep b v e pl s rfl h).2 p hp
theorem tw_snoc (b v e : Nat) (s : List UInt8) (pl : List Nat) (p : Nat) : tw b v e s (pl ++ [p]) = stepT b v e s (tw b v e s pl) p := by unfold tw; rw [List.foldl_append]; rfl
structure Good (s : List UInt8) (pl : List Nat) : Prop where
  par : parse s = some (pl.map (itm s))
  cl : (pl.map (itm s)).Pairwise Clash
  all : ∀ q ∈ pl, At s q
  srt : pl.Pairwise fun a b => a + nb s (a + 1) ≤ b
  twg : ∀ b v e, turnL b v e s = tw b v e s pl
structure Run (s : List UInt8) (pl : List Nat) (p : Nat) : Prop where
  par : parse s = (parse (s.drop p)).map fun r => pl.map (itm s) ++ r
  cl : (pl.map (itm s)).Pairwise Clash
  all : ∀ q ∈ pl, At s q ∧ q + nb s (q + 1) ≤ p
  srt : pl.Pairwise fun a b => a + nb s (a + 1) ≤ b
  twr : ∀ b v e, turnL b v e s = (tw b v e s pl).take p ++ turnL b v e (s.drop p)
theorem drop_nb {s : List UInt8} {p : Nat} (h : p < s.length) : s.drop p = (s.getD p 0) :: s.drop (p + 1) := by
  rw [List.drop_eq_getElem_cons h]
  simp [List.getD, h]
section
variable {s : List UInt8} {pl : List Nat} {p : Nat}
theorem Run.start (s : List UInt8) : Run s [] 0 := ⟨by rw [List.drop_zero]; cases parse s <;> rfl, List.Pairwise.nil, fun _ h => (by cases h), List.Pairwise.nil, fun b v e => by rw [List.take_zero, List.drop_zero]; rfl⟩
theorem Run.pad (h : Run s pl p) (hp : p < s.length) (h1 : nb s p = 1) : Run s pl (p + 1) :=
  ⟨by rw [h.par, drop_nb hp, parse_1 _ _ h1], h.cl, fun q hq => ⟨(h.all q hq).1, by have := (h.all q hq).2; omega⟩, h.srt, fun b v e => by
    have hd := tw_drop (fun q hq => (h.all q hq).1) b v e p (fun q hq => (h.all q hq).2)
    rw [h.twr b v e, List.take_add, hd, drop_nb hp, turn_1 _ _ h1, List.append_assoc]; rfl⟩
theorem Run.stop (h : Run s pl p) (hp : p < s.length) (h1 : nb s p = 0) : Good s pl :=
  ⟨by rw [h.par, drop_nb hp, parse_0 _ _ h1]; simp, h.cl, fun q hq => (h.all q hq).1, h.srt, fun b v e => by
    have hd := tw_drop (fun q hq => (h.all q hq).1) b v e p (fun q hq => (h.all q hq).2)
    rw [h.twr b v e, drop_nb hp, turn_0 _ _ h1, ← drop_nb hp, ← hd, List.take_append_drop]⟩
theorem Run.fin (h : Run s pl p) (hp : s.length ≤ p) : Good s pl :=
  ⟨by rw [h.par, List.drop_of_length_le hp, parse_nil]; simp, h.cl, fun q hq => (h.all q hq).1, h.srt, fun b v e => by
    have hl := tw_len (fun q hq => (h.all q hq).1) b v e
    rw [h.twr b v e, List.drop_of_length_le hp, turn_nil, List.append_nil, List.take_of_length_le (by omega)]⟩
theorem parse_at (h : At s p) : parse (s.drop p) = (parse (s.drop (p + nb s (p + 1)))).map fun r => itm s p :: r := by
  obtain ⟨h1, h2, h3⟩ := h
  have h22 := lenOk_two h2
  rw [drop_nb (by omega : p < s.length), drop_nb (by omega : p + 1 < s.length)]
  rw [parse_yes _ _ _ (show nb s p ≠ 0 by omega) (show nb s p ≠ 1 by omega) h2 (by rw [List.length_drop]; show nb s (p + 1) ≤ _; omega)]
  rw [List.drop_drop]
  show (parse (s.drop (p + 1 + 1 + (nb s (p + 1) - 2)))).map _ = _
  rw [show p + 1 + 1 + (nb s (p + 1) - 2) = p + nb s (p + 1) by omega]
  rfl
theorem Run.next (h : Run s pl p) (ha : At s p) (hc : ∀ q ∈ pl, known (nb s p) = true → nb s q ≠ nb s p) : Run s (pl ++ [p]) (p + nb s (p + 1)) := by
  refine ⟨?_, ?_, ?_, ?_, ?_⟩
  · rw [h.par, parse_at ha]
    cases parse (s.drop (p + nb s (p + 1))) with
    | none => rfl
    | some r => simp
  · rw [List.map_append, List.pairwise_append]
    refine ⟨h.cl, by simp, ?_⟩
    intro x hx y hy
    obtain ⟨q, hq, rfl⟩ := List.mem_map.1 hx
    simp at hy; subst hy
    intro hk he
    exact hc q hq (by rw [show nb s p = nb s q from he.symm]; exact hk) he
  · intro q hq
    rcases List.mem_append.1 hq with hq | hq
    · exact ⟨(h.all q hq).1, by have := (h.all q hq).2; omega⟩
    · simp at hq; subst hq; exact ⟨ha, Nat.le_refl _⟩
  · rw [List.pairwise_append]
    refine ⟨h.srt, by simp, ?_⟩
    intro a hq b hb
    simp at hb; subst hb
    exact (h.all a hq).2
  · intro b v e
    have hd := tw_drop (fun q hq => (h.all q hq).1) b v e p (fun q hq => (h.all q hq).2)
    have hl := tw_len (fun q hq => (h.all q hq).1) b v e
    have hp2 := pay_len ha
    have htp := tpay_at ha b v e
    have h3 := ha.2.2
    have h22 := lenOk_two ha.2.1
    have hs : s.drop p = s.getD p 0 :: s.getD (p + 1) 0 :: ((itm s p).2 ++ s.drop (p + nb s (p + 1))) := by
      rw [drop_nb (by omega : p < s.length), drop_nb (by omega : p + 1 < s.length)]
      show _ = _ :: _ :: ((s.drop (p + 2)).take (nb s (p + 1) - 2) ++ s.drop (p + nb s (p + 1)))
      have hdd : s.drop (p + nb s (p + 1)) = (s.drop (p + 2)).drop (nb s (p + 1) - 2) := by rw [List.drop_drop]; congr 1; omega
      rw [hdd, List.take_append_drop]
    have ht : turnL b v e (s.drop p) = s.getD p 0 :: s.getD (p + 1) 0 :: (tpay b v e (nb s p) (itm s p).2 ++ turnL b v e (s.drop (p + nb s (p + 1)))) := by
      rw [hs]; exact turn_item _ _ _ _ ha.1 hp2.symm
    rw [h.twr b v e, ht, tw_snoc]
    unfold stepT
    have e1 : (tw b v e s pl).take (p + 2) = (tw b v e s pl).take p ++ [s.getD p 0, s.getD (p + 1) 0] := by
      rw [List.take_add, hd, hs]; rfl
    rw [e1]
    have e2 : ((tw b v e s pl).take p ++ [s.getD p 0, s.getD (p + 1) 0] ++ tpay b v e (nb s p) (itm s p).2).length = p + nb s (p + 1) := by
      simp only [List.length_append, List.length_take, List.length_cons, List.length_nil]; omega
    rw [← List.append_assoc (_ ++ _) (tpay b v e (nb s p) (itm s p).2), List.take_left' e2]
    simp only [List.append_assoc, List.cons_append, List.nil_append]
theorem Run.bad1 (h : Run s pl p) (hp : p < s.length) (h2 : 2 ≤ nb s p) (hl : s.length ≤ p + 1) : dec s = none := by
  apply dec_none
  rw [h.par, drop_nb hp, List.drop_of_length_le hl, parse_one _ (show nb s p ≠ 0 by omega) (show nb s p ≠ 1 by omega)]; rfl
theorem Run.bad2 (h : Run s pl p) (hp : p + 1 < s.length) (h2 : 2 ≤ nb s p) (hl : ¬ (lenOk (nb s p) (nb s (p + 1)) = true ∧ p + nb s (p + 1) ≤ s.length)) : dec s = none := by
  apply dec_none
  rw [h.par, drop_nb (by omega : p < s.length), drop_nb hp, parse_no _ _ _ (show nb s p ≠ 0 by omega) (show nb s p ≠ 1 by omega) ?_]
  · rfl
  · rintro ⟨h3, h4⟩
    refine hl ⟨h3, ?_⟩
    rw [List.length_drop] at h4
    have : nb s (p + 1) ≤ s.length - (p + 1 + 1) + 2 := h4
    omega
theorem Run.bad3 (h : Run s pl p) (ha : At s p) {q : Nat} (hq : q ∈ pl) (hk : known (nb s p) = true) (he : nb s q = nb s p) : dec s = none := by
  have e := h.par
  rw [parse_at ha] at e
  cases hr : parse (s.drop (p + nb s (p + 1))) with
  | none => rw [hr] at e; exact dec_none e
  | some r =>
    rw [hr] at e
    simp only [Option.map_some] at e
    refine dec_bad e ?_
    rintro ⟨hf, _⟩
    rw [List.pairwise_append] at hf
    exact hf.2.2 (itm s q) (List.mem_map.2 ⟨q, hq, rfl⟩) (itm s p) (by simp) (show known (nb s q) = true by rw [he]; exact hk) he
def NoZ (x : Item) : Prop := ¬ (x.1 = 2 ∧ wd x.2 0 = 0)
def nzb (K : Nat) (X : List UInt8) : Bool := if K = 2 then !decide (wd X 0 = 0) else true
theorem nzb_x {K : Nat} {X : List UInt8} (h : K ≠ 2) : nzb K X = true := if_neg h
theorem nzb_t {x : Item} (h : nzb x.1 x.2 = true) : NoZ x := by
  rintro ⟨h1, h2⟩
  unfold nzb at h
  rw [if_pos h1] at h
  simp at h
  exact h h2
theorem Good.dec (h : Good s pl) (hz : ∀ q ∈ pl, NoZ (itm s q)) : dec s = some ((pl.map (itm s)).foldl put none_) := by
  refine dec_some h.par ⟨h.cl, ?_⟩
  intro x hx
  obtain ⟨q, hq, rfl⟩ := List.mem_map.1 hx
  exact hz q hq
theorem Good.bad (h : Good s pl) {q : Nat} (hq : q ∈ pl) (hz : ¬ NoZ (itm s q)) : om.dec s = none :=
  dec_bad h.par fun hf => hz (hf.2 (itm s q) (List.mem_map.2 ⟨q, hq, rfl⟩))
end
end Go.Proofs.Ytafckmbgefbonaa.om

namespace Go.Proofs.Ytafckmbgefbonaa.om
open Go.Proofs.Ytafckmbgefbonaa.sm Go.Proofs.Ytafckmbgefbonaa.nb
set_option linter.unusedVariables false

section
variable {b v e p : Nat} {s t : List UInt8}
theorem split_at (hA : At s p) (hd : t.drop p = s.drop p) : t = t.take (p + 2) ++ ((itm s p).2 ++ t.drop (p + nb s (p + 1))) := by
  have h2 := lenOk_two hA.2.1
  have h3 := hA.2.2
  have e1 : t.drop (p + 2) = s.drop (p + 2) := by rw [← List.drop_drop, hd, List.drop_drop]
  have e2 : t.drop (p + nb s (p + 1)) = (t.drop (p + 2)).drop (nb s (p + 1) - 2) := by rw [List.drop_drop]; congr 1; omega
  have e3 : (itm s p).2 = (t.drop (p + 2)).take (nb s (p + 1) - 2) := by rw [e1]; rfl
  rw [e2, e3, List.take_append_drop, List.take_append_drop]
def mid (b : Nat) (s t : List UInt8) (p i : Nat) : List UInt8 := t.take (p + 2) ++ (wt b (itm s p).2 i ++ t.drop (p + nb s (p + 1)))
theorem take2_len (hA : At s p) (hl : t.length = s.length) : (t.take (p + 2)).length = p + 2 := by
  have := hA.2.2
  have := lenOk_two hA.2.1
  rw [List.length_take]; omega
theorem mid_0 (hA : At s p) (hd : t.drop p = s.drop p) : mid b s t p 0 = t := (split_at hA hd).symm
theorem mid_next (hA : At s p) (hl : t.length = s.length) (i : Nat) (hi : 4 * i + 4 + 2 ≤ nb s (p + 1)) : addAt (mid b s t p i) (p + 2 + 4 * i) b = mid b s t p (i + 1) := by
  have hp := pay_len hA
  have e := addAt_left (t.take (p + 2)) (wt b (itm s p).2 i ++ t.drop (p + nb s (p + 1))) (4 * i) b
  rw [take2_len hA hl, addAt_right (wt b (itm s p).2 i) (t.drop (p + nb s (p + 1))) (4 * i) b (by rw [wt_len _ _ _ (by omega)]; omega)] at e
  exact e
theorem step_5 (hA : At s p) (h5 : nb s p = 5) (q : Nat) (hq : nb s (p + 1) = 8 * q + 2) : mid b s t p (2 * q) = stepT b v e s t p := by
  unfold mid stepT
  rw [h5, tpay_5 b v e q _ (by have := pay_len hA; omega)]
theorem step_8 (hA : At s p) (hl : t.length = s.length) (hd : t.drop p = s.drop p) (h8 : nb s p = 8) : addAt (addAt t (p + 2) v) (p + 6) e = stepT b v e s t p := by
  have hp := pay_len hA
  have hN : nb s (p + 1) = 10 := by have := hA.2.1; rw [h8] at this; exact len8 this
  have h2 := take2_len hA hl
  have e0 := split_at hA hd
  have e1 := addAt_left (t.take (p + 2)) ((itm s p).2 ++ t.drop (p + nb s (p + 1))) 0 v
  rw [← e0, h2, Nat.add_zero, addAt_right _ _ _ _ (by omega)] at e1
  rw [e1]
  have e2 := addAt_left (t.take (p + 2)) (addAt (itm s p).2 0 v ++ t.drop (p + nb s (p + 1))) 4 e
  rw [h2, addAt_right (addAt (itm s p).2 0 v) (t.drop (p + nb s (p + 1))) 4 e (by rw [addAt_len _ _ _ (by omega)]; omega), show p + 2 + 4 = p + 6 by omega] at e2
  rw [e2]
  unfold stepT
  rw [h8, tpay_8 b v e _ (by omega)]
theorem step_x (hA : At s p) (hd : t.drop p = s.drop p) (h5 : nb s p ≠ 5) (h8 : nb s p ≠ 8) : stepT b v e s t p = t := by
  unfold stepT
  rw [tpay_x b v e _ _ h5 h8, ← split_at hA hd]
end
theorem Good.before {s : List UInt8} {pl : List Nat} (h : Good s pl) (b v e : Nat) {j p : Nat} (hp : pl[j]? = some p) : (tw b v e s (pl.take j)).length = s.length ∧ (tw b v e s (pl.take j)).drop p = s.drop p ∧ tw b v e s (pl.take (j + 1)) = stepT b v e s (tw b v e s (pl.take j)) p := by
  obtain ⟨hj, he⟩ := List.getElem?_eq_some_iff.1 hp
  have hat : ∀ q ∈ pl.take j, At s q := fun q hq => h.all q (List.mem_of_mem_take hq)
  refine ⟨tw_len hat b v e, tw_drop hat b v e p fun q hq => ?_, ?_⟩
  · have hs := h.srt
    rw [(List.take_append_drop j pl).symm, List.pairwise_append] at hs
    exact hs.2.2 q hq p (by rw [List.drop_eq_getElem_cons hj, he]; simp)
  · rw [List.take_succ_eq_append_getElem hj, he, tw_snoc]
end Go.Proofs.Ytafckmbgefbonaa.om

namespace Go.Proofs.Ytafckmbgefbonaa.om
open Go.Proofs.Ytafckmbgefbonaa.sm Go.Proofs.Ytafckmbgefbonaa.nb
set_option linter.unusedVariables false

def osz (s : List UInt8) (p : Nat) : Nat := if p + 2 ≤ s.length ∧ nb s (p + 1) + p ≤ s.length then nb s (p + 1) else 0
def osay (s : List UInt8) (p : Nat) : List UInt8 := (s.drop (p + 2)).take (osz s p - 2)
theorem osz_le (s : List UInt8) (p : Nat) : osz s p ≤ 255 := by
  unfold osz; split
  · exact nb_le s _
  · exact Nat.zero_le _
theorem osz_in {s : List UInt8} {p : Nat} (h : 0 < osz s p) : p + 2 ≤ s.length ∧ osz s p + p ≤ s.length ∧ osz s p = nb s (p + 1) := by
  unfold osz at h ⊢; split at h
  · rename_i h1; rw [if_pos h1]; exact ⟨h1.1, h1.2, rfl⟩
  · omega
theorem osay_len (s : List UInt8) (p : Nat) : (osay s p).length = osz s p - 2 := by
  unfold osay
  rw [List.length_take, List.length_drop]
  by_cases h : 0 < osz s p
  · have := osz_in h; omega
  · omega
def fitb (s : List UInt8) (p : Nat) : Bool := lenOk (nb s p) (osz s p) && nzb (nb s p) (osay s p)
theorem fit_at {s : List UInt8} {p : Nat} (h : fitb s p = true) (h2 : 2 ≤ nb s p) : At s p ∧ osz s p = nb s (p + 1) ∧ osay s p = (itm s p).2 ∧ NoZ (itm s p) := by
  unfold fitb at h
  rw [Bool.and_eq_true] at h
  have h22 := lenOk_two h.1
  obtain ⟨h3, h4, h5⟩ := osz_in (s := s) (p := p) (by omega)
  have e : osay s p = (itm s p).2 := by unfold osay itm; rw [h5]
  refine ⟨⟨h2, by rw [← h5]; exact h.1, by omega⟩, h5, e, ?_⟩
  exact nzb_t (x := itm s p) (by rw [← e]; exact h.2)
theorem fit_of {s : List UInt8} {p : Nat} (h : At s p) (hz : NoZ (itm s p)) : fitb s p = true := by
  obtain ⟨h1, h2, h3⟩ := h
  have h22 := lenOk_two h2
  have e : osz s p = nb s (p + 1) := by unfold osz; rw [if_pos ⟨by omega, by omega⟩]
  have e2 : osay s p = (itm s p).2 := by unfold osay itm; rw [e]
  unfold fitb
  rw [e, h2, e2]
  unfold nzb
  split
  · rename_i hk
    have : ¬ wd (itm s p).2 0 = 0 := fun hw => hz ⟨hk, hw⟩
    simp [this]
  · rfl
section
variable {s : List UInt8} {pl : List Nat} {p : Nat}
theorem Run.bad4 (h : Run s pl p) (ha : At s p) (hz : ¬ NoZ (itm s p)) : om.dec s = none := by
  have e := h.par
  rw [parse_at ha] at e
  cases hr : parse (s.drop (p + nb s (p + 1))) with
  | none => rw [hr] at e; exact dec_none e
  | some r =>
    rw [hr] at e
    simp only [Option.map_some] at e
    refine dec_bad e ?_
    rintro ⟨_, hf⟩
    exact hz (hf (itm s p) (by simp))
theorem Run.badfit (h : Run s pl p) (hp : p < s.length) (h2 : 2 ≤ nb s p) (hf : fitb s p = false) : om.dec s = none := by
  by_cases hl : s.length ≤ p + 1
  · exact h.bad1 hp h2 hl
  by_cases ha : lenOk (nb s p) (nb s (p + 1)) = true ∧ p + nb s (p + 1) ≤ s.length
  · have hat : At s p := ⟨h2, ha.1, ha.2⟩
    refine h.bad4 hat fun hz => ?_
    rw [fit_of hat hz] at hf; cases hf
  · exact h.bad2 (by omega) h2 ha
end

inductive OSteps (s : List UInt8) : List Nat → Nat → Prop
  | nil : OSteps s [] 0
  | pad (pl : List Nat) (p : Nat) : OSteps s pl p → p < s.length → nb s p = 1 → OSteps s pl (p + 1)
  | next (pl : List Nat) (p : Nat) : OSteps s pl p → p < s.length → 2 ≤ nb s p → 2 ≤ osz s p → OSteps s (pl ++ [p]) (p + osz s p)
theorem OSteps.le {s : List UInt8} {pl : List Nat} {p : Nat} (h : OSteps s pl p) : pl.length ≤ p ∧ p ≤ s.length := by
  induction h with
  | nil => exact ⟨Nat.le_refl _, Nat.zero_le _⟩
  | pad pl p _ h1 _ ih => exact ⟨by omega, by omega⟩
  | next pl p _ h1 _ h3 ih =>
    have := osz_in (s := s) (p := p) (by omega)
    rw [List.length_append]
    exact ⟨by simp; omega, by omega⟩
def OTold (s : List UInt8) (pl : List Nat) : Prop :=
  (∃ p, OSteps s pl p ∧ (s.length ≤ p ∨ p < s.length ∧ nb s p = 0)) ∨ ∃ q p, pl = q ++ [p] ∧ OSteps s q p ∧ p < s.length ∧ 2 ≤ nb s p ∧ osz s p < 2
def OPart (s : List UInt8) (pl : List Nat) : Prop := ∃ q p, pl = q ++ [p] ∧ OSteps s q p ∧ p < s.length ∧ 2 ≤ nb s p
structure OkL (s : List UInt8) (pl : List Nat) : Prop where
  fit : ∀ q ∈ pl, 2 ≤ nb s q ∧ fitb s q = true
  cl : (pl.map (itm s)).Pairwise Clash
theorem OkL.nil_ (s : List UInt8) : OkL s [] := ⟨fun _ h => (by cases h), List.Pairwise.nil⟩
theorem OkL.init {s : List UInt8} {pl : List Nat} {p : Nat} (h : OkL s (pl ++ [p])) : OkL s pl :=
  ⟨fun q hq => h.fit q (by simp [hq]), by have := h.cl; rw [List.map_append, List.pairwise_append] at this; exact this.1⟩
theorem OkL.last {s : List UInt8} {pl : List Nat} {p : Nat} (h : OkL s (pl ++ [p])) : ∀ q ∈ pl, known (nb s p) = true → nb s q ≠ nb s p := by
  intro q hq hk he
  have := h.cl
  rw [List.map_append, List.pairwise_append] at this
  exact this.2.2 (itm s q) (List.mem_map.2 ⟨q, hq, rfl⟩) (itm s p) (by simp) (show known (nb s q) = true by rw [he]; exact hk) he
theorem OkL.snoc {s : List UInt8} {pl : List Nat} {p : Nat} (h : OkL s pl) (h2 : 2 ≤ nb s p) (hf : fitb s p = true) (hc : ∀ q ∈ pl, known (nb s p) = true → nb s q ≠ nb s p) : OkL s (pl ++ [p]) := by
  refine ⟨?_, ?_⟩
  · intro q hq
    rcases List.mem_append.1 hq with hq | hq
    · exact h.fit q hq
    · simp at hq; subst hq; exact ⟨h2, hf⟩
  · rw [List.map_append, List.pairwise_append]
    refine ⟨h.cl, by simp, ?_⟩
    intro x hx y hy
    obtain ⟨q, hq, rfl⟩ := List.mem_map.1 hx
    simp at hy; subst hy
    intro hk he
    exact hc q hq (by rw [show nb s p = nb s q from he.symm]; exact hk) he
theorem run_of {s : List UInt8} {pl : List Nat} {p : Nat} (h : OSteps s pl p) (ho : OkL s pl) : Run s pl p := by
  induction h with
  | nil => exact Run.start s
  | pad pl p _ h1 h2 ih => exact (ih ho).pad h1 h2
  | next pl p _ h1 h2 h3 ih =>
    obtain ⟨_, hf⟩ := ho.fit p (by simp)
    obtain ⟨ha, he, _, _⟩ := fit_at hf h2
    rw [he]
    exact (ih ho.init).next ha ho.last
theorem good_of {s : List UInt8} {pl : List Nat} (h : OTold s pl) (ho : OkL s pl) : Good s pl := by
  rcases h with ⟨p, h, hp⟩ | ⟨q, p, rfl, h, hp, h2, h3⟩
  · have hr := run_of h ho
    rcases hp with hp | ⟨hp, h0⟩
    · exact hr.fin hp
    · exact hr.stop hp h0
  · exfalso
    obtain ⟨_, hf⟩ := ho.fit p (by simp)
    unfold fitb at hf
    rw [Bool.and_eq_true] at hf
    have := lenOk_two hf.1
    omega
def fo (s : List UInt8) (pl : List Nat) : Opz := (pl.map (itm s)).foldl put none_
theorem fo_snoc (s : List UInt8) (pl : List Nat) (p : Nat) : fo s (pl ++ [p]) = put (fo s pl) (itm s p) := by unfold fo; rw [List.map_append, List.foldl_append]; rfl
theorem dec_told {s : List UInt8} {pl : List Nat} (h : OTold s pl) (ho : OkL s pl) : om.dec s = some (fo s pl) :=
  (good_of h ho).dec fun q hq => (fit_at (ho.fit q hq).2 (ho.fit q hq).1).2.2.2
def amg (o : Opz) (k : Nat) : Bool :=
  if k = 2 then decide (o.mss ≠ 0) else if k = 3 then decide (o.sc ≠ -1) else if k = 4 then o.sk else if k = 5 then decide (o.bl ≠ []) else if k = 8 then o.tm else false
theorem blocks_ne {p : List UInt8} (h : 8 ≤ p.length) : blocks p ≠ [] := by
  intro e
  have := blocks_len p
  rw [e] at this
  simp at this; omega
theorem amg_put {s : List UInt8} {p : Nat} (hf : fitb s p = true) (h2 : 2 ≤ nb s p) (o : Opz) (k : Nat) : amg (put o (itm s p)) k = (amg o k || (known k && nb s p == k)) := by
  obtain ⟨ha, he, hsay, hz⟩ := fit_at hf h2
  have hl := pay_len ha
  have hn := ha.2.1
  obtain ⟨K, hK⟩ : ∃ K, nb s p = K := ⟨_, rfl⟩
  have e1 : (itm s p).1 = K := hK
  unfold put
  rw [e1]
  rw [hK] at hn h2 ⊢
  by_cases k2 : K = 2
  · subst k2
    have hw : (wd (itm s p).2 0).toNat ≠ 0 := by
      have h1 := wd_bd (itm s p).2 0
      have : ¬ wd (itm s p).2 0 = 0 := fun hw => hz ⟨hK, hw⟩
      omega
    by_cases c : k = 2
    · subst c; simp [amg, hw, known]
    · have : ¬ (2 = k) := fun h => c h.symm
      simp [amg, c, this]
  by_cases k3 : K = 3
  · subst k3
    have hb := bt_bd (itm s p).2 0
    have hw : ¬ (min (bt (itm s p).2 0) 14 = -1) := by omega
    by_cases c : k = 3
    · subst c; simp [amg, hw, known]
    · have : ¬ (3 = k) := fun h => c h.symm
      simp [amg, c, this]
  by_cases k4 : K = 4
  · subst k4
    by_cases c : k = 4
    · subst c; simp [amg, known]
    · have : ¬ (4 = k) := fun h => c h.symm
      simp [amg, c, this]
  by_cases k5 : K = 5
  · subst k5
    have hne := blocks_ne (p := (itm s p).2) (by have := len5 hn; omega)
    by_cases c : k = 5
    · subst c; simp [amg, known, hne]
    · have : ¬ (5 = k) := fun h => c h.symm
      simp [amg, c, this]
  by_cases k8 : K = 8
  · subst k8
    by_cases c : k = 8
    · subst c; simp [amg, known]
    · have : ¬ (8 = k) := fun h => c h.symm
      simp [amg, c, this]
  simp only [if_neg k2, if_neg k3, if_neg k4, if_neg k5, if_neg k8]
  by_cases c : K = k
  · subst c
    have : known K = false := by simp [known, k8]; omega
    simp [this]
  · simp [c]
theorem amg_fo {s : List UInt8} : ∀ (pl : List Nat), (∀ q ∈ pl, 2 ≤ nb s q ∧ fitb s q = true) → ∀ (o : Opz) (k : Nat), amg ((pl.map (itm s)).foldl put o) k = (amg o k || (known k && pl.any fun q => nb s q == k))
  | [], _, o, k => by simp
  | q :: t, h, o, k => by
    rw [List.map_cons, List.foldl_cons, amg_fo t (fun x hx => h x (by simp [hx]))]
    rw [amg_put (h q (by simp)).2 (h q (by simp)).1, List.any_cons]
    cases amg o k <;> cases known k <;> simp
theorem amg_none (k : Nat) : amg none_ k = false := by
  unfold amg none_; simp
theorem amg_f {s : List UInt8} {pl : List Nat} (h : OkL s pl) {k : Nat} (ha : amg (fo s pl) k = false) : ∀ q ∈ pl, known k = true → nb s q ≠ k := by
  intro q hq hk he
  unfold fo at ha
  rw [amg_fo pl h.fit, amg_none, Bool.false_or, hk, Bool.true_and, List.any_eq_false] at ha
  exact ha q hq (by simp [he])
theorem amg_t {s : List UInt8} {pl : List Nat} (h : OkL s pl) {k : Nat} (ha : amg (fo s pl) k = true) : known k = true ∧ ∃ q ∈ pl, nb s q = k := by
  unfold fo at ha
  rw [amg_fo pl h.fit, amg_none, Bool.false_or, Bool.and_eq_true, List.any_eq_true] at ha
  obtain ⟨hk, q, hq, he⟩ := ha
  exact ⟨hk, q, hq, by simpa using he⟩
theorem dec_part {s : List UInt8} {pl : List Nat} {p : Nat} (h : OPart s (pl ++ [p])) (ho : OkL s pl) (hb : fitb s p = false ∨ amg (fo s pl) (nb s p) = true) : om.dec s = none := by
  obtain ⟨q, p', e, hs, hp, h2⟩ := h
  obtain ⟨rfl, rfl⟩ : pl = q ∧ p = p' := by
    have := List.append_inj' e rfl
    exact ⟨this.1, by simpa using this.2⟩
  have hr := run_of hs ho
  by_cases hf : fitb s p = false
  · exact hr.badfit hp h2 hf
  · rcases hb with hb | hb
    · exact absurd hb hf
    · obtain ⟨ha, _, _, _⟩ := fit_at (by simpa using hf) h2
      obtain ⟨hk, q', hq', he⟩ := amg_t ho hb
      exact hr.bad3 ha hq' hk he
end Go.Proofs.Ytafckmbgefbonaa.om

namespace Go.Proofs.Ytafckmbgefbonaa.om
open Go.Proofs.Ytafckmbgefbonaa.sm Go.Proofs.Ytafckmbgefbonaa.nb
set_option linter.unusedVariables false

def addN (b : Nat) (t : List UInt8) (k : Nat) : Nat → List UInt8
  | 0 => t
  | n + 1 => addAt (addN b t k n) (k + 4 * n) b
def opT (b v e : Nat) (s t : List UInt8) (p : Nat) : List UInt8 :=
  if nb s p = 5 then addN b t (p + 2) ((osz s p - 2) / 4) else if nb s p = 8 then addAt (addAt t (p + 2) v) (p + 6) e else t
def tT (b v e : Nat) (s : List UInt8) (pl : List Nat) : List UInt8 := pl.foldl (opT b v e s) s
theorem tT_snoc (b v e : Nat) (s : List UInt8) (pl : List Nat) (p : Nat) : tT b v e s (pl ++ [p]) = opT b v e s (tT b v e s pl) p := by unfold tT; rw [List.foldl_append]; rfl
theorem addN_len (b : Nat) (t : List UInt8) (k : Nat) : ∀ n, k + 4 * n ≤ t.length → (addN b t k n).length = t.length
  | 0, _ => rfl
  | n + 1, h => by
    have ih := addN_len b t k n (by omega)
    show (addAt _ _ _).length = _
    rw [addAt_len _ _ _ (by rw [ih]; omega), ih]
theorem fit_5 {s : List UInt8} {p : Nat} (hf : fitb s p = true) (h2 : 2 ≤ nb s p) (h5 : nb s p = 5) : ∃ m, osz s p = 4 * m + 2 ∧ p + 2 + 4 * m ≤ s.length ∧ m % 2 = 0 ∧ m ≤ 8 := by
  obtain ⟨ha, he, _, _⟩ := fit_at hf h2
  have hn := ha.2.1
  rw [h5] at hn
  have := len5 hn
  have := ha.2.2
  exact ⟨(osz s p - 2) / 4, by omega, by omega, by omega, by omega⟩
theorem fit_8 {s : List UInt8} {p : Nat} (hf : fitb s p = true) (h2 : 2 ≤ nb s p) (h8 : nb s p = 8) : p + 10 ≤ s.length := by
  obtain ⟨ha, he, _, _⟩ := fit_at hf h2
  have hn := ha.2.1
  rw [h8] at hn
  have := len8 hn
  have := ha.2.2
  omega
theorem opT_len {s t : List UInt8} {p : Nat} (hf : fitb s p = true) (h2 : 2 ≤ nb s p) (ht : t.length = s.length) (b v e : Nat) : (opT b v e s t p).length = s.length := by
  unfold opT
  split
  · rename_i h5
    obtain ⟨m, h1, h3, _⟩ := fit_5 hf h2 h5
    rw [addN_len _ _ _ _ (by omega), ht]
  · split
    · rename_i h8
      have := fit_8 hf h2 h8
      rw [addAt_len _ _ _ (by rw [addAt_len _ _ _ (by omega)]; omega), addAt_len _ _ _ (by omega), ht]
    · exact ht
theorem mid_addN {b : Nat} {s t : List UInt8} {p : Nat} (hA : At s p) (hl : t.length = s.length) (hd : t.drop p = s.drop p) : ∀ i, 4 * i + 2 ≤ nb s (p + 1) → mid b s t p i = addN b t (p + 2) i
  | 0, _ => mid_0 hA hd
  | i + 1, h => by
    have ih := mid_addN (b := b) hA hl hd i (by omega)
    rw [← mid_next hA hl i (by omega), ih]
    rfl
theorem opT_step {s t : List UInt8} {p : Nat} (hf : fitb s p = true) (h2 : 2 ≤ nb s p) (hl : t.length = s.length) (hd : t.drop p = s.drop p) (b v e : Nat) : opT b v e s t p = stepT b v e s t p := by
  obtain ⟨ha, he, _, _⟩ := fit_at hf h2
  unfold opT
  split
  · rename_i h5
    obtain ⟨m, h1, h3, h4, _⟩ := fit_5 hf h2 h5
    have e1 := mid_addN (b := b) ha hl hd m (by omega)
    rw [show (osz s p - 2) / 4 = m by omega, ← e1, show m = 2 * (m / 2) by omega]
    exact step_5 ha h5 (m / 2) (by omega)
  · rename_i h5
    split
    · rename_i h8
      exact step_8 ha hl hd h8
    · rename_i h8
      exact (step_x ha hd h5 h8).symm
theorem tT_good {s : List UInt8} {pl : List Nat} (h : Good s pl) (hf : ∀ q ∈ pl, 2 ≤ nb s q ∧ fitb s q = true) (b v e : Nat) : tT b v e s pl = turnL b v e s := by
  rw [h.twg b v e]
  have key : ∀ j, j ≤ pl.length → tT b v e s (pl.take j) = tw b v e s (pl.take j) := by
    intro j
    induction j with
    | zero => intro _; rfl
    | succ j ih =>
      intro hj
      have hp : pl[j]? = some (pl[j]'(by omega)) := List.getElem?_eq_getElem (by omega)
      obtain ⟨h1, h2, h3⟩ := h.before b v e hp
      have hm := hf (pl[j]'(by omega)) (List.getElem_mem _)
      rw [h3, List.take_succ_eq_append_getElem (by omega), tT_snoc, ih (by omega)]
      exact opT_step hm.2 hm.1 h1 h2 b v e
  have := key pl.length (Nat.le_refl _)
  rwa [List.take_length] at this
theorem ok_of {s : List UInt8} (hd : om.dec s ≠ none) {pl : List Nat} {p : Nat} (h : OSteps s pl p) : OkL s pl := by
  induction h with
  | nil => exact OkL.nil_ s
  | pad pl p _ _ _ ih => exact ih
  | next pl p h1 h2 h3 h4 ih =>
    have hr := run_of h1 ih
    have hf : fitb s p = true := by
      by_cases hf : fitb s p = true
      · exact hf
      · exact absurd (hr.badfit h2 h3 (by simpa using hf)) hd
    obtain ⟨ha, _, _, _⟩ := fit_at hf h3
    refine ih.snoc h3 hf fun q hq hk he => ?_
    exact hd (hr.bad3 ha hq hk he)
theorem fit_of_dec {s : List UInt8} (hd : om.dec s ≠ none) {pl : List Nat} {p : Nat} (h : OSteps s pl p) (hp : p < s.length) (h2 : 2 ≤ nb s p) : fitb s p = true := by
  have hr := run_of h (ok_of hd h)
  by_cases hf : fitb s p = true
  · exact hf
  · exact absurd (hr.badfit hp h2 (by simpa using hf)) hd
theorem told_turn {s : List UInt8} (hd : om.dec s ≠ none) {pl : List Nat} (h : OTold s pl) (b v e : Nat) : tT b v e s pl = turnL b v e s := by
  have ho : OkL s pl := by
    rcases h with ⟨p, h, _⟩ | ⟨q, p, rfl, h, hp, h2, h3⟩
    · exact ok_of hd h
    · exfalso
      have hf := fit_of_dec hd h hp h2
      unfold fitb at hf
      rw [Bool.and_eq_true] at hf
      have := lenOk_two hf.1
      omega
  exact tT_good (good_of h ho) ho.fit b v e
end Go.Proofs.Ytafckmbgefbonaa.om

namespace Go.Proofs.Ytafckmbgefbonaa.pm
open Go.Proofs.Ytafckmbgefbonaa.sm Go.Proofs.Ytafckmbgefbonaa.nb
set_option linter.unusedVariables false

theorem cut {l A B C : List UInt8} {a b : Nat} (h : l = A ++ (B ++ C)) (ha : A.length = a) (hb : B.length = b) : l.take a = A ∧ l.drop a = B ++ C ∧ (l.drop a).take b = B := by
  subst h
  rw [List.take_left' ha, List.drop_left' ha]
  exact ⟨rfl, rfl, List.take_left' hb⟩
section
variable {P F U O D : List UInt8} {c1 c2 : Nat} {s : Sg}
theorem fms_cut (hP : P.length = 10) (hF : F.length = 2) (hU : U.length = 2) :
    let l := fms P c1 s F c2 U O D
    l.take 10 = P ∧ l.take 12 = P ++ B16 c1 ∧ (l.drop 12).take 8 = B32 s.sa ++ B32 s.da ∧ (l.drop 12).take 20 = B32 s.sa ++ (B32 s.da ++ (B16 s.sp ++ (B16 s.dp ++ (B32 s.sq ++ B32 s.ak))))
      ∧ (l.drop 32).take 2 = F ∧ (l.drop 34).take 2 = B16 s.wi ∧ (l.drop 36).take 4 = B16 c2 ++ U ∧ (l.drop 40).take O.length = O ∧ l.drop (40 + O.length) = D
      ∧ (l.drop 12).take 24 = B32 s.sa ++ (B32 s.da ++ (B16 s.sp ++ (B16 s.dp ++ (B32 s.sq ++ (B32 s.ak ++ (F ++ B16 s.wi)))))) ∧ l.drop 38 = U ++ (O ++ D) ∧ wd l 10 = wd (B16 c1) 0 ∧ wd l 36 = wd (B16 c2) 0 := by
  intro l
  have k1 := cut (l := l) (A := P) (B := B16 c1) (C := B32 s.sa ++ (B32 s.da ++ sgs s F c2 U O D)) rfl hP rfl
  have k2 := cut (l := l) (A := P ++ B16 c1) (B := B32 s.sa ++ B32 s.da) (C := sgs s F c2 U O D) (by simp only [l, fms, fm, sgs, List.append_assoc]) (show _ = 12 by rw [List.length_append, hP]; rfl) rfl
  have k3 := cut (l := l) (A := P ++ B16 c1) (B := B32 s.sa ++ (B32 s.da ++ (B16 s.sp ++ (B16 s.dp ++ (B32 s.sq ++ B32 s.ak))))) (C := F ++ (B16 s.wi ++ (B16 c2 ++ (U ++ (O ++ D))))) (by simp only [l, fms, fm, sg, List.append_assoc]) (show _ = 12 by rw [List.length_append, hP]; rfl) rfl
  have k4 := cut (l := l) (A := P ++ B16 c1) (B := B32 s.sa ++ (B32 s.da ++ (B16 s.sp ++ (B16 s.dp ++ (B32 s.sq ++ (B32 s.ak ++ (F ++ B16 s.wi))))))) (C := B16 c2 ++ (U ++ (O ++ D))) (by simp only [l, fms, fm, sg, List.append_assoc]) (show _ = 12 by rw [List.length_append, hP]; rfl) (show _ = 24 by simp [B16, B32, hF])
  have k5 := cut (l := l) (A := P ++ (B16 c1 ++ (B32 s.sa ++ (B32 s.da ++ (B16 s.sp ++ (B16 s.dp ++ (B32 s.sq ++ B32 s.ak))))))) (B := F) (C := B16 s.wi ++ (B16 c2 ++ (U ++ (O ++ D)))) (by simp only [l, fms, fm, sg, List.append_assoc]) (show _ = 32 by rw [List.length_append, hP]; rfl) hF
  have k6 := cut (l := l) (A := P ++ (B16 c1 ++ (B32 s.sa ++ (B32 s.da ++ (B16 s.sp ++ (B16 s.dp ++ (B32 s.sq ++ (B32 s.ak ++ F)))))))) (B := B16 s.wi) (C := B16 c2 ++ (U ++ (O ++ D))) (by simp only [l, fms, fm, sg, List.append_assoc]) (show _ = 34 by simp [B16, B32, hF, hP]) rfl
  have k7 := cut (l := l) (A := P ++ (B16 c1 ++ (B32 s.sa ++ (B32 s.da ++ (B16 s.sp ++ (B16 s.dp ++ (B32 s.sq ++ (B32 s.ak ++ (F ++ B16 s.wi))))))))) (B := B16 c2 ++ U) (C := O ++ D) (by simp only [l, fms, fm, sg, List.append_assoc]) (show _ = 36 by simp [B16, B32, hF, hP]) (show _ = 4 by rw [List.length_append, hU]; rfl)
  have k8 := cut (l := l) (A := P ++ (B16 c1 ++ (B32 s.sa ++ (B32 s.da ++ (B16 s.sp ++ (B16 s.dp ++ (B32 s.sq ++ (B32 s.ak ++ (F ++ (B16 s.wi ++ (B16 c2 ++ U))))))))))) (B := O) (C := D) (by simp only [l, fms, fm, sg, List.append_assoc]) (show _ = 40 by simp [B16, B32, hF, hP, hU]) rfl
  have k9 := cut (l := l) (A := P ++ (B16 c1 ++ (B32 s.sa ++ (B32 s.da ++ (B16 s.sp ++ (B16 s.dp ++ (B32 s.sq ++ (B32 s.ak ++ (F ++ (B16 s.wi ++ B16 c2)))))))))) (B := U) (C := O ++ D) (by simp only [l, fms, fm, sg, List.append_assoc]) (show _ = 38 by simp [B16, B32, hF, hP]) hU
  refine ⟨k1.1, k2.1, k2.2.2, k3.2.2, k5.2.2, k6.2.2, k7.2.2, k8.2.2, ?_, k4.2.2, k9.2.1, ?_, ?_⟩
  · rw [← List.drop_drop, k8.2.1, List.drop_left]
  · rw [← Nat.add_zero 10, ← wd_drop, k1.2.1]; exact im.wd_app (show 0 + 1 < (B16 c1).length from Nat.one_lt_two)
  · rw [← Nat.add_zero 36, ← wd_drop, k7.2.1, List.append_assoc]; exact im.wd_app (show 0 + 1 < (B16 c2).length from Nat.one_lt_two)
end

/-! ### words side by side -/
theorem wp_app {a a' b b' : List UInt8} {j k : Nat} (ha : a.length = 2 * j) (ha' : a'.length = 2 * j) : wp (a ++ b) (a' ++ b') (j + k) = wp a a' j ++ wp b b' k := by
  have e1 : (List.range j).map (fun i => (wd (a ++ b) (2 * i), wd (a' ++ b') (2 * i))) = (List.range j).map fun i => (wd a (2 * i), wd a' (2 * i)) := by
    apply List.map_congr_left
    intro i hi
    have := List.mem_range.1 hi
    rw [im.wd_app (by omega), im.wd_app (by omega)]
  have e2 : (List.range k).map ((fun i => (wd (a ++ b) (2 * i), wd (a' ++ b') (2 * i))) ∘ fun x => j + x) = (List.range k).map fun i => (wd b (2 * i), wd b' (2 * i)) := by
    apply List.map_congr_left
    intro i hi
    show (wd (a ++ b) (2 * (j + i)), wd (a' ++ b') (2 * (j + i))) = _
    have h1 : wd (a ++ b) (2 * (j + i)) = wd b (2 * i) := by
      rw [show 2 * (j + i) = a.length + 2 * i by omega, ← wd_drop, List.drop_left]
    have h2 : wd (a' ++ b') (2 * (j + i)) = wd b' (2 * i) := by
      rw [show 2 * (j + i) = a'.length + 2 * i by omega, ← wd_drop, List.drop_left]
    rw [h1, h2]
  unfold wp
  rw [List.range_add, List.map_append, List.map_map, e1, e2]
theorem wp_B16 {a b : Nat} (ha : W16 a) (hb : W16 b) : wp (B16 a) (B16 b) 1 = [((a : Int), (b : Int))] := by
  have h1 := om.wd_B16 a ha []
  have h2 := om.wd_B16 b hb []
  rw [List.append_nil] at h1 h2
  show [(wd (B16 a) 0, wd (B16 b) 0)] = _
  rw [h1, h2]
theorem B32_16 (a : Nat) (h : W32 a) : B32 a = B16 (a / 65536) ++ B16 (a % 65536) := by
  unfold B32 B16 q3 q2 q1 q0
  show [_, _, _, _] = [_, _, _, _]
  rw [show a / 65536 / 256 = a / 16777216 by omega, show a % 65536 / 256 = a / 256 % 256 by omega, show a % 65536 % 256 = a % 256 by omega]
theorem wp_B32 {a b : Nat} (ha : W32 a) (hb : W32 b) : wp (B32 a) (B32 b) 2 = pair32 a b := by
  rw [B32_16 a ha, B32_16 b hb, show 2 = 1 + 1 from rfl, wp_app rfl rfl, wp_B16 (by omega) (by omega), wp_B16 (by omega) (by omega)]; rfl
end Go.Proofs.Ytafckmbgefbonaa.pm
