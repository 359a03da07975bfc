/- A: contracts, part 1. Condition: as each says. -/
import Derived.Test.YtafckmbgefbonaaKBHA4
set_option linter.unusedVariables false
set_option linter.unusedSimpArgs false
namespace Go.Proofs.Ytafckmbgefbonaa.om
open Go.Proofs.Ytafckmbgefbonaa.sm Go.Proofs.Ytafckmbgefbonaa.nb
set_option linter.unusedVariables false

section
variable {b v e : Nat}
end
def negM (a : Nat) : Nat := (M32 - a) % M32
theorem add_neg (x a : Nat) (hx : x < M32) (ha : a < M32) : addM (addM x a) (negM a) = x := by
  unfold addM negM M32 at *; omega
end Go.Proofs.Ytafckmbgefbonaa.om

namespace Go.Proofs.Ytafckmbgefbonaa.pm
open Go.Proofs.Ytafckmbgefbonaa.sm Go.Proofs.Ytafckmbgefbonaa.nb
set_option linter.unusedVariables false

section
variable {s : Sg}
end
theorem enc_inj {s t : Sg} (hs : MayS s) (ht : MayS t) (ws : WfS s) (wt : WfS t) (h : encS s = encS t) : s = t := by
  have h1 := (enc_dec hs ws).2
  rw [h, (enc_dec ht wt).2] at h1
  exact h1.symm
end Go.Proofs.Ytafckmbgefbonaa.pm

namespace Go.Proofs.Ytafckmbgefbonaa.pm
open Go.Proofs.Ytafckmbgefbonaa.sm Go.Proofs.Ytafckmbgefbonaa.nb
set_option linter.unusedVariables false

theorem add_back {a b : Nat} (ha : W32 a) (hb : W32 b) : om.addM (om.addM a b) (om.negM b) = a := om.add_neg a b (by unfold om.M32; omega) (by unfold om.M32; omega)
theorem tOp_back {b v e : Nat} (hb : W32 b) (hv : W32 v) (he : W32 e) {o : om.Opz} (ho : om.Wf o) : om.tOp (om.negM b) (om.negM v) (om.negM e) (om.tOp b v e o) = o := by
  obtain ⟨o1, o2, o3, o4⟩ := ho
  have o3' : W32 o.va := by unfold om.M32 at o3; unfold W32; omega
  have o4' : W32 o.ec := by unfold om.M32 at o4; unfold W32; omega
  have hbl : (o.bl.map fun x : Nat × Nat => (om.addM x.1 b, om.addM x.2 b)).map (fun x : Nat × Nat => (om.addM x.1 (om.negM b), om.addM x.2 (om.negM b))) = o.bl := by
    rw [List.map_map]
    conv => rhs; rw [← List.map_id o.bl]
    apply List.map_congr_left
    intro p hp
    have := o2 p hp
    unfold om.M32 at this
    show (om.addM (om.addM p.1 b) (om.negM b), om.addM (om.addM p.2 b) (om.negM b)) = p
    rw [add_back (by unfold W32; omega) hb, add_back (by unfold W32; omega) hb]
  unfold om.tOp
  dsimp only
  rw [hbl]
  cases htm : o.tm with
  | false => simp only [Bool.false_eq_true, if_false]; rw [← htm]
  | true => simp only [if_true]; rw [add_back o3' hv, add_back o4' he, ← htm]
def backX (s : Sg) (x : Sh) : Sh := ⟨s.sa, s.da, s.sp, s.dp, om.negM x.sq, om.negM x.ak, om.negM x.va, om.negM x.ec, 0, 0⟩
theorem tS_back {s : Sg} {x : Sh} (hs : WfS s) (hx : WfX x) : { tS (backX s x) (tS x s) with wi := s.wi } = s := by
  obtain ⟨w1, w2, w3, w4, w5, w6, w7, w8⟩ := hx
  obtain ⟨s1, s2, s3, s4, s5, s6, s7, s8, ho⟩ := hs
  have h1 := add_back s5 w5
  have h2 := add_back s6 w6
  have h3 := tOp_back w6 w7 w8 ho
  unfold tS backX
  dsimp only
  rw [h1, h3]
  cases hk : acked s.fl with
  | false => simp only [Bool.false_eq_true, if_false]
  | true => simp only [if_true]; rw [h2]
theorem win_0 {x : Sh} {w : Nat} (hu : x.up = 0) (hd : x.dn = 0) (hw : W16 w) : winT x w = w := by
  unfold winT
  rw [hu, hd, show clamp 0 = 0 from rfl, Nat.pow_zero, Nat.mul_one, Nat.div_one]
  exact Nat.min_eq_right hw
end Go.Proofs.Ytafckmbgefbonaa.pm
