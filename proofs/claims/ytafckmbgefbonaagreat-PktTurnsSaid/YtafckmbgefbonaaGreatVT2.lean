/- T: contracts, part 2. Condition: as each says. -/
import Derived.Test.YtafckmbgefbonaaGreatVTRW3
set_option linter.unusedVariables false
set_option linter.unusedSimpArgs false
set_option maxRecDepth 100000
set_option maxHeartbeats 8000000
namespace Go.Proofs.YtafckmbgefbonaaGreat.om
open sm nb

section
variable {b v e p : Nat} {s t : List UInt8}
theorem nb_same (h : t.drop p = s.drop p) (i : Nat) : nb t (p + i) = nb s (p + i) := by
 have := congrArg (fun l : List UInt8 => (l.getD i 0).toNat) h
 simpa [nb, List.getD] using this
theorem mid_len (hA : At s p) (hl : t.length = s.length) (i : Nat) (hi : 4 * i + 2 ≤ nb s (p + 1)) : (mid b s t p i).length = s.length := by
 have hp := pay_len hA
 have h3 := hA.2.2
 unfold mid
 rw [List.length_append, take2_len hA hl, List.length_append, wt_len _ _ _ (by omega), List.length_drop]; omega
theorem mid_nb (hA : At s p) (hl : t.length = s.length) (i j : Nat) (hj : j < 2) : nb (mid b s t p i) (p + j) = nb t (p + j) := by
 have h := take2_len hA hl
 have h2 := lenOk_two hA.2.1
 have h3 := hA.2.2
 unfold nb mid
 congr 1
 simp only [List.getD]
 rw [List.getElem?_append_left (by omega), List.getElem?_take_of_lt (by omega)]
theorem step_nb (hA : At s p) (hl : t.length = s.length) (j : Nat) (hj : j < 2) : nb (stepT b v e s t p) (p + j) = nb t (p + j) := by
 have h := take2_len hA hl
 have h2 := lenOk_two hA.2.1
 have h3 := hA.2.2
 unfold nb stepT
 congr 1
 simp only [List.getD]
 rw [List.getElem?_append_left (by omega), List.getElem?_take_of_lt (by omega)]
end
end Go.Proofs.YtafckmbgefbonaaGreat.om

namespace Go.Proofs.YtafckmbgefbonaaGreat.pm
open sm nb

section
variable {P F U O D : List UInt8} {c1 c2 : Nat} {s : Sg}
end

/-! ### words side by side -/
theorem turns_H (c : Int) {s t : Sg} (hs : WfN s) (ht : WfN t) : turns c (B32 s.sa ++ B32 s.da) (B32 t.sa ++ B32 t.da) 4 = foldT c (psH s t) := by
 rw [turns_fold, show 4 = 2 + 2 from rfl, wp_app rfl rfl, wp_B32 hs.1 ht.1, wp_B32 hs.2.1 ht.2.1]; rfl
theorem turns_G (c : Int) {s t : Sg} (hs : WfN s) (ht : WfN t) (O O' : List UInt8) :
  turns (turns (turns c (B32 s.sa ++ (B32 s.da ++ (B16 s.sp ++ (B16 s.dp ++ (B32 s.sq ++ B32 s.ak))))) (B32 t.sa ++ (B32 t.da ++ (B16 t.sp ++ (B16 t.dp ++ (B32 t.sq ++ B32 t.ak))))) 10) (B16 s.wi) (B16 t.wi) 1) O O' (O.length / 2) = foldT c (psG s t O O') := by
 obtain ⟨s1, s2, s3, s4, s5, s6, s7⟩ := hs
 obtain ⟨t1, t2, t3, t4, t5, t6, t7⟩ := ht
 rw [turns_fold, turns_fold, turns_fold, show 10 = 2 + (2 + (1 + (1 + (2 + 2)))) from rfl, wp_app rfl rfl, wp_app rfl rfl, wp_app rfl rfl, wp_app rfl rfl, wp_app rfl rfl, wp_B32 s1 t1, wp_B32 s2 t2, wp_B16 s3 t3, wp_B16 s4 t4, wp_B32 s5 t5, wp_B32 s6 t6, wp_B16 s7 t7, ← foldT_app, ← foldT_app]
 congr 1
def laid (l : List UInt8) (t : Sg) (O' : List UInt8) : List UInt8 :=
 l.take 12 ++ (B32 t.sa ++ (B32 t.da ++ (B16 t.sp ++ (B16 t.dp ++ (B32 t.sq ++ (B32 t.ak ++ ((l.drop 32).take 2 ++ (B16 t.wi ++ ((l.drop 36).take 4 ++ (O' ++ l.drop (40 + O'.length)))))))))))
def refT (l u : List UInt8) (n : Nat) : List UInt8 :=
 u.take 10 ++ (B16 (turns (wd l 10) ((l.drop 12).take 8) ((u.drop 12).take 8) 4).toNat ++ ((u.drop 12).take 24 ++
  (B16 (turns (turns (turns (wd l 36) ((l.drop 12).take 20) ((u.drop 12).take 20) 10) ((l.drop 34).take 2) ((u.drop 34).take 2) 1) ((l.drop 40).take n) ((u.drop 40).take n) (n / 2)).toNat ++ u.drop 38)))
theorem ref_rw {l : List UInt8} {x : Sh} (hx : WfX x) (h : errP l = 0) :
  let O' := om.turnL x.ak x.va x.ec (optsOf (l.drop 20))
  refT l (laid l (tS x (valP l)) O') O'.length = rwP x l := by
 intro O'
 obtain ⟨P, F, U, O, c1, c2, p⟩ := parts_of h
 have e := (fms_rw hx p.hs p.hP p.hF p.hU p.hO p.h1 p.h2 p.hn p.hf p.ho rfl p.he).2
 rw [← p.hl] at e
 have hs := p.hs; have hn := wfN hs
 have hm := wfN (tS_wf hx hs)
 have hO : optsOf (l.drop 20) = O := by
  have d20 : l.drop 20 = sgs (valP l) F c2 U O (valP l).dt := by
   conv => lhs; rw [p.hl]
   exact fm_drop p.hP
  rw [d20]
  exact (sgs_val (F := F) (U := U) (O := O) (D := (valP l).dt) (c2 := c2) p.hF p.hU hn 0 0 p.hn).1
 have t3 : O'.length = O.length := by
  show (om.turnL x.ak x.va x.ec (optsOf (l.drop 20))).length = _
  rw [hO]; exact (om.turn_err p.he).2.2
 have eO : om.turnL x.ak x.va x.ec O = O' := by rw [← hO]
 rw [eO] at e
 generalize valP l = s at *
 obtain ⟨a1, a2, a3, a4, a5, a6, a7, a8, a9, a10, a11, a12, a13⟩ := fms_cut (P := P) (F := F) (U := U) (O := O) (D := s.dt) (c1 := c1) (c2 := c2) (s := s) p.hP p.hF p.hU
 rw [← p.hl] at a1 a2 a3 a4 a5 a6 a7 a8 a9 a10 a11 a12 a13
 have eu : laid l (tS x s) O' = fms P c1 (tS x s) F c2 U O' s.dt := by
  unfold laid
  rw [a2, a5, a7, t3, a9]
  simp only [fms, fm, sg, List.append_assoc]
 obtain ⟨b1, b2, b3, b4, b5, b6, b7, b8, b9, b10, b11, b12, b13⟩ := fms_cut (P := P) (F := F) (U := U) (O := O') (D := s.dt) (c1 := c1) (c2 := c2) (s := tS x s) p.hP p.hF p.hU
 have w10 : wd l 10 = c1 := by rw [a12]; have := om.wd_B16 c1 p.h1 []; rw [List.append_nil] at this; exact this
 have w36 : wd l 36 = c2 := by rw [a13]; have := om.wd_B16 c2 p.h2 []; rw [List.append_nil] at this; exact this
 rw [t3] at b8
 rw [e, eu]
 unfold refT
 rw [b1, b3, b10, b4, b6, t3, b8, b11, a3, a4, a6, a8, w10, w36, turns_H _ hn hm, turns_G _ hn hm]
 simp only [fms, fm, sg, List.append_assoc]
end Go.Proofs.YtafckmbgefbonaaGreat.pm
