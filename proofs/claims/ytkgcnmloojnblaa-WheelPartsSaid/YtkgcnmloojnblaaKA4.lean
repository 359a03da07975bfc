/- A: contracts, part 4. Condition: as each says. -/
import Derived.Test.YtkgcnmloojnblaaKA1
import Derived.Test.YtkgcnmloojnblaaKPA1
import Derived.Test.YtkgcnmloojnblaaKPOAN3
import Derived.Test.YtkgcnmloojnblaaKPOAN13
set_option linter.unusedVariables false
set_option linter.unusedSimpArgs false
namespace Go.Proofs.Ytkgcnmloojnblaa.wlU
open Go.RowKit Go.Shelf Go.Lib Go.Proofs.Ytkgcnmloojnblaa.nb Go.Proofs.Ytkgcnmloojnblaa.wh Go.Proofs.Ytkgcnmloojnblaa.wf
set_option linter.unusedVariables false

def sz (k : ByteArray) : Int := (k.size : Int)
def cmpZ (a b : Int) : Int := if a < b then -1 else if b < a then 1 else 0
theorem nanC (a : Int) (w : World) : Calls Try.prog 56 #[.int .i64 a] w fun e w' => e = .returned (.bool false) ∧ w = w' := by
  have h : (a != a) = false := by simp
  go_enter Try.func56, Try.ntmps56
  go_wp2
  go_ret
  exact ⟨rfl, rfl⟩
theorem compareC (a b : Int) (w : World) : Calls Try.prog 39 #[.int .i64 a, .int .i64 b] w fun e w' => e = .returned (.int .i64 (cmpZ a b)) ∧ w = w' := by
  by_cases h1 : a < b
  · have E := Lib.hid (show cmpZ a b = -1 by unfold cmpZ; rw [if_pos h1])
    rw [E.out]
    go_enter Try.func39, Try.ntmps39
    go_wp2_with fail
    refine (nanC _ _).mono ?_
    rintro e w' ⟨rfl, rfl⟩
    go_wp2_with fail
    refine (nanC _ _).mono ?_
    rintro e w' ⟨rfl, rfl⟩
    go_wp2
    go_ret
    exact ⟨rfl, rfl⟩
  · by_cases h2 : b < a
    · have E := Lib.hid (show cmpZ a b = 1 by unfold cmpZ; rw [if_neg h1, if_pos h2])
      rw [E.out]
      go_enter Try.func39, Try.ntmps39
      go_wp2_with fail
      refine (nanC _ _).mono ?_
      rintro e w' ⟨rfl, rfl⟩
      go_wp2_with fail
      refine (nanC _ _).mono ?_
      rintro e w' ⟨rfl, rfl⟩
      go_wp2
      go_ret
      exact ⟨rfl, rfl⟩
    · have E := Lib.hid (show cmpZ a b = 0 by unfold cmpZ; rw [if_neg h1, if_neg h2])
      rw [E.out]
      go_enter Try.func39, Try.ntmps39
      go_wp2_with fail
      refine (nanC _ _).mono ?_
      rintro e w' ⟨rfl, rfl⟩
      go_wp2_with fail
      refine (nanC _ _).mono ?_
      rintro e w' ⟨rfl, rfl⟩
      go_wp2
      go_ret
      exact ⟨rfl, rfl⟩
theorem cmpC (s : ByteArray) (a : Int) (r : ByteArray) (b : Int) (w : World) : Calls Try.prog 51 #[.agg #[.int .u64 (sz (s)), .int .i64 a], .agg #[.int .u64 (sz (r)), .int .i64 b]] w fun e w' => e = .returned (.int .i64 (cmpZ a b)) ∧ Up w w' := by
  go_enter Try.func51, Try.ntmps51
  go_wp2_with fail
  refine (compareC _ _ _).mono ?_
  rintro e w' ⟨rfl, rfl⟩
  go_wp2
  go_ret
  exact ⟨rfl, by repeat (first | exact Below.refl _ _ | apply up_al)⟩

def Rw (w : World) (g : Nat) (ds : List Tm) : Prop := g < w.heap.size ∧ ∀ k, k < ds.length → (w.cell? ⟨g, k * 2, none⟩ = some (.int .u64 (sz ((ds.getD k d0).1))) ∧ w.frozen? ⟨g, k * 2, none⟩ = false) ∧ w.cell? ⟨g, k * 2 + 1, none⟩ = some (.int .i64 (ds.getD k d0).2) ∧ w.frozen? ⟨g, k * 2 + 1, none⟩ = false
theorem Rw.only {F : Nat → Prop} {w w' : World} {g : Nat} {ds : List Tm} (h : Rw w g ds) (o : Only F w w') (hF : ¬ F g) : Rw w' g ds :=
  ⟨Nat.lt_of_lt_of_le h.1 o.size, fun k hk => ⟨⟨(o.cell (p := ⟨g, k * 2, none⟩) h.1 hF).trans (h.2 k hk).1.1, (o.frozen (p := ⟨g, k * 2, none⟩) h.1 hF).trans (h.2 k hk).1.2⟩, (o.cell (p := ⟨g, k * 2 + 1, none⟩) h.1 hF).trans (h.2 k hk).2.1, (o.frozen (p := ⟨g, k * 2 + 1, none⟩) h.1 hF).trans (h.2 k hk).2.2⟩⟩
theorem Rw.up {w w' : World} {g : Nat} {ds : List Tm} (h : Rw w g ds) (u : Up w w') : Rw w' g ds := h.only (Only.up (F := fun _ => False) u) id
end Go.Proofs.Ytkgcnmloojnblaa.wlU

namespace Go.Proofs.Ytkgcnmloojnblaa.wlU
open Go.RowKit Go.Shelf Go.Lib Go.Proofs.Ytkgcnmloojnblaa.nb Go.Proofs.Ytkgcnmloojnblaa.wh Go.Proofs.Ytkgcnmloojnblaa.wf
set_option linter.unusedVariables false

def pv (pb : Nat) (o : Option Nat) : Value := .pointer (o.map fun p => ⟨pb, p * 4, none⟩)
def wc (now n : Int) (cb mb pb : Nat) (L : Lks) (j : Nat) : Value :=
  if j = 0 then .int .i64 now else if j = 1 then .int .i64 n else if j = 2 then .chan (some cb) else if j = 3 then .map (some mb) else
  if j % 2 = 0 then pv pb (L.fi ((j - 4) / 2)) else pv pb (L.la ((j - 4) / 2))
def pc (pb : Nat) (T : Nat → Tm) (L : Lks) (j : Nat) : Value :=
  if j % 4 = 0 then .int .u64 (sz ((T (j / 4)).1)) else if j % 4 = 1 then .int .i64 (T (j / 4)).2 else if j % 4 = 2 then pv pb (L.ah (j / 4)) else pv pb (L.nx (j / 4))
section
variable {now n : Int} {cb mb pb : Nat} {L : Lks} {T : Nat → Tm}
theorem wc_fi (s : Nat) : wc now n cb mb pb L (s * 2 + 4) = pv pb (L.fi s) := by
  unfold wc
  rw [if_neg (by omega), if_neg (by omega), if_neg (by omega), if_neg (by omega), if_pos (by omega), show (s * 2 + 4 - 4) / 2 = s by omega]
theorem wc_la (s : Nat) : wc now n cb mb pb L (s * 2 + 4 + 1) = pv pb (L.la s) := by
  unfold wc
  rw [if_neg (by omega), if_neg (by omega), if_neg (by omega), if_neg (by omega), if_neg (by omega), show (s * 2 + 4 + 1 - 4) / 2 = s by omega]
theorem pc_k (p : Nat) : pc pb T L (p * 4) = .int .u64 (sz ((T p).1)) := by unfold pc; rw [if_pos (by omega), show p * 4 / 4 = p by omega]
theorem pc_t (p : Nat) : pc pb T L (p * 4 + 1) = .int .i64 (T p).2 := by unfold pc; rw [if_neg (by omega), if_pos (by omega), show (p * 4 + 1) / 4 = p by omega]
theorem pc_ah (p : Nat) : pc pb T L (p * 4 + 2) = pv pb (L.ah p) := by unfold pc; rw [if_neg (by omega), if_neg (by omega), if_pos (by omega), show (p * 4 + 2) / 4 = p by omega]
theorem pc_nx (p : Nat) : pc pb T L (p * 4 + 3) = pv pb (L.nx p) := by unfold pc; rw [if_neg (by omega), if_neg (by omega), if_neg (by omega), show (p * 4 + 3) / 4 = p by omega]
theorem wc_tl {j : Nat} (h : 4 ≤ j) : wc now n cb mb pb L j = if j % 2 = 0 then pv pb (L.fi ((j - 4) / 2)) else pv pb (L.la ((j - 4) / 2)) := by
  unfold wc
  rw [if_neg (by omega), if_neg (by omega), if_neg (by omega), if_neg (by omega)]
theorem wc_hd {j : Nat} (h : j < 4) (L' : Lks) : wc now n cb mb pb L j = wc now n cb mb pb L' j := by
  unfold wc
  rcases (show j = 0 ∨ j = 1 ∨ j = 2 ∨ j = 3 by omega) with h | h | h | h <;> simp [h]
theorem wc_set_fi (s : Nat) (v : Option Nat) (j : Nat) : upd (wc now n cb mb pb L) (s * 2 + 4) (pv pb v) j = wc now n cb mb pb ⟨upd L.fi s v, L.la, L.ah, L.nx⟩ j := by
  by_cases e : j = s * 2 + 4
  · subst e; rw [upd_same, wc_fi]; show _ = pv pb (upd L.fi s v s); rw [upd_same]
  rw [upd_other _ e]
  rcases Nat.lt_or_ge j 4 with h | h
  · exact wc_hd h _
  rw [wc_tl h, wc_tl h]
  by_cases h2 : j % 2 = 0
  · rw [if_pos h2, if_pos h2]; show _ = pv pb (upd L.fi s v _); rw [upd_other _ (by omega)]
  · rw [if_neg h2, if_neg h2]
theorem wc_set_la (s : Nat) (v : Option Nat) (j : Nat) : upd (wc now n cb mb pb L) (s * 2 + 4 + 1) (pv pb v) j = wc now n cb mb pb ⟨L.fi, upd L.la s v, L.ah, L.nx⟩ j := by
  by_cases e : j = s * 2 + 4 + 1
  · subst e; rw [upd_same, wc_la]; show _ = pv pb (upd L.la s v s); rw [upd_same]
  rw [upd_other _ e]
  rcases Nat.lt_or_ge j 4 with h | h
  · exact wc_hd h _
  rw [wc_tl h, wc_tl h]
  by_cases h2 : j % 2 = 0
  · rw [if_pos h2, if_pos h2]
  · rw [if_neg h2, if_neg h2]; show _ = pv pb (upd L.la s v _); rw [upd_other _ (by omega)]
theorem wc_set_now (v : Int) (j : Nat) : upd (wc now n cb mb pb L) 0 (.int .i64 v) j = wc v n cb mb pb L j := by
  unfold upd wc
  by_cases e : j = 0
  · rw [if_pos e, if_pos e]
  · rw [if_neg e, if_neg e, if_neg e]
theorem wc_set_n (v : Int) (j : Nat) : upd (wc now n cb mb pb L) 1 (.int .i64 v) j = wc now v cb mb pb L j := by
  unfold upd wc
  by_cases e : j = 1
  · rw [if_pos e, if_neg (by omega), if_pos e]
  · rw [if_neg e, if_neg e, if_neg e]
theorem pc_set_ah (p : Nat) (v : Option Nat) (j : Nat) : upd (pc pb T L) (p * 4 + 2) (pv pb v) j = pc pb T ⟨L.fi, L.la, upd L.ah p v, L.nx⟩ j := by
  by_cases e : j = p * 4 + 2
  · subst e; rw [upd_same, pc_ah]; show _ = pv pb (upd L.ah p v p); rw [upd_same]
  rw [upd_other _ e]
  unfold pc
  by_cases h0 : j % 4 = 0
  · rw [if_pos h0, if_pos h0]
  by_cases h1 : j % 4 = 1
  · rw [if_neg h0, if_pos h1, if_neg h0, if_pos h1]
  rw [if_neg h0, if_neg h1, if_neg h0, if_neg h1]
  by_cases h2 : j % 4 = 2
  · rw [if_pos h2, if_pos h2]; show _ = pv pb (upd L.ah p v _); rw [upd_other _ (by omega)]
  · rw [if_neg h2, if_neg h2]
theorem pc_set_nx (p : Nat) (v : Option Nat) (j : Nat) : upd (pc pb T L) (p * 4 + 3) (pv pb v) j = pc pb T ⟨L.fi, L.la, L.ah, upd L.nx p v⟩ j := by
  by_cases e : j = p * 4 + 3
  · subst e; rw [upd_same, pc_nx]; show _ = pv pb (upd L.nx p v p); rw [upd_same]
  rw [upd_other _ e]
  unfold pc
  by_cases h0 : j % 4 = 0
  · rw [if_pos h0, if_pos h0]
  by_cases h1 : j % 4 = 1
  · rw [if_neg h0, if_pos h1, if_neg h0, if_pos h1]
  rw [if_neg h0, if_neg h1, if_neg h0, if_neg h1]
  by_cases h2 : j % 4 = 2
  · rw [if_pos h2, if_pos h2]
  · rw [if_neg h2, if_neg h2]; show _ = pv pb (upd L.nx p v _); rw [upd_other _ (by omega)]
theorem pc_set_due (p : Nat) (x : Tm) (j : Nat) : upd (upd (pc pb T L) (p * 4) (.int .u64 (sz (x.1)))) (p * 4 + 1) (.int .i64 x.2) j = pc pb (upd T p x) L j := by
  by_cases e : j = p * 4 + 1
  · subst e; rw [upd_same, pc_t, upd_same]
  rw [upd_other _ e]
  by_cases e2 : j = p * 4
  · subst e2; rw [upd_same, pc_k, upd_same]
  rw [upd_other _ e2]
  unfold pc
  by_cases h0 : j % 4 = 0
  · rw [if_pos h0, if_pos h0, upd_other _ (show j / 4 ≠ p by omega)]
  by_cases h1 : j % 4 = 1
  · rw [if_neg h0, if_pos h1, if_neg h0, if_pos h1, upd_other _ (show j / 4 ≠ p by omega)]
  rw [if_neg h0, if_neg h1, if_neg h0, if_neg h1]
end
structure Mem (w : World) (b pb cb mb most : Nat) (now n : Int) (T : Nat → Tm) (L : Lks) : Prop where
  wb : BoxF w b 580 (wc now n cb mb pb L)
  pb_ : BoxF w pb (most * 4) (pc pb T L)
  ne : b ≠ pb
section
variable {w w' : World} {b pb cb mb most : Nat} {now n : Int} {T : Nat → Tm} {L : Lks}
theorem Mem.only {F : Nat → Prop} (h : Mem w b pb cb mb most now n T L) (o : Only F w w') (h1 : ¬ F b) (h2 : ¬ F pb) : Mem w' b pb cb mb most now n T L := ⟨h.wb.only o h1, h.pb_.only o h2, h.ne⟩
theorem Mem.up (h : Mem w b pb cb mb most now n T L) (u : Up w w') : Mem w' b pb cb mb most now n T L := h.only (Only.up (F := fun _ => False) u) id id
theorem Mem.set_fi (h : Mem w b pb cb mb most now n T L) (s : Nat) (v : Option Nat) : Mem (w.setCell ⟨b, s * 2 + 4, none⟩ (pv pb v)) b pb cb mb most now n T ⟨upd L.fi s v, L.la, L.ah, L.nx⟩ :=
  ⟨(h.wb.set _ _).congr (fun j _ => wc_set_fi s v j), h.pb_.far h.ne _, h.ne⟩
theorem Mem.set_la (h : Mem w b pb cb mb most now n T L) (s : Nat) (v : Option Nat) : Mem (w.setCell ⟨b, s * 2 + 4 + 1, none⟩ (pv pb v)) b pb cb mb most now n T ⟨L.fi, upd L.la s v, L.ah, L.nx⟩ :=
  ⟨(h.wb.set _ _).congr (fun j _ => wc_set_la s v j), h.pb_.far h.ne _, h.ne⟩
theorem Mem.set_now (h : Mem w b pb cb mb most now n T L) (v : Int) : Mem (w.setCell ⟨b, 0, none⟩ (.int .i64 v)) b pb cb mb most v n T L :=
  ⟨(h.wb.set _ _).congr (fun j _ => wc_set_now v j), h.pb_.far h.ne _, h.ne⟩
theorem Mem.set_n (h : Mem w b pb cb mb most now n T L) (v : Int) : Mem (w.setCell ⟨b, 1, none⟩ (.int .i64 v)) b pb cb mb most now v T L :=
  ⟨(h.wb.set _ _).congr (fun j _ => wc_set_n v j), h.pb_.far h.ne _, h.ne⟩
theorem Mem.set_ah (h : Mem w b pb cb mb most now n T L) (p : Nat) (v : Option Nat) : Mem (w.setCell ⟨pb, p * 4 + 2, none⟩ (pv pb v)) b pb cb mb most now n T ⟨L.fi, L.la, upd L.ah p v, L.nx⟩ :=
  ⟨h.wb.far h.ne.symm _, (h.pb_.set _ _).congr (fun j _ => pc_set_ah p v j), h.ne⟩
theorem Mem.set_nx (h : Mem w b pb cb mb most now n T L) (p : Nat) (v : Option Nat) : Mem (w.setCell ⟨pb, p * 4 + 3, none⟩ (pv pb v)) b pb cb mb most now n T ⟨L.fi, L.la, L.ah, upd L.nx p v⟩ :=
  ⟨h.wb.far h.ne.symm _, (h.pb_.set _ _).congr (fun j _ => pc_set_nx p v j), h.ne⟩
theorem Mem.set_due (h : Mem w b pb cb mb most now n T L) (p : Nat) (x : Tm) : Mem ((w.setCell ⟨pb, p * 4, none⟩ (.int .u64 (sz (x.1)))).setCell ⟨pb, p * 4 + 1, none⟩ (.int .i64 x.2)) b pb cb mb most now n (upd T p x) L :=
  ⟨(h.wb.far h.ne.symm _).far h.ne.symm _, ((h.pb_.set _ _).set _ _).congr (fun j _ => pc_set_due p x j), h.ne⟩
theorem Mem.c_now (h : Mem w b pb cb mb most now n T L) : w.cell? ⟨b, 0, none⟩ = some (.int .i64 now) := h.wb.at_ 0 (by omega)
theorem Mem.c_n (h : Mem w b pb cb mb most now n T L) : w.cell? ⟨b, 1, none⟩ = some (.int .i64 n) := h.wb.at_ 1 (by omega)
theorem Mem.c_ch (h : Mem w b pb cb mb most now n T L) : w.cell? ⟨b, 2, none⟩ = some (.chan (some cb)) := h.wb.at_ 2 (by omega)
theorem Mem.c_mp (h : Mem w b pb cb mb most now n T L) : w.cell? ⟨b, 3, none⟩ = some (.map (some mb)) := h.wb.at_ 3 (by omega)
theorem Mem.c_fi (h : Mem w b pb cb mb most now n T L) {s : Nat} (hs : s < 288) : w.cell? ⟨b, s * 2 + 4, none⟩ = some (pv pb (L.fi s)) := (h.wb.at_ _ (by omega)).trans (by rw [wc_fi])
theorem Mem.c_la (h : Mem w b pb cb mb most now n T L) {s : Nat} (hs : s < 288) : w.cell? ⟨b, s * 2 + 4 + 1, none⟩ = some (pv pb (L.la s)) := (h.wb.at_ _ (by omega)).trans (by rw [wc_la])
theorem Mem.c_k (h : Mem w b pb cb mb most now n T L) {p : Nat} (hp : p < most) : w.cell? ⟨pb, p * 4, none⟩ = some (.int .u64 (sz ((T p).1))) := (h.pb_.at_ _ (by omega)).trans (by rw [pc_k])
theorem Mem.c_t (h : Mem w b pb cb mb most now n T L) {p : Nat} (hp : p < most) : w.cell? ⟨pb, p * 4 + 1, none⟩ = some (.int .i64 (T p).2) := (h.pb_.at_ _ (by omega)).trans (by rw [pc_t])
theorem Mem.c_ah (h : Mem w b pb cb mb most now n T L) {p : Nat} (hp : p < most) : w.cell? ⟨pb, p * 4 + 2, none⟩ = some (pv pb (L.ah p)) := (h.pb_.at_ _ (by omega)).trans (by rw [pc_ah])
theorem Mem.c_nx (h : Mem w b pb cb mb most now n T L) {p : Nat} (hp : p < most) : w.cell? ⟨pb, p * 4 + 3, none⟩ = some (pv pb (L.nx p)) := (h.pb_.at_ _ (by omega)).trans (by rw [pc_nx])
theorem Mem.f_w (h : Mem w b pb cb mb most now n T L) {j : Nat} (hj : j < 580) : w.frozen? ⟨b, j, none⟩ = false := h.wb.fr j hj
theorem Mem.f_p (h : Mem w b pb cb mb most now n T L) {j : Nat} (hj : j < most * 4) : w.frozen? ⟨pb, j, none⟩ = false := h.pb_.fr j hj
end
def WF (b pb : Nat) : Nat → Prop := fun k => k = b ∨ k = pb
end Go.Proofs.Ytkgcnmloojnblaa.wlU

namespace Go.Proofs.Ytkgcnmloojnblaa.wlU
open Go.RowKit Go.Shelf Go.Lib Go.Proofs.Ytkgcnmloojnblaa.nb Go.Proofs.Ytkgcnmloojnblaa.wh Go.Proofs.Ytkgcnmloojnblaa.wf
set_option linter.unusedVariables false

theorem pv_ptr (pb : Nat) (o : Option Nat) : ∃ v, pv pb o = .pointer v := ⟨_, rfl⟩
set_option maxHeartbeats 4000000 in
theorem joinC {b pb cb mb most : Nat} {now n : Int} {T : Nat → Tm} {L : Lks} {w : World} (s p : Nat) (h : Mem w b pb cb mb most now n T L) (hs : s < 288) (hp : p < most) (hq : ∀ q, L.la s = some q → q < most) :
    Calls Try.prog 47 #[.pointer (some ⟨b, s * 2 + 4, none⟩), .pointer (some ⟨pb, p * 4, none⟩)] w fun e w' => e = .returned (.tuple #[]) ∧ Mem w' b pb cb mb most now n T (L.join s p) ∧ Only (WF b pb) w w' := by
  have n1 : ¬ b = pb := h.ne
  have n2 : ¬ pb = b := fun e => n1 e.symm
  have c1 := h.c_la hs; have c2 := h.c_ah hp; have c3 := h.c_fi hs
  have f1 := h.f_w (j := s * 2 + 4 + 1) (by omega); have f2 := h.f_p (j := p * 4 + 2) (by omega); have f3 := h.f_w (j := s * 2 + 4) (by omega)
  have o0 : Only (WF b pb) w w := Only.refl _ _
  obtain ⟨va, ea⟩ := pv_ptr pb (L.ah p)
  obtain ⟨vf, ef⟩ := pv_ptr pb (L.fi s)
  rw [ea] at c2; rw [ef] at c3
  cases hl : L.la s with
  | none =>
    have M1 := ((h.set_ah p (L.la s)).set_fi s (some p)).set_la s (some p)
    have O1 := ((o0.set (p := ⟨pb, p * 4 + 2, none⟩) (.inl (.inr rfl)) (pv pb (L.la s))).set (p := ⟨b, s * 2 + 4, none⟩) (.inl (.inl rfl)) (pv pb (some p))).set (p := ⟨b, s * 2 + 4 + 1, none⟩) (.inl (.inl rfl)) (pv pb (some p))
    have e1 : L.join s p = ⟨upd L.fi s (some p), upd L.la s (some p), upd L.ah p none, L.nx⟩ := by unfold Lks.join; rw [hl]; rfl
    rw [e1]
    rw [hl] at c1 M1 O1
    have MM := Lib.hid M1; have OO := Lib.hid O1
    replace c1 : w.cell? ⟨b, s * 2 + 4 + 1, none⟩ = some (.pointer none) := c1
    clear h M1 O1 e1 hl ea ef hq o0
    generalize ho : s * 2 + 4 = o at *
    generalize hr : p * 4 = r at *
    have hop : pv pb (some p) = .pointer (some ⟨pb, r, none⟩) := by unfold pv; rw [← hr]; rfl
    have HOP := Lib.hid hop
    clear ho hr hop hs hp
    go_enter Try.func47, Try.ntmps47
    go_wp2
    go_end0
    refine ⟨rfl, ?_, ?_⟩
    · have := MM.out; rw [HOP.out] at this; exact this
    · have := OO.out; rw [HOP.out] at this; exact this
  | some q =>
    have hqm := hq q hl
    have c4 := h.c_nx hqm; have f4 := h.f_p (j := q * 4 + 3) (by omega)
    obtain ⟨vn, en⟩ := pv_ptr pb (L.nx q)
    rw [en] at c4
    have M1 := ((h.set_ah p (L.la s)).set_nx q (some p)).set_la s (some p)
    have O1 := ((o0.set (p := ⟨pb, p * 4 + 2, none⟩) (.inl (.inr rfl)) (pv pb (L.la s))).set (p := ⟨pb, q * 4 + 3, none⟩) (.inl (.inr rfl)) (pv pb (some p))).set (p := ⟨b, s * 2 + 4 + 1, none⟩) (.inl (.inl rfl)) (pv pb (some p))
    have e1 : L.join s p = ⟨L.fi, upd L.la s (some p), upd L.ah p (some q), upd L.nx q (some p)⟩ := by unfold Lks.join; rw [hl]; rfl
    rw [e1]
    rw [hl] at c1 M1 O1
    have MM := Lib.hid M1; have OO := Lib.hid O1
    replace c1 : w.cell? ⟨b, s * 2 + 4 + 1, none⟩ = some (.pointer (some ⟨pb, q * 4, none⟩)) := c1
    have hne : ¬ p * 4 + 2 = q * 4 + 3 := by omega
    have hne' : ¬ q * 4 + 3 = p * 4 + 2 := by omega
    have hqq : pv pb (some q) = .pointer (some ⟨pb, q * 4, none⟩) := rfl
    clear h M1 O1 e1 hl ea ef en hq o0
    generalize ho : s * 2 + 4 = o at *
    generalize hr : p * 4 = r at *
    generalize hr2 : q * 4 = r2 at *
    have hop : pv pb (some p) = .pointer (some ⟨pb, r, none⟩) := by unfold pv; rw [← hr]; rfl
    have HOP := Lib.hid hop
    have HOQ := Lib.hid hqq
    clear ho hr hr2 hop hqq hs hp hqm
    go_enter Try.func47, Try.ntmps47
    go_wp2
    go_end0
    refine ⟨rfl, ?_, ?_⟩
    · have := MM.out; rw [HOP.out, HOQ.out] at this; exact this
    · have := OO.out; rw [HOP.out, HOQ.out] at this; exact this
end Go.Proofs.Ytkgcnmloojnblaa.wlU

namespace Go.Proofs.Ytkgcnmloojnblaa.wlU
open Go.RowKit Go.Shelf Go.Lib Go.Proofs.Ytkgcnmloojnblaa.nb Go.Proofs.Ytkgcnmloojnblaa.wh Go.Proofs.Ytkgcnmloojnblaa.wf
set_option linter.unusedVariables false

set_option maxHeartbeats 8000000 in
theorem leave00 {b pb cb mb most : Nat} {now n : Int} {T : Nat → Tm} {L : Lks} {w : World} (s p : Nat) (ha : L.ah p = none) (hx : L.nx p = none) (h : Mem w b pb cb mb most now n T L) (hs : s < 288) (hp : p < most) :
    Calls Try.prog 58 #[.pointer (some ⟨b, s * 2 + 4, none⟩), .pointer (some ⟨pb, p * 4, none⟩)] w fun e w' => e = .returned (.tuple #[]) ∧ Mem w' b pb cb mb most now n T (L.leave s p) ∧ Only (WF b pb) w w' := by
  have n1 : ¬ b = pb := h.ne
  have n2 : ¬ pb = b := fun e => n1 e.symm
  have c1 := h.c_ah hp; have c2 := h.c_nx hp
  have f1 := h.f_p (j := p * 4 + 2) (by omega); have f2 := h.f_p (j := p * 4 + 3) (by omega)
  rw [ha] at c1; rw [hx] at c2
  replace c1 : w.cell? ⟨pb, p * 4 + 2, none⟩ = some (.pointer none) := c1
  replace c2 : w.cell? ⟨pb, p * 4 + 3, none⟩ = some (.pointer none) := c2
  have o0 : Only (WF b pb) w w := Only.refl _ _
  have c3 := h.c_fi hs; have f3 := h.f_w (j := s * 2 + 4) (by omega)
  obtain ⟨v3, e3⟩ := pv_ptr pb (L.fi s)
  rw [e3] at c3
  have c4 := h.c_la hs; have f4 := h.f_w (j := s * 2 + 4 + 1) (by omega)
  obtain ⟨v4, e4⟩ := pv_ptr pb (L.la s)
  rw [e4] at c4
  have M1 := (((h.set_fi s (none)).set_la s (none)).set_ah p none).set_nx p none
  have O1 := (((o0.set (p := ⟨b, s * 2 + 4, none⟩) (.inl (.inl rfl)) (pv pb (none))).set (p := ⟨b, s * 2 + 4 + 1, none⟩) (.inl (.inl rfl)) (pv pb (none))).set (p := ⟨pb, p * 4 + 2, none⟩) (.inl (.inr rfl)) (pv pb none)).set (p := ⟨pb, p * 4 + 3, none⟩) (.inl (.inr rfl)) (pv pb none)
  have e1 : L.leave s p = ⟨upd L.fi s (none), upd L.la s (none), upd L.ah p none, upd L.nx p none⟩ := by unfold Lks.leave; rw [ha, hx]; rfl
  rw [e1]
  have MM := Lib.hid M1; have OO := Lib.hid O1
  have x0 : ¬ p * 4 + 2 = p * 4 + 3 := by omega
  have x0' : ¬ p * 4 + 3 = p * 4 + 2 := by omega
  have P0 : pv pb none = .pointer none := rfl
  clear h M1 O1 e1 e3 e4 ha hx o0
  generalize s * 2 + 4 = o at *
  generalize p * 4 = k at *
  have P0' := Lib.hid P0
  clear P0 hs hp
  go_enter Try.func58, Try.ntmps58
  go_wp2
  go_end0
  have R1 := MM.out; have R2 := OO.out
  simp only [P0'.out] at R1 R2
  refine ⟨rfl, ?_, ?_⟩
  · exact R1
  · exact R2
set_option maxHeartbeats 8000000 in
theorem leave01 {b pb cb mb most : Nat} {now n : Int} {T : Nat → Tm} {L : Lks} {w : World} (s p : Nat) (r : Nat) (hr : r < most) (hrp : r ≠ p) (ha : L.ah p = none) (hx : L.nx p = some r) (h : Mem w b pb cb mb most now n T L) (hs : s < 288) (hp : p < most) :
    Calls Try.prog 58 #[.pointer (some ⟨b, s * 2 + 4, none⟩), .pointer (some ⟨pb, p * 4, none⟩)] w fun e w' => e = .returned (.tuple #[]) ∧ Mem w' b pb cb mb most now n T (L.leave s p) ∧ Only (WF b pb) w w' := by
  have n1 : ¬ b = pb := h.ne
  have n2 : ¬ pb = b := fun e => n1 e.symm
  have c1 := h.c_ah hp; have c2 := h.c_nx hp
  have f1 := h.f_p (j := p * 4 + 2) (by omega); have f2 := h.f_p (j := p * 4 + 3) (by omega)
  rw [ha] at c1; rw [hx] at c2
  replace c1 : w.cell? ⟨pb, p * 4 + 2, none⟩ = some (.pointer none) := c1
  replace c2 : w.cell? ⟨pb, p * 4 + 3, none⟩ = some (.pointer (some ⟨pb, r * 4, none⟩)) := c2
  have o0 : Only (WF b pb) w w := Only.refl _ _
  have c3 := h.c_fi hs; have f3 := h.f_w (j := s * 2 + 4) (by omega)
  obtain ⟨v3, e3⟩ := pv_ptr pb (L.fi s)
  rw [e3] at c3
  have c4 := h.c_ah hr; have f4 := h.f_p (j := r * 4 + 2) (by omega)
  obtain ⟨v4, e4⟩ := pv_ptr pb (L.ah r)
  rw [e4] at c4
  have M1 := (((h.set_fi s (some r)).set_ah r (none)).set_ah p none).set_nx p none
  have O1 := (((o0.set (p := ⟨b, s * 2 + 4, none⟩) (.inl (.inl rfl)) (pv pb (some r))).set (p := ⟨pb, r * 4 + 2, none⟩) (.inl (.inr rfl)) (pv pb (none))).set (p := ⟨pb, p * 4 + 2, none⟩) (.inl (.inr rfl)) (pv pb none)).set (p := ⟨pb, p * 4 + 3, none⟩) (.inl (.inr rfl)) (pv pb none)
  have e1 : L.leave s p = ⟨upd L.fi s (some r), L.la, upd (upd L.ah r (none)) p none, upd L.nx p none⟩ := by unfold Lks.leave; rw [ha, hx]; rfl
  rw [e1]
  have MM := Lib.hid M1; have OO := Lib.hid O1
  have x0 : ¬ p * 4 + 2 = p * 4 + 3 := by omega
  have x0' : ¬ p * 4 + 3 = p * 4 + 2 := by omega
  have y1 : ¬ p * 4 + 2 = r * 4 + 2 := by omega
  have y2 : ¬ r * 4 + 2 = p * 4 + 2 := by omega
  have y3 : ¬ p * 4 + 3 = r * 4 + 2 := by omega
  have y4 : ¬ r * 4 + 2 = p * 4 + 3 := by omega
  have P0 : pv pb none = .pointer none := rfl
  have PR : pv pb (some r) = .pointer (some ⟨pb, r * 4, none⟩) := rfl
  clear h M1 O1 e1 e3 e4 ha hx o0
  generalize s * 2 + 4 = o at *
  generalize p * 4 = k at *
  generalize r * 4 = k2 at *
  have P0' := Lib.hid P0
  have PR' := Lib.hid PR
  clear P0 hs hp PR hr hrp
  go_enter Try.func58, Try.ntmps58
  go_upto_region 5 with fail
  go_region
  go_wp2
  go_end0
  have R1 := MM.out; have R2 := OO.out
  simp only [P0'.out, PR'.out] at R1 R2
  refine ⟨rfl, ?_, ?_⟩
  · exact R1.up (up_dr (Below.refl _ _))
  · exact R2.drew
set_option maxHeartbeats 8000000 in
theorem leave10 {b pb cb mb most : Nat} {now n : Int} {T : Nat → Tm} {L : Lks} {w : World} (s p : Nat) (q : Nat) (hq : q < most) (hqp : q ≠ p) (ha : L.ah p = some q) (hx : L.nx p = none) (h : Mem w b pb cb mb most now n T L) (hs : s < 288) (hp : p < most) :
    Calls Try.prog 58 #[.pointer (some ⟨b, s * 2 + 4, none⟩), .pointer (some ⟨pb, p * 4, none⟩)] w fun e w' => e = .returned (.tuple #[]) ∧ Mem w' b pb cb mb most now n T (L.leave s p) ∧ Only (WF b pb) w w' := by
  have n1 : ¬ b = pb := h.ne
  have n2 : ¬ pb = b := fun e => n1 e.symm
  have c1 := h.c_ah hp; have c2 := h.c_nx hp
  have f1 := h.f_p (j := p * 4 + 2) (by omega); have f2 := h.f_p (j := p * 4 + 3) (by omega)
  rw [ha] at c1; rw [hx] at c2
  replace c1 : w.cell? ⟨pb, p * 4 + 2, none⟩ = some (.pointer (some ⟨pb, q * 4, none⟩)) := c1
  replace c2 : w.cell? ⟨pb, p * 4 + 3, none⟩ = some (.pointer none) := c2
  have o0 : Only (WF b pb) w w := Only.refl _ _
  have c3 := h.c_nx hq; have f3 := h.f_p (j := q * 4 + 3) (by omega)
  obtain ⟨v3, e3⟩ := pv_ptr pb (L.nx q)
  rw [e3] at c3
  have c4 := h.c_la hs; have f4 := h.f_w (j := s * 2 + 4 + 1) (by omega)
  obtain ⟨v4, e4⟩ := pv_ptr pb (L.la s)
  rw [e4] at c4
  have M1 := (((h.set_nx q (none)).set_la s (some q)).set_ah p none).set_nx p none
  have O1 := (((o0.set (p := ⟨pb, q * 4 + 3, none⟩) (.inl (.inr rfl)) (pv pb (none))).set (p := ⟨b, s * 2 + 4 + 1, none⟩) (.inl (.inl rfl)) (pv pb (some q))).set (p := ⟨pb, p * 4 + 2, none⟩) (.inl (.inr rfl)) (pv pb none)).set (p := ⟨pb, p * 4 + 3, none⟩) (.inl (.inr rfl)) (pv pb none)
  have e1 : L.leave s p = ⟨L.fi, upd L.la s (some q), upd L.ah p none, upd (upd L.nx q (none)) p none⟩ := by unfold Lks.leave; rw [ha, hx]; rfl
  rw [e1]
  have MM := Lib.hid M1; have OO := Lib.hid O1
  have x0 : ¬ p * 4 + 2 = p * 4 + 3 := by omega
  have x0' : ¬ p * 4 + 3 = p * 4 + 2 := by omega
  have x1 : ¬ p * 4 + 2 = q * 4 + 3 := by omega
  have x2 : ¬ q * 4 + 3 = p * 4 + 2 := by omega
  have x3 : ¬ p * 4 + 3 = q * 4 + 3 := by omega
  have x4 : ¬ q * 4 + 3 = p * 4 + 3 := by omega
  have P0 : pv pb none = .pointer none := rfl
  have PQ : pv pb (some q) = .pointer (some ⟨pb, q * 4, none⟩) := rfl
  clear h M1 O1 e1 e3 e4 ha hx o0
  generalize s * 2 + 4 = o at *
  generalize p * 4 = k at *
  generalize q * 4 = k1 at *
  have P0' := Lib.hid P0
  have PQ' := Lib.hid PQ
  clear P0 hs hp PQ hq hqp
  go_enter Try.func58, Try.ntmps58
  go_upto_region 2 with fail
  go_region
  go_wp2
  go_end0
  have R1 := MM.out; have R2 := OO.out
  simp only [P0'.out, PQ'.out] at R1 R2
  refine ⟨rfl, ?_, ?_⟩
  · exact R1.up (up_dr (Below.refl _ _))
  · exact R2.drew
set_option maxHeartbeats 8000000 in
theorem leave11 {b pb cb mb most : Nat} {now n : Int} {T : Nat → Tm} {L : Lks} {w : World} (s p : Nat) (q : Nat) (hq : q < most) (hqp : q ≠ p) (r : Nat) (hr : r < most) (hrp : r ≠ p) (ha : L.ah p = some q) (hx : L.nx p = some r) (h : Mem w b pb cb mb most now n T L) (hs : s < 288) (hp : p < most) :
    Calls Try.prog 58 #[.pointer (some ⟨b, s * 2 + 4, none⟩), .pointer (some ⟨pb, p * 4, none⟩)] w fun e w' => e = .returned (.tuple #[]) ∧ Mem w' b pb cb mb most now n T (L.leave s p) ∧ Only (WF b pb) w w' := by
  have n1 : ¬ b = pb := h.ne
  have n2 : ¬ pb = b := fun e => n1 e.symm
  have c1 := h.c_ah hp; have c2 := h.c_nx hp
  have f1 := h.f_p (j := p * 4 + 2) (by omega); have f2 := h.f_p (j := p * 4 + 3) (by omega)
  rw [ha] at c1; rw [hx] at c2
  replace c1 : w.cell? ⟨pb, p * 4 + 2, none⟩ = some (.pointer (some ⟨pb, q * 4, none⟩)) := c1
  replace c2 : w.cell? ⟨pb, p * 4 + 3, none⟩ = some (.pointer (some ⟨pb, r * 4, none⟩)) := c2
  have o0 : Only (WF b pb) w w := Only.refl _ _
  have c3 := h.c_nx hq; have f3 := h.f_p (j := q * 4 + 3) (by omega)
  obtain ⟨v3, e3⟩ := pv_ptr pb (L.nx q)
  rw [e3] at c3
  have c4 := h.c_ah hr; have f4 := h.f_p (j := r * 4 + 2) (by omega)
  obtain ⟨v4, e4⟩ := pv_ptr pb (L.ah r)
  rw [e4] at c4
  have M1 := (((h.set_nx q (some r)).set_ah r (some q)).set_ah p none).set_nx p none
  have O1 := (((o0.set (p := ⟨pb, q * 4 + 3, none⟩) (.inl (.inr rfl)) (pv pb (some r))).set (p := ⟨pb, r * 4 + 2, none⟩) (.inl (.inr rfl)) (pv pb (some q))).set (p := ⟨pb, p * 4 + 2, none⟩) (.inl (.inr rfl)) (pv pb none)).set (p := ⟨pb, p * 4 + 3, none⟩) (.inl (.inr rfl)) (pv pb none)
  have e1 : L.leave s p = ⟨L.fi, L.la, upd (upd L.ah r (some q)) p none, upd (upd L.nx q (some r)) p none⟩ := by unfold Lks.leave; rw [ha, hx]; rfl
  rw [e1]
  have MM := Lib.hid M1; have OO := Lib.hid O1
  have x0 : ¬ p * 4 + 2 = p * 4 + 3 := by omega
  have x0' : ¬ p * 4 + 3 = p * 4 + 2 := by omega
  have x1 : ¬ p * 4 + 2 = q * 4 + 3 := by omega
  have x2 : ¬ q * 4 + 3 = p * 4 + 2 := by omega
  have x3 : ¬ p * 4 + 3 = q * 4 + 3 := by omega
  have x4 : ¬ q * 4 + 3 = p * 4 + 3 := by omega
  have y1 : ¬ p * 4 + 2 = r * 4 + 2 := by omega
  have y2 : ¬ r * 4 + 2 = p * 4 + 2 := by omega
  have y3 : ¬ p * 4 + 3 = r * 4 + 2 := by omega
  have y4 : ¬ r * 4 + 2 = p * 4 + 3 := by omega
  have z1 : ¬ q * 4 + 3 = r * 4 + 2 := by omega
  have z2 : ¬ r * 4 + 2 = q * 4 + 3 := by omega
  have P0 : pv pb none = .pointer none := rfl
  have PQ : pv pb (some q) = .pointer (some ⟨pb, q * 4, none⟩) := rfl
  have PR : pv pb (some r) = .pointer (some ⟨pb, r * 4, none⟩) := rfl
  clear h M1 O1 e1 e3 e4 ha hx o0
  generalize s * 2 + 4 = o at *
  generalize p * 4 = k at *
  generalize q * 4 = k1 at *
  generalize r * 4 = k2 at *
  have P0' := Lib.hid P0
  have PQ' := Lib.hid PQ
  have PR' := Lib.hid PR
  clear P0 hs hp PQ hq hqp PR hr hrp
  go_enter Try.func58, Try.ntmps58
  go_upto_region 2 with fail
  go_region
  go_upto_region 5 with fail
  go_region
  go_wp2
  go_end0
  have R1 := MM.out; have R2 := OO.out
  simp only [P0'.out, PQ'.out, PR'.out] at R1 R2
  refine ⟨rfl, ?_, ?_⟩
  · exact R1.up (up_dr (up_dr (Below.refl _ _)))
  · exact R2.drew.drew
theorem leaveC {b pb cb mb most : Nat} {now n : Int} {T : Nat → Tm} {L : Lks} {w : World} {S : Nat → List Nat} {s p : Nat} {A B : List Nat} (h : Mem w b pb cb mb most now n T L) (hL : LinkOk S L) (hm : ∀ s x, x ∈ S s → x < most) (hs : s < 288) (e : S s = A ++ p :: B) :
    Calls Try.prog 58 #[.pointer (some ⟨b, s * 2 + 4, none⟩), .pointer (some ⟨pb, p * 4, none⟩)] w fun e w' => e = .returned (.tuple #[]) ∧ Mem w' b pb cb mb most now n T (L.leave s p) ∧ Only (WF b pb) w w' := by
  obtain ⟨ea, ex⟩ := hL.at_ s A p B e
  obtain ⟨pA, pB, _⟩ := nodup_mid (e ▸ hL.nodup s)
  have hp : p < most := hm s p (mid_mem e)
  have inA : ∀ q, q ∈ A → q < most := fun q hq => hm s q (by rw [e]; simp [hq])
  have inB : ∀ q, q ∈ B → q < most := fun q hq => hm s q (by rw [e]; simp [hq])
  cases ha : A.getLast? with
  | none =>
    cases hx : B.head? with
    | none => exact leave00 s p (ea.trans ha) (ex.trans hx) h hs hp
    | some r => exact leave01 s p r (inB r (List.mem_of_head? hx)) (fun e => pB (e ▸ List.mem_of_head? hx)) (ea.trans ha) (ex.trans hx) h hs hp
  | some q =>
    cases hx : B.head? with
    | none => exact leave10 s p q (inA q (last_mem ha)) (fun e => pA (e ▸ last_mem ha)) (ea.trans ha) (ex.trans hx) h hs hp
    | some r => exact leave11 s p q (inA q (last_mem ha)) (fun e => pA (e ▸ last_mem ha)) r (inB r (List.mem_of_head? hx)) (fun e => pB (e ▸ List.mem_of_head? hx)) (ea.trans ha) (ex.trans hx) h hs hp
end Go.Proofs.Ytkgcnmloojnblaa.wlU

namespace Go.Proofs.Ytkgcnmloojnblaa.wlU
open Go.RowKit Go.Shelf Go.Lib Go.Proofs.Ytkgcnmloojnblaa.nb Go.Proofs.Ytkgcnmloojnblaa.wh Go.Proofs.Ytkgcnmloojnblaa.wf
set_option linter.unusedVariables false

theorem Rw.at_ {w : World} {g : Nat} {A B : List Tm} {x : Tm} (h : Rw w g (A ++ x :: B)) {k : Nat} (hk : k = A.length) : (w.cell? ⟨g, k * 2, none⟩ = some (.int .u64 (sz (x.1))) ∧ w.frozen? ⟨g, k * 2, none⟩ = false) ∧ w.cell? ⟨g, k * 2 + 1, none⟩ = some (.int .i64 x.2) ∧ w.frozen? ⟨g, k * 2 + 1, none⟩ = false := by
  subst hk
  have := h.2 A.length (by rw [List.length_append, List.length_cons]; omega)
  rwa [getD_mid] at this
theorem Rw.put {w : World} {g : Nat} {ds : List Tm} (h : Rw w g ds) (k : Nat) (x : Tm) : Rw ((w.setCell ⟨g, k * 2, none⟩ (.int .u64 (sz (x.1)))).setCell ⟨g, k * 2 + 1, none⟩ (.int .i64 x.2)) g (ds.set k x) := by
  refine ⟨by simpa [World.setCell] using h.1, fun j hj => ?_⟩
  rw [List.length_set] at hj
  obtain ⟨⟨c1, f1⟩, c2, f2⟩ := h.2 j hj
  by_cases e : j = k
  · subst e
    have e1 : (ds.set j x).getD j d0 = x := by rw [List.getD_eq_getElem?_getD, List.getElem?_set_self hj]; rfl
    rw [e1]
    refine ⟨⟨?_, ?_⟩, ?_, ?_⟩ <;> simp [go_sem, c1, c2, f1, f2]
  · have e1 : (ds.set k x).getD j d0 = ds.getD j d0 := by rw [List.getD_eq_getElem?_getD, List.getD_eq_getElem?_getD, List.getElem?_set_ne (fun h => e h.symm)]
    rw [e1]
    have n1 : ¬ k * 2 = j * 2 := by omega
    have n2 : ¬ k * 2 + 1 = j * 2 := by omega
    have n3 : ¬ k * 2 = j * 2 + 1 := by omega
    have n4 : ¬ k * 2 + 1 = j * 2 + 1 := by omega
    have m1 : ¬ j * 2 = k * 2 := by omega
    have m2 : ¬ j * 2 = k * 2 + 1 := by omega
    have m3 : ¬ j * 2 + 1 = k * 2 := by omega
    have m4 : ¬ j * 2 + 1 = k * 2 + 1 := by omega
    refine ⟨⟨?_, ?_⟩, ?_, ?_⟩ <;> simp [go_sem, c1, c2, f1, f2, n1, n2, n3, n4, m1, m2, m3, m4, e, Ne.symm e]
theorem Rw.swap {w : World} {g : Nat} {A B C : List Tm} {x y : Tm} (h : Rw w g (A ++ y :: (B ++ x :: C))) {i j : Nat} (hi : i = A.length) (hj : j = (A ++ y :: B).length) :
    Rw ((((w.setCell ⟨g, i * 2, none⟩ (.int .u64 (sz (x.1)))).setCell ⟨g, i * 2 + 1, none⟩ (.int .i64 x.2)).setCell ⟨g, j * 2, none⟩ (.int .u64 (sz (y.1)))).setCell ⟨g, j * 2 + 1, none⟩ (.int .i64 y.2)) g (A ++ x :: (B ++ y :: C))
    ∧ Rw ((((w.setCell ⟨g, j * 2, none⟩ (.int .u64 (sz (y.1)))).setCell ⟨g, j * 2 + 1, none⟩ (.int .i64 y.2)).setCell ⟨g, i * 2, none⟩ (.int .u64 (sz (x.1)))).setCell ⟨g, i * 2 + 1, none⟩ (.int .i64 x.2)) g (A ++ x :: (B ++ y :: C)) := by
  have e1 := (swp_at A y B x C).1
  have e2 := (swp_at A y B x C).2
  have g1 : (A ++ y :: (B ++ x :: C)).getD A.length d0 = y := getD_mid A y _
  have g2 : (A ++ y :: (B ++ x :: C)).getD (A ++ y :: B).length d0 = x := by
    have := getD_mid (A ++ y :: B) x C
    rwa [List.append_assoc, List.cons_append] at this
  unfold swp at e1 e2
  rw [g1, g2] at e1 e2
  refine ⟨?_, ?_⟩
  · have := (h.put i x).put j y
    subst hi hj
    rwa [e1] at this
  · have := (h.put j y).put i x
    subst hi hj
    rwa [e2] at this
structure Two (w : World) (g : Nat) (i j : Nat) (y x : Tm) : Prop where
  lt : g < w.heap.size
  c1 : w.cell? ⟨g, i * 2, none⟩ = some (.int .u64 (sz (y.1)))
  f1 : w.frozen? ⟨g, i * 2, none⟩ = false
  c2 : w.cell? ⟨g, i * 2 + 1, none⟩ = some (.int .i64 y.2)
  f2 : w.frozen? ⟨g, i * 2 + 1, none⟩ = false
  c3 : w.cell? ⟨g, j * 2, none⟩ = some (.int .u64 (sz (x.1)))
  f3 : w.frozen? ⟨g, j * 2, none⟩ = false
  c4 : w.cell? ⟨g, j * 2 + 1, none⟩ = some (.int .i64 x.2)
  f4 : w.frozen? ⟨g, j * 2 + 1, none⟩ = false
theorem Rw.two {w : World} {g : Nat} {A B C : List Tm} {x y : Tm} (h : Rw w g (A ++ y :: (B ++ x :: C))) {i j : Nat} (hi : i = A.length) (hj : j = (A ++ y :: B).length) : Two w g i j y x := by
  obtain ⟨⟨c1, f1⟩, c2, f2⟩ := Rw.at_ h hi
  obtain ⟨⟨c3, f3⟩, c4, f4⟩ := Rw.at_ (show Rw w g ((A ++ y :: B) ++ x :: C) by rw [List.append_assoc]; exact h) hj
  exact ⟨h.1, c1, f1, c2, f2, c3, f3, c4, f4⟩
theorem Two.up {w w' : World} {g i j : Nat} {y x : Tm} (t : Two w g i j y x) (u : Up w w') : Two w' g i j y x :=
  ⟨Nat.lt_of_lt_of_le t.lt u.size, (u.cell (p := ⟨g, _, none⟩) t.lt).trans t.c1, (u.frozen (p := ⟨g, _, none⟩) t.lt).trans t.f1, (u.cell (p := ⟨g, _, none⟩) t.lt).trans t.c2, (u.frozen (p := ⟨g, _, none⟩) t.lt).trans t.f2, (u.cell (p := ⟨g, _, none⟩) t.lt).trans t.c3, (u.frozen (p := ⟨g, _, none⟩) t.lt).trans t.f3, (u.cell (p := ⟨g, _, none⟩) t.lt).trans t.c4, (u.frozen (p := ⟨g, _, none⟩) t.lt).trans t.f4⟩
theorem only_put {F : Nat → Prop} {w w' : World} {g : Nat} (h : Only F w w') (hg : F g) (i j : Nat) (a b c d : Value) : Only F w ((((w'.setCell ⟨g, i * 2, none⟩ a).setCell ⟨g, i * 2 + 1, none⟩ b).setCell ⟨g, j * 2, none⟩ c).setCell ⟨g, j * 2 + 1, none⟩ d) :=
  (((h.set (p := ⟨g, _, none⟩) (.inl hg) _).set (p := ⟨g, _, none⟩) (.inl hg) _).set (p := ⟨g, _, none⟩) (.inl hg) _).set (p := ⟨g, _, none⟩) (.inl hg) _
theorem cmpZ_lt {a b : Int} (h : a < b) : decide (cmpZ a b < 0) = true := by unfold cmpZ; rw [if_pos h]; decide
theorem cmpZ_ge {a b : Int} (h : ¬ a < b) : decide (cmpZ a b < 0) = false := by unfold cmpZ; rw [if_neg h]; split <;> decide
end Go.Proofs.Ytkgcnmloojnblaa.wlU

namespace Go.Proofs.Ytkgcnmloojnblaa.wlU
open Go.RowKit Go.Shelf Go.Lib Go.Proofs.Ytkgcnmloojnblaa.nb Go.Proofs.Ytkgcnmloojnblaa.wh Go.Proofs.Ytkgcnmloojnblaa.wf
set_option linter.unusedVariables false

structure InI (w0 : World) (g : Nat) (P A : List Tm) (x : Tm) (Bs : List Tm) (j : Nat) (wr : World) (A1 A2 : List Tm) : Prop where
  at_ : j = (P ++ A1).length
  all : A1 ++ A2 = A
  gt : ∀ y ∈ A2, x.2 < y.2
  row : Rw wr g (P ++ A1 ++ x :: (A2 ++ Bs))
  only : Only (fun k => k = g) w0 wr
structure OutI (w0 : World) (g : Nat) (P M S : List Tm) (i : Nat) (wr : World) (A D B : List Tm) : Prop where
  at_ : i = (P ++ A).length
  all : M = D ++ B
  st : St A D
  row : Rw wr g (P ++ A ++ (B ++ S))
  only : Only (fun k => k = g) w0 wr
set_option maxHeartbeats 8000000 in
theorem insC (g c n : Nat) (P M S : List Tm) (a b : Nat) (ha : a = P.length) (hb : b = (P ++ M).length) (hn : n = (P ++ (M ++ S)).length) (hm : n < 4611686018427387904) (w : World) (h : Rw w g (P ++ (M ++ S))) :
    Calls Try.prog 63 #[.slice (some ⟨g, 0, none⟩) n c, .int .i64 a, .int .i64 b, .func (.func 51) #[] #[]] w fun e w' => e = .returned (.tuple #[]) ∧ ∃ M', St M' M ∧ Rw w' g (P ++ (M' ++ S)) ∧ Only (fun k => k = g) w w' := by
  have hbn : b ≤ n := by rw [hb, hn]; simp
  have HA := Lib.hid ha; have HB := Lib.hid hb; have HN := Lib.hid hn; have HR := Lib.hid h
  have hab : a ≤ b := by rw [hb, ha]; simp
  clear ha hb hn h
  rcases M with _ | ⟨x0, M0⟩
  · have e : b = a := by rw [HA.out, HB.out]; simp
    have e2 : ¬ a + 1 < b := by omega
    have W0 : IntKind.i64.wrap ((a : Int) + 1) = (a : Int) + 1 := by rw [IntKind.wrap_i64]; omega
    have e1 := Lib.hid e
    clear e
    go_enter Try.func63, Try.ntmps63
    go_wp2_with fail
    go_loopw [8] (fun v wr => v = .int .i64 (a + 1 : Nat) ∧ wr = w) (fun _ _ => 0)
    case atStart => exact ⟨by go_num, rfl⟩
    case round =>
      obtain ⟨rfl, rfl⟩ := hrel
      go_wp2
      go_end0
      exact ⟨rfl, [], St.refl up2_nil, HR.out, Only.refl _ _⟩
  have W0 : IntKind.i64.wrap ((a : Int) + 1) = (a : Int) + 1 := by rw [IntKind.wrap_i64]; omega
  go_enter Try.func63, Try.ntmps63
  go_wp2_with fail
  go_loopw [8] (fun v wr => ∃ (i : Nat) (A D B : List Tm), v = .int .i64 i ∧ OutI w g P (x0 :: M0) S i wr A D B) (fun v _ => n - (intOf v).toNat)
  case atStart => exact ⟨a + 1, [x0], [x0], M0, by go_num, ⟨by rw [HA.out]; simp, rfl, St.refl (up2_one _), by simpa using HR.out, Only.refl _ _⟩⟩
  case round =>
  clear W0
  obtain ⟨i, A, D, B, rfl, q⟩ := hrel
  have I := Lib.hid q
  have hlen : b = i + B.length := by rw [HB.out, q.at_, q.all]; have := q.st.len; simp; omega
  have hai : a ≤ i := by rw [HA.out, q.at_]; simp
  clear q
  rcases B with _ | ⟨x, B'⟩
  · have hib : ¬ i < b := by rw [hlen]; simp
    clear hlen
    go_wp2
    go_end0
    exact ⟨rfl, A, by have := I.out.st; rwa [show D = x0 :: M0 by rw [I.out.all, List.append_nil]] at this, by simpa using I.out.row, I.out.only⟩
  have hib : i < b := by rw [hlen]; simp
  have L0 := Lib.hid hlen
  clear hlen
  go_wp2_with fail
  go_loopw [9] (fun v wq => ∃ (j : Nat) (A1 A2 : List Tm), v = .int .i64 j ∧ InI w g P A x (B' ++ S) j wq A1 A2) (fun v _ => (intOf v).toNat)
  case atStart => exact ⟨i, A, [], rfl, ⟨I.out.at_, List.append_nil A, (fun y hy => absurd hy List.not_mem_nil), I.out.row, I.out.only⟩⟩
  case round =>
  obtain ⟨j, A1, A2, rfl, q⟩ := hrel
  have J := Lib.hid q
  have hji : j ≤ i := by rw [q.at_, I.out.at_, ← q.all]; simp
  have haj : a ≤ j := by rw [q.at_, HA.out]; simp
  have OUT : (∀ y ∈ A1, ¬ x.2 < y.2) → OutI w g P (x0 :: M0) S (i + 1) wr (A1 ++ x :: A2) (D ++ [x]) B' := fun hA1 => by
    have hu : Up2 (A1 ++ A2) := by rw [q.all]; exact I.out.st.1
    refine ⟨by rw [I.out.at_, ← q.all]; simp; omega, by rw [I.out.all]; simp, (put_right hu hA1 q.gt).trans (fun t => ?_), ?_, q.only⟩
    · rw [q.all, ft_app, ft_app, I.out.st.2 t]
    · have := q.row
      simpa using this
  have OO := Lib.hid OUT
  clear OUT
  have W1 : IntKind.i64.wrap ((i : Int) + 1) = (i : Int) + 1 := by rw [IntKind.wrap_i64]; omega
  rcases List.eq_nil_or_concat A1 with rfl | ⟨A1', y, rfl⟩
  · have hj : ¬ a < j := by rw [HA.out, q.at_]; simp
    clear q
    go_upto_region 4 with fail
    refine wp_region_kin (by kernel_rfl) (by kernel_rfl) ?_
    repeat (go_big_quiet_step (fail))
    refine wpQuiet_nil ?_
    rintro w9 ⟨t9, e9⟩
    have uu := t9.below
    rw [← e9] at uu
    clear e9 t9
    go_wp2
    go_roundw
    case rel => exact ⟨i + 1, [] ++ x :: A2, D ++ [x], B', by go_num, let o := OO.out (fun y hy => absurd hy List.not_mem_nil); ⟨o.at_, o.all, o.st, o.row.up uu, o.only.on uu⟩⟩
    case measure => simp [RowKit.intOf]; omega
  obtain ⟨k, hk⟩ : ∃ k, k = (P ++ A1').length := ⟨_, rfl⟩
  have hjk : j = k + 1 := by rw [q.at_, hk]; simp; omega
  have hk' := Lib.hid hk
  have hjk' := Lib.hid hjk
  have h3 : a < j := by rw [hjk, hk, HA.out]; simp; omega
  have h4 : j < n := by omega
  have h5 : k < n := by omega
  have T := Lib.hid ((show Rw wr g ((P ++ A1') ++ y :: ([] ++ x :: (A2 ++ (B' ++ S)))) by have := q.row; simpa using this).two (i := k) (j := j) hk (by rw [hjk, hk]; simp; omega))
  have c1 := T.out.c1; have c2 := T.out.c2; have c3 := T.out.c3; have c4 := T.out.c4
  have W2 : IntKind.i64.wrap ((j : Int) - 1) = (k : Int) := by rw [IntKind.wrap_i64]; omega
  have hkj : k < j := by omega
  clear q hjk hk
  have k1 := Kin.cell c1; have k2 := Kin.cell c2; have k3 := Kin.cell c3; have k4 := Kin.cell c4
  by_cases hlt : x.2 < y.2
  case neg =>
    have hc := cmpZ_ge hlt
    clear T c1 c2 c3 c4
    go_upto_region 4 with fail
    refine wp_region_kin (by kernel_rfl) (by kernel_rfl) ?_
    repeat (go_big_quiet_step ((go_at_call 51; exact Kin.call _ (cmpC _ _ _ _ _))))
    refine wpQuiet_nil ?_
    rintro w9 ⟨t9, e9⟩
    have uu := t9.below
    rw [← e9] at uu
    clear e9 t9
    clear k1 k2 k3 k4
    go_wp2
    go_roundw
    case rel => exact ⟨i + 1, A1'.concat y ++ x :: A2, D ++ [x], B', by go_num, let o := OO.out (fun z hz => by
          have hu : Up2 ((A1' ++ [y]) ++ A2) := by rw [← List.concat_eq_append, J.out.all]; exact I.out.st.1
          have hu2 := (up2_app.1 (up2_app.1 hu).1).2.2
          rw [List.concat_eq_append] at hz
          rcases List.mem_append.1 hz with hz | hz
          · have := hu2 z hz y (List.mem_singleton.2 rfl); omega
          · rw [List.mem_singleton.1 hz]; exact hlt); ⟨o.at_, o.all, o.st, o.row.up uu, o.only.on uu⟩⟩
    case measure => simp [RowKit.intOf]; omega
  have hc := cmpZ_lt hlt
  have HL := Lib.hid hlt
  clear hlt
  go_upto_region 4 with fail
  refine wp_region_kin (by kernel_rfl) (by kernel_rfl) ?_
  repeat (go_big_quiet_step ((go_at_call 51; exact Kin.call _ (cmpC _ _ _ _ _))))
  refine wpQuiet_nil ?_
  rintro w9 ⟨t9, e9⟩
  have uu := t9.below
  rw [← e9] at uu
  clear e9 t9
  clear k1 k2 k3 k4 c1 c2 c3 c4
  have T2 := T.out.up uu
  have c1 := T2.c1; have c2 := T2.c2; have c3 := T2.c3; have c4 := T2.c4; have f1 := T2.f1; have f2 := T2.f2; have f3 := T2.f3; have f4 := T2.f4
  have RS := Lib.hid (((show Rw wr g ((P ++ A1') ++ y :: ([] ++ x :: (A2 ++ (B' ++ S)))) by have := J.out.row; simpa using this).up uu).swap (i := k) (j := j) hk'.out (by rw [hjk'.out, hk'.out]; simp; omega)).2
  have OS := Lib.hid (only_put (J.out.only.on uu) (g := g) rfl j k (.int .u64 (sz (y.1))) (.int .i64 y.2) (.int .u64 (sz (x.1))) (.int .i64 x.2))
  clear T2
  go_upto_region 6 with fail
  go_region
  generalize ((((w9.setCell ⟨g, j * 2, none⟩ (.int .u64 (sz (y.1)))).setCell ⟨g, j * 2 + 1, none⟩ (.int .i64 y.2)).setCell ⟨g, k * 2, none⟩ (.int .u64 (sz (x.1)))).setCell ⟨g, k * 2 + 1, none⟩ (.int .i64 x.2)) = ws at RS OS ⊢
  clear c1 c2 c3 c4 f1 f2 f3 f4
  go_wp2
  go_roundw
  case rel => exact ⟨k, A1', y :: A2, rfl, ⟨hk'.out, by rw [← J.out.all]; simp, fun z hz => by
      rcases List.mem_cons.1 hz with rfl | hz
      · exact HL.out
      · exact J.out.gt z hz, by have := RS.out.up (up_dr (Below.refl _ _)); simpa using this, OS.out.drew⟩⟩
  case measure => simp [RowKit.intOf]; have := hjk'.out; omega
end Go.Proofs.Ytkgcnmloojnblaa.wlU

namespace Go.Proofs.Ytkgcnmloojnblaa.wlU
open Go.RowKit Go.Shelf Go.Lib Go.Proofs.Ytkgcnmloojnblaa.nb Go.Proofs.Ytkgcnmloojnblaa.wh Go.Proofs.Ytkgcnmloojnblaa.wf
set_option linter.unusedVariables false

structure SwI (w0 : World) (g : Nat) (P X Q Y S : List Tm) (i : Nat) (wr : World) (X1 X2 Y1 Y2 : List Tm) : Prop where
  x : X = X1 ++ X2
  y : Y = Y1 ++ Y2
  lx : X1.length = i
  ly : Y1.length = i
  row : Rw wr g (P ++ (Y1 ++ (X2 ++ (Q ++ (X1 ++ (Y2 ++ S))))))
  only : Only (fun k => k = g) w0 wr
set_option maxHeartbeats 8000000 in
theorem swapRC (g c n : Nat) (P X Q Y S : List Tm) (a b m : Nat) (ha : a = P.length) (hb : b = (P ++ (X ++ Q)).length) (hx : X.length = m) (hy : Y.length = m) (hn : n = (P ++ (X ++ (Q ++ (Y ++ S)))).length) (hm : n < 4611686018427387904) (w : World) (h : Rw w g (P ++ (X ++ (Q ++ (Y ++ S))))) :
    Calls Try.prog 68 #[.slice (some ⟨g, 0, none⟩) n c, .int .i64 a, .int .i64 b, .int .i64 m, .func (.func 51) #[] #[]] w fun e w' => e = .returned (.tuple #[]) ∧ Rw w' g (P ++ (Y ++ (Q ++ (X ++ S)))) ∧ Only (fun k => k = g) w w' := by
  have hbm : b + m ≤ n := by rw [hb, hn, ← hy]; simp; omega
  have ham : a + m ≤ b := by rw [ha, hb, ← hx]; simp
  have HA := Lib.hid ha; have HB := Lib.hid hb; have HX := Lib.hid hx; have HY := Lib.hid hy; have HR := Lib.hid h
  clear ha hb hx hy hn h
  go_enter Try.func68, Try.ntmps68
  go_wp2_with fail
  go_loopw [10] (fun v wr => ∃ (i : Nat) (X1 X2 Y1 Y2 : List Tm), i ≤ m ∧ v = .int .i64 i ∧ SwI w g P X Q Y S i wr X1 X2 Y1 Y2) (fun v _ => m - (intOf v).toNat)
  case atStart => exact ⟨0, [], X, [], Y, Nat.zero_le _, rfl, ⟨rfl, rfl, rfl, rfl, HR.out, Only.refl _ _⟩⟩
  case round =>
  obtain ⟨i, X1, X2, Y1, Y2, him, rfl, q⟩ := hrel
  have I := Lib.hid q
  have hxl : X2.length = m - i := by have := HX.out; rw [q.x, List.length_append, q.lx] at this; omega
  have hyl : Y2.length = m - i := by have := HY.out; rw [q.y, List.length_append, q.ly] at this; omega
  clear q
  by_cases hlt : i < m
  case neg =>
    have e := Lib.hid (show X2 = [] ∧ Y2 = [] from ⟨List.eq_nil_of_length_eq_zero (by omega), List.eq_nil_of_length_eq_zero (by omega)⟩)
    clear hxl hyl
    go_wp2
    go_end0
    obtain ⟨e1, e2⟩ := e.out
    subst e1 e2
    refine ⟨rfl, ?_, I.out.only⟩
    rw [I.out.x, I.out.y]
    have := I.out.row
    simpa using this
  obtain ⟨x, X2', rfl⟩ := List.exists_cons_of_length_pos (l := X2) (by omega)
  obtain ⟨y, Y2', rfl⟩ := List.exists_cons_of_length_pos (l := Y2) (by omega)
  clear hxl hyl
  obtain ⟨p, hp⟩ : ∃ p, p = a + i := ⟨_, rfl⟩
  obtain ⟨r, hr⟩ : ∃ r, r = b + i := ⟨_, rfl⟩
  have hpr : p < r := by omega
  have hrn : r < n := by omega
  have hpn : p < n := by omega
  have W1 : IntKind.i64.wrap ((a : Int) + i) = (p : Int) := by rw [IntKind.wrap_i64]; omega
  have W2 : IntKind.i64.wrap ((b : Int) + i) = (r : Int) := by rw [IntKind.wrap_i64]; omega
  have W3 : IntKind.i64.wrap ((i : Int) + 1) = (i : Int) + 1 := by rw [IntKind.wrap_i64]; omega
  have P1 := Lib.hid (show p = (P ++ Y1).length by rw [hp, HA.out, List.length_append, I.out.ly])
  have P2 := Lib.hid (show r = ((P ++ Y1) ++ x :: (X2' ++ (Q ++ X1))).length by rw [hr, HB.out]; have e1 := I.out.x; have e2 := I.out.lx; have e3 := I.out.ly; rw [e1]; simp; omega)
  have R0 := Lib.hid (show Rw wr g ((P ++ Y1) ++ x :: ((X2' ++ (Q ++ X1)) ++ y :: (Y2' ++ S))) by have := I.out.row; simpa using this)
  clear hp hr
  have T := R0.out.two P1.out P2.out
  have c1 := T.c1; have c2 := T.c2; have c3 := T.c3; have c4 := T.c4; have f1 := T.f1; have f2 := T.f2; have f3 := T.f3; have f4 := T.f4
  have RS := Lib.hid ((R0.out.swap P1.out P2.out).1)
  have OS := Lib.hid (only_put I.out.only (g := g) rfl p r (.int .u64 (sz (y.1))) (.int .i64 y.2) (.int .u64 (sz (x.1))) (.int .i64 x.2))
  clear T
  go_upto_region 3 with fail
  go_region
  generalize ((((wr.setCell ⟨g, p * 2, none⟩ (.int .u64 (sz (y.1)))).setCell ⟨g, p * 2 + 1, none⟩ (.int .i64 y.2)).setCell ⟨g, r * 2, none⟩ (.int .u64 (sz (x.1)))).setCell ⟨g, r * 2 + 1, none⟩ (.int .i64 x.2)) = ws at RS OS ⊢
  clear c1 c2 c3 c4 f1 f2 f3 f4
  go_wp2
  go_roundw
  case rel => exact ⟨i + 1, X1 ++ [x], X2', Y1 ++ [y], Y2', by omega, by go_num, ⟨by rw [I.out.x]; simp, by rw [I.out.y]; simp, by rw [List.length_append, I.out.lx]; rfl, by rw [List.length_append, I.out.ly]; rfl, by have := RS.out.up (up_dr (Below.refl _ _)); simpa using this, OS.out.drew⟩⟩
  case measure => simp [RowKit.intOf]; omega
end Go.Proofs.Ytkgcnmloojnblaa.wlU

namespace Go.Proofs.Ytkgcnmloojnblaa.wlU
open Go.RowKit Go.Shelf Go.Lib Go.Proofs.Ytkgcnmloojnblaa.nb Go.Proofs.Ytkgcnmloojnblaa.wh Go.Proofs.Ytkgcnmloojnblaa.wf
set_option linter.unusedVariables false

structure RoI (w0 : World) (g : Nat) (P Z S : List Tm) (m i j : Nat) (wr : World) (DL U W DR : List Tm) : Prop where
  at_ : m = (P ++ (DL ++ U)).length
  lu : U.length = i
  lw : W.length = j
  all : DL ++ (W ++ U) ++ DR = Z
  row : Rw wr g (P ++ (DL ++ (U ++ (W ++ (DR ++ S)))))
  only : Only (fun k => k = g) w0 wr
set_option maxHeartbeats 8000000 in
theorem rotC (g c n : Nat) (P X Y S : List Tm) (a m b : Nat) (ha : a = P.length) (hm1 : m = (P ++ X).length) (hb : b = (P ++ (X ++ Y)).length) (hx : X ≠ []) (hy : Y ≠ []) (hn : n = (P ++ (X ++ (Y ++ S))).length) (hm : n < 4611686018427387904) (w : World) (h : Rw w g (P ++ (X ++ (Y ++ S)))) :
    Calls Try.prog 66 #[.slice (some ⟨g, 0, none⟩) n c, .int .i64 a, .int .i64 m, .int .i64 b, .func (.func 51) #[] #[]] w fun e w' => e = .returned (.tuple #[]) ∧ Rw w' g (P ++ (Y ++ (X ++ S))) ∧ Only (fun k => k = g) w w' := by
  have hx1 := List.length_pos_iff.2 hx
  have hy1 := List.length_pos_iff.2 hy
  have hbn : b ≤ n := by rw [hb, hn]; simp
  obtain ⟨i0, hi0⟩ : ∃ i0, i0 = X.length := ⟨_, rfl⟩
  obtain ⟨j0, hj0⟩ : ∃ j0, j0 = Y.length := ⟨_, rfl⟩
  have e1 : m = a + i0 := by rw [hm1, ha, hi0]; simp
  have e2 : b = m + j0 := by rw [hm1, hb, hj0]; simp; omega
  have W1 : IntKind.i64.wrap ((m : Int) - a) = (i0 : Int) := by rw [IntKind.wrap_i64]; omega
  have W2 : IntKind.i64.wrap ((b : Int) - m) = (j0 : Int) := by rw [IntKind.wrap_i64]; omega
  have hi1 : 0 < i0 := by omega
  have hj1 : 0 < j0 := by omega
  have hmn : m + j0 ≤ n := by omega
  have hmi : i0 ≤ m := by omega
  have HR := Lib.hid (show RoI w g P (Y ++ X) S m i0 j0 w [] X Y [] from ⟨by rw [hm1]; rfl, hi0.symm, hj0.symm, by simp, by simpa using h, Only.refl _ _⟩)
  have HN := Lib.hid hn
  clear ha hm1 hb hx hy hn h hx1 hy1 e1 e2 hi0 hj0
  go_enter Try.func66, Try.ntmps66
  go_wp2_with fail
  go_loopw [10, 11] (fun v u wr => ∃ (i j : Nat) (DL U W DR : List Tm), v = .int .i64 i ∧ u = .int .i64 j ∧ 0 < i ∧ 0 < j ∧ i ≤ m ∧ m + j ≤ n ∧ RoI w g P (Y ++ X) S m i j wr DL U W DR) (fun v u _ => (intOf v).toNat + (intOf u).toNat)
  case atStart => exact ⟨i0, j0, [], X, Y, [], rfl, rfl, hi1, hj1, hmi, hmn, HR.out⟩
  case round =>
  clear W1 W2 hi1 hj1 hmn hmi HR hbn
  obtain ⟨i, j, DL, U, W, DR, rfl, rfl, hi, hj, him, hjm, q⟩ := hrel
  have I := Lib.hid q
  have hnn : n = ((P ++ DL) ++ (U ++ (W ++ (DR ++ S)))).length := by
    have e := congrArg List.length q.all
    rw [HN.out]; simp at e ⊢; omega
  have NN := Lib.hid hnn
  have A1 := Lib.hid (show m - i = (P ++ DL).length by rw [q.at_, ← q.lu]; simp; omega)
  clear q hnn
  obtain ⟨p, hp⟩ : ∃ p, p = m - i := ⟨_, rfl⟩
  have PP := Lib.hid hp
  have W3 : IntKind.i64.wrap ((m : Int) - i) = (p : Int) := by rw [IntKind.wrap_i64]; omega
  clear hp
  rcases Nat.lt_trichotomy i j with hc | hc | hc
  · obtain ⟨r, hr⟩ : ∃ r, r = m + j - i := ⟨_, rfl⟩
    have W4 : IntKind.i64.wrap ((m : Int) + j) = (m : Int) + j := by rw [IntKind.wrap_i64]; omega
    have W5 : IntKind.i64.wrap ((m : Int) + j - i) = (r : Int) := by rw [IntKind.wrap_i64]; omega
    have W6 : IntKind.i64.wrap ((j : Int) - i) = ((j - i : Nat) : Int) := by rw [IntKind.wrap_i64]; omega
    have hne : ¬ (i : Int) = j := by omega
    have hne2 : ¬ i = j := by omega
    have hle : ¬ j < i := by omega
    have CC := Lib.hid (show Calls Try.prog 68 #[.slice (some ⟨g, 0, none⟩) n c, .int .i64 p, .int .i64 r, .int .i64 i, .func (.func 51) #[] #[]] wr fun e w' => e = .returned (.tuple #[]) ∧ RoI w g P (Y ++ X) S m i (j - i) w' DL (W.drop (j - i)) (W.take (j - i)) (U ++ DR) from by
      have lw := I.out.lw
      have lu := I.out.lu
      have ed : W.take (j - i) ++ W.drop (j - i) = W := List.take_append_drop ..
      have l1 : (W.take (j - i)).length = j - i := by rw [List.length_take]; omega
      have l2 : (W.drop (j - i)).length = i := by rw [List.length_drop]; omega
      refine (swapRC g c n (P ++ DL) U (W.take (j - i)) (W.drop (j - i)) (DR ++ S) p r i (by rw [PP.out]; exact A1.out) (by rw [hr, I.out.at_]; simp [l1]; omega) lu l2 (by rw [NN.out]; simp; omega) hm wr (by rw [show W.take (j - i) ++ (W.drop (j - i) ++ (DR ++ S)) = W ++ (DR ++ S) by rw [← List.append_assoc, ed]]; simpa using I.out.row)).mono ?_
      rintro e w' ⟨rfl, h1, h2⟩
      refine ⟨rfl, ⟨by rw [I.out.at_]; simp [l2, lu], l2, l1, ?_, by simpa using h1, I.out.only.trans h2 (fun k => .inl)⟩⟩
      rw [← I.out.all]; conv => rhs; rw [← ed]
      simp [List.append_assoc])
    clear hr
    go_wp2_with fail
    refine CC.out.mono ?_
    rintro e w1 ⟨rfl, q1⟩
    have Q1 := Lib.hid q1
    clear q1
    go_wp2
    go_roundw
    case rel => exact ⟨i, j - i, _, _, _, _, rfl, by go_num, hi, by omega, him, by omega, Q1.out⟩
    case measure => simp [RowKit.intOf]; omega
  · subst hc
    have CC := Lib.hid (swapRC g c n (P ++ DL) U [] W (DR ++ S) p m i (by rw [PP.out]; exact A1.out) (by have := I.out.at_; simpa using this) I.out.lu I.out.lw (by have := NN.out; simpa using this) hm wr (by have := I.out.row; simpa using this))
    go_wp2_with fail
    refine CC.out.mono ?_
    rintro e w1 ⟨rfl, q1, q2⟩
    have Q1 := Lib.hid q1
    have Q2 := Lib.hid q2
    clear q1 q2
    go_wp2
    go_end0
    refine ⟨rfl, ?_, I.out.only.trans Q2.out (fun k => .inl)⟩
    have := Q1.out
    have e := I.out.all
    have e2 : P ++ (Y ++ (X ++ S)) = P ++ ((DL ++ (W ++ U) ++ DR) ++ S) := by rw [e]; simp
    rw [e2]; simpa using this
  · have W6 : IntKind.i64.wrap ((i : Int) - j) = ((i - j : Nat) : Int) := by rw [IntKind.wrap_i64]; omega
    have hne : ¬ (i : Int) = j := by omega
    have hne2 : ¬ i = j := by omega
    have CC := Lib.hid (show Calls Try.prog 68 #[.slice (some ⟨g, 0, none⟩) n c, .int .i64 p, .int .i64 m, .int .i64 j, .func (.func 51) #[] #[]] wr fun e w' => e = .returned (.tuple #[]) ∧ RoI w g P (Y ++ X) S m (i - j) j w' (DL ++ W) (U.drop j) (U.take j) DR from by
      have lw := I.out.lw
      have lu := I.out.lu
      have ed : U.take j ++ U.drop j = U := List.take_append_drop ..
      have l1 : (U.take j).length = j := by rw [List.length_take]; omega
      have l2 : (U.drop j).length = i - j := by rw [List.length_drop]; omega
      refine (swapRC g c n (P ++ DL) (U.take j) (U.drop j) W (DR ++ S) p m j (by rw [PP.out]; exact A1.out) (by rw [I.out.at_]; simp [l1, l2]) l1 lw (by rw [NN.out]; simp <;> omega) hm wr (by rw [show U.take j ++ (U.drop j ++ (W ++ (DR ++ S))) = U ++ (W ++ (DR ++ S)) by rw [← List.append_assoc, ed]]; simpa using I.out.row)).mono ?_
      rintro e w' ⟨rfl, h1, h2⟩
      refine ⟨rfl, ⟨by rw [I.out.at_]; simp [l2, lw, lu]; omega, l2, l1, ?_, by simpa using h1, I.out.only.trans h2 (fun k => .inl)⟩⟩
      rw [← I.out.all]; conv => rhs; rw [← ed]
      simp [List.append_assoc])
    go_wp2_with fail
    refine CC.out.mono ?_
    rintro e w1 ⟨rfl, q1⟩
    have Q1 := Lib.hid q1
    clear q1
    go_wp2
    go_roundw
    case rel => exact ⟨i - j, j, _, _, _, _, by go_num, rfl, by omega, hj, by omega, hjm, Q1.out⟩
    case measure => simp [RowKit.intOf]; omega
end Go.Proofs.Ytkgcnmloojnblaa.wlU
