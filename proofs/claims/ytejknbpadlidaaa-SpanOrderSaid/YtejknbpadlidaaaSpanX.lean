/- Package span's fourth law: the plain mathematics of adding and cutting in another order, and of how many numbers there are. -/
import Derived.Test.YtejknbpadlidaaaSpanW
namespace Go.Proofs.Ytejknbpadlidaaa.sp
open Go.RowKit Go.Shelf Go.Lib Go.Sort Go.Proofs.Ytejknbpadlidaaa.spm
set_option linter.unusedVariables false

theorem keep_t (xs : List Sp) (x : Sp) (n : Int) : keepB xs x true n = (hasB xs n || inB x n) := by
  unfold keepB; cases hasB xs n <;> cases inB x n <;> rfl
theorem keep_f (xs : List Sp) (x : Sp) (n : Int) : keepB xs x false n = (hasB xs n && !inB x n) := by
  unfold keepB; cases hasB xs n <;> cases inB x n <;> rfl
theorem set_eq (cs bs : List Sp) (a b : Int) (add : Bool) (m : Nat) (hm : cs.length = m) (hc : Canon (-1) cs) (hU : U cs) (hl : m < 256) (ha : 0 ≤ a) (hb : b ≤ 18446744073709551615) (hab : a ≤ b) (hbs : Canon (-1) bs)
    (h : ∀ n, keepB cs (a, b) add n = hasB bs n) : setL cs (a, b) add = (bs, 0) := by
  obtain ⟨ys, h1, h2, h3, h4, h5, h6⟩ := stepL cs a b add hc hU (by omega) ha hb hab
  have : ys = bs := can_ext h2 hbs (fun n => (h6 n).trans (by rw [h n, hasB_iff]))
  rw [h1, this]
theorem cov_of (bs : List Sp) (a b : Int) (hc : Canon (-1) bs) (hmay : mayB bs = true) (hab : a ≤ b) (h : ∀ n, inB (a, b) n = true → hasB bs n = true) : coversL bs a b = true := by
  unfold coversL
  rw [hmay]
  by_cases he : b ≤ a
  · simp [hab, he]
  · obtain ⟨s, hs, h1, h2⟩ := (hasB_iff _ _).1 (h a ((inB_iff _ _).2 ⟨Int.le_refl _, by show a < b; omega⟩))
    have h3 : b ≤ s.2 := Classical.byContradiction fun hn => (hc.end_ hs).1 ((hasB_iff _ _).1 (h s.2 ((inB_iff _ _).2 ⟨by show a ≤ s.2; omega, by show s.2 < b; omega⟩)))
    have h4 : covB bs a b = true := List.any_eq_true.2 ⟨s, hs, by simp; omega⟩
    simp [h4, hab]
theorem cnt_or {α : Type} (p q : α → Bool) : ∀ (l : List α), (∀ i, ¬ (p i = true ∧ q i = true)) → l.countP (fun i => p i || q i) = l.countP p + l.countP q
  | [], _ => rfl
  | x :: r, h => by
    have ih := cnt_or p q r h
    have hx := h x
    rw [List.countP_cons, List.countP_cons, List.countP_cons, ih]
    cases hp : p x <;> cases hq : q x
    · simp
    · simp; omega
    · simp; omega
    · exact absurd ⟨hp, hq⟩ hx
theorem cnt_in (a b : Int) (ha : 0 ≤ a) (hab : a ≤ b) : ∀ (E : Nat), (((List.range E).countP (fun (i : Nat) => inB (a, b) i) : Nat) : Int) = max 0 (min b E - a)
  | 0 => by simp; omega
  | E + 1 => by
    have ih := cnt_in a b ha hab E
    rw [List.range_succ, List.countP_append, List.countP_cons, List.countP_nil]
    by_cases h : inB (a, b) E = true
    · have h1 := (inB_iff _ _).1 h
      simp only at h1
      rw [if_pos h]
      omega
    · rw [if_neg h]
      have h1 : ¬ (a ≤ (E : Int) ∧ (E : Int) < b) := fun h1 => h ((inB_iff _ _).2 h1)
      omega
theorem has_cons (x : Sp) (r : List Sp) (n : Int) : hasB (x :: r) n = (inB x n || hasB r n) := rfl
theorem sum_cnt (E : Nat) : ∀ {xs : List Sp} {p : Int}, (-1) ≤ p → Canon p xs → (∀ s, s ∈ xs → s.2 ≤ E) → sumI xs = (((List.range E).countP (fun (i : Nat) => hasB xs i) : Nat) : Int)
  | [], _, _, _, _ => by
    have : (List.range E).countP (fun (i : Nat) => hasB [] i) = 0 := List.countP_eq_zero.2 (fun i _ => by simp [hasB])
    rw [this]; rfl
  | x :: r, p, hp, ⟨a, b, c⟩, h => by
    have ih := sum_cnt E (xs := r) (p := x.2) (by omega) c (fun s hs => h s (List.mem_cons_of_mem _ hs))
    have h1 := cnt_or (fun (i : Nat) => inB x i) (fun (i : Nat) => hasB r i) (List.range E) (fun i ⟨h1, h2⟩ => by
      have h3 := (inB_iff _ _).1 h1
      have h4 := c.mem_lo ((hasB_iff _ _).1 h2)
      omega)
    have h2 := cnt_in x.1 x.2 (by omega) (by omega) E
    have hx := h x List.mem_cons_self
    have h3 : (List.range E).countP (fun (i : Nat) => hasB (x :: r) i) = (List.range E).countP (fun (i : Nat) => inB x i || hasB r i) := rfl
    rw [sumI, ih, h3, h1]
    have h4 : (List.range E).countP (fun (i : Nat) => inB (x.1, x.2) i) = (List.range E).countP (fun (i : Nat) => inB x i) := rfl
    rw [h4] at h2
    omega
theorem sum_add (ks bs : List Sp) (a b : Int) (hk : Canon (-1) ks) (hb : Canon (-1) bs) (hkU : U ks) (hbU : U bs) (ha : 0 ≤ a) (hab : a ≤ b) (hbM : b ≤ 18446744073709551615)
    (h : ∀ n, hasB bs n = (hasB ks n || inB (a, b) n)) (hd : ∀ n, ¬ (hasB ks n = true ∧ inB (a, b) n = true)) : sumI bs = sumI ks + (b - a) := by
  obtain ⟨E, hE⟩ : ∃ E : Nat, (E : Int) = 18446744073709551615 := ⟨18446744073709551615, rfl⟩
  have e1 := sum_cnt E (by omega) hb (fun s hs => by have := hbU s hs; omega)
  have e2 := sum_cnt E (by omega) hk (fun s hs => by have := hkU s hs; omega)
  have e3 := cnt_or (fun (i : Nat) => hasB ks i) (fun (i : Nat) => inB (a, b) i) (List.range E) (fun i => hd i)
  have e4 := cnt_in a b ha hab E
  have e5 : (fun (i : Nat) => hasB bs i) = (fun (i : Nat) => hasB ks i || inB (a, b) i) := funext fun i => h i
  rw [e5, e3] at e1
  omega
/-- what the law asks of the lists that it makes -/
theorem orderF (zs za zb zc zk : List Sp) (xa xb ya yb : Int) (mc mk : Nat) (hx : 0 ≤ xa ∧ xa ≤ 18446744073709551615 ∧ 0 ≤ xb ∧ xb ≤ 18446744073709551615) (hy : 0 ≤ ya ∧ ya ≤ 18446744073709551615 ∧ 0 ≤ yb ∧ yb ≤ 18446744073709551615)
    (hxx : xa ≤ xb) (hyy : ya ≤ yb) (hz : Canon (-1) zs) (hza : Canon (-1) za) (hzb : Canon (-1) zb) (hzc : Canon (-1) zc) (hzk : Canon (-1) zk) (hUb : U zb) (hUc : U zc) (hUk : U zk) (hmb : mayB zb = true)
    (hlc : zc.length = mc) (hlk : zk.length = mk) (hmc : mc < 256) (hmk : mk < 256)
    (ha : ∀ n, hasB za n = keepB zs (xa, xb) true n) (hb : ∀ n, hasB zb n = keepB za (ya, yb) true n) (hc : ∀ n, hasB zc n = keepB zs (ya, yb) true n) (hk : ∀ n, hasB zk n = keepB zb (xa, xb) false n) :
    Hid (setL zc (xa, xb) true = (zb, 0)) ∧ Hid (setL zk (xa, xb) true = (zb, 0)) ∧ Hid (coversL zb xa xb = true) ∧ Hid (coversL zb ya yb = true) ∧ Hid (∀ (q : Nat) (z1 z2 : Int), zs[q]? = some (z1, z2) → coversL zb z1 z2 = true) ∧
      Hid (xa < xb → hasB zk xa = false) ∧ ∃ lk lb : Int, Hid (sumI zk = lk) ∧ Hid (sumI zb = lb) ∧ IntKind.u64.wrap (xb - xa) = xb - xa ∧ IntKind.u64.wrap (lk + (xb - xa)) = lb := by
  have hb' : ∀ n, hasB zb n = (hasB zs n || inB (xa, xb) n || inB (ya, yb) n) := fun n => by rw [hb, keep_t, ha, keep_t]
  have hk' : ∀ n, hasB zk n = (hasB zb n && !inB (xa, xb) n) := fun n => by rw [hk, keep_f]
  have hkb : ∀ n, hasB zb n = (hasB zk n || inB (xa, xb) n) := fun n => by
    rw [hk', hb']; cases hasB zs n <;> cases inB (xa, xb) n <;> cases inB (ya, yb) n <;> rfl
  refine ⟨?_, ?_, ?_, ?_, ?_, ?_, sumI zk, sumI zb, rfl, rfl, ?_, ?_⟩
  · exact set_eq zc zb xa xb true mc hlc hzc hUc hmc hx.1 hx.2.2.2 hxx hzb (fun n => by
      rw [keep_t, hc, keep_t, hb']; cases hasB zs n <;> cases inB (xa, xb) n <;> cases inB (ya, yb) n <;> rfl)
  · exact set_eq zk zb xa xb true mk hlk hzk hUk hmk hx.1 hx.2.2.2 hxx hzb (fun n => by rw [keep_t, hkb])
  · exact cov_of zb xa xb hzb hmb hxx (fun n hn => by rw [hb', hn]; simp)
  · exact cov_of zb ya yb hzb hmb hyy (fun n hn => by rw [hb', hn]; simp)
  · intro q z1 z2 hq
    have hs := List.mem_of_getElem? hq
    have h0 := hz.lo hs
    exact cov_of zb z1 z2 hzb hmb (by simp only at h0; omega) (fun n hn => by
      have h1 : hasB zs n = true := (hasB_iff _ _).2 ⟨_, hs, (inB_iff _ _).1 hn⟩
      rw [hb', h1]; simp)
  · intro hlt
    rw [hk', show inB (xa, xb) xa = true from (inB_iff _ _).2 ⟨Int.le_refl _, hlt⟩]
    simp
  · rw [u64w]; omega
  · have e := sum_add zk zb xa xb hzk hzb hUk hUb hx.1 hxx hx.2.2.2 hkb (fun n ⟨h1, h2⟩ => by rw [hk', h2] at h1; simp at h1)
    have l1 := hzb.sum_le (E := 18446744073709551615) (fun s hs => (hUb s hs).2.2.2)
    rw [u64w, e]
    rw [e] at l1
    omega
end Go.Proofs.Ytejknbpadlidaaa.sp
