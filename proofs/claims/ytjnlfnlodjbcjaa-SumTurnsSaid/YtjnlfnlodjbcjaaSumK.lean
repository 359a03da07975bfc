/- The law of a text in which one word is another one, walked: it returns true, for every input. Condition: none. -/
import Derived.Test.YtjnlfnlodjbcjaaSumJ
import Derived.Laws.IdiomStrings
import Derived.WalkSmall
namespace Go.Proofs.Ytjnlfnlodjbcjaa.su
open Go.RowKit Go.Shelf Go.Proofs.Ytjnlfnlodjbcjaa.sm
set_option linter.unusedVariables false

/-- a text's bytes in new memory -/
def Row (W : World) (B : Nat) (xs : List Int) : Prop := ∀ i, i < xs.length → W.cell? ⟨B, i, none⟩ = some (.int .u8 (xs.getD i 0)) ∧ W.frozen? ⟨B, i, none⟩ = false
def nums (x : ByteArray) : List Int := (L x).map fun c => (c.toNat : Int)
theorem nums_len (x : ByteArray) : (nums x).length = x.size := by rw [nums, List.length_map, L_len]
theorem conv_in (x : ByteArray) (w : World) : ∃ (cap : Nat) (W : World), (convert 9 33 (.string x)).run Try.prog w = .ok (.slice (some ⟨w.heap.size, 0, none⟩) x.size cap) W ∧ Up w W ∧ Row W w.heap.size (nums x) := by
  refine ⟨_, _, run_bytes_of_string w 9 33 5 x Try.underlying9 Try.underlying33 Try.underlying5, up_al _ (up_dr (Below.refl _ _)), fun i hi => ?_⟩
  rw [nums_len] at hi
  have hb : (w.drew.alloc (.cells (bytesRow x (grownCap w x.size 0 5)) 5 ((bytesRow x (grownCap w x.size 0 5)).size, (bytesRow x (grownCap w x.size 0 5)).size + 1))).heap[w.heap.size]? =
    some (.cells (bytesRow x (grownCap w x.size 0 5)) 5 ((bytesRow x (grownCap w x.size 0 5)).size, (bytesRow x (grownCap w x.size 0 5)).size + 1)) := World.alloc_heap_new w.drew _
  generalize grownCap w x.size 0 5 = c at *
  have hz : x.size ≤ (bytesRow x c).size := by unfold bytesRow; rw [Array.size_append, Array.size_map]; show x.data.size ≤ _; omega
  refine ⟨?_, ?_⟩
  · simp only [World.cell?, hb]
    show (bytesRow x c)[i]? = _
    have h1 : i < (x.data.map (fun b => Value.int .u8 b.toNat)).size := by rw [Array.size_map]; exact hi
    have h2 : i < (L x).length := hi
    unfold bytesRow
    rw [Array.getElem?_append_left h1, Array.getElem?_eq_getElem h1, Array.getElem_map, nums, List.getD, List.getElem?_map, List.getElem?_eq_getElem h2]
    rfl
  · simp only [World.frozen?, hb]
    simp
    omega
theorem Row.set {W : World} {B : Nat} {xs : List Int} (h : Row W B xs) (k : Nat) (v : Int) (hk : k < xs.length) : Row (W.setCell ⟨B, k, none⟩ (.int .u8 v)) B (xs.set k v) := fun i hi => by
  rw [List.length_set] at hi
  obtain ⟨h1, h2⟩ := h i hi
  refine ⟨?_, by rw [World.frozen?_setCell]; exact h2⟩
  by_cases hik : i = k
  · subst hik
    rw [World.cell?_setCell_same' _ _ _ (by rw [h1]; rfl)]
    simp [hi]
  · rw [World.cell?_setCell_other _ _ _ _ (by intro e; cases e; exact hik rfl), h1]
    simp [List.getD, List.getElem?_set, Ne.symm hik]
theorem up_set {w0 w : World} {o : Nat} {v : Value} (h : Up w0 w) : Up w0 (w.setCell ⟨w0.heap.size, o, none⟩ v) := h.setCell (p := ⟨w0.heap.size, o, none⟩) (Nat.le_refl _) _
theorem row_back {W : World} {B : Nat} {xs : List Int} (h : Row W B xs) (n cap : Nat) (hn : xs.length = n) (m : Nat) : (convert 33 9 (.slice (some ⟨B, 0, none⟩) n cap)).run Try.prog (W.drewN m) = .ok (.string (strOfNums xs)) (W.drewN m) :=
  run_convert_bytes_arg _ 33 5 Try.underlying33 Try.underlying5 B 0 n cap xs hn (fun i hi => by rw [World.cell?_drewN, Nat.zero_add]; exact (h i (by omega)).1) 9 Try.underlying9
/-- the text's sum, when one word is another one -/
theorem wsum_set : ∀ (l : List UInt8) (k : Nat) (p q : UInt8), k % 2 = 0 → k + 1 < l.length → wsum ((l.set k p).set (k + 1) q) = wsum l - wd l k + ((p.toNat : Int) * 256 + q.toNat)
  | [], k, p, q, _, h => by simp at h
  | [a], k, p, q, _, h => by simp at h
  | a :: b :: t, 0, p, q, _, _ => by simp [wsum, wd, bt]; omega
  | a :: b :: t, 1, p, q, h, _ => by omega
  | a :: b :: t, k + 2, p, q, he, h => by
    have ih := wsum_set t k p q (by omega) (by simp at h; omega)
    have e : wd (a :: b :: t) (k + 2) = wd t k := rfl
    simp only [List.set_cons_succ, wsum, ih, e]
    omega
theorem set_str (x : ByteArray) (k a b : Nat) (ha : a ≤ 255) (hb : b ≤ 255) : L (strOfNums (((nums x).set k a).set (k + 1) b)) = ((L x).set k (UInt8.ofNat a)).set (k + 1) (UInt8.ofNat b) := by
  show (strOfNums _).data.toList = _
  rw [strOfNums_data, nums, List.map_set, List.map_set, List.map_map]
  have e : (L x).map ((fun n : Int => UInt8.ofNat n.toNat) ∘ fun c : UInt8 => (c.toNat : Int)) = L x := by
    conv => rhs; rw [← List.map_id (L x)]
    apply List.map_congr_left
    intro c _
    simp
  rw [e]
  simp
theorem set_sum (x : ByteArray) (k a b : Nat) (ha : a ≤ 255) (hb : b ≤ 255) (hk : k % 2 = 0) (hl : k + 1 < x.size) :
    wsum (L (strOfNums (((nums x).set k a).set (k + 1) b))) = wsum (L x) - wd (L x) k + ((a : Int) * 256 + b) ∧ (strOfNums (((nums x).set k a).set (k + 1) b)).size = x.size := by
  refine ⟨?_, by rw [strOfNums_size, List.length_set, List.length_set, nums_len]⟩
  have e1 : (UInt8.ofNat a).toNat = a := by rw [UInt8.toNat_ofNat']; omega
  have e2 : (UInt8.ofNat b).toNat = b := by rw [UInt8.toNat_ofNat']; omega
  rw [set_str x k a b ha hb, wsum_set _ _ _ _ hk hl, e1, e2]

set_option maxRecDepth 100000 in
set_option maxHeartbeats 4000000 in
theorem lawSees (s : ByteArray) (at_ a b : Nat) (w : World) (hs : s.size ≤ maxLen) (ha : at_ ≤ 65535) (hxa : a ≤ 255) (hxb : b ≤ 255) :
    Calls Try.prog 6 #[.string s, .int .u16 at_, .int .u8 a, .int .u8 b] w fun e w' => e = .returned (.bool true) ∧ Below w.heap.size w w' := by
  have u0 : Up w w := Below.refl _ _
  unfold maxLen at hs
  by_cases hlong : s.size ≤ 2048
  · have hs' := Lib.hid hs; clear hs
    obtain ⟨m, hm⟩ : ∃ m, m = s.size / 2 * 2 := ⟨_, rfl⟩
    have hmI : (s.size : Int) / 2 * 2 = (m : Int) := by rw [hm]; simp
    have hml : m ≤ s.size := by omega
    have hme : m % 2 = 0 := by omega
    have hxs := size_take s m hml
    obtain ⟨x, hx⟩ : ∃ x, x = s.extract 0 m := ⟨_, rfl⟩
    rw [← hx] at hxs
    have HmI := Lib.hid hmI; clear hmI
    have hm' := Lib.hid hm; clear hm
    have Hx := Lib.hid hx; clear hx
    have Hxs := Lib.hid hxs
    have hx20 : x.size ≤ 2048 := by omega
    clear hxs
    go_enter Try.func6, Try.ntmps6
    have g1 : (0 : Int) ≤ (s.size : Int) / 2 * 2 := by omega
    have g2 : (s.size : Int) / 2 * 2 ≤ (s.size : Int) := by omega
    go_upto_region 3 with fail
    go_cut [0] (fun v wc => v = .string x ∧ w = wc)
    case first =>
      go_wp2_with fail
      go_meet
      exact ⟨by rw [Hx.out, hm'.out], rfl⟩
    case rest =>
    clear g1 g2
    obtain ⟨rfl, rfl⟩ := hcut
    have hxs := Hxs.out
    by_cases hm0 : x.size = 0
    · have hm00 : (x.size : Int) = 0 := by omega
      go_wp2_with (go_at_call 7; refine (aliveS w _ u0).mono ?_; rintro e w1 ⟨rfl, hu1, hc1, hz1⟩)
      go_ret
      exact ⟨rfl, hu1⟩
    · obtain ⟨k, hk⟩ : ∃ k, k = at_ % (m / 2) * 2 := ⟨_, rfl⟩
      have hkI : (at_ : Int) % ((x.size : Int) / 2) * 2 = (k : Int) := by rw [hk, hxs]; simp
      have hkl : k + 1 < x.size := by have := Nat.mod_lt at_ (show 0 < m / 2 by omega); omega
      have hke : k % 2 = 0 := by omega
      have hm00 : ¬ (x.size : Int) = 0 := by omega
      have hd0 : ((x.size : Int) / 2 == 0) = false := by simp; omega
      have hd1 : ¬ ((x.size : Int) / 2 = 0) := by omega
      have hd2 : 0 ≤ (x.size : Int) / 2 := by omega
      have hk' := Lib.hid hk; clear hk
      have HkW := Lib.hid (show wrap64 ((at_ : Int) % ((x.size : Int) / 2) * 2) = (k : Int) by rw [hkI]; exact IntWalk.wrap64_in _ (by omega)); clear hkI
      clear hxs
      obtain ⟨cap, W, hcv, hUW, hRow⟩ := conv_in x w
      have hRow0 := hRow
      obtain ⟨d1, f1⟩ := hRow k (by rw [nums_len]; omega)
      have hRow1 := hRow0.set k a (by rw [nums_len]; omega)
      obtain ⟨d2, f2⟩ := hRow1 (k + 1) (by rw [List.length_set, nums_len]; omega)
      have hRow2 := Lib.hid (hRow1.set (k + 1) b (by rw [List.length_set, nums_len]; omega))
      have hU2 := Lib.hid (up_set (o := k + 1) (v := .int .u8 b) (up_set (o := k) (v := .int .u8 a) hUW))
      clear hRow hRow0 hRow1 hUW
      go_upto_region 7 with fail
      rw [HkW.out]
      go_upto_region 9 with fail
      go_cut [10] (fun v wc => v = .slice (some ⟨w.heap.size, 0, none⟩) x.size cap ∧ Hid (Up w wc ∧ Row wc w.heap.size (((nums x).set k a).set (k + 1) b)))
      case first =>
        go_wp2_with fail
        go_meet
        exact ⟨rfl, hU2.out, hRow2.out⟩
      case rest =>
      obtain ⟨rfl, hUR⟩ := hcut
      clear hcv d1 f1 d2 f2 hRow2 hU2
      have hback := row_back hUR.out.2 x.size cap (by rw [List.length_set, List.length_set, nums_len])
      have hsum := Lib.hid (set_sum x k a b hxa hxb hke hkl)
      obtain ⟨T, hT⟩ : ∃ T, strOfNums (((nums x).set k a).set (k + 1) b) = T := ⟨_, rfl⟩
      rw [hT] at hback hsum
      clear hT
      have b0 := bt_bd (L x) k
      have b1 := bt_bd (L x) (k + 1)
      have e0 := bt_at x k (by omega)
      have e1 := bt_at x (k + 1) hkl
      obtain ⟨p, hp⟩ : ∃ p : Int, p = bt (L x) k * 256 + bt (L x) (k + 1) := ⟨_, rfl⟩
      have hpw : Hid (wd (L x) k = p) := hp.symm
      rw [← e0, ← e1] at hp
      rw [← e0] at b0
      rw [← e1] at b1
      clear e0 e1
      have hk1 : k < x.size := by omega
      have hk2 : (k : Int) + 1 < (x.size : Int) := by omega
      have q : (0 : Int) ≤ (k : Int) + 1 := by omega
      have q1 : IntKind.i64.wrap ((k : Int) + 1) = (k : Int) + 1 := IntWalk.i64_in _ (by omega)
      have q2 : ((k : Int) + 1).toNat = k + 1 := by omega
      have q3 : IntKind.i64.wrap ((x[k].toNat : Int) * 256) = (x[k].toNat : Int) * 256 := IntWalk.i64_in _ (by omega)
      have q4 : IntKind.i64.wrap ((x[k].toNat : Int) * 256 + (x[k + 1].toNat : Int)) = p := by rw [hp]; exact IntWalk.i64_in _ (by omega)
      have pb : 0 ≤ p ∧ p ≤ 65535 := by omega
      have hp' := Lib.hid hp; clear hp
      go_wp2_with fail
      go_quiet (fail)
      clear q1 q3 q4
      obtain ⟨r, hr⟩ : ∃ r : Int, r = (a : Int) * 256 + b := ⟨_, rfl⟩
      have rb : 0 ≤ r ∧ r ≤ 65535 := by omega
      go_upto_region 12 with fail
      rw [← hr]
      have hr' := Lib.hid hr; clear hr
      have hu5 : Up w (wc.drewN nq) := up_drN nq hUR.out.1
      have hb6 := hback nq
      generalize wc.drewN nq = W6 at *
      clear hback hUR
      have hX := wsum_bd (L x)
      have hTT := wsum_bd (L T)
      obtain ⟨S, hS⟩ : ∃ S, Hid (ck (wsum (L x)) = S) := ⟨_, rfl⟩
      have CX := Lib.hid (fun b w0 w h hu => hS.out ▸ of1 x b w0 w h (by omega) hu)
      have hsum' : wsum (L T) = wsum (L x) - p + r ∧ T.size = x.size := by have := hsum.out; rw [hpw.out, ← hr'.out] at this; exact this
      clear hsum
      by_cases hsame : p % 65535 = r % 65535
      · by_cases hpr : p = r
        · have hST : Hid (ck (wsum (L T)) = S) := by show _ = _; rw [← hS.out, hsum'.1, hpr]; congr 1; omega
          have CT := Lib.hid (fun b w0 w h hu => hST.out ▸ of1 T b w0 w h (by have := hsum'.2; omega) hu)
          clear hsum' hX hTT hsame
          have hpr' := Lib.hid hpr
          have n1 : (p % 65535 == r % 65535) = true := by rw [hpr]; simp
          have n2 : (p != r) = false := by rw [hpr]; simp
          have n3 : (p == r) = true := by rw [hpr]; simp
          clear hpr
          go_wp2_with (first
            | (go_at_call 8; (with_reducible refine (CT.out _ w _ ?_ ?_).mono ?_); (· first | (simp [*]; done) | (simp [*]; rfl) | (rw [hc1 _ _ (by first | (simp; done) | (simp; omega))]; first | (simp [*]; done) | (simp [*]; rfl))); (· (repeat (first | assumption | apply up_al | apply up_dr | apply up_drN))); rintro e w1 ⟨rfl, hu1, hc1, hz1⟩)
            | (go_at_call 8; (with_reducible refine (CX.out _ w _ ?_ ?_).mono ?_); (· first | (simp [*]; done) | (simp [*]; rfl) | (rw [hc1 _ _ (by first | (simp; done) | (simp; omega))]; first | (simp [*]; done) | (simp [*]; rfl))); (· (repeat (first | assumption | apply up_al | apply up_dr | apply up_drN))); rintro e w1 ⟨rfl, hu1, hc1, hz1⟩)
            | (go_at_call 7; refine (aliveS w _ (by (repeat (first | assumption | apply up_al | apply up_dr | apply up_drN)))).mono ?_; rintro e w1 ⟨rfl, hu1, hc1, hz1⟩))
          go_ret
          exact ⟨rfl, hu1⟩
        · have n1 : (p % 65535 == r % 65535) = true := by simp [hsame]
          have n2 : (p != r) = true := by simp [hpr]
          have n3 : (p == r) = false := by simp [hpr]
          clear hsum' hX hTT hsame hpr
          go_wp2_with (first
            | (go_at_call 7; refine (aliveS w _ (by (repeat (first | assumption | apply up_al | apply up_dr | apply up_drN)))).mono ?_; rintro e w1 ⟨rfl, hu1, hc1, hz1⟩))
          go_ret
          exact ⟨rfl, hu1⟩
      · obtain ⟨S1, hS1⟩ : ∃ S1, Hid (ck (wsum (L T)) = S1) := ⟨_, rfl⟩
        have CT := Lib.hid (fun b w0 w h hu => hS1.out ▸ of1 T b w0 w h (by have := hsum'.2; omega) hu)
        have hne : S1 ≠ S := by
          rw [← hS1.out, ← hS.out]
          intro h
          unfold ck at h
          have o1 := ones_mod _ hX.1
          have o2 := ones_mod _ hTT.1
          have o3 : ones (wsum (L T)) = ones (wsum (L x)) := by omega
          rw [o3, o1, hsum'.1] at o2
          omega
        have n1 : (p % 65535 == r % 65535) = false := by simp [hsame]
        have n4 : (S1 == S) = false := by simp [hne]
        clear hsum' hX hTT hsame hne
        go_wp2_with (first
          | (go_at_call 8; (with_reducible refine (CT.out _ w _ ?_ ?_).mono ?_); (· first | (simp [*]; done) | (simp [*]; rfl) | (rw [hc1 _ _ (by first | (simp; done) | (simp; omega))]; first | (simp [*]; done) | (simp [*]; rfl))); (· (repeat (first | assumption | apply up_al | apply up_dr | apply up_drN))); rintro e w1 ⟨rfl, hu1, hc1, hz1⟩)
          | (go_at_call 8; (with_reducible refine (CX.out _ w _ ?_ ?_).mono ?_); (· first | (simp [*]; done) | (simp [*]; rfl) | (rw [hc1 _ _ (by first | (simp; done) | (simp; omega))]; first | (simp [*]; done) | (simp [*]; rfl))); (· (repeat (first | assumption | apply up_al | apply up_dr | apply up_drN))); rintro e w1 ⟨rfl, hu1, hc1, hz1⟩)
          | (go_at_call 7; refine (aliveS w _ (by (repeat (first | assumption | apply up_al | apply up_dr | apply up_drN)))).mono ?_; rintro e w1 ⟨rfl, hu1, hc1, hz1⟩))
        go_ret
        exact ⟨rfl, hu1⟩
  · go_enter Try.func6, Try.ntmps6
    go_wp2_with (go_at_call 7; refine (aliveS w _ u0).mono ?_; rintro e w1 ⟨rfl, hu1, hc1, hz1⟩)
    go_ret
    exact ⟨rfl, hu1⟩
end Go.Proofs.Ytjnlfnlodjbcjaa.su
