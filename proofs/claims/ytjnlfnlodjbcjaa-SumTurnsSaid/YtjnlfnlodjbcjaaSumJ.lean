/- The law of parts, walked: it returns true, for every input. Condition: none. -/
import Derived.Test.YtjnlfnlodjbcjaaSumI
import Derived.Deep.DeepCutAuto
import Derived.Laws.BytesArg
namespace Go.Proofs.Ytjnlfnlodjbcjaa.su
open Go.RowKit Go.Shelf Go.Proofs.Ytjnlfnlodjbcjaa.sm
set_option linter.unusedVariables false

theorem extract_sum (s : ByteArray) (k : Nat) (hk : k ≤ s.size) : L (s.extract 0 k) ++ L (s.extract k s.size) = L s := by
  rw [L_take, L_extract, List.take_append_drop]
theorem extract_size (s : ByteArray) (k : Nat) : (s.extract k s.size).size ≤ s.size ∧ (s.extract 0 k).size ≤ s.size := by
  have h1 := congrArg List.length (L_extract s k)
  have h2 := congrArg List.length (L_take s k)
  rw [L_len, List.length_drop, L_len] at h1
  rw [L_len, List.length_take, L_len] at h2
  omega
theorem L_lit : L ⟨#[]⟩ = [] := rfl
theorem even_join (s : ByteArray) (k : Nat) (hk : k ≤ s.size) (he : k % 2 = 0) : ck (131070 - ck (wsum (L (s.extract 0 k))) - ck (wsum (L (s.extract k s.size)))) = ck (wsum (L s)) := by
  rw [ck_join _ _ (wsum_bd _).1 (wsum_bd _).1, ← wsum_append _ _ (by rw [L_take, List.length_take, L_len]; omega), extract_sum s k hk]
theorem two_sum (S : Int) (hS : 0 ≤ S ∧ S ≤ 65535) : wsum (L (strOfNums [S / 256, S % 256])) = S ∧ (strOfNums [S / 256, S % 256]).size = 2 := by
  have e1 : (UInt8.ofNat (S / 256).toNat).toNat = (S / 256).toNat := by rw [UInt8.toNat_ofNat']; omega
  have e2 : (UInt8.ofNat (S % 256).toNat).toNat = (S % 256).toNat := by rw [UInt8.toNat_ofNat']; omega
  have e3 : L (strOfNums [S / 256, S % 256]) = [UInt8.ofNat (S / 256).toNat, UInt8.ofNat (S % 256).toNat] := by simp [strOfNums, L]
  refine ⟨?_, ?_⟩
  · rw [e3]; simp only [wsum, e1, e2]; omega
  · have := congrArg List.length e3
    rw [L_len] at this
    exact this
theorem two_cells (x y : Int) (w : World) (i : Nat) (hi : i < 2) : (w.alloc (.cells #[.int .u8 x, .int .u8 y] 5)).cell? ⟨w.heap.size, 0 + i, none⟩ = some (.int .u8 ([x, y].getD i 0)) := by
  rw [Nat.zero_add]
  simp only [World.cell?, World.alloc_heap_new]
  match i, hi with
  | 0, _ => rfl
  | 1, _ => rfl
/-- the two bytes of a number -/
theorem two_bytes (S : Int) (hS : 0 ≤ S ∧ S ≤ 65535) (w : World) : ∃ T : ByteArray, Hid (wsum (L T) = S ∧ T.size = 2) ∧
    (convert 33 9 (.slice (some ⟨w.heap.size, 0, none⟩) 2 2)).run Try.prog (w.alloc (.cells #[.int .u8 (S / 256), .int .u8 (S % 256)] 5)) =
      .ok (.string T) (w.alloc (.cells #[.int .u8 (S / 256), .int .u8 (S % 256)] 5)) :=
  ⟨strOfNums [S / 256, S % 256], two_sum S hS, run_convert_bytes_arg _ 33 5 Try.underlying33 Try.underlying5 w.heap.size 0 2 2 [S / 256, S % 256] rfl (two_cells _ _ w) 9 Try.underlying9⟩
theorem bears (s T : ByteArray) (S : Int) (hS : ck (wsum (L s)) = S) (hT : wsum (L T) = S) (he : s.size % 2 = 0) : (ck (wsum (L s ++ L T)) == 0) = true := by
  rw [wsum_append _ _ (by rw [L_len]; exact he), hT, ← hS, ck_bears _ (wsum_bd _).1]; rfl
theorem right_even (s T : ByteArray) (S : Int) (hS : ck (wsum (L s)) = S) (hT : wsum (L T) = S ∧ T.size = 2) (he : s.size % 2 = 0) (hs : s.size ≤ 4098) (b : Nat) (w0 w : World) (h : w.cell? ⟨b, 0, none⟩ = some (.string s)) (h' : w.cell? ⟨b, 1, none⟩ = some (.string T)) (hu : Up w0 w) :
    Calls Try.prog 10 #[.slice (some ⟨b, 0, none⟩) 2 2] w (Says w0 w (.bool true)) := by
  have := right2 s T b w0 w h h' hs (by omega) hu
  rw [bears s T S hS hT.1 he] at this
  exact this
theorem right_odd (s T : ByteArray) (S : Int) (hS : ck (wsum (L s)) = S) (hT : wsum (L T) = S ∧ T.size = 2) (he : s.size % 2 = 1) (hs : s.size ≤ 4096) (b : Nat) (w0 w : World) (h : w.cell? ⟨b, 0, none⟩ = some (.string (s ++ ⟨#[0]⟩))) (h' : w.cell? ⟨b, 1, none⟩ = some (.string T)) (hu : Up w0 w) :
    Calls Try.prog 10 #[.slice (some ⟨b, 0, none⟩) 2 2] w (Says w0 w (.bool true)) := by
  have e : wsum (L (s ++ (⟨#[0]⟩ : ByteArray))) = wsum (L s) := by rw [L_append]; exact wsum_pad (L s) (by rw [L_len]; exact he)
  have ez : (s ++ (⟨#[0]⟩ : ByteArray)).size = s.size + 1 := by rw [ByteArray.size_append]; rfl
  exact right_even (s ++ ⟨#[0]⟩) T S (by rw [e]; exact hS) hT (by omega) (by omega) b w0 w h h' hu
set_option maxRecDepth 100000 in
set_option maxHeartbeats 4000000 in
theorem lawParts (s : ByteArray) (at_ : Nat) (w : World) (hs : s.size ≤ maxLen) (ha : at_ ≤ 65535) :
    Calls Try.prog 4 #[.string s, .int .u16 at_] w fun e w' => e = .returned (.bool true) ∧ Below w.heap.size w w' := by
  have u0 : Up w w := Below.refl _ _
  unfold maxLen at hs
  by_cases hlong : s.size ≤ 4096
  · have hs' := Lib.hid hs; clear hs
    obtain ⟨k, hk⟩ : ∃ k, k = at_ % (s.size + 1) := ⟨_, rfl⟩
    have hkI : (at_ : Int) % ((s.size : Int) + 1) = (k : Int) := by rw [hk]; simp
    have hkl : k ≤ s.size := by have := Nat.mod_lt at_ (show 0 < s.size + 1 by omega); omega
    have hk' := Lib.hid hk; clear hk
    obtain ⟨S, hS⟩ : ∃ S, Hid (ck (wsum (L s)) = S) := ⟨_, rfl⟩
    have hSb : 0 ≤ S ∧ S ≤ 65535 := by rw [← hS.out]; exact ck_bd _ (wsum_bd _).1
    have C1 := Lib.hid (fun b w0 w h hu => hS.out ▸ of1 s b w0 w h (by omega) hu)
    have C2 := Lib.hid (fun b w0 w h h' hu => hS.out ▸ extract_sum s k hkl ▸ of2 (s.extract 0 k) (s.extract k s.size) b w0 w h h' (by have := extract_size s k; omega) (by have := extract_size s k; omega) hu)
    have C3 := Lib.hid (fun b w0 w h h' h2 hu => hS.out ▸ (show L ⟨#[]⟩ ++ (L s ++ L ⟨#[]⟩) = L s by rw [L_lit, List.nil_append, List.append_nil]) ▸ of3 ⟨#[]⟩ s ⟨#[]⟩ b w0 w h h' h2 (by decide) (by omega) (by decide) hu)
    obtain ⟨k2, hk2⟩ : ∃ k2, k2 = k / 2 * 2 := ⟨_, rfl⟩
    have hkI2 : (k : Int) / 2 * 2 = (k2 : Int) := by rw [hk2]; simp
    have hkl2 : k2 ≤ s.size := by omega
    have hev : k2 % 2 = 0 := by omega
    obtain ⟨A, hA⟩ : ∃ A, Hid (ck (wsum (L (s.extract 0 k2))) = A) := ⟨_, rfl⟩
    obtain ⟨B, hB⟩ : ∃ B, Hid (ck (wsum (L (s.extract k2 s.size))) = B) := ⟨_, rfl⟩
    have hAb : 0 ≤ A ∧ A ≤ 65535 := by rw [← hA.out]; exact ck_bd _ (wsum_bd _).1
    have hBb : 0 ≤ B ∧ B ≤ 65535 := by rw [← hB.out]; exact ck_bd _ (wsum_bd _).1
    have CA := Lib.hid (fun b w0 w h hu => hA.out ▸ of1 (s.extract 0 k2) b w0 w h (by have := extract_size s k2; omega) hu)
    have CB := Lib.hid (fun b w0 w h hu => hB.out ▸ of1 (s.extract k2 s.size) b w0 w h (by have := extract_size s k2; omega) hu)
    have hJ : ck (131070 - A - B) = S := by rw [← hA.out, ← hB.out, ← hS.out]; exact even_join s k2 hkl2 hev
    have CJ := Lib.hid (fun w0 w hu => hJ ▸ join2 A B w0 w hAb hBb hu)
    clear hJ
    have hk2' := Lib.hid hk2; clear hk2
    have HkI2 := Lib.hid hkI2; clear hkI2
    go_enter Try.func4, Try.ntmps4
    go_upto_region 4 with fail
    rw [hkI]
    clear hkI
    go_cut [38] (fun v wc => v = .bool false ∧ Up w wc)
    case first =>
      go_region_held3 (fun _ => True) (trivial) (first
        | (go_at_call 8; (with_reducible refine (C2.out _ w _ ?_ ?_ ?_).mono ?_); (· first | (simp [*]; done) | (simp [*]; rfl) | (rw [hc1 _ _ (by first | (simp; done) | (simp; omega))]; first | (simp [*]; done) | (simp [*]; rfl))); (· first | (simp [*]; done) | (simp [*]; rfl) | (rw [hc1 _ _ (by first | (simp; done) | (simp; omega))]; first | (simp [*]; done) | (simp [*]; rfl))); (· (repeat (first | assumption | apply up_al | apply up_dr | apply up_drN))); rintro e w1 ⟨rfl, hu1, hc1, hz1⟩)
        | (go_at_call 8; (with_reducible refine (C1.out _ w _ ?_ ?_).mono ?_); (· first | (simp [*]; done) | (simp [*]; rfl) | (rw [hc1 _ _ (by first | (simp; done) | (simp; omega))]; first | (simp [*]; done) | (simp [*]; rfl))); (· (repeat (first | assumption | apply up_al | apply up_dr | apply up_drN))); rintro e w1 ⟨rfl, hu1, hc1, hz1⟩)
        | (go_at_call 8; (with_reducible refine (C3.out _ w _ ?_ ?_ ?_ ?_).mono ?_); (· first | (simp [*]; done) | (simp [*]; rfl) | (rw [hc1 _ _ (by first | (simp; done) | (simp; omega))]; first | (simp [*]; done) | (simp [*]; rfl))); (· first | (simp [*]; done) | (simp [*]; rfl) | (rw [hc1 _ _ (by first | (simp; done) | (simp; omega))]; first | (simp [*]; done) | (simp [*]; rfl))); (· first | (simp [*]; done) | (simp [*]; rfl) | (rw [hc1 _ _ (by first | (simp; done) | (simp; omega))]; first | (simp [*]; done) | (simp [*]; rfl))); (· (repeat (first | assumption | apply up_al | apply up_dr | apply up_drN))); rintro e w1 ⟨rfl, hu1, hc1, hz1⟩))
      all_goals
        go_wp2_with fail
        go_meet
        exact ⟨rfl, by (repeat (first | assumption | apply up_al | apply up_dr | apply up_drN))⟩
    case rest =>
    obtain ⟨rfl, hu⟩ := hcut
    go_upto_region 8 with (go_at_call 8; (with_reducible refine (C1.out _ w _ ?_ ?_).mono ?_); (· first | (simp [*]; done) | (simp [*]; rfl) | (rw [hc1 _ _ (by first | (simp; done) | (simp; omega))]; first | (simp [*]; done) | (simp [*]; rfl))); (· (repeat (first | assumption | apply up_al | apply up_dr | apply up_drN))); rintro e w1 ⟨rfl, hu1, hc1, hz1⟩)
    rw [HkI2.out]
    go_cut [57] (fun v wc => v = .bool false ∧ Up w wc)
    case first =>
      go_region_held3 (fun _ => True) (trivial) (first
        | (go_at_call 8; (with_reducible refine (CA.out _ w _ ?_ ?_).mono ?_); (· first | (simp [*]; done) | (simp [*]; rfl) | (rw [hc1 _ _ (by first | (simp; done) | (simp; omega))]; first | (simp [*]; done) | (simp [*]; rfl))); (· (repeat (first | assumption | apply up_al | apply up_dr | apply up_drN))); rintro e w1 ⟨rfl, hu1, hc1, hz1⟩)
        | (go_at_call 8; (with_reducible refine (CB.out _ w _ ?_ ?_).mono ?_); (· first | (simp [*]; done) | (simp [*]; rfl) | (rw [hc1 _ _ (by first | (simp; done) | (simp; omega))]; first | (simp [*]; done) | (simp [*]; rfl))); (· (repeat (first | assumption | apply up_al | apply up_dr | apply up_drN))); rintro e w1 ⟨rfl, hu1, hc1, hz1⟩)
        | (go_at_call 11; (with_reducible refine (CJ.out w _ ?_).mono ?_); (· (repeat (first | assumption | apply up_al | apply up_dr | apply up_drN))); rintro e w1 ⟨rfl, hu1, hc1, hz1⟩))
      all_goals
        go_wp2_with fail
        go_meet
        exact ⟨rfl, by (repeat (first | assumption | apply up_al | apply up_dr | apply up_drN))⟩
    case rest =>
    obtain ⟨rfl, hu2⟩ := hcut
    by_cases hodd : s.size % 2 = 1
    · have ho : (s.size : Int) % 2 = 1 := by omega
      obtain ⟨T, hT, hcv⟩ := two_bytes S hSb wc
      have CR := Lib.hid (right_odd s T S hS.out hT.out hodd (by omega))
      go_wp2_with (first
        | (go_at_call 10; (with_reducible refine (CR.out _ w _ ?_ ?_ ?_).mono ?_); (· first | (simp [*]; done) | (simp [*]; rfl) | (rw [hc1 _ _ (by first | (simp; done) | (simp; omega))]; first | (simp [*]; done) | (simp [*]; rfl))); (· first | (simp [*]; done) | (simp [*]; rfl) | (rw [hc1 _ _ (by first | (simp; done) | (simp; omega))]; first | (simp [*]; done) | (simp [*]; rfl))); (· (repeat (first | assumption | apply up_al | apply up_dr | apply up_drN))); rintro e w1 ⟨rfl, hu1, hc1, hz1⟩)
        | (go_at_call 7; refine (aliveS w _ (by (repeat (first | assumption | apply up_al | apply up_dr | apply up_drN)))).mono ?_; rintro e w1 ⟨rfl, hu1, hc1, hz1⟩))
      go_ret
      exact ⟨rfl, hu1⟩
    · have ho : (s.size : Int) % 2 = 0 := by omega
      obtain ⟨T, hT, hcv⟩ := two_bytes S hSb wc
      have CR := Lib.hid (right_even s T S hS.out hT.out (by omega) (by omega))
      go_wp2_with (first
        | (go_at_call 10; (with_reducible refine (CR.out _ w _ ?_ ?_ ?_).mono ?_); (· first | (simp [*]; done) | (simp [*]; rfl) | (rw [hc1 _ _ (by first | (simp; done) | (simp; omega))]; first | (simp [*]; done) | (simp [*]; rfl))); (· first | (simp [*]; done) | (simp [*]; rfl) | (rw [hc1 _ _ (by first | (simp; done) | (simp; omega))]; first | (simp [*]; done) | (simp [*]; rfl))); (· (repeat (first | assumption | apply up_al | apply up_dr | apply up_drN))); rintro e w1 ⟨rfl, hu1, hc1, hz1⟩)
        | (go_at_call 7; refine (aliveS w _ (by (repeat (first | assumption | apply up_al | apply up_dr | apply up_drN)))).mono ?_; rintro e w1 ⟨rfl, hu1, hc1, hz1⟩))
      go_ret
      exact ⟨rfl, hu1⟩
  · go_enter Try.func4, Try.ntmps4
    go_wp2_with (go_at_call 7; refine (aliveS w _ u0).mono ?_; rintro e w1 ⟨rfl, hu1, hc1, hz1⟩)
    go_ret
    exact ⟨rfl, hu1⟩
end Go.Proofs.Ytjnlfnlodjbcjaa.su
