/- A law of opt: options, turned, as the law reckons them. Condition: the arguments fit their kinds. -/
import Derived.Test.YtdlcglkeinlimaaOptJ
import Derived.Deep.RegionLaw
namespace Go.Proofs.Ytdlcglkeinlimaa.op
open Go.RowKit Go.Shelf Go.Lib Go.Proofs.Ytdlcglkeinlimaa.sm Go.Proofs.Ytdlcglkeinlimaa.nb Go.Proofs.Ytdlcglkeinlimaa.om
set_option linter.unusedVariables false

abbrev trn (b : Nat) (x : Nat × Nat) : Nat × Nat := (addM x.1 b, addM x.2 b)
/-- what turned answers -/
def TrZ (m : Nat) (s : Int) (k t : Bool) (v e n : Nat) (bs : List (Nat × Nat)) (w : World) (e_ : Ending) (w' : World) : Prop :=
  ∃ A' c', e_ = .returned (OA m s k A' n c' t v e) ∧ RdB w' A' bs ∧ bs.length = n ∧ Up w w'
theorem map_take (b : Nat) (bs : List (Nat × Nat)) (j x1 x2 : Nat) (h : bs[j]? = some (x1, x2)) : (bs.map (trn b)).take (j + 1) = (bs.map (trn b)).take j ++ [(addM x1 b, addM x2 b)] := by
  obtain ⟨hj, he⟩ := List.getElem?_eq_some_iff.1 h
  rw [List.take_succ_eq_append_getElem (by simpa using hj)]
  simp [he]
theorem RdB.low {W W' : World} {A : Option Addr} {xs : List (Nat × Nat)} {B : Nat} (h : RdB W A xs) (hA : ∀ g off, A = some ⟨g, off, none⟩ → xs ≠ [] → g < B) (hb : Below B W W') : RdB W' A xs := fun hn => by
  obtain ⟨b, off, e, hlt, hc⟩ := h hn
  have hB := hA b off e hn
  refine ⟨b, off, e, Nat.lt_of_lt_of_le hlt hb.size, fun k hk => ?_⟩
  obtain ⟨h1, h2⟩ := hc k hk
  exact ⟨(hb.cell (p := ⟨b, _, none⟩) hB).trans h1, (hb.cell (p := ⟨b, _, none⟩) hB).trans h2⟩
set_option maxHeartbeats 4000000 in
set_option maxRecDepth 100000 in
theorem turnedC (m : Nat) (s : Int) (k t : Bool) (v e : Nat) (A : Option Addr) (n c : Nat) (bs : List (Nat × Nat)) (b va ec : Nat) (w : World) (hr : RdB w A bs) (hn : bs.length = n) (hn2 : n ≤ 1048576) (hbs : ∀ x ∈ bs, x.1 < M32 ∧ x.2 < M32) (hb : b < M32) (hv : v < M32) (he : e < M32) (hva : va < M32) (hec : ec < M32) :
    Calls Try.prog 21 #[OA m s k A n c t v e, .int .u32 (b : Nat), .int .u32 (va : Nat), .int .u32 (ec : Nat)] w fun e_ w' => TrZ m s k t (if t then addM v va else v) (if t then addM e ec else e) n (bs.map (trn b)) w e_ w' := by
  have HN := Lib.hid hn
  have HT := Lib.hid (map_take b bs)
  have HB := Lib.hid hbs
  have HL : Hid ((bs.map (trn b)).length = n) := by unfold Hid; rw [List.length_map]; exact hn
  obtain ⟨ms, hms⟩ : ∃ ms, ms = bs.map (trn b) := ⟨_, rfl⟩
  rw [← hms] at HT HL ⊢
  clear hms hbs hn
  go_enter Try.func21, Try.ntmps21
  go_upto_region 1 with fail
  have hu : Up w ((w.alloc (.cells #[.int .u16 (m : Nat), .int .i64 s, .bool k, .slice A n c, .bool t, .int .u32 (v : Nat), .int .u32 (e : Nat)] 26)).alloc (.cells #[.int .u16 0, .int .i64 0, .bool false, .slice none 0 0, .bool false, .int .u32 0, .int .u32 0] 26)) := up_al _ (up_al _ (Below.refl _ _))
  have hA := (Box.new w #[.int .u16 (m : Nat), .int .i64 s, .bool k, .slice A n c, .bool t, .int .u32 (v : Nat), .int .u32 (e : Nat)] 26).alloc (.cells #[.int .u16 0, .int .i64 0, .bool false, .slice none 0 0, .bool false, .int .u32 0, .int .u32 0] 26)
  have hB := Box.new (w.alloc (.cells #[.int .u16 (m : Nat), .int .i64 s, .bool k, .slice A n c, .bool t, .int .u32 (v : Nat), .int .u32 (e : Nat)] 26)) #[.int .u16 0, .int .i64 0, .bool false, .slice none 0 0, .bool false, .int .u32 0, .int .u32 0] 26
  rw [show (w.alloc (.cells #[.int .u16 (m : Nat), .int .i64 s, .bool k, .slice A n c, .bool t, .int .u32 (v : Nat), .int .u32 (e : Nat)] 26)).heap.size = w.heap.size + 1 by simp] at hB
  have hz : w.heap.size + 2 ≤ ((w.alloc (.cells #[.int .u16 (m : Nat), .int .i64 s, .bool k, .slice A n c, .bool t, .int .u32 (v : Nat), .int .u32 (e : Nat)] 26)).alloc (.cells #[.int .u16 0, .int .i64 0, .bool false, .slice none 0 0, .bool false, .int .u32 0, .int .u32 0] 26)).heap.size := by simp
  generalize ((w.alloc (.cells #[.int .u16 (m : Nat), .int .i64 s, .bool k, .slice A n c, .bool t, .int .u32 (v : Nat), .int .u32 (e : Nat)] 26)).alloc (.cells #[.int .u16 0, .int .i64 0, .bool false, .slice none 0 0, .bool false, .int .u32 0, .int .u32 0] 26)) = w0 at hu hA hB hz ⊢
  have hr0 := hr.up hu
  obtain ⟨n0, hn0⟩ : ∃ n0, n0 = w.heap.size := ⟨_, rfl⟩
  have hle0 : w.heap.size ≤ n0 := by omega
  have hle1 : w.heap.size ≤ n0 + 1 := by omega
  have hne : n0 ≠ n0 + 1 := by omega
  rw [← hn0] at hA hB hz ⊢
  have hgl : ∀ g off, A = some ⟨g, off, none⟩ → bs ≠ [] → g < n0 := fun g off hAe hbn => by
    obtain ⟨g', off', h1, h2, _⟩ := hr hbn
    rw [hAe] at h1; cases h1; omega
  clear hn0
  go_wp2_with fail
  go_loopw [9, 10] (fun x i wr => ∃ j : Nat, j ≤ n ∧ i = .int .i64 j ∧ OwnK wr (n0 + 2) x (ms.take j) ∧ Box wr n0 [.int .u16 (m : Nat), .int .i64 s, .bool k, .slice A n c, .bool t, .int .u32 (v : Nat), .int .u32 (e : Nat)] ∧ Box wr (n0 + 1) [.int .u16 0, .int .i64 0, .bool false, .slice none 0 0, .bool false, .int .u32 0, .int .u32 0] ∧ RdB wr A bs ∧ Up w wr ∧ n0 + 2 ≤ wr.heap.size) (fun _ i _ => n - (intOf i).toNat)
  case atStart => exact ⟨0, Nat.zero_le _, rfl, OwnK.nil_ _ _, hA, hB, hr0, hu, hz⟩
  case round =>
    obtain ⟨j, hj, rfl, hO, hAr, hBr, hrr, hur, hzr⟩ := hrel
    clear hA hB
    by_cases hlt : j < n
    · obtain ⟨g, off, hAe, hg, x1, x2, c1, c2, hx⟩ := hrr.at_ (k := j) (by rw [HN.out]; exact hlt)
      have hgn : g < n0 := hgl g off hAe (by intro h; subst h; simp at hx; have := hx.out; simp at this)
      subst hAe
      obtain ⟨k0, k1, k2, k3, k4, k5, k6⟩ := Box.e7 hAr
      have hxm := HB.out (x1, x2) (List.mem_of_getElem? hx.out)
      obtain ⟨y1, hy1⟩ : ∃ y1, y1 = addM x1 b := ⟨_, rfl⟩
      obtain ⟨y2, hy2⟩ : ∃ y2, y2 = addM x2 b := ⟨_, rfl⟩
      have HM : Hid (ms.take (j + 1) = ms.take j ++ [(y1, y2)]) := by unfold Hid; rw [HT.out j x1 x2 hx.out, hy1, hy2]
      have hq1 : ((x1 : Int) + (b : Int)) % 4294967296 = (y1 : Int) := by rw [hy1]; unfold addM M32; omega
      have hq2 : ((x2 : Int) + (b : Int)) % 4294967296 = (y2 : Int) := by rw [hy2]; unfold addM M32; omega
      have hw1 : IntKind.u32.wrap ((x1 : Int) + (b : Int)) = (y1 : Int) := by rw [IntKind.wrap_u32]; exact hq1
      have hw2 : IntKind.u32.wrap ((x2 : Int) + (b : Int)) = (y2 : Int) := by rw [IntKind.wrap_u32]; exact hq2
      have hl : (ms.take j).length ≤ 1048576 := by rw [List.length_take]; omega
      generalize ms.take j = xs at hO hl HM
      clear hy1 hy2 hxm hr0 hz hx
      have hal : ∀ o, (wr.alloc o).cell? ⟨n0, 3, none⟩ = some (.slice (some ⟨g, off, none⟩) n c) := fun o => (hAr.alloc o).at 3 rfl
      go_upto_region 5 with fail
      go_region_law (first
        | (refine step_app2 (.tmp 18) (.tmp 36) _ [(y1, y2)] (hO.up (by first | exact up_al _ (up_dr (Below.refl _ _)) | exact up_dr (up_al _ (Below.refl _ _)))) rfl rfl rfl rfl (cells_new1 (by go_simp) (by go_simp)) (by omega) (by simp) (by simp; omega) ?_; intro v4 w4 hO4 hb4; have hB40 := (Box.up hBr (by first | exact up_al _ (up_dr (Below.refl _ _)) | exact up_dr (up_al _ (Below.refl _ _)))).below hb4 (by omega); have hA40 := (Box.up hAr (by first | exact up_al _ (up_dr (Below.refl _ _)) | exact up_dr (up_al _ (Below.refl _ _)))).below hb4 (by omega); have hr40 := (RdB.up hrr (by first | exact up_al _ (up_dr (Below.refl _ _)) | exact up_dr (up_al _ (Below.refl _ _)))).low (B := n0 + 2) (fun g' off' h1 h2 => Nat.lt_of_lt_of_le (hgl g' off' h1 h2) (by omega)) hb4; have hu40 := (hur.on (by first | exact up_al _ (up_dr (Below.refl _ _)) | exact up_dr (up_al _ (Below.refl _ _)))).trans (hb4.mono (by omega))))
      all_goals
        have hz40 : n0 + 2 ≤ w4.heap.size := Nat.le_trans hzr (Nat.le_trans (by simp) hb4.size)
        go_wp2
        go_roundw
        case rel => exact ⟨j + 1, by omega, by go_num, by rw [HM.out]; exact hO4, hA40, hB40, hr40, hu40, hz40⟩
        case measure => simp [intOf]; omega
    · obtain rfl : j = n := by omega
      obtain ⟨A', c', rfl, hrd⟩ := hO.rd
      rw [List.take_of_length_le (by rw [HL.out]; exact Nat.le_refl _)] at hrd hO ⊢
      rw [HL.out] at hO ⊢
      obtain ⟨k0, k1, k2, k3, k4, k5, k6, f0, f1, f2, f3, f4, f5, f6⟩ := Box.c7 hAr
      go_upto_region 7 with fail
      have hA5 := hAr.set 3 (.slice A' j c')
      have hB5 := hBr.far hne (.slice A' j c') (o := 3)
      have hu5 := up_set (o := 3) (v := .slice A' j c') hur hle0
      have hO5 : OwnK (wr.setCell ⟨n0, 3, none⟩ (.slice A' j c')) (n0 + 2) (.slice A' j c') ms := RowKit.ownsRow_setCell_below hO (a := ⟨n0, 3, none⟩) (by show n0 < _; omega) _
      clear k0 k1 k2 k3 k4 k5 k6 f0 f1 f2 f3 f4 f5 f6 hAr hBr hur hO hrd hrr hr0
      generalize (wr.setCell ⟨n0, 3, none⟩ (.slice A' j c')) = w5 at hA5 hB5 hu5 hO5 ⊢
      cases t
      case false =>
        obtain ⟨k0, k1, k2, k3, k4, k5, k6, f0, f1, f2, f3, f4, f5, f6⟩ := Box.c7 hA5
        obtain ⟨m0, m1, m2, m3, m4, m5, m6, g0, g1, g2, g3, g4, g5, g6⟩ := Box.c7 hB5
        go_wp2_with fail
        have hBB := put7 hB5 (.int .u16 (m : Nat)) (.int .i64 s) (.bool k) (.slice A' j c') (.bool false) (.int .u32 (v : Nat)) (.int .u32 (e : Nat))
        have huu := ups7 (b := n0 + 1) hu5 hle1 (.int .u16 (m : Nat)) (.int .i64 s) (.bool k) (.slice A' j c') (.bool false) (.int .u32 (v : Nat)) (.int .u32 (e : Nat))
        have hOO := own7 hO5 (b := n0 + 1) (by omega) (.int .u16 (m : Nat)) (.int .i64 s) (.bool k) (.slice A' j c') (.bool false) (.int .u32 (v : Nat)) (.int .u32 (e : Nat))
        generalize World.setCell _ ⟨n0 + 1, 6, none⟩ _ = W9 at hBB huu hOO ⊢
        clear k0 k1 k2 k3 k4 k5 k6 f0 f1 f2 f3 f4 f5 f6 m0 m1 m2 m3 m4 m5 m6 g0 g1 g2 g3 g4 g5 g6
        obtain ⟨m0, m1, m2, m3, m4, m5, m6, g0, g1, g2, g3, g4, g5, g6⟩ := Box.c7 hBB
        (try simp only [Exit.inBlock, Exit.then])
        refine bodyPost_ret (v := .agg #[.int .u16 (m : Nat), .int .i64 s, .bool k, .slice A' j c', .bool false, .int .u32 (v : Nat), .int .u32 (e : Nat)]) ?_ rfl ⟨A', c', rfl, ?_, HL.out, huu⟩
        · rw [results_cell1 rfl]; go_simp
        · obtain ⟨A2, c2, he2, hr2⟩ := hOO.rd
          rw [HL.out] at he2; cases he2
          exact hr2
      case true =>
        obtain ⟨v2, hv2⟩ : ∃ v2, v2 = addM v va := ⟨_, rfl⟩
        obtain ⟨e2, he2⟩ : ∃ e2, e2 = addM e ec := ⟨_, rfl⟩
        have hq1 : ((v : Int) + (va : Int)) % 4294967296 = (v2 : Int) := by rw [hv2]; unfold addM M32; omega
        have hq2 : ((e : Int) + (ec : Int)) % 4294967296 = (e2 : Int) := by rw [he2]; unfold addM M32; omega
        have hw1 : IntKind.u32.wrap ((v : Int) + (va : Int)) = (v2 : Int) := by rw [IntKind.wrap_u32]; exact hq1
        have hw2 : IntKind.u32.wrap ((e : Int) + (ec : Int)) = (e2 : Int) := by rw [IntKind.wrap_u32]; exact hq2
        have HV := Lib.hid hv2; have HE := Lib.hid he2
        clear hv2 he2
        obtain ⟨k0, k1, k2, k3, k4, k5, k6, f0, f1, f2, f3, f4, f5, f6⟩ := Box.c7 hA5
        go_upto_region 9 with fail
        have hA6 := hA5.set 5 (.int .u32 (v2 : Nat))
        have hB6 := hB5.far hne (.int .u32 (v2 : Nat)) (o := 5)
        have hu6 := up_set (o := 5) (v := .int .u32 (v2 : Nat)) hu5 hle0
        have hO6 : OwnK (w5.setCell ⟨n0, 5, none⟩ (.int .u32 (v2 : Nat))) (n0 + 2) (.slice A' j c') ms := RowKit.ownsRow_setCell_below hO5 (a := ⟨n0, 5, none⟩) (by show n0 < _; omega) _
        clear k0 k1 k2 k3 k4 k5 k6 f0 f1 f2 f3 f4 f5 f6 hA5 hB5 hu5 hO5
        generalize (w5.setCell ⟨n0, 5, none⟩ (.int .u32 (v2 : Nat))) = w6 at hA6 hB6 hu6 hO6 ⊢
        obtain ⟨k0, k1, k2, k3, k4, k5, k6, f0, f1, f2, f3, f4, f5, f6⟩ := Box.c7 hA6
        go_upto_region 10 with fail
        have hA7 := hA6.set 6 (.int .u32 (e2 : Nat))
        have hB7 := hB6.far hne (.int .u32 (e2 : Nat)) (o := 6)
        have hu7 := up_set (o := 6) (v := .int .u32 (e2 : Nat)) hu6 hle0
        have hO7 : OwnK (w6.setCell ⟨n0, 6, none⟩ (.int .u32 (e2 : Nat))) (n0 + 2) (.slice A' j c') ms := RowKit.ownsRow_setCell_below hO6 (a := ⟨n0, 6, none⟩) (by show n0 < _; omega) _
        clear k0 k1 k2 k3 k4 k5 k6 f0 f1 f2 f3 f4 f5 f6 hA6 hB6 hu6 hO6
        generalize (w6.setCell ⟨n0, 6, none⟩ (.int .u32 (e2 : Nat))) = w7 at hA7 hB7 hu7 hO7 ⊢
        obtain ⟨k0, k1, k2, k3, k4, k5, k6, f0, f1, f2, f3, f4, f5, f6⟩ := Box.c7 hA7
        obtain ⟨m0, m1, m2, m3, m4, m5, m6, g0, g1, g2, g3, g4, g5, g6⟩ := Box.c7 hB7
        go_wp2_with fail
        have hBB := put7 hB7 (.int .u16 (m : Nat)) (.int .i64 s) (.bool k) (.slice A' j c') (.bool true) (.int .u32 (v2 : Nat)) (.int .u32 (e2 : Nat))
        have huu := ups7 (b := n0 + 1) hu7 hle1 (.int .u16 (m : Nat)) (.int .i64 s) (.bool k) (.slice A' j c') (.bool true) (.int .u32 (v2 : Nat)) (.int .u32 (e2 : Nat))
        have hOO := own7 hO7 (b := n0 + 1) (by omega) (.int .u16 (m : Nat)) (.int .i64 s) (.bool k) (.slice A' j c') (.bool true) (.int .u32 (v2 : Nat)) (.int .u32 (e2 : Nat))
        generalize World.setCell _ ⟨n0 + 1, 6, none⟩ _ = W9 at hBB huu hOO ⊢
        clear k0 k1 k2 k3 k4 k5 k6 f0 f1 f2 f3 f4 f5 f6 m0 m1 m2 m3 m4 m5 m6 g0 g1 g2 g3 g4 g5 g6
        obtain ⟨m0, m1, m2, m3, m4, m5, m6, g0, g1, g2, g3, g4, g5, g6⟩ := Box.c7 hBB
        (try simp only [Exit.inBlock, Exit.then])
        refine bodyPost_ret (v := .agg #[.int .u16 (m : Nat), .int .i64 s, .bool k, .slice A' j c', .bool true, .int .u32 (v2 : Nat), .int .u32 (e2 : Nat)]) ?_ rfl ⟨A', c', ?_, ?_, HL.out, huu⟩
        · rw [results_cell1 rfl]; go_simp
        · rw [HV.out, HE.out]
        · obtain ⟨A2, c2, he2, hr2⟩ := hOO.rd
          rw [HL.out] at he2; cases he2
          exact hr2
end Go.Proofs.Ytdlcglkeinlimaa.op
