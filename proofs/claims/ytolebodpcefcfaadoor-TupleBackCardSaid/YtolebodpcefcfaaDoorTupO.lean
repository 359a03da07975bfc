/- The document's answer for tuple: the address that a text is. Condition: none. -/
import Derived.Test.YtolebodpcefcfaaDoorTupN
import Derived.Test.YtolebodpcefcfaaDoorTupF
namespace Go.Proofs.YtolebodpcefcfaaDoor.tu
open Go.RowKit Go.Shelf Go.Proofs.YtolebodpcefcfaaDoor.tm
set_option linter.unusedVariables false

/-- what is left of an address's text behind k of its numbers -/
def sfx (i p : Nat) : Nat → List UInt8
  | 0 => D (q3 i) ++ 46 :: (D (q2 i) ++ 46 :: (D (q1 i) ++ 46 :: (D (q0 i) ++ 58 :: D p)))
  | 1 => D (q2 i) ++ 46 :: (D (q1 i) ++ 46 :: (D (q0 i) ++ 58 :: D p))
  | 2 => D (q1 i) ++ 46 :: (D (q0 i) ++ 58 :: D p)
  | 3 => D (q0 i) ++ 58 :: D p
  | _ => D p
/-- what its k numbers come to -/
def part (i : Nat) : Nat → Nat
  | 0 => 0
  | 1 => q3 i
  | 2 => q3 i * 256 + q2 i
  | 3 => (q3 i * 256 + q2 i) * 256 + q1 i
  | _ => ip4 (q3 i) (q2 i) (q1 i) (q0 i)
def wantC (k : Nat) : UInt8 := if k = 3 then 58 else 46
theorem sfx_step (i p k : Nat) (hk : k < 4) : ∃ x, x ≤ 255 ∧ sfx i p k = D x ++ wantC k :: sfx i p (k + 1) ∧ part i (k + 1) = part i k * 256 + x ∧ part i (k + 1) < 4294967296 := by
  have hq := q_le i
  rcases (by omega : k = 0 ∨ k = 1 ∨ k = 2 ∨ k = 3) with rfl | rfl | rfl | rfl
  · exact ⟨q3 i, hq.1, rfl, by simp [part], by show q3 i < 4294967296; omega⟩
  · exact ⟨q2 i, hq.2.1, rfl, rfl, by show q3 i * 256 + q2 i < 4294967296; omega⟩
  · exact ⟨q1 i, hq.2.2.1, rfl, rfl, by show (q3 i * 256 + q2 i) * 256 + q1 i < 4294967296; omega⟩
  · exact ⟨q0 i, hq.2.2.2, rfl, rfl, by show ip4 (q3 i) (q2 i) (q1 i) (q0 i) < 4294967296; exact ip4_lt hq.1 hq.2.1 hq.2.2.1 hq.2.2.2⟩
def Exp (l : List UInt8) (k : Nat) (r : List UInt8) (ip : Nat) : Prop := ∀ i p, i < 4294967296 → p < 65536 → T i p = l → r = sfx i p k ∧ ip = part i k
theorem Exp.start (l : List UInt8) : Exp l 0 l 0 := fun i p _ _ h => ⟨by rw [← h]; rfl, rfl⟩
theorem want_no (k : Nat) : ¬ Dig (wantC k) := by unfold wantC; split <;> decide
theorem not_addr {l : List UInt8} (h : ∀ i p, i < 4294967296 → p < 65536 → T i p = l → False) : pa l = (0, 0, 8) := pa_eq (.inr ⟨rfl, rfl, rfl, fun i p hi hp e => h i p hi hp e⟩)
/-- a number that is read where the text is an address's -/
theorem Exp.num {l r t : List UInt8} {k ip n : Nat} {b : Bool} (h : Exp l k r ip) (hk : k < 4) (hn : NumAns r 255 n t b) {i p : Nat} (hi : i < 4294967296) (hp : p < 65536) (e : T i p = l) :
    b = true ∧ t = wantC k :: sfx i p (k + 1) ∧ part i (k + 1) = part i k * 256 + n ∧ part i (k + 1) < 4294967296 ∧ ip = part i k := by
  obtain ⟨h1, h2⟩ := h i p hi hp e
  obtain ⟨x, hx, hs, hpt, hlt⟩ := sfx_step i p k hk
  rw [hs] at h1
  obtain ⟨e1, e2, e3⟩ := hn.2 x _ (by omega) (by intro c hc; cases hc; exact want_no k) h1
  exact ⟨by rw [e3]; exact decide_eq_true hx, e2, by rw [e1]; exact hpt, hlt, h2⟩
theorem Exp.next {l r t t' : List UInt8} {k ip n : Nat} {b : Bool} {c : UInt8} (h : Exp l k r ip) (hk : k < 4) (hn : NumAns r 255 n t b) (ht : t = c :: t') : Exp l (k + 1) t' ((ip * 256 + n) % 4294967296) := fun i p hi hp e => by
  obtain ⟨-, e2, e3, e4, e5⟩ := h.num hk hn hi hp e
  rw [ht] at e2
  refine ⟨(List.cons.inj e2).2, ?_⟩
  rw [e5, e3]
  exact Nat.mod_eq_of_lt (by omega)
theorem Exp.port {l r t : List UInt8} {ip n : Nat} {b : Bool} (h : Exp l 4 r ip) (hn : NumAns r 65535 n t b) {i p : Nat} (hi : i < 4294967296) (hp : p < 65536) (e : T i p = l) :
    b = true ∧ t = [] ∧ n = p ∧ ip = i := by
  obtain ⟨h1, h2⟩ := h i p hi hp e
  have h1' : r = D p ++ [] := by rw [h1]; simp [sfx]
  obtain ⟨e1, e2, e3⟩ := hn.2 p _ (by omega) (by intro c hc; cases hc) h1'
  exact ⟨by rw [e3]; exact decide_eq_true (by omega), e2, e1, by rw [h2]; exact ip4_q hi⟩
theorem L_nil {t : ByteArray} (h : t = { data := #[] }) : L t = [] := by rw [h]
theorem nil_of {t : ByteArray} (h : L t = []) : t = { data := #[] } := ba_of h
theorem num_ret {s : ByteArray} {most : Nat} {w w' : World} {e : Ending} (h : NumOut s most w e w') : ∃ (n : Nat) (t : ByteArray) (b : Bool), e = .returned (.tuple #[.int .u64 n, .string t, .bool b]) ∧ n ≤ 999999 ∧ Hid (NumAns (L s) most n (L t) b) ∧ t.size ≤ s.size ∧ Up w w' := by
  obtain ⟨⟨n, t, b, h1, h2, h3, h4⟩, h5⟩ := h
  exact ⟨n, t, b, h1, h2, h3, h4, h5⟩

set_option maxHeartbeats 4000000 in
set_option maxRecDepth 100000 in
theorem refParse (s : ByteArray) (w : World) (hs : s.size ≤ 1024) :
    Calls Tryd.prog 7 #[.string s] w (ParseOut s w) := by
  go_enter Tryd.func7, Tryd.ntmps7
  go_wp2
  have B0 := (Box.new w 0 0).alloc (.cells #[.int .u32 0, .int .u16 0] 25)
  have B1 := Box.new (w.alloc (.cells #[.int .u32 0, .int .u16 0] 25)) 0 0
  have hu : Up w ((w.alloc (.cells #[.int .u32 0, .int .u16 0] 25)).alloc (.cells #[.int .u32 0, .int .u16 0] 25)) := up_al _ (up_al _ (Below.refl _ _))
  rw [show (w.alloc (.cells #[.int .u32 0, .int .u16 0] 25)).heap.size = w.heap.size + 1 by simp] at B1
  generalize ((w.alloc (.cells #[.int .u32 0, .int .u16 0] 25)).alloc (.cells #[.int .u32 0, .int .u16 0] 25)) = w2 at B0 B1 hu ⊢
  go_loopw [5, 6] (fun r x wr => ∃ (k ip : Nat) (t : ByteArray), k ≤ 4 ∧ x = .int .i64 (k : Nat) ∧ r = .string t ∧ t.size ≤ 1024 ∧ ip < 4294967296 ∧ Hid (Box wr w.heap.size 0 0 ∧ Box wr (w.heap.size + 1) (ip : Nat) 0) ∧ Hid (Exp (L s) k (L t) ip) ∧ Up w wr)
    (fun _ x _ => 4 - (intOf x).toNat)
  case atStart => exact ⟨0, 0, s, by omega, rfl, rfl, hs, by omega, ⟨B0, B1⟩, Exp.start _, hu⟩
  case round =>
    obtain ⟨k, ip, r, hk, rfl, rfl, hrs, hip, hB, hE, hu1⟩ := hrel
    by_cases h4k : k < 4
    · by_cases h3 : k = 3
      · subst h3
        go_wp2_with (go_at_call 23; refine (number r 255 wr (by omega) (by omega)).mono ?_; intro e w3 hnum; obtain ⟨n, t, b, rfl, hn9, hN, hts, hu3⟩ := num_ret hnum; have R3 := Lib.hid (⟨hB.out.1.up hu3, hB.out.2.up hu3⟩ : _ ∧ _); have U3 := hu1.on hu3; clear hnum; refine Hid.out ?_)
        refine Lib.hid ?_
        cases b
        · have HA : Hid (pa (L s) = (0, 0, 8)) := not_addr fun i p hi hp e => by
            have := (hE.out.num h4k hN.out hi hp e).1
            cases this
          obtain ⟨r0, r1, r2, r3, r4⟩ := R3.out.1
          go_wp2
          (try simp only [Exit.inBlock, Exit.then])
          refine bodyPost_ret (v := AE (0, 0, 8)) ?_ rfl ⟨by rw [HA.out], up_set (up_set U3 (Nat.le_refl _)) (Nat.le_refl _)⟩
          have BF := (R3.out.1.set0 0).set1 0
          obtain ⟨f0, f1, -⟩ := BF
          rw [results_cell_tmp rfl]
          generalize World.setCell (World.setCell _ _ _) _ _ = WF at f0 f1 ⊢
          go_simp
        · by_cases ht0 : t = { data := #[] }
          · have d0 : t.toList.isEmpty = true := by rw [ht0, Lib.toList_data]; rfl
            have HA : Hid (pa (L s) = (0, 0, 8)) := not_addr fun i p hi hp e => by
              have := (hE.out.num h4k hN.out hi hp e).2.1
              rw [L_nil ht0] at this
              cases this
            have HT0 := Lib.hid ht0; clear ht0
            obtain ⟨r0, r1, r2, r3, r4⟩ := R3.out.1
            go_wp2
            (try simp only [Exit.inBlock, Exit.then])
            refine bodyPost_ret (v := AE (0, 0, 8)) ?_ rfl ⟨by rw [HA.out], up_set (up_set U3 (Nat.le_refl _)) (Nat.le_refl _)⟩
            have BF := (R3.out.1.set0 0).set1 0
            obtain ⟨f0, f1, -⟩ := BF
            rw [results_cell_tmp rfl]
            generalize World.setCell (World.setCell _ _ _) _ _ = WF at f0 f1 ⊢
            go_simp
          · have d0 : t.toList.isEmpty = false := by rw [Lib.toList_data]; cases h : t.data.toList with | nil => exact absurd (nil_of h) ht0 | cons a m => rfl
            have hz : 0 < t.size := by
              rcases Nat.eq_zero_or_pos t.size with h | h
              · exact absurd (nil_of (List.eq_nil_of_length_eq_zero (by rw [L_len]; exact h))) ht0
              · exact h
            have HT0 := Lib.hid ht0; clear ht0
            obtain ⟨c, hc⟩ : ∃ c, c = t[0] := ⟨_, rfl⟩
            have hLt : L t = c :: L (t.extract 1 t.size) := by
              rw [L_ext, hc]
              have h1 := L_at t 0 hz
              cases hL : L t with
              | nil => rw [hL] at h1; cases h1
              | cons a m => rw [hL] at h1; simp at h1; rw [h1]; rfl
            have HC := Lib.hid hc
            have HLT := Lib.hid hLt
            clear hc hLt
            by_cases hcw : c = 58
            · have hcI' : t[0].toNat = 58 := by rw [← HC.out, hcw]; rfl
              have d1 : ((t[0].toNat : Int) != 58) = false := by rw [hcI']; rfl
              clear hcI'
              have hn255 : n ≤ 255 := hN.out.1 rfl
              have HX : Hid (Exp (L s) (3 + 1) (L (t.extract 1 t.size)) ((ip * 256 + n) % 4294967296)) := hE.out.next h4k hN.out HLT.out
              obtain ⟨ip', hip'⟩ : ∃ ip', ip' = (ip * 256 + n) % 4294967296 := ⟨_, rfl⟩
              rw [← hip'] at HX
              have m1 : IntKind.u32.wrap ((ip : Int) * 256) = ((ip * 256 % 4294967296 : Nat) : Int) := by rw [IntKind.wrap_u32]; omega
              have m2 : IntKind.u32.wrap (((ip * 256 % 4294967296 : Nat) : Int) + (n : Int)) = (ip' : Int) := by rw [IntKind.wrap_u32, hip']; omega
              have hlt' : ip' < 4294967296 := by rw [hip']; exact Nat.mod_lt _ (by omega)
              have hHip := Lib.hid hip'
              have HCW := Lib.hid hcw
              clear hip' hcw
              generalize ip * 256 % 4294967296 = ipm at m1 m2
              obtain ⟨a0, a1, a2, a3, a4⟩ := R3.out.2
              go_wp2
              go_roundw
              case rel => exact ⟨3 + 1, ip', t.extract 1 t.size, by omega, by go_num, rfl, by rw [ByteArray.size_extract]; omega, hlt', ⟨R3.out.1.far (by omega) _, R3.out.2.set0 _⟩, HX.out, up_set U3 (by omega)⟩
              case measure => simp [intOf]; try omega
            · have d1 : ((t[0].toNat : Int) != 58) = true := by
                rw [bne_iff_ne]; intro e; exact hcw (UInt8.toNat_inj.1 (by rw [HC.out]; show t[0].toNat = 58; omega))
              have HA : Hid (pa (L s) = (0, 0, 8)) := not_addr fun i p hi hp e => by
                have := (hE.out.num h4k hN.out hi hp e).2.1
                rw [HLT.out] at this
                exact hcw (List.cons.inj this).1
              have HCW := Lib.hid hcw; clear hcw
              obtain ⟨r0, r1, r2, r3, r4⟩ := R3.out.1
              go_wp2
              (try simp only [Exit.inBlock, Exit.then])
              refine bodyPost_ret (v := AE (0, 0, 8)) ?_ rfl ⟨by rw [HA.out], up_set (up_set U3 (Nat.le_refl _)) (Nat.le_refl _)⟩
              have BF := (R3.out.1.set0 0).set1 0
              obtain ⟨f0, f1, -⟩ := BF
              rw [results_cell_tmp rfl]
              generalize World.setCell (World.setCell _ _ _) _ _ = WF at f0 f1 ⊢
              go_simp
      · have d3 : ((k : Int) == 3) = false := by rw [beq_eq_false_iff_ne]; omega
        have hw : wantC k = 46 := by unfold wantC; rw [if_neg h3]
        have HW := Lib.hid hw
        have H3 := Lib.hid h3
        clear hw h3
        go_wp2_with (go_at_call 23; refine (number r 255 wr (by omega) (by omega)).mono ?_; intro e w3 hnum; obtain ⟨n, t, b, rfl, hn9, hN, hts, hu3⟩ := num_ret hnum; have R3 := Lib.hid (⟨hB.out.1.up hu3, hB.out.2.up hu3⟩ : _ ∧ _); have U3 := hu1.on hu3; clear hnum; refine Hid.out ?_)
        refine Lib.hid ?_
        cases b
        · have HA : Hid (pa (L s) = (0, 0, 8)) := not_addr fun i p hi hp e => by
            have := (hE.out.num h4k hN.out hi hp e).1
            cases this
          obtain ⟨r0, r1, r2, r3, r4⟩ := R3.out.1
          go_wp2
          (try simp only [Exit.inBlock, Exit.then])
          refine bodyPost_ret (v := AE (0, 0, 8)) ?_ rfl ⟨by rw [HA.out], up_set (up_set U3 (Nat.le_refl _)) (Nat.le_refl _)⟩
          have BF := (R3.out.1.set0 0).set1 0
          obtain ⟨f0, f1, -⟩ := BF
          rw [results_cell_tmp rfl]
          generalize World.setCell (World.setCell _ _ _) _ _ = WF at f0 f1 ⊢
          go_simp
        · by_cases ht0 : t = { data := #[] }
          · have d0 : t.toList.isEmpty = true := by rw [ht0, Lib.toList_data]; rfl
            have HA : Hid (pa (L s) = (0, 0, 8)) := not_addr fun i p hi hp e => by
              have := (hE.out.num h4k hN.out hi hp e).2.1
              rw [L_nil ht0] at this
              cases this
            have HT0 := Lib.hid ht0; clear ht0
            obtain ⟨r0, r1, r2, r3, r4⟩ := R3.out.1
            go_wp2
            (try simp only [Exit.inBlock, Exit.then])
            refine bodyPost_ret (v := AE (0, 0, 8)) ?_ rfl ⟨by rw [HA.out], up_set (up_set U3 (Nat.le_refl _)) (Nat.le_refl _)⟩
            have BF := (R3.out.1.set0 0).set1 0
            obtain ⟨f0, f1, -⟩ := BF
            rw [results_cell_tmp rfl]
            generalize World.setCell (World.setCell _ _ _) _ _ = WF at f0 f1 ⊢
            go_simp
          · have d0 : t.toList.isEmpty = false := by rw [Lib.toList_data]; cases h : t.data.toList with | nil => exact absurd (nil_of h) ht0 | cons a m => rfl
            have hz : 0 < t.size := by
              rcases Nat.eq_zero_or_pos t.size with h | h
              · exact absurd (nil_of (List.eq_nil_of_length_eq_zero (by rw [L_len]; exact h))) ht0
              · exact h
            have HT0 := Lib.hid ht0; clear ht0
            obtain ⟨c, hc⟩ : ∃ c, c = t[0] := ⟨_, rfl⟩
            have hLt : L t = c :: L (t.extract 1 t.size) := by
              rw [L_ext, hc]
              have h1 := L_at t 0 hz
              cases hL : L t with
              | nil => rw [hL] at h1; cases h1
              | cons a m => rw [hL] at h1; simp at h1; rw [h1]; rfl
            have HC := Lib.hid hc
            have HLT := Lib.hid hLt
            clear hc hLt
            by_cases hcw : c = 46
            · have hcI' : t[0].toNat = 46 := by rw [← HC.out, hcw]; rfl
              have d1 : ((t[0].toNat : Int) != 46) = false := by rw [hcI']; rfl
              clear hcI'
              have hn255 : n ≤ 255 := hN.out.1 rfl
              have HX : Hid (Exp (L s) (k + 1) (L (t.extract 1 t.size)) ((ip * 256 + n) % 4294967296)) := hE.out.next h4k hN.out HLT.out
              obtain ⟨ip', hip'⟩ : ∃ ip', ip' = (ip * 256 + n) % 4294967296 := ⟨_, rfl⟩
              rw [← hip'] at HX
              have m1 : IntKind.u32.wrap ((ip : Int) * 256) = ((ip * 256 % 4294967296 : Nat) : Int) := by rw [IntKind.wrap_u32]; omega
              have m2 : IntKind.u32.wrap (((ip * 256 % 4294967296 : Nat) : Int) + (n : Int)) = (ip' : Int) := by rw [IntKind.wrap_u32, hip']; omega
              have hlt' : ip' < 4294967296 := by rw [hip']; exact Nat.mod_lt _ (by omega)
              have hHip := Lib.hid hip'
              have HCW := Lib.hid hcw
              clear hip' hcw
              generalize ip * 256 % 4294967296 = ipm at m1 m2
              obtain ⟨a0, a1, a2, a3, a4⟩ := R3.out.2
              go_wp2
              go_roundw
              case rel => exact ⟨k + 1, ip', t.extract 1 t.size, by omega, by go_num, rfl, by rw [ByteArray.size_extract]; omega, hlt', ⟨R3.out.1.far (by omega) _, R3.out.2.set0 _⟩, HX.out, up_set U3 (by omega)⟩
              case measure => simp [intOf]; try omega
            · have d1 : ((t[0].toNat : Int) != 46) = true := by
                rw [bne_iff_ne]; intro e; exact hcw (UInt8.toNat_inj.1 (by rw [HC.out]; show t[0].toNat = 46; omega))
              have HA : Hid (pa (L s) = (0, 0, 8)) := not_addr fun i p hi hp e => by
                have := (hE.out.num h4k hN.out hi hp e).2.1
                rw [HLT.out] at this
                rw [HW.out] at this
                exact hcw (List.cons.inj this).1
              have HCW := Lib.hid hcw; clear hcw
              obtain ⟨r0, r1, r2, r3, r4⟩ := R3.out.1
              go_wp2
              (try simp only [Exit.inBlock, Exit.then])
              refine bodyPost_ret (v := AE (0, 0, 8)) ?_ rfl ⟨by rw [HA.out], up_set (up_set U3 (Nat.le_refl _)) (Nat.le_refl _)⟩
              have BF := (R3.out.1.set0 0).set1 0
              obtain ⟨f0, f1, -⟩ := BF
              rw [results_cell_tmp rfl]
              generalize World.setCell (World.setCell _ _ _) _ _ = WF at f0 f1 ⊢
              go_simp
    · obtain rfl : k = 4 := by omega
      go_wp2_with (go_at_call 23; refine (number r 65535 wr (by omega) (by omega)).mono ?_; intro e w3 hnum; obtain ⟨n, t, b, rfl, hn9, hN, hts, hu3⟩ := num_ret hnum; have R3 := Lib.hid (⟨hB.out.1.up hu3, hB.out.2.up hu3⟩ : _ ∧ _); have U3 := hu1.on hu3; clear hnum; refine Hid.out ?_)
      refine Lib.hid ?_
      obtain ⟨m, hm⟩ : ∃ m, m = n % 65536 := ⟨_, rfl⟩
      have m1 : IntKind.u16.wrap (n : Int) = (m : Int) := by rw [IntKind.wrap_u16, hm]; omega
      have HM := Lib.hid hm; clear hm
      have R4 := Lib.hid (⟨R3.out.1.far (show w.heap.size + 1 ≠ w.heap.size by omega) (o := 1) (.int .u16 (m : Int)), R3.out.2.set1 (m : Int)⟩ : _ ∧ _)
      have U4 : Up w (w3.setCell ⟨w.heap.size + 1, 1, none⟩ (.int .u16 (m : Int))) := up_set U3 (by omega)
      obtain ⟨a0, a1, a2, a3, a4⟩ := R3.out.2
      go_upto_region 16 with fail
      clear a0 a1 a2 a3 a4 R3 U3
      generalize (w3.setCell ⟨w.heap.size + 1, 1, none⟩ (.int .u16 (m : Int))) = w4 at R4 U4 ⊢
      obtain ⟨a0, a1, a2, a3, a4⟩ := R4.out.2
      cases b
      · have HA : Hid (pa (L s) = (0, 0, 8)) := not_addr fun i p hi hp e => by
          have := (hE.out.port hN.out hi hp e).1
          cases this
        obtain ⟨r0, r1, r2, r3, r4⟩ := R4.out.1
        go_wp2
        (try simp only [Exit.inBlock, Exit.then])
        refine bodyPost_ret (v := AE (0, 0, 8)) ?_ rfl ⟨by rw [HA.out], up_set (up_set U4 (Nat.le_refl _)) (Nat.le_refl _)⟩
        have BF := (R4.out.1.set0 0).set1 0
        obtain ⟨f0, f1, -⟩ := BF
        rw [results_cell_tmp rfl]
        generalize World.setCell (World.setCell _ _ _) _ _ = WF at f0 f1 ⊢
        go_simp
      · have hm : m = n := by
          have := hN.out.1 rfl
          rw [HM.out]; exact Nat.mod_eq_of_lt (by omega)
        have HMN := Lib.hid hm; clear hm
        have hm65 : m ≤ 65535 := by rw [HM.out]; omega
        have hip' : ip ≤ 4294967295 := by omega
        by_cases ht0 : t = { data := #[] }
        · have d0 : t.toList.isEmpty = true := by rw [ht0, Lib.toList_data]; rfl
          have HT0 := Lib.hid ht0; clear ht0
          by_cases hT : tS ip m = s
          · have d1 := str_true hT
            have HA : Hid (pa (L s) = (ip, m, 0)) := by
              unfold Hid
              rw [← hT, L_tS]
              exact pa_T hip (by omega)
            have HT := Lib.hid hT; clear hT
            go_wp2_with (go_at_call 11; refine (refText ip m w4 hip' hm65).mono ?_; rintro e w5 ⟨rfl, hu5⟩; have R5 := Lib.hid (⟨R4.out.1.up hu5, R4.out.2.up hu5⟩ : _ ∧ _); have U5 := U4.on hu5; obtain ⟨r0, r1, r2, r3, r4⟩ := R5.out.1; obtain ⟨b0, b1, b2, b3, b4⟩ := R5.out.2)
            (try simp only [Exit.inBlock, Exit.then])
            refine bodyPost_ret (v := AE (ip, m, 0)) ?_ rfl ⟨by rw [HA.out], up_set (up_set U5 (Nat.le_refl _)) (Nat.le_refl _)⟩
            have BF := (R5.out.1.set0 (ip : Nat)).set1 (m : Nat)
            obtain ⟨f0, f1, -⟩ := BF
            rw [results_cell_tmp rfl]
            generalize World.setCell (World.setCell _ _ _) _ _ = WF at f0 f1 ⊢
            go_simp
          · have d1 := str_false hT
            have HA : Hid (pa (L s) = (0, 0, 8)) := not_addr fun i p hi hp e => by
              obtain ⟨-, -, h3, h4⟩ := hE.out.port hN.out hi hp e
              exact hT (ba_eq (by rw [L_tS, ← e, h4, HMN.out, h3]))
            have HT := Lib.hid hT; clear hT
            go_wp2_with (go_at_call 11; refine (refText ip m w4 hip' hm65).mono ?_; rintro e w5 ⟨rfl, hu5⟩; have R5 := Lib.hid (⟨R4.out.1.up hu5, R4.out.2.up hu5⟩ : _ ∧ _); have U5 := U4.on hu5; obtain ⟨r0, r1, r2, r3, r4⟩ := R5.out.1)
            (try simp only [Exit.inBlock, Exit.then])
            refine bodyPost_ret (v := AE (0, 0, 8)) ?_ rfl ⟨by rw [HA.out], up_set (up_set U5 (Nat.le_refl _)) (Nat.le_refl _)⟩
            have BF := (R5.out.1.set0 0).set1 0
            obtain ⟨f0, f1, -⟩ := BF
            rw [results_cell_tmp rfl]
            generalize World.setCell (World.setCell _ _ _) _ _ = WF at f0 f1 ⊢
            go_simp
        · have d0 : t.toList.isEmpty = false := by rw [Lib.toList_data]; cases h : t.data.toList with | nil => exact absurd (nil_of h) ht0 | cons a m => rfl
          have HA : Hid (pa (L s) = (0, 0, 8)) := not_addr fun i p hi hp e => by
            exact ht0 (nil_of (hE.out.port hN.out hi hp e).2.1)
          have HT0 := Lib.hid ht0; clear ht0
          obtain ⟨r0, r1, r2, r3, r4⟩ := R4.out.1
          go_wp2
          (try simp only [Exit.inBlock, Exit.then])
          refine bodyPost_ret (v := AE (0, 0, 8)) ?_ rfl ⟨by rw [HA.out], up_set (up_set U4 (Nat.le_refl _)) (Nat.le_refl _)⟩
          have BF := (R4.out.1.set0 0).set1 0
          obtain ⟨f0, f1, -⟩ := BF
          rw [results_cell_tmp rfl]
          generalize World.setCell (World.setCell _ _ _) _ _ = WF at f0 f1 ⊢
          go_simp
end Go.Proofs.YtolebodpcefcfaaDoor.tu
