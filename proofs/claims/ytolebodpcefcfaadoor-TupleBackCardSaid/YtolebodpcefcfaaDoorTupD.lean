/- The document's answer for tuple: bytes, what bytes are. Condition: the arguments fit their kinds. -/
import Derived.Test.YtolebodpcefcfaaDoorTupC
namespace Go.Proofs.YtolebodpcefcfaaDoor.tu
open Go.RowKit Go.Shelf Go.Proofs.YtolebodpcefcfaaDoor.tm
set_option linter.unusedVariables false

theorem L_app (a b : ByteArray) : L (a ++ b) = L a ++ L b := by
  show (a ++ b).data.toList = _
  simp
theorem ba_of {a : ByteArray} {l : List UInt8} (h : L a = l) : a = ⟨l.toArray⟩ := by
  subst h
  cases a
  simp
theorem L_mk (l : List UInt8) : L ⟨l.toArray⟩ = l := by simp
theorem conv_lit {w : World} (l : List UInt8) (n : Nat) (hn : l.length = n) (cs : Array Value) (hc : cs = (BC l).toArray) :
    (convert 43 9 (.slice (some ⟨w.heap.size, 0, none⟩) n n)).run Tryd.prog (w.alloc (.cells cs 5)) = .ok (.string ⟨l.toArray⟩) (w.alloc (.cells cs 5)) := by
  subst hn; subst hc
  refine run_convert_bytes_back (P := Tryd.prog) _ 43 9 5 ⟨w.heap.size, 0, none⟩ l.length l Tryd.underlying43 Tryd.underlying5 Tryd.underlying9 (fun j hj => ?_)
  rw [show (⟨w.heap.size, 0, none⟩ : Addr).add j = ⟨w.heap.size, j, none⟩ by unfold Addr.add; split <;> simp_all, World.cell?_alloc_new]
  simp [BC, Lib.byteCells, hj]

set_option maxHeartbeats 1000000 in
set_option maxRecDepth 100000 in
theorem refBytes (i p : Nat) (w : World) (hi : i ≤ 4294967295) (hp : p ≤ 65535) :
    Calls Tryd.prog 13 #[.agg #[.int .u32 i, .int .u16 p]] w fun e w' => e = .returned (.string (bs i p)) ∧ Up w w' := by
  have hq := q_le i
  have n3 : (i : Int) / 16777216 = ((oct (q3 i)).toNat : Int) := by rw [oct_nat hq.1]; unfold q3; omega
  have n2 : ((i : Int) / 65536) % 256 = ((oct (q2 i)).toNat : Int) := by rw [oct_nat hq.2.1]; unfold q2; omega
  have n1 : ((i : Int) / 256) % 256 = ((oct (q1 i)).toNat : Int) := by rw [oct_nat hq.2.2.1]; unfold q1; omega
  have n0 : (i : Int) % 256 = ((oct (q0 i)).toNat : Int) := by rw [oct_nat hq.2.2.2]; unfold q0; omega
  have p1 : (p : Int) / 256 = ((oct (p / 256)).toNat : Int) := by rw [oct_nat (by omega)]; omega
  have p0 : (p : Int) % 256 = ((oct (p % 256)).toNat : Int) := by rw [oct_nat (by omega)]; omega
  go_enter Tryd.func13, Tryd.ntmps13
  go_upto_region 1 with fail
  have k0 : (w.alloc (.cells #[.int .u32 i, .int .u16 p] 25)).cell? ⟨w.heap.size, 0, none⟩ = some (.int .u32 i) := by go_simp
  have k1 : (w.alloc (.cells #[.int .u32 i, .int .u16 p] 25)).cell? ⟨w.heap.size, 1, none⟩ = some (.int .u16 p) := by go_simp
  have hu : Up w (w.alloc (.cells #[.int .u32 i, .int .u16 p] 25)) := up_al _ (Below.refl _ _)
  generalize (w.alloc (.cells #[.int .u32 i, .int .u16 p] 25)) = w0 at k0 k1 hu ⊢
  have hcv := conv_lit (w := w0) (BA i p) 6 rfl #[.int .u8 ((oct (q3 i)).toNat : Int), .int .u8 ((oct (q2 i)).toNat : Int), .int .u8 ((oct (q1 i)).toNat : Int), .int .u8 ((oct (q0 i)).toNat : Int), .int .u8 ((oct (p / 256)).toNat : Int), .int .u8 ((oct (p % 256)).toNat : Int)] rfl
  rw [show (⟨(BA i p).toArray⟩ : ByteArray) = bs i p from rfl] at hcv
  go_wp2
  go_ret
  exact ⟨rfl, up_al _ hu⟩

set_option maxHeartbeats 1000000 in
set_option maxRecDepth 100000 in
theorem refNum (n : Nat) (w : World) (hn : n ≤ 65535) :
    Calls Tryd.prog 28 #[.int .u64 n] w fun e w' => e = .returned (.string ⟨(D n).toArray⟩) ∧ Up w w' := by
  go_enter Tryd.func28, Tryd.ntmps28
  go_wp2
  go_loopw [0, 3] (fun x s wr => ∃ (m : Nat) (t : ByteArray), m ≤ n ∧ x = .int .u64 (m : Nat) ∧ s = .string t ∧ t.size + m ≤ n ∧ Hid (D n = D m ++ L t) ∧ Up w wr) (fun x _ _ => (intOf x).toNat)
  case atStart => exact ⟨n, ByteArray.empty, by omega, rfl, rfl, by exact Nat.le_of_eq (Nat.zero_add _), by simp [Hid], Below.refl _ _⟩
  case round =>
    obtain ⟨m, t, hm, rfl, rfl, htz, ht, hb⟩ := hrel
    by_cases h : 9 < m
    · have hc : (48 : Int) + (m : Int) % 10 = ((oct (48 + m % 10)).toNat : Int) := by rw [oct_nat (by omega)]; omega
      have hcv := conv_lit (w := wr) [oct (48 + m % 10)] 1 rfl #[.int .u8 ((oct (48 + m % 10)).toNat : Int)] rfl
      go_wp2
      go_roundw
      case rel => exact ⟨m / 10, _, by omega, by go_num, rfl, by rw [ByteArray.size_append]; show 1 + t.size + m / 10 ≤ n; omega, by unfold Hid; rw [ht.out, D_big (by omega), L_app, List.append_assoc]; rfl, up_al _ hb⟩
      case measure => simp [intOf]; omega
    · have hc : (48 : Int) + (m : Int) = ((oct (48 + m)).toNat : Int) := by rw [oct_nat (by omega)]; omega
      have hcv := conv_lit (w := wr) [oct (48 + m)] 1 rfl #[.int .u8 ((oct (48 + m)).toNat : Int)] rfl
      have HE : Hid ({ data := #[oct (48 + m)] } ++ t = (⟨(D n).toArray⟩ : ByteArray)) := by
        unfold Hid
        refine ba_of ?_
        rw [ht.out, D_small (by omega), L_app]
        rfl
      go_wp2
      go_ret
      exact ⟨by rw [HE.out]; rfl, up_al _ hb⟩

/-- an address that lies in a block of its own -/
def Box (W : World) (b : Nat) (i p : Int) : Prop :=
  W.cell? ⟨b, 0, none⟩ = some (.int .u32 i) ∧ W.cell? ⟨b, 1, none⟩ = some (.int .u16 p) ∧ W.frozen? ⟨b, 0, none⟩ = false ∧ W.frozen? ⟨b, 1, none⟩ = false ∧ b < W.heap.size
theorem Box.below {W W' : World} {b B : Nat} {i p : Int} (h : Box W b i p) (hb : Below B W W') (hB : b < B) : Box W' b i p :=
  ⟨(hb.cell (p := ⟨b, 0, none⟩) hB).trans h.1, (hb.cell (p := ⟨b, 1, none⟩) hB).trans h.2.1, (hb.frozen (p := ⟨b, 0, none⟩) hB).trans h.2.2.1, (hb.frozen (p := ⟨b, 1, none⟩) hB).trans h.2.2.2.1, Nat.lt_of_lt_of_le h.2.2.2.2 hb.size⟩
theorem Box.up {W W' : World} {b : Nat} {i p : Int} (h : Box W b i p) (hb : Up W W') : Box W' b i p := h.below hb h.2.2.2.2
theorem Box.new (W : World) (i p : Int) : Box (W.alloc (.cells #[.int .u32 i, .int .u16 p] 25)) W.heap.size i p := by
  refine ⟨by simp, by simp, by simp, by simp, by simp⟩
theorem Box.drew {W : World} {b : Nat} {i p : Int} (h : Box W b i p) : Box W.drew b i p := h.up (Below.refl _ _).drew
theorem Box.drewN {W : World} {b : Nat} {i p : Int} (h : Box W b i p) (n : Nat) : Box (W.drewN n) b i p := h.up (below_drewN (Below.refl _ _) n)
theorem Box.alloc {W : World} {b : Nat} {i p : Int} (h : Box W b i p) (o : Obj) : Box (W.alloc o) b i p := h.up (up_al o (Below.refl _ _))
theorem Box.set0 {W : World} {b : Nat} {i p : Int} (h : Box W b i p) (j : Int) : Box (W.setCell ⟨b, 0, none⟩ (.int .u32 j)) b j p :=
  ⟨World.cell?_setCell_same _ _ _ h.1, by rw [World.cell?_setCell_other _ _ _ _ (by simp)]; exact h.2.1, by rw [World.frozen?_setCell]; exact h.2.2.1, by rw [World.frozen?_setCell]; exact h.2.2.2.1, by simpa using h.2.2.2.2⟩
theorem Box.set1 {W : World} {b : Nat} {i p : Int} (h : Box W b i p) (j : Int) : Box (W.setCell ⟨b, 1, none⟩ (.int .u16 j)) b i j :=
  ⟨by rw [World.cell?_setCell_other _ _ _ _ (by simp)]; exact h.1, World.cell?_setCell_same _ _ _ h.2.1, by rw [World.frozen?_setCell]; exact h.2.2.1, by rw [World.frozen?_setCell]; exact h.2.2.2.1, by simpa using h.2.2.2.2⟩
theorem Box.far {W : World} {b c o : Nat} {i p : Int} (h : Box W b i p) (hc : c ≠ b) (v : Value) : Box (W.setCell ⟨c, o, none⟩ v) b i p :=
  ⟨by rw [World.cell?_setCell_other _ _ _ _ (fun e => hc (by cases e; rfl))]; exact h.1, by rw [World.cell?_setCell_other _ _ _ _ (fun e => hc (by cases e; rfl))]; exact h.2.1, by rw [World.frozen?_setCell]; exact h.2.2.1, by rw [World.frozen?_setCell]; exact h.2.2.2.1, by simpa using h.2.2.2.2⟩
theorem up_set {w0 w : World} {b o : Nat} {v : Value} (h : Up w0 w) (hb : w0.heap.size ≤ b) : Up w0 (w.setCell ⟨b, o, none⟩ v) := h.setCell (p := ⟨b, o, none⟩) hb _

set_option maxHeartbeats 1000000 in
set_option maxRecDepth 100000 in
theorem refRead (s : ByteArray) (w : World) (hs : s.size ≤ 1099511627776) :
    Calls Tryd.prog 9 #[.string s] w fun e w' => e = .returned (AE (rd (L s))) ∧ Up w w' := by
  by_cases h : s.size = 6
  · obtain ⟨a, b, c, d, e, f, hl⟩ := six (l := L s) h
    have ha := c_lt a; have hb := c_lt b; have hc := c_lt c; have hd := c_lt d; have he := c_lt e; have hf := c_lt f
    rw [hl, rd_six]
    have get : ∀ (k : Nat) (hk : k < s.size), (L s)[k]? = some s[k] := fun k hk => by
      show s.data.toList[k]? = _
      rw [List.getElem?_eq_getElem (by rw [Array.length_toList]; exact hk)]
      rfl
    rw [hl] at get
    have h4 : 4 < s.size := by omega
    have h5 : 5 < s.size := by omega
    have g4 : s[4] = e := (Option.some.inj (get 4 h4)).symm
    have g5 : s[5] = f := (Option.some.inj (get 5 h5)).symm
    obtain ⟨Q, q0, q4, hQ⟩ : ∃ Q : Nat → Nat, Q 0 = 0 ∧ Q 4 = ip4 a.toNat b.toNat c.toNat d.toNat ∧ ∀ (k : Nat) (hk : k < 4) (hks : k < s.size), Q (k + 1) = Q k * 256 + (s[k]).toNat ∧ Q k * 256 + 255 < 4294967296 := by
      refine ⟨fun k => match k with | 0 => 0 | 1 => a.toNat | 2 => a.toNat * 256 + b.toNat | 3 => (a.toNat * 256 + b.toNat) * 256 + c.toNat | _ => ip4 a.toNat b.toNat c.toNat d.toNat, rfl, rfl, fun k hk hks => ?_⟩
      rcases (by omega : k = 0 ∨ k = 1 ∨ k = 2 ∨ k = 3) with rfl | rfl | rfl | rfl
      · have g := (Option.some.inj (get 0 hks)).symm; rw [g]; simp
      · have g := (Option.some.inj (get 1 hks)).symm; rw [g]; simp; omega
      · have g := (Option.some.inj (get 2 hks)).symm; rw [g]; simp; omega
      · have g := (Option.some.inj (get 3 hks)).symm; rw [g]; simp [ip4]; omega
    have E4 := Lib.hid (show IntKind.u16.wrap (IntKind.u16.wrap (e.toNat : Int) * 256) = (e.toNat : Int) * 256 by rw [IntKind.wrap_u16, IntKind.wrap_u16]; omega)
    have HG4 := Lib.hid g4; have HG5 := Lib.hid g5; have HQ0 := Lib.hid q0; have HQ4 := Lib.hid q4; have HQ := Lib.hid hQ
    clear get g4 g5 q0 q4 hQ hl
    go_enter Tryd.func9, Tryd.ntmps9
    go_wp2
    have HH := Lib.hid h; clear h
    have B0 := (Box.new w 0 0).alloc (.cells #[.int .u32 0, .int .u16 0] 25)
    have B1 := Box.new (w.alloc (.cells #[.int .u32 0, .int .u16 0] 25)) 0 0
    have hu : Up w ((w.alloc (.cells #[.int .u32 0, .int .u16 0] 25)).alloc (.cells #[.int .u32 0, .int .u16 0] 25)) := up_al _ (up_al _ (Below.refl _ _))
    rw [show (w.alloc (.cells #[.int .u32 0, .int .u16 0] 25)).heap.size = w.heap.size + 1 by simp] at B1
    generalize ((w.alloc (.cells #[.int .u32 0, .int .u16 0] 25)).alloc (.cells #[.int .u32 0, .int .u16 0] 25)) = w2 at B0 B1 hu ⊢
    go_loopw [5] (fun x wr => ∃ (k : Nat), k ≤ 4 ∧ x = .int .i64 (k : Nat) ∧ Hid (Box wr w.heap.size 0 0 ∧ Box wr (w.heap.size + 1) (Q k : Nat) 0) ∧ Up w wr)
      (fun x _ => 4 - (intOf x).toNat)
    case atStart => exact ⟨0, by omega, rfl, ⟨B0, by rw [HQ0.out]; exact B1⟩, hu⟩
    case round =>
      obtain ⟨k, hk, rfl, hB, hu1⟩ := hrel
      obtain ⟨A0, A1⟩ := hB.out
      by_cases h4k : k < 4
      · have hks : k < s.size := by rw [HH.out]; omega
        have hksI : (k : Int) < (s.size : Int) := by omega
        obtain ⟨hn, hbd⟩ := HQ.out k h4k hks
        have hcl := c_lt s[k]
        have A1' := Lib.hid A1
        obtain ⟨n0, n1, n2, n3, n4⟩ := A1
        have m1 : IntKind.u32.wrap ((Q k : Int) * 256) = (Q k : Int) * 256 := by rw [IntKind.wrap_u32]; omega
        have m2 : IntKind.u32.wrap ((Q k : Int) * 256 + (s[k].toNat : Int)) = (Q (k + 1) : Nat) := by rw [IntKind.wrap_u32, hn]; omega
        have HN := Lib.hid hn; clear hn
        go_upto_region 7 with fail
        go_region
        all_goals (
          go_wp2
          go_roundw)
        case rel => exact ⟨k + 1, by omega, by go_num, ⟨(A0.far (by omega) _).drew, (Box.set0 A1'.out _).drew⟩, up_dr (up_set hu1 (by omega))⟩
        case measure => simp [intOf]; omega
      · obtain rfl : k = 4 := by omega
        have h4I : (4 : Int) < (s.size : Int) := by omega
        have h5I : (5 : Int) < (s.size : Int) := by omega
        have g4 := HG4.out
        have g5 := HG5.out
        have A0' := Lib.hid A0
        have A1' := Lib.hid A1
        obtain ⟨n0, n1, n2, n3, n4⟩ := A1
        obtain ⟨o0, o1, o2, o3, o4⟩ := A0
        have m1 : IntKind.u16.wrap ((e.toNat : Int) * 256) = (e.toNat : Int) * 256 := by rw [IntKind.wrap_u16]; omega
        have m2 : IntKind.u16.wrap ((e.toNat : Int) * 256 + (f.toNat : Int)) = (e.toNat : Int) * 256 + (f.toNat : Int) := by rw [IntKind.wrap_u16]; omega
        go_upto_region 8 with fail
        go_region
        all_goals (
          go_wp2
          (try simp only [Exit.inBlock, Exit.then])
          refine bodyPost_ret (v := .tuple #[.agg #[.int .u32 (Q 4 : Nat), .int .u16 ((e.toNat : Int) * 256 + (f.toNat : Int))], .int .i64 0]) ?_ rfl ⟨?_, up_dr (up_set (up_set (up_set hu1 (by omega)) (Nat.le_refl _)) (Nat.le_refl _))⟩)
        · have BF := (((A0'.out.far (show w.heap.size + 1 ≠ w.heap.size by omega) (o := 1) (.int .u16 ((e.toNat : Int) * 256 + (f.toNat : Int)))).set0 (Q 4 : Nat)).set1 ((e.toNat : Int) * 256 + (f.toNat : Int))).drew
          obtain ⟨f0, f1, -⟩ := BF
          rw [results_cell_tmp rfl]
          generalize World.drew _ = WF at f0 f1 ⊢
          go_simp
        · rw [HQ4.out]; rfl
  · rw [rd_not (by rw [L_len]; exact h)]
    go_enter Tryd.func9, Tryd.ntmps9
    go_wp2
    (try simp only [Exit.inBlock, Exit.then])
    refine bodyPost_ret (v := AE (0, 0, 8)) ?_ rfl ⟨rfl, ?_⟩
    · rw [results_cell_tmp rfl]; go_simp
    · exact up_al _ (Below.refl _ _)
end Go.Proofs.YtolebodpcefcfaaDoor.tu
