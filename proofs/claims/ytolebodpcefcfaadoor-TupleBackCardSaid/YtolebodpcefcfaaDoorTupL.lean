/- Package tuple: the address that a text is. Condition: the library's variables lie as laid. -/
import Derived.Test.YtolebodpcefcfaaDoorTupH
import Derived.Test.YtolebodpcefcfaaDoorTupI
import Derived.Shelf.Strings.Cut
import Derived.Shelf.Strings.Split
namespace Go.Proofs.YtolebodpcefcfaaDoor.tu
open Go.RowKit Go.Shelf Go.Proofs.YtolebodpcefcfaaDoor.tm
set_option linter.unusedVariables false

theorem hi9 : (Tryd.prog.info? 9).map (fun i => (i.zero, i.size, i.bytes)) = some (some (.string ByteArray.empty), 1, 16) := by kernel_rfl
def COL : ByteArray := { data := #[58] }
def DOT : ByteArray := { data := #[46] }
theorem cutC (s : ByteArray) (w : World) (hs : s.size ≤ 1024) (E : Env w) :
    Calls Tryd.prog 17 #[.string s, .string { data := #[58] }] w fun e w' => ∃ (x y : ByteArray) (b : Bool), e = .returned (.tuple #[.string x, .string y, .bool b]) ∧ L x = (Lib.cut (L s) [58]).1 ∧ L y = (Lib.cut (L s) [58]).2.1 ∧ Up w w' := by
  obtain ⟨m, hm⟩ := E.max
  refine (Any.strings_Cut { Tryd.lCut with } s { data := #[58] } m w (by omega) hm).mono fun e w' ⟨h, n, hw⟩ => ⟨_, _, _, h, by simp, by simp, ?_⟩
  subst hw
  exact up_drN _ (Below.refl _ _)
theorem splitC (s : ByteArray) (w : World) (hs : s.size ≤ 1024) (E : Env w) :
    Calls Tryd.prog 19 #[.string s, .string { data := #[46] }, .int .i64 4] w fun e w' => ∃ (ps : List ByteArray) (n c b : Nat), e = .returned (.slice (some ⟨b, 0, none⟩) n c) ∧ ps.length = n ∧ n ≤ c ∧ n ≤ 4 ∧ ps.map L = Lib.splitK [46] 0 (min 4 (s.size + 1) - 1) (L s) ∧ (∀ k (hk : k < ps.length), w'.cell? ⟨b, k, none⟩ = some (.string ps[k])) ∧ b < w'.heap.size ∧ Up w w' := by
  obtain ⟨m, hm⟩ := E.max
  refine (Any.strings_SplitN Tryd.lSplitN hi9 s { data := #[46] } 4 m w (by omega) hm (by decide) (by omega) (by omega)).mono fun e w' ⟨h, hw⟩ => ?_
  have hle := Lib.splitB_length_le { data := #[46] } 0 (min 4 (s.size + 1) - 1) s
  refine ⟨_, _, _, _, h, rfl, by omega, by omega, ?_, fun k hk => ?_, ?_, ?_⟩
  · exact Lib.splitB_data { data := #[46] } 0 _ s
  · subst hw
    rw [World.cell?_alloc_new]
    unfold Lib.cellsOf
    rw [List.getElem?_toArray, List.getElem?_append_left (by simpa using hk)]
    simp [hk]
  · subst hw; simp
  · subst hw; exact up_al _ (Below.refl _ _)

/-! ### what cutting and splitting say of a text -/
def N4 (i : Nat) : List UInt8 := D (q3 i) ++ 46 :: (D (q2 i) ++ 46 :: (D (q1 i) ++ 46 :: D (q0 i)))
theorem T_N4 (i p : Nat) : T i p = N4 i ++ 58 :: D p := by simp [T, T4, N4]
theorem N4_no (i : Nat) : (58 : UInt8) ∉ N4 i := by
  have h := fun n => D_col n
  simp [N4, h]
theorem N4_len (i : Nat) : 7 ≤ (N4 i).length := by
  have h3 := D_pos (q3 i); have h2 := D_pos (q2 i); have h1 := D_pos (q1 i); have h0 := D_pos (q0 i)
  simp [N4]; omega
theorem cut_T (i p : Nat) : Lib.cut (T i p) [58] = (N4 i, D p, true) := by rw [T_N4, cut_app (N4_no i)]
theorem split_le : ∀ (k : Nat) (l y : List UInt8), y ∈ Lib.splitK [46] 0 k l → y.length ≤ l.length
  | 0, l, y, h => by simp [Lib.splitK] at h; rw [h]; exact Nat.le_refl _
  | k + 1, l, y, h => by
    rw [Lib.splitK] at h
    split at h
    · rw [List.mem_singleton.1 h]; exact Nat.le_refl _
    · rcases List.mem_cons.1 h with h | h
      · rw [h, List.length_take]; omega
      · have := split_le k _ y h
        rw [List.length_drop] at this
        omega
theorem piece_le {x : ByteArray} {ps : List ByteArray} {n k : Nat} (hps : ps.map L = Lib.splitK [46] 0 n (L x)) (hk : k < ps.length) : ps[k].size ≤ x.size := by
  have h : L ps[k] ∈ ps.map L := List.mem_map_of_mem (List.getElem_mem hk)
  rw [hps] at h
  have := split_le _ _ _ h
  rw [L_len, L_len] at this
  exact this
/-- no address has the text, if what is behind its colon is no port -/
theorem no_port {l : List UInt8} (h : ∀ m, m ≤ 65535 → D m ≠ (Lib.cut l [58]).2.1) : Parsed l 0 0 8 :=
  .inr ⟨rfl, rfl, rfl, fun i p hi hp e => h p (by omega) (by rw [← e, cut_T])⟩
theorem pieces_T {i p : Nat} {x : ByteArray} {ps : List ByteArray} (hx : L x = (Lib.cut (T i p) [58]).1) (hps : ps.map L = Lib.splitK [46] 0 (min 4 (x.size + 1) - 1) (L x)) : ps.map L = [D (q3 i), D (q2 i), D (q1 i), D (q0 i)] := by
  rw [cut_T] at hx
  have h7 := N4_len i
  have hs : x.size = (N4 i).length := by rw [← L_len, hx]
  rw [hps, hx, show min 4 (x.size + 1) - 1 = 3 by omega]
  exact split_4 _ _ _ _
/-- .. if one of its pieces is no number -/
theorem no_piece {l : List UInt8} {x : ByteArray} {ps : List ByteArray} {k : Nat} (hx : L x = (Lib.cut l [58]).1) (hps : ps.map L = Lib.splitK [46] 0 (min 4 (x.size + 1) - 1) (L x)) (hk : k < ps.length) (h : ∀ m, m ≤ 255 → D m ≠ L ps[k]) : Parsed l 0 0 8 := by
  refine .inr ⟨rfl, rfl, rfl, fun i p hi hp e => ?_⟩
  subst e
  have hm := pieces_T hx hps
  have hq := q_le i
  have hg : (ps.map L)[k]? = some (L ps[k]) := by simp [hk]
  rw [hm] at hg
  have hk4 : k < 4 := by have := (List.getElem?_eq_some_iff.1 hg).1; simpa using this
  rcases (by omega : k = 0 ∨ k = 1 ∨ k = 2 ∨ k = 3) with rfl | rfl | rfl | rfl
  · exact h _ hq.1 (Option.some.inj hg)
  · exact h _ hq.2.1 (Option.some.inj hg)
  · exact h _ hq.2.2.1 (Option.some.inj hg)
  · exact h _ hq.2.2.2 (Option.some.inj hg)
/-- what the bytes of its numbers are read as is its answer -/
theorem all_pieces {l : List UInt8} {x y : ByteArray} {ps : List ByteArray} {ns : List Nat} {p : Nat} (hx : L x = (Lib.cut l [58]).1) (hy : L y = (Lib.cut l [58]).2.1) (hps : ps.map L = Lib.splitK [46] 0 (min 4 (x.size + 1) - 1) (L x))
    (hn : ns.map D = ps.map L) (hle : ∀ m, m ∈ ns → m ≤ 255) (hp : p ≤ 65535) (hD : D p = L y) : Parsed l (rd (ns.map oct ++ B16 p)).1 (rd (ns.map oct ++ B16 p)).2.1 (rd (ns.map oct ++ B16 p)).2.2 := by
  by_cases h4 : ns.length = 4
  · match ns, h4, hn, hle with
    | [a, b, c, d], _, hn, hle =>
      have ha := hle a (by simp); have hb := hle b (by simp); have hc := hle c (by simp); have hd := hle d (by simp)
      have e : rd ([a, b, c, d].map oct ++ B16 p) = (ip4 a b c d, p, 0) := by
        show (ip4 (oct a).toNat (oct b).toNat (oct c).toNat (oct d).toNat, (oct (p / 256)).toNat * 256 + (oct (p % 256)).toNat, 0) = _
        rw [oct_nat ha, oct_nat hb, oct_nat hc, oct_nat hd, oct_nat (n := p / 256) (by omega), oct_nat (n := p % 256) (by omega), show p / 256 * 256 + p % 256 = p by omega]
      rw [e]
      refine .inl ⟨rfl, ip4_lt ha hb hc hd, show p < 65536 by omega, ?_⟩
      obtain ⟨e3, e2, e1, e0⟩ := q_ip4 ha hb hc hd
      rw [T_N4, N4, e3, e2, e1, e0]
      have hgl := glue_split (min 4 (x.size + 1) - 1) (L x)
      rw [← hps, ← hn] at hgl
      have hg4 : D a ++ 46 :: (D b ++ 46 :: (D c ++ 46 :: D d)) = L x := hgl
      rw [hg4, hD, hx, hy]
      rcases cut_cases 58 l with hc | hc
      · rw [← hy, ← hD] at hc
        exact absurd hc (D_ne p)
      · exact hc.symm
  · have e : rd (ns.map oct ++ B16 p) = (0, 0, 8) := rd_not (by simp [B16]; omega)
    rw [e]
    refine .inr ⟨rfl, rfl, rfl, fun i p' hi hp' el => ?_⟩
    subst el
    have hm := pieces_T hx hps
    rw [← hn] at hm
    have := congrArg List.length hm
    simp at this
    exact h4 this
theorem Parsed.ex (l : List UInt8) : ∃ x : Nat × Nat × Nat, Parsed l x.1 x.2.1 x.2.2 := by
  by_cases h : ∃ i p, i < 4294967296 ∧ p < 65536 ∧ T i p = l
  · obtain ⟨i, p, h1, h2, h3⟩ := h
    exact ⟨(i, p, 0), .inl ⟨rfl, h1, h2, h3⟩⟩
  · exact ⟨(0, 0, 8), .inr ⟨rfl, rfl, rfl, fun i p h1 h2 h3 => h ⟨i, p, h1, h2, h3⟩⟩⟩
/-- the answer of Parse -/
noncomputable def pa (l : List UInt8) : Nat × Nat × Nat := Classical.choose (Parsed.ex l)
theorem pa_spec (l : List UInt8) : Parsed l (pa l).1 (pa l).2.1 (pa l).2.2 := Classical.choose_spec (Parsed.ex l)
theorem pa_eq {l : List UInt8} {i p er : Nat} (h : Parsed l i p er) : pa l = (i, p, er) := by
  obtain ⟨h1, h2, h3⟩ := (pa_spec l).uniq h
  rw [← h1, ← h2, ← h3]
theorem pa_T {i p : Nat} (hi : i < 4294967296) (hp : p < 65536) : pa (T i p) = (i, p, 0) := pa_eq (.inl ⟨rfl, hi, hp, rfl⟩)
def ParseOut (s : ByteArray) (w : World) (e : Ending) (w' : World) : Prop := e = .returned (AE (pa (L s))) ∧ Up w w'
theorem cut1_len (l c : List UInt8) : (Lib.cut l c).1.length ≤ l.length ∧ (Lib.cut l c).2.1.length ≤ l.length := by
  unfold Lib.cut
  split <;> simp <;> omega
end Go.Proofs.YtolebodpcefcfaaDoor.tu
