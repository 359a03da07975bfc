/- Plain mathematics of addresses: decimal texts, their places of cutting, bytes of numbers, the order of pairs. Condition: none. -/
import Derived.Lib.ItoaNum
import Derived.Lib.ParseIntBCases
import Derived.Lib.SplitLaws
import Derived.Lib.IndexLaws
import Derived.Lib.IndexBytes
import Derived.Lib.IndexMore
namespace Go.Proofs.YtolebodpcefcfaaDoor.tm
open Go.Lib
set_option linter.unusedVariables false

/-- a number's decimal digits -/
abbrev D (n : Nat) : List UInt8 := decDigits n
theorem D_small {n : Nat} (h : n < 10) : D n = [UInt8.ofNat (48 + n)] := decDigits_one h
theorem D_big {n : Nat} (h : ¬ n < 10) : D n = D (n / 10) ++ [UInt8.ofNat (48 + n % 10)] := by
  show decDigits n = _
  rw [decDigits, dif_neg h]
theorem dg_nat {k : Nat} (h : k < 10) : (UInt8.ofNat (48 + k)).toNat = 48 + k := by
  rw [UInt8.toNat_ofNat']; exact Nat.mod_eq_of_lt (by omega)

theorem D_dig (n : Nat) : ∀ c ∈ D n, 48 ≤ c.toNat ∧ c.toNat ≤ 57 := by
  induction n using Nat.strongRecOn with
  | _ n ih =>
    by_cases h : n < 10
    · rw [D_small h]; intro c hc
      obtain rfl := List.mem_singleton.1 hc
      rw [dg_nat h]; omega
    · rw [D_big h]; intro c hc
      rcases List.mem_append.1 hc with hc | hc
      · exact ih (n / 10) (by omega) c hc
      · obtain rfl := List.mem_singleton.1 hc
        rw [dg_nat (by omega)]; omega
theorem D_ne (n : Nat) : D n ≠ [] := by
  by_cases h : n < 10
  · rw [D_small h]; simp
  · rw [D_big h]; simp
theorem D_len {n : Nat} (h : n < 65536) : (D n).length ≤ 5 := by
  have e : ∀ k m, m < 10 ^ (k + 1) → (D m).length ≤ k + 1 := by
    intro k
    induction k with
    | zero => intro m hm; rw [D_small (by omega)]; simp
    | succ k ih =>
      intro m hm
      by_cases h : m < 10
      · rw [D_small h]; simp
      · rw [D_big h, List.length_append]
        have := ih (m / 10) (by rw [Nat.pow_succ] at hm; omega)
        simp; omega
  exact e 4 n (by omega)
theorem D_pos (n : Nat) : 1 ≤ (D n).length := List.length_pos_iff.2 (D_ne n)
theorem D_no {n : Nat} {c : UInt8} (h : c.toNat < 48 ∨ 57 < c.toNat) : c ∉ D n := fun hc => by have := D_dig n c hc; omega
theorem D_dot (n : Nat) : (46 : UInt8) ∉ D n := D_no (Or.inl (by decide))
theorem D_col (n : Nat) : (58 : UInt8) ∉ D n := D_no (Or.inr (by decide))

/-- digits and what is behind them, told -/
theorem pu_app (M : Nat) : ∀ (l r : List UInt8) (acc : Nat), parseUintM M acc (l ++ r) = match parseUintM M acc l with | .ok a => parseUintM M a r | e => e
  | [], r, acc => rfl
  | c :: l, r, acc => by
    rw [List.cons_append]
    simp only [parseUintM]
    split
    · split
      · rfl
      · split
        · rfl
        · exact pu_app M l r _
    · rfl
theorem pu_D {M : Nat} (hM : M ≤ 65535) : ∀ n, n ≤ M → parseUintM M 0 (D n) = .ok n := by
  intro n
  induction n using Nat.strongRecOn with
  | _ n ih =>
    intro hn
    by_cases h : n < 10
    · rw [D_small h]
      simp only [parseUintM, dg_nat h]
      rw [if_pos (by omega), if_neg (by omega), if_neg (by omega)]
      congr 1; omega
    · rw [D_big h, pu_app, ih (n / 10) (by omega) (by omega)]
      simp only [parseUintM, dg_nat (show n % 10 < 10 by omega)]
      rw [if_pos (by omega), if_neg (by omega), if_neg (by omega)]
      congr 1; omega
theorem puB_D {B n : Nat} (hB : 2 ^ B - 1 ≤ 65535) (hn : n ≤ 2 ^ B - 1) : parseUintB B (D n) = .ok n := by
  unfold parseUintB
  rw [if_neg (D_ne n)]
  exact pu_D hB n hn
theorem D_inj {n m : Nat} (hn : n < 65536) (hm : m < 65536) (h : D n = D m) : n = m := by
  have a := pu_D (M := 65535) (by omega) n (by omega)
  have b := pu_D (M := 65535) (by omega) m (by omega)
  rw [h, b] at a
  exact ((Go.Lib.NumEnd.ok.inj a).symm)

/-- a text's number, if it is one up to M -/
def Told (M : Nat) (l : List UInt8) (n : Nat) (b : Bool) : Prop := (b = true ∧ n ≤ M ∧ D n = l) ∨ (b = false ∧ n = 0 ∧ ∀ m, m ≤ M → D m ≠ l)

/-- cut at a byte that is not ahead of it -/
theorem cut_eq {c : UInt8} : ∀ {x y r s : List UInt8}, c ∉ x → c ∉ y → x ++ c :: r = y ++ c :: s → x = y ∧ r = s
  | [], [], r, s, _, _, h => by simpa using h
  | [], b :: y, r, s, _, hy, h => by
    simp only [List.nil_append, List.cons_append, List.cons.injEq] at h
    exact absurd (by rw [h.1]; simp) hy
  | a :: x, [], r, s, hx, _, h => by
    simp only [List.nil_append, List.cons_append, List.cons.injEq] at h
    exact absurd (by rw [h.1]; simp) hx
  | a :: x, b :: y, r, s, hx, hy, h => by
    simp only [List.cons_append, List.cons.injEq] at h
    obtain ⟨e1, e2⟩ := cut_eq (fun hc => hx (List.mem_cons_of_mem _ hc)) (fun hc => hy (List.mem_cons_of_mem _ hc)) h.2
    exact ⟨by rw [h.1, e1], e2⟩

/-- an address's text, out of its numbers -/
def T4 (a b c d p : Nat) : List UInt8 := D a ++ 46 :: (D b ++ 46 :: (D c ++ 46 :: (D d ++ 58 :: D p)))
def In5 (a b c d p : Nat) : Prop := a ≤ 255 ∧ b ≤ 255 ∧ c ≤ 255 ∧ d ≤ 255 ∧ p ≤ 65535
theorem T4_inj {a b c d p a' b' c' d' p' : Nat} (h : In5 a b c d p) (h' : In5 a' b' c' d' p') (e : T4 a b c d p = T4 a' b' c' d' p') : a = a' ∧ b = b' ∧ c = c' ∧ d = d' ∧ p = p' := by
  unfold T4 at e
  obtain ⟨e1, e⟩ := cut_eq (D_dot _) (D_dot _) e
  obtain ⟨e2, e⟩ := cut_eq (D_dot _) (D_dot _) e
  obtain ⟨e3, e⟩ := cut_eq (D_dot _) (D_dot _) e
  obtain ⟨e4, e5⟩ := cut_eq (D_col _) (D_col _) e
  obtain ⟨h1, h2, h3, h4, h5⟩ := h
  obtain ⟨k1, k2, k3, k4, k5⟩ := h'
  exact ⟨D_inj (by omega) (by omega) e1, D_inj (by omega) (by omega) e2, D_inj (by omega) (by omega) e3, D_inj (by omega) (by omega) e4, D_inj (by omega) (by omega) e5⟩

/-- an address's numbers as one -/
def ip4 (a b c d : Nat) : Nat := ((a * 256 + b) * 256 + c) * 256 + d
def q3 (i : Nat) : Nat := i / 16777216 % 256
def q2 (i : Nat) : Nat := i / 65536 % 256
def q1 (i : Nat) : Nat := i / 256 % 256
def q0 (i : Nat) : Nat := i % 256
theorem ip4_q {i : Nat} (h : i < 4294967296) : ip4 (q3 i) (q2 i) (q1 i) (q0 i) = i := by unfold ip4 q3 q2 q1 q0; omega
theorem q_ip4 {a b c d : Nat} (ha : a ≤ 255) (hb : b ≤ 255) (hc : c ≤ 255) (hd : d ≤ 255) : q3 (ip4 a b c d) = a ∧ q2 (ip4 a b c d) = b ∧ q1 (ip4 a b c d) = c ∧ q0 (ip4 a b c d) = d := by
  unfold ip4 q3 q2 q1 q0; omega
theorem ip4_lt {a b c d : Nat} (ha : a ≤ 255) (hb : b ≤ 255) (hc : c ≤ 255) (hd : d ≤ 255) : ip4 a b c d < 4294967296 := by unfold ip4; omega
theorem q_le (i : Nat) : q3 i ≤ 255 ∧ q2 i ≤ 255 ∧ q1 i ≤ 255 ∧ q0 i ≤ 255 := by unfold q3 q2 q1 q0; omega
/-- an address's text -/
def T (i p : Nat) : List UInt8 := T4 (q3 i) (q2 i) (q1 i) (q0 i) p
theorem T_inj {i p i' p' : Nat} (hi : i < 4294967296) (hp : p < 65536) (hi' : i' < 4294967296) (hp' : p' < 65536) (h : T i p = T i' p') : i = i' ∧ p = p' := by
  have k := q_le i
  have k' := q_le i'
  obtain ⟨e1, e2, e3, e4, e5⟩ := T4_inj ⟨k.1, k.2.1, k.2.2.1, k.2.2.2, by omega⟩ ⟨k'.1, k'.2.1, k'.2.2.1, k'.2.2.2, by omega⟩ h
  rw [← ip4_q hi, ← ip4_q hi', e1, e2, e3, e4]
  exact ⟨rfl, e5⟩
theorem T_len {i p : Nat} (hp : p < 65536) : (T i p).length ≤ 29 := by
  have k := q_le i
  have h3 := D_len (n := q3 i) (by omega)
  have h2 := D_len (n := q2 i) (by omega)
  have h1 := D_len (n := q1 i) (by omega)
  have h0 := D_len (n := q0 i) (by omega)
  have h := D_len hp
  simp only [T, T4, List.length_append, List.length_cons]
  omega

/-- the answer of Parse -/
def Parsed (l : List UInt8) (i p er : Nat) : Prop := (er = 0 ∧ i < 4294967296 ∧ p < 65536 ∧ T i p = l) ∨ (er = 8 ∧ i = 0 ∧ p = 0 ∧ ∀ i' p', i' < 4294967296 → p' < 65536 → T i' p' ≠ l)
theorem Parsed.uniq {l : List UInt8} {i p er i' p' er' : Nat} (h : Parsed l i p er) (h' : Parsed l i' p' er') : i = i' ∧ p = p' ∧ er = er' := by
  rcases h with ⟨rfl, h1, h2, rfl⟩ | ⟨rfl, rfl, rfl, h⟩
  · rcases h' with ⟨rfl, k1, k2, k⟩ | ⟨_, _, _, k⟩
    · obtain ⟨e1, e2⟩ := T_inj k1 k2 h1 h2 k
      exact ⟨e1.symm, e2.symm, rfl⟩
    · exact absurd rfl (k i p h1 h2)
  · rcases h' with ⟨_, k1, k2, k⟩ | ⟨rfl, rfl, rfl, _⟩
    · exact absurd k (h i' p' k1 k2)
    · exact ⟨rfl, rfl, rfl⟩
theorem Parsed.of_T {i p i' p' er : Nat} (hi : i < 4294967296) (hp : p < 65536) (h : Parsed (T i p) i' p' er) : i' = i ∧ p' = p ∧ er = 0 := by
  obtain ⟨e1, e2, e3⟩ := h.uniq (.inl ⟨rfl, hi, hp, rfl⟩)
  exact ⟨e1, e2, e3⟩
/-- no address has that text: '10.0.0.01:80' -/
theorem no_01 (i p : Nat) (hi : i < 4294967296) (hp : p < 65536) : T i p ≠ [49, 48, 46, 48, 46, 48, 46, 48, 49, 58, 56, 48] := by
  intro h
  have k := q_le i
  have e : T i p = [49, 48] ++ 46 :: ([48] ++ 46 :: ([48] ++ 46 :: ([48, 49] ++ 58 :: [56, 48]))) := h
  unfold T T4 at e
  obtain ⟨_, e⟩ := cut_eq (D_dot _) (by decide) e
  obtain ⟨_, e⟩ := cut_eq (D_dot _) (by decide) e
  obtain ⟨_, e⟩ := cut_eq (D_dot _) (by decide) e
  obtain ⟨e, _⟩ := cut_eq (D_col _) (by decide) e
  have a := pu_D (M := 65535) (by omega) (q0 i) (by omega)
  rw [e] at a
  have b : parseUintM 65535 0 [48, 49] = .ok 1 := by decide +kernel
  rw [b] at a
  have := Go.Lib.NumEnd.ok.inj a
  rw [← this, D_small (by omega)] at e
  simp at e
theorem D0 : D 0 = [48] := by rw [D_small (by omega)]; rfl
theorem D1 : D 1 = [49] := by rw [D_small (by omega)]; rfl
theorem D10 : D 10 = [49, 48] := by rw [D_big (by omega), show 10 / 10 = 1 from rfl, D1]; rfl
theorem D80 : D 80 = [56, 48] := by rw [D_big (by omega), show 80 / 10 = 8 from rfl, D_small (by omega)]; rfl
theorem T_ten : T 167772161 80 = [49, 48, 46, 48, 46, 48, 46, 49, 58, 56, 48] := by
  show T4 10 0 0 1 80 = _
  unfold T4
  rw [D0, D1, D10, D80]
  rfl

/-! ### cutting and splitting -/
theorem ix_app {c : UInt8} : ∀ {x : List UInt8} (r : List UInt8), c ∉ x → index (x ++ c :: r) [c] = x.length
  | [], r, _ => by rw [index_one]; simp [indexByte]
  | b :: x, r, h => by
    have ih := ix_app (x := x) r (fun hc => h (List.mem_cons_of_mem _ hc))
    rw [index_one] at ih ⊢
    rw [List.cons_append]
    unfold indexByte
    have hb : (b == c) = false := by
      cases e : b == c
      · rfl
      · exact absurd (by rw [beq_iff_eq.1 e]; simp) h
    rw [hb, ih]
    simp
theorem ix_cases (c : UInt8) (l : List UInt8) : index l [c] = -1 ∨ ∃ x r, l = x ++ c :: r ∧ index l [c] = x.length := by
  have g := index_ge l [c]
  by_cases h : index l [c] = -1
  · exact Or.inl h
  · refine Or.inr ?_
    obtain ⟨o, ho⟩ : ∃ o : Nat, index l [c] = o := ⟨(index l [c]).toNat, by omega⟩
    have hb := indexByte_some (by rw [index_one] at ho; exact ho)
    obtain ⟨hlt, hget⟩ := List.getElem?_eq_some_iff.1 hb.1
    refine ⟨l.take o, l.drop (o + 1), ?_, by rw [ho, List.length_take, Nat.min_eq_left (by omega)]⟩
    rw [← hget, List.getElem_cons_drop, List.take_append_drop]
theorem cut_app {x r : List UInt8} {c : UInt8} (h : c ∉ x) : cut (x ++ c :: r) [c] = (x, r, true) := by
  unfold cut
  rw [ix_app r h, if_pos (by omega)]
  simp
theorem cut_cases (c : UInt8) (l : List UInt8) : (cut l [c]).2.1 = [] ∨ l = (cut l [c]).1 ++ c :: (cut l [c]).2.1 := by
  rcases ix_cases c l with h | ⟨x, r, rfl, h⟩
  · left; unfold cut; rw [h, if_neg (by omega)]
  · right; unfold cut; rw [h, if_pos (by omega)]; simp
/-- pieces, put together again -/
def glue : List (List UInt8) → List UInt8
  | [] => []
  | [x] => x
  | x :: y :: r => x ++ 46 :: glue (y :: r)
theorem glue_cons {x : List UInt8} : ∀ {r : List (List UInt8)}, r ≠ [] → glue (x :: r) = x ++ 46 :: glue r
  | y :: r, _ => rfl
theorem split_ne (k : Nat) (l : List UInt8) : splitK [46] 0 k l ≠ [] := by
  cases k with
  | zero => simp [splitK]
  | succ k => unfold splitK; split <;> simp
theorem glue_split : ∀ (k : Nat) (l : List UInt8), glue (splitK [46] 0 k l) = l
  | 0, l => rfl
  | k + 1, l => by
    unfold splitK
    rcases ix_cases 46 l with h | ⟨x, r, rfl, h⟩
    · rw [h]; rfl
    · rw [h, if_neg (by simp), glue_cons (split_ne _ _), glue_split k]
      simp
theorem split_app {x r : List UInt8} (k : Nat) (h : (46 : UInt8) ∉ x) : splitK [46] 0 (k + 1) (x ++ 46 :: r) = x :: splitK [46] 0 k r := by
  rw [splitK, ix_app r h, if_neg (by simp)]
  simp
theorem split_4 (a b c d : Nat) : splitK [46] 0 3 (D a ++ 46 :: (D b ++ 46 :: (D c ++ 46 :: D d))) = [D a, D b, D c, D d] := by
  rw [split_app _ (D_dot _), split_app _ (D_dot _), split_app _ (D_dot _)]
  rfl
theorem glue_4 {x y z v : List UInt8} : glue [x, y, z, v] = x ++ 46 :: (y ++ 46 :: (z ++ 46 :: v)) := rfl

end Go.Proofs.YtolebodpcefcfaaDoor.tm
