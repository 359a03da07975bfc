/- The options of segments: mathematics: what is read fits its kinds. Condition: none. -/
import Derived.Test.YtdlcglkeinlimaaOptT
namespace Go.Proofs.Ytdlcglkeinlimaa.om
open Go.Proofs.Ytdlcglkeinlimaa.sm Go.Proofs.Ytdlcglkeinlimaa.nb
set_option linter.unusedVariables false

/-- numbers of options that were read -/
def Rdn (o : Opz) : Prop := Wf o ∧ -1 ≤ o.sc ∧ o.sc ≤ 14
theorem put_rdn {o : Opz} (h : Rdn o) (x : Item) : Rdn (put o x) := by
  obtain ⟨⟨h1, h2, h3, h4⟩, h5, h6⟩ := h
  have hw := wd_bd x.2 0
  have hb := bt_bd x.2 0
  unfold put
  by_cases c2 : x.1 = 2
  · rw [if_pos c2]; exact ⟨⟨by dsimp only; omega, h2, h3, h4⟩, h5, h6⟩
  rw [if_neg c2]
  by_cases c3 : x.1 = 3
  · rw [if_pos c3]; exact ⟨⟨h1, h2, h3, h4⟩, by dsimp only; omega, by dsimp only; omega⟩
  rw [if_neg c3]
  by_cases c4 : x.1 = 4
  · rw [if_pos c4]; exact ⟨⟨h1, h2, h3, h4⟩, h5, h6⟩
  rw [if_neg c4]
  by_cases c5 : x.1 = 5
  · rw [if_pos c5]
    refine ⟨⟨h1, ?_, h3, h4⟩, h5, h6⟩
    intro b hb
    rcases List.mem_append.1 hb with hb | hb
    · exact h2 b hb
    · exact blocks_lt x.2 b hb
  rw [if_neg c5]
  by_cases c8 : x.1 = 8
  · rw [if_pos c8]; exact ⟨⟨h1, h2, qd_lt _ _, qd_lt _ _⟩, h5, h6⟩
  rw [if_neg c8]; exact ⟨⟨h1, h2, h3, h4⟩, h5, h6⟩
theorem fold_rdn : ∀ (its : List Item) (o : Opz), Rdn o → Rdn (its.foldl put o)
  | [], _, h => h
  | x :: t, o, h => fold_rdn t _ (put_rdn h x)
theorem rdn_none : Rdn none_ := ⟨⟨by decide, (by intro b hb; cases hb), by decide, by decide⟩, by decide, by decide⟩
theorem rdn_zero : Rdn zero_ := ⟨⟨by decide, (by intro b hb; cases hb), by decide, by decide⟩, by decide, by decide⟩
theorem put_len (o : Opz) (k : Nat) (p : List UInt8) : (put o (k, p)).bl.length ≤ o.bl.length + p.length := by
  unfold put
  by_cases c5 : k = 5
  · subst c5
    simp only [show (5 : Nat) ≠ 2 by decide, show (5 : Nat) ≠ 3 by decide, show (5 : Nat) ≠ 4 by decide, if_true, if_false, List.length_append, blocks_len]; omega
  · dsimp only
    by_cases c2 : k = 2
    · rw [if_pos c2]; dsimp only; omega
    rw [if_neg c2]
    by_cases c3 : k = 3
    · rw [if_pos c3]; dsimp only; omega
    rw [if_neg c3]
    by_cases c4 : k = 4
    · rw [if_pos c4]; dsimp only; omega
    rw [if_neg c4, if_neg c5]
    by_cases c8 : k = 8
    · rw [if_pos c8]; dsimp only; omega
    rw [if_neg c8]; omega
theorem fold_len {l : List UInt8} {its : List Item} (h : Ps l its) : ∀ o : Opz, (its.foldl put o).bl.length ≤ o.bl.length + l.length := by
  induction h with
  | nil => intro o; simp
  | stop k t h => intro o; simp
  | pad k t its h _ ih => intro o; have := ih o; simp; omega
  | item k n p t its h1 h2 h3 _ ih =>
    intro o
    have h4 := ih (put o (k.toNat, p))
    have h5 := put_len o k.toNat p
    rw [List.foldl_cons]
    simp only [List.length_cons, List.length_append]; omega
theorem decO_rdn (l : List UInt8) : Rdn (decO l) ∧ (decO l).bl.length ≤ l.length := by
  by_cases h : 40 < l.length
  · rw [(err_4 h).2]; exact ⟨rdn_zero, Nat.zero_le _⟩
  · cases hd : dec l with
    | none => rw [(err_70 hd (by omega)).2]; exact ⟨rdn_zero, Nat.zero_le _⟩
    | some o =>
      rw [(err_0 hd (by omega)).2]
      obtain ⟨its, hp, _, rfl⟩ := dec_is hd
      exact ⟨fold_rdn _ _ rdn_none, by have := fold_len (ps_iff.1 hp) none_; simpa [none_] using this⟩
end Go.Proofs.Ytdlcglkeinlimaa.om
