/- O: contracts, part 2. Condition: as each says. -/
import Derived.Test.YtkgcnmloojnblaaKO1
import Derived.Test.YtkgcnmloojnblaaKPOAN10
set_option linter.unusedVariables false
set_option linter.unusedSimpArgs false
namespace Go.Proofs.Ytkgcnmloojnblaa.wh
open Go.RowKit Go.Shelf Go.Lib Go.Proofs.Ytkgcnmloojnblaa.nb Go.Proofs.Ytkgcnmloojnblaa.ck
set_option linter.unusedVariables false

theorem setL_no {now m : Int} {x : List Tm} {key : ByteArray} {t : Int} (hc : setC now m x key t ≠ 0) : setL now m x key t = x := by
  unfold setC at hc
  unfold setL
  split at hc
  · rename_i h0
    rw [if_pos h0]
    split at hc
    · exact absurd rfl hc
    · rename_i h1
      rw [if_neg h1]
      split at hc
      · rename_i h2; rw [if_pos h2]
      · exact absurd rfl hc
  · rename_i h0
    rw [if_neg h0]
theorem goS_due {now t : Int} {x : List Tm} (h : goC now t = 0) : ∀ p ∈ goS now t x, t < p.2 := fun p hp => by
  unfold goS at hp
  rw [if_pos h, (told_all _ x t rfl).2.2.1] at hp
  exact of_decide_eq_true (List.mem_filter.1 hp).2
theorem goT_due {now t : Int} {x : List Tm} : ∀ p ∈ goT now t x, p.2 ≤ t := fun p hp => by
  unfold goT at hp
  split at hp
  · exact ((told_all _ x t rfl).1 p hp).2
  · cases hp
theorem goT_rise {now t : Int} {x : List Tm} {i : Nat} {p q : Tm} (hp : (goT now t x)[i]? = some p) (hq : (goT now t x)[i + 1]? = some q) : p.2 ≤ q.2 := by
  have h : (goT now t x).Pairwise (fun a b => a.2 ≤ b.2) := by
    unfold goT
    split
    · exact (told_all _ x t rfl).2.1
    · exact List.Pairwise.nil
  obtain ⟨h1, rfl⟩ := List.getElem?_eq_some_iff.1 hp
  obtain ⟨h2, rfl⟩ := List.getElem?_eq_some_iff.1 hq
  exact List.pairwise_iff_getElem.1 h i (i + 1) h1 h2 (by omega)
end Go.Proofs.Ytkgcnmloojnblaa.wh
