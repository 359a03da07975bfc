/- A: contracts, part 2. Condition: as each says. -/
import Derived.Test.YtkgcnmloojnblaaKA1
import Derived.Test.YtkgcnmloojnblaaKPOAN17
set_option linter.unusedVariables false
set_option linter.unusedSimpArgs false
namespace Go.Proofs.Ytkgcnmloojnblaa.nb
open Go.RowKit Go.Shelf

section
variable {P : Program}

abbrev Det (u : Value) : Value → World → Prop := fun v _ => v = u
abbrev Fresh (n : Nat) (cs : List Value) : Value → World → Prop := fun v W => ∃ g, v = .slice (some ⟨g, 0, none⟩) n n ∧ Box W g cs
abbrev New (B : Nat) (cs : List Value) : Value → World → Prop := fun v W => ∃ g, v = .pointer (some ⟨g, 0, none⟩) ∧ B ≤ g ∧ Box W g cs
theorem New.st (B : Nat) (cs : List Value) : ∀ v w w', New B cs v w → Up w w' → New B cs v w' := fun _ _ _ ⟨g, h1, h2, h3⟩ hu => ⟨g, h1, h2, h3.up hu⟩
theorem Det.st (u : Value) : ∀ v w w', Det u v w → Up w w' → Det u v w' := fun _ _ _ h _ => h
theorem Fresh.st (n : Nat) (cs : List Value) : ∀ v w w', Fresh n cs v w → Up w w' → Fresh n cs v w' := fun _ _ _ ⟨g, h1, h2⟩ hu => ⟨g, h1, h2.up hu⟩
end
end Go.Proofs.Ytkgcnmloojnblaa.nb
