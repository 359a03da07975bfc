/- A: contracts, part 2. Condition: as each says. -/
import Derived.Test.YtafckmbgefbonaaKA1
import Derived.Test.YtafckmbgefbonaaKBHA27
set_option linter.unusedVariables false
set_option linter.unusedSimpArgs false
namespace Go.Proofs.Ytafckmbgefbonaa.pk
open Go.RowKit Go.Shelf Go.Lib Go.Proofs.Ytafckmbgefbonaa.sm Go.Proofs.Ytafckmbgefbonaa.nb Go.Proofs.Ytafckmbgefbonaa.pm
set_option linter.unusedVariables false

theorem far16 {W : World} {b c : Nat} {vs : List Value} (h : Box W b vs) (hc : c ≠ b) (y0 y1 y2 y3 y4 y5 y6 y7 y8 y9 y10 y11 y12 y13 y14 y15 : Value) : Box ((((((((((((((((W.setCell ⟨c, 0, none⟩ y0).setCell ⟨c, 1, none⟩ y1).setCell ⟨c, 2, none⟩ y2).setCell ⟨c, 3, none⟩ y3).setCell ⟨c, 4, none⟩ y4).setCell ⟨c, 5, none⟩ y5).setCell ⟨c, 6, none⟩ y6).setCell ⟨c, 7, none⟩ y7).setCell ⟨c, 8, none⟩ y8).setCell ⟨c, 9, none⟩ y9).setCell ⟨c, 10, none⟩ y10).setCell ⟨c, 11, none⟩ y11).setCell ⟨c, 12, none⟩ y12).setCell ⟨c, 13, none⟩ y13).setCell ⟨c, 14, none⟩ y14).setCell ⟨c, 15, none⟩ y15) b vs := (Box.far (Box.far (Box.far (Box.far (Box.far (Box.far (Box.far (Box.far (Box.far (Box.far (Box.far (Box.far (Box.far (Box.far (Box.far (Box.far h hc y0) hc y1) hc y2) hc y3) hc y4) hc y5) hc y6) hc y7) hc y8) hc y9) hc y10) hc y11) hc y12) hc y13) hc y14) hc y15)
end Go.Proofs.Ytafckmbgefbonaa.pk
