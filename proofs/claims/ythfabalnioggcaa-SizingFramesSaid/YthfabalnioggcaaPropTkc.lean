/- What a property takes: takes, Takes. -/
import Derived.Test.YthfabalnioggcaaPropTkb
import Derived.Deep.RegionHeld
import Derived.Deep.RegionHeld3
import Derived.Deep.CutBlock
namespace Go.Proofs.Ythfabalnioggcaa
open Go.RowKit TreN LexP FixP SynP ValP PropP FixM
set_option linter.unusedVariables false

end Go.Proofs.Ythfabalnioggcaa

namespace Go.Proofs.Ythfabalnioggcaa
open Go.RowKit TreN LexP FixP SynP ValP PropP FixM
set_option linter.unusedVariables false

theorem names_ne : ∀ k : Fin 37, namesL.getD k.val [] ≠ [] := by decide +kernel
theorem nameOf_ne {p : Int} (h1 : 1 ≤ p) (h2 : p ≤ 37) : txtP namesL p ≠ [] := by
  unfold txtP
  rw [if_pos ⟨h1, by rw [names_len]; omega⟩]
  exact names_ne ⟨p.toNat - 1, by omega⟩
theorem nameOf_no {p : Int} (h : ¬ (1 ≤ p ∧ p ≤ 37)) : txtP namesL p = [] := by
  unfold txtP
  rw [if_neg (by rw [names_len]; omega)]
end Go.Proofs.Ythfabalnioggcaa
