/- What a property takes: property.Words, takesBeside, takes, Takes. -/
import Derived.Test.YthfabalnioggcaaPropTka
namespace Go.Proofs.Ythfabalnioggcaa
open Go.RowKit TreN LexP FixP SynP ValP PropP FixM
set_option linter.unusedVariables false

theorem no_words (p : Nat) (hp : p = 13 ∨ p = 14 ∨ p = 15 ∨ p = 16 ∨ p = 17 ∨ p = 18 ∨ p = 19 ∨ p = 20 ∨ p = 24 ∨ p = 25 ∨ p = 27 ∨ p = 36) : wrdsP p = [] := by rcases hp with rfl | rfl | rfl | rfl | rfl | rfl | rfl | rfl | rfl | rfl | rfl | rfl <;> rfl

end Go.Proofs.Ythfabalnioggcaa
