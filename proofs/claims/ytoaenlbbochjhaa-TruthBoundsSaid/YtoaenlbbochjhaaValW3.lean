/- Layer 9's reference: Held, Right. -/
import Derived.Test.YtoaenlbbochjhaaValW2
import Derived.Test.YtoaenlbbochjhaaWalkA
namespace Go.Proofs.Ytoaenlbbochjhaa
open Go.RowKit TreN LexP FixP SynP ValP FixM
set_option linter.unusedVariables false

theorem held_small {n : Int} (h1 : -1073741824 ≤ n) (h2 : n ≤ 1073741824) : n = H n := by unfold H; rw [if_neg (by omega), if_neg (by omega)]
theorem held_iff {n : Int} : n = H n ↔ (-1073741824 ≤ n ∧ n ≤ 1073741824) := by
  constructor
  · intro h
    unfold H at h
    split at h
    · omega
    · split at h <;> omega
  · exact fun h => held_small h.1 h.2

end Go.Proofs.Ytoaenlbbochjhaa
