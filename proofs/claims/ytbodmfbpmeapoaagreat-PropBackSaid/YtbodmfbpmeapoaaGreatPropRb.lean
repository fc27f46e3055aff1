/- Joined texts: PropR3 PropR4. -/
import Derived.Test.YtbodmfbpmeapoaaGreatPropFi
import Derived.Test.YtbodmfbpmeapoaaGreatPropRa
namespace Go.Proofs.YtbodmfbpmeapoaaGreat
open Go.RowKit TreN LexP FixP SynP ValP PropP FixM
set_option linter.unusedVariables false

end Go.Proofs.YtbodmfbpmeapoaaGreat

namespace Go.Proofs.YtbodmfbpmeapoaaGreat
open Go.RowKit TreN LexP FixP SynP ValP PropP FixM
set_option linter.unusedVariables false

set_option maxRecDepth 100000 in
theorem NamesR10_any (w : World) : Calls Tryz.prog 14 #[] w fun e w' => e = .returned (.slice (some ⟨w.heap.size, 0, none⟩) 38 38) ∧ w' = w.alloc (.cells (txcs ([] :: namesL)) 9) := by
  go_enter Tryz.func14, Tryz.ntmps14
  go_wp2_with fail
  go_ret
  exact ⟨rfl, rfl⟩
end Go.Proofs.YtbodmfbpmeapoaaGreat
