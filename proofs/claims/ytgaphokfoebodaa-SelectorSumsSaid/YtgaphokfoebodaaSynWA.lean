/- Layer 6: a rule that begins with an At. -/
import Derived.Test.YtgaphokfoebodaaSynW9
namespace Go.Proofs.Ytgaphokfoebodaa
open Go.RowKit TreN LexP FixP SynP
set_option linter.unusedVariables false

end Go.Proofs.Ytgaphokfoebodaa
