/- Layer 6: a rule that begins with an At. -/
import Derived.Test.YtfbfndknhabmhaaSynW9
namespace Go.Proofs.Ytfbfndknhabmhaa
open Go.RowKit TreN LexP FixP SynP
set_option linter.unusedVariables false

end Go.Proofs.Ytfbfndknhabmhaa
