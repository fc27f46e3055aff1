/- The walk of layer 1's texts: 'Parse'. -/
import Derived.Test.YtgaphokfoebodaaFixWa
namespace Go.Proofs.Ytgaphokfoebodaa
open Go.RowKit FixM FixP

end Go.Proofs.Ytgaphokfoebodaa
