/- The walk of layer 1's texts: 'Parse'. -/
import Derived.Test.YtghnbfppfbenmaaGreatFixWa
namespace Go.Proofs.YtghnbfppfbenmaaGreat
open Go.RowKit FixM FixP

end Go.Proofs.YtghnbfppfbenmaaGreat
