/- The walk of layer 1's texts: 'Parse'. -/
import Derived.Test.YtghnbfppfbenmaaFixWa
namespace Go.Proofs.Ytghnbfppfbenmaa
open Go.RowKit FixM FixP

end Go.Proofs.Ytghnbfppfbenmaa
