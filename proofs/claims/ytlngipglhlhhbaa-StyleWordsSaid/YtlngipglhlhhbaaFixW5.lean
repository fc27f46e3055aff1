/- The walk of layer 1's texts: 'Parse'. -/
import Derived.Test.YtlngipglhlhhbaaFixWa
namespace Go.Proofs.Ytlngipglhlhhbaa
open Go.RowKit FixM FixP

end Go.Proofs.Ytlngipglhlhhbaa
