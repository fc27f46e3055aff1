/- The walk of layer 1's texts: 'Parse'. -/
import Derived.Test.YtaiommmbbajgnaaFixWa
namespace Go.Proofs.Ytaiommmbbajgnaa
open Go.RowKit FixM FixP

end Go.Proofs.Ytaiommmbbajgnaa
