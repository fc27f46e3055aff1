/- The walk of layer 1's texts: 'Parse'. -/
import Derived.Test.YtodicpnnpeboeaaFixWa
namespace Go.Proofs.Ytodicpnnpeboeaa
open Go.RowKit FixM FixP

end Go.Proofs.Ytodicpnnpeboeaa
