/- The walk of layer 1's texts: 'Parse'. -/
import Derived.Test.YtbodmfbpmeapoaaFixWa
namespace Go.Proofs.Ytbodmfbpmeapoaa
open Go.RowKit FixM FixP

end Go.Proofs.Ytbodmfbpmeapoaa
