/- The walk of layer 1's texts: 'Parse'. -/
import Derived.Test.YtbodmfbpmeapoaaGreatFixWa
namespace Go.Proofs.YtbodmfbpmeapoaaGreat
open Go.RowKit FixM FixP

end Go.Proofs.YtbodmfbpmeapoaaGreat
