/- The walk of layer 1's texts: 'Parse'. -/
import Derived.Test.YtfbfndknhabmhaaGreatFixWa
namespace Go.Proofs.YtfbfndknhabmhaaGreat
open Go.RowKit FixM FixP

end Go.Proofs.YtfbfndknhabmhaaGreat
