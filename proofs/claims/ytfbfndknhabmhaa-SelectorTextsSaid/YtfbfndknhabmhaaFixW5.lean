/- The walk of layer 1's texts: 'Parse'. -/
import Derived.Test.YtfbfndknhabmhaaFixWa
namespace Go.Proofs.Ytfbfndknhabmhaa
open Go.RowKit FixM FixP

end Go.Proofs.Ytfbfndknhabmhaa
