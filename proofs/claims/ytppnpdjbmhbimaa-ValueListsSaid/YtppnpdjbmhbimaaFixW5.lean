/- The walk of layer 1's texts: 'Parse'. -/
import Derived.Test.YtppnpdjbmhbimaaFixWa
namespace Go.Proofs.Ytppnpdjbmhbimaa
open Go.RowKit FixM FixP

end Go.Proofs.Ytppnpdjbmhbimaa
