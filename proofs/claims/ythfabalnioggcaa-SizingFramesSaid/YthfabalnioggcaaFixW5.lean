/- The walk of layer 1's texts: 'Parse'. -/
import Derived.Test.YthfabalnioggcaaFixWa
namespace Go.Proofs.Ythfabalnioggcaa
open Go.RowKit FixM FixP

end Go.Proofs.Ythfabalnioggcaa
