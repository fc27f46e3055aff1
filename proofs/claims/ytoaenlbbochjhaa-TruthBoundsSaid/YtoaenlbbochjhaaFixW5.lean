/- The walk of layer 1's texts: 'Parse'. -/
import Derived.Test.YtoaenlbbochjhaaFixWa
namespace Go.Proofs.Ytoaenlbbochjhaa
open Go.RowKit FixM FixP

end Go.Proofs.Ytoaenlbbochjhaa
