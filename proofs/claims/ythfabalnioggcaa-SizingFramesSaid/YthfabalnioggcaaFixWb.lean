/- Joined texts: FixW9 FixW10. -/
import Derived.Test.YthfabalnioggcaaFixWa
import Derived.Test.YthfabalnioggcaaFixAll
namespace Go.Proofs.Ythfabalnioggcaa
open Go.RowKit FixM FixP

end Go.Proofs.Ythfabalnioggcaa

namespace Go.Proofs.Ythfabalnioggcaa
open Go.RowKit FixM FixP

/-- what the reference reads a text as -/
def rparse (l : List UInt8) : Int × Int := if l.length = 0 ∨ numAt l 0 ≠ l.length then (0, 10) else (worth l, 0)

end Go.Proofs.Ythfabalnioggcaa
