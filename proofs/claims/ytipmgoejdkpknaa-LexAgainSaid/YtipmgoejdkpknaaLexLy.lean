/- Joined texts: LexO LexLx. -/
import Derived.Test.YtipmgoejdkpknaaLexPs
import Derived.Test.YtipmgoejdkpknaaLexW10
import Derived.Test.YtipmgoejdkpknaaLexOp
import Derived.Test.YtipmgoejdkpknaaLexL1
namespace Go.Proofs.Ytipmgoejdkpknaa
open Go.ChangeShapes Go.WideShapes Go.ChangeAt Go.RowKit LexP
set_option maxRecDepth 100000 in
theorem Has0.of_shaped {w : World} (h : w.ShapedOpen Try.prog) : Has0 w :=
  Go.Proofs.cell_of_shapedOpen_int (zero := #[.int .i64 0]) (t := 3) h (of_decide_eq_true (by kernel_rfl)) (by kernel_rfl) rfl (by kernel_rfl) (by kernel_rfl) Try.underlying3
end Go.Proofs.Ytipmgoejdkpknaa

