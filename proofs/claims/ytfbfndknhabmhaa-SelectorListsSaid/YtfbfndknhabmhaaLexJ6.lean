/- lex.cut, whole. -/
import Derived.Test.YtfbfndknhabmhaaLexJ5
namespace Go.Proofs.Ytfbfndknhabmhaa
open Go.RowKit TreN LexP FixP

theorem jumps_mono {J J' : Nat → Act → World → Prop} {Q : Exit → Act → World → Prop} (h : ∀ l a w, J l a w → J' l a w) : ∀ e a w, jumps J Q e a w → jumps J' Q e a w := by
  intro e a w hj
  cases e with
  | goto l => exact h _ _ _ hj
  | normal => exact hj
  | exit id => exact hj
  | ret => exact hj
  | panic ch => exact hj
  | outgrown => exact hj

end Go.Proofs.Ytfbfndknhabmhaa
