/- The walk of layer 5's Lex. -/
import Derived.Test.YtfbfndknhabmhaaLexW9
namespace Go.Proofs.Ytfbfndknhabmhaa
open Go.RowKit TreN LexP FixP

/-- the variable of the library's that a search reads -/
def Has0 (w : World) : Prop := ∃ m : Int, w.cell? ⟨0, 0, none⟩ = some (.int .i64 m)
theorem Has0.below {w w' : World} (h : Has0 w) (hb : Below w.heap.size w w') : Has0 w' := by
  obtain ⟨m, hm⟩ := h
  exact ⟨m, (hb.cell (p := ⟨0, 0, none⟩) (World.block_lt_of_cell? w _ hm)).trans hm⟩

/-- a list of tokens that a call answers -/
def ToldTks (w : World) (l : List Tok) (er : Int) (e : Ending) (w' : World) : Prop := ∃ a cap, e = .returned (.tuple #[.slice a l.length cap, .int .i64 er]) ∧ Tks w' a l ∧ Below w.heap.size w w'

end Go.Proofs.Ytfbfndknhabmhaa
