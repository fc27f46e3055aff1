/- The walk of layer 5's reference: Cut. -/
import Derived.Test.YthfabalnioggcaaLexR4
import Derived.Test.YthfabalnioggcaaLexPs
import Derived.Test.YthfabalnioggcaaLexJa
namespace Go.Proofs.Ythfabalnioggcaa
open Go.RowKit TreN LexP FixP

/-- a list of tokens that a call answers alone -/
def ToldList (w : World) (l : List Tok) (e : Ending) (w' : World) : Prop := ∃ a cap, e = .returned (.slice a l.length cap) ∧ Tks w' a l ∧ Below w.heap.size w w'
def ToldCap (w : World) (l : List Tok) (e : Ending) (w' : World) : Prop := ∃ a cap, e = .returned (.slice a l.length cap) ∧ Tks w' a l ∧ Below w.heap.size w w' ∧ l.length ≤ cap ∧ cap ≤ maxLen
theorem Tks_ownC {w : World} {base : Nat} {e : TypeId} {v : Value} {l : List Tok} (h : w.ownsRow base e 3 v l.length (tkcs l)) : ∃ a cap, v = .slice a l.length cap ∧ Tks w a l ∧ l.length ≤ cap ∧ cap ≤ maxLen := by
  obtain ⟨a, cap, h1, h2⟩ := Tks_own h
  refine ⟨a, cap, h1, h2, ?_⟩
  rcases h.2 with ⟨hv, h0⟩ | ⟨g, cp, cur, hv, _, _, h3, h4, _⟩
  · rw [hv] at h1; injection h1 with _ _ h1; subst h1
    exact ⟨by omega, Nat.zero_le _⟩
  · rw [hv] at h1; injection h1 with _ _ h1; subst h1
    exact ⟨h3, h4⟩
theorem below_grownT {w a b : World} {row : Option Nat} (hg : a.grownBy b row) (hr : ∀ q, row = some q → w.heap.size ≤ q) (hw : w.heap.size ≤ a.heap.size) : Below w.heap.size a b := (Below.refl _ _).grown hg hw hr

end Go.Proofs.Ythfabalnioggcaa
