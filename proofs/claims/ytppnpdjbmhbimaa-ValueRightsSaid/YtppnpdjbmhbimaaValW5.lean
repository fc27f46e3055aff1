/- Layer 9: Tokens. -/
import Derived.Test.YtppnpdjbmhbimaaValW4
import Derived.Test.YtppnpdjbmhbimaaLexR6
namespace Go.Proofs.Ytppnpdjbmhbimaa
open Go.RowKit TreN LexP FixP SynP ValP FixM
set_option linter.unusedVariables false

theorem told_nil {w w' : World} (hb : Below w.heap.size w w') : ToldCap w [] (.returned (.slice none 0 0)) w' := ⟨none, 0, rfl, Or.inl rfl, hb, Nat.le_refl _, Nat.zero_le _⟩
theorem told_one {w W : World} (t : Tok) (hb : Below w.heap.size w W) : ToldCap w [t] (.returned (.slice (some ⟨W.heap.size, 0, none⟩) 1 1)) (W.alloc (.cells (tkcs [t]).toArray 44)) :=
  ⟨_, 1, rfl, made_toks W [t], hb.alloc hb.size _, Nat.le_refl _, by unfold maxLen; decide⟩
theorem told_drew {w w' : World} {l : List Tok} {e : Ending} (h : ToldCap w l e w') : ToldCap w l e w'.drew := by
  obtain ⟨a, c, h1, h2, h3, h4, h5⟩ := h
  exact ⟨a, c, h1, h2.below ((Below.refl _ _).drew), h3.drew, h4, h5⟩
theorem tokV_no {v : Val} (h : rightV v = false) : tokV v = [] := by unfold tokV; rw [h]; rfl
end Go.Proofs.Ytppnpdjbmhbimaa
