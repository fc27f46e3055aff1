/- Joined texts: ValW4 ValW5. -/
import Derived.Test.YtbodmfbpmeapoaaValW2
import Derived.Test.YtbodmfbpmeapoaaLexR6
namespace Go.Proofs.Ytbodmfbpmeapoaa
open Go.RowKit TreN LexP FixP SynP ValP FixM
set_option linter.unusedVariables false

/-- a list made anew -/
theorem made_toks (W : World) (l : List Tok) : Tks (W.alloc (.cells (tkcs l).toArray 39)) (some ⟨W.heap.size, 0, none⟩) l := by
  have hb : (W.alloc (.cells (tkcs l).toArray 39)).heap[W.heap.size]? = some (.cells (tkcs l).toArray 39 (0, 0)) := heap_alloc_new W _
  refine Or.inr ⟨W.heap.size, 0, rfl, by simp, fun i hi => ?_⟩
  obtain ⟨h1, h2, h3⟩ := tkcs_get l i hi
  exact ⟨cell_of hb (by rw [Nat.zero_add]; simpa using h1), cell_of hb (by rw [Nat.zero_add]; simpa using h2), cell_of hb (by rw [Nat.zero_add]; simpa using h3)⟩
theorem below_one (w : World) (o : Obj) : Below w.heap.size w (w.alloc o) := (Below.refl _ _).alloc (Nat.le_refl _) _
end Go.Proofs.Ytbodmfbpmeapoaa

namespace Go.Proofs.Ytbodmfbpmeapoaa
open Go.RowKit TreN LexP FixP SynP ValP FixM
set_option linter.unusedVariables false

theorem told_nil {w w' : World} (hb : Below w.heap.size w w') : ToldCap w [] (.returned (.slice none 0 0)) w' := ⟨none, 0, rfl, Or.inl rfl, hb, Nat.le_refl _, Nat.zero_le _⟩
theorem told_one {w W : World} (t : Tok) (hb : Below w.heap.size w W) : ToldCap w [t] (.returned (.slice (some ⟨W.heap.size, 0, none⟩) 1 1)) (W.alloc (.cells (tkcs [t]).toArray 39)) :=
  ⟨_, 1, rfl, made_toks W [t], hb.alloc hb.size _, Nat.le_refl _, by unfold maxLen; decide⟩
theorem told_drew {w w' : World} {l : List Tok} {e : Ending} (h : ToldCap w l e w') : ToldCap w l e w'.drew := by
  obtain ⟨a, c, h1, h2, h3, h4, h5⟩ := h
  exact ⟨a, c, h1, h2.below ((Below.refl _ _).drew), h3.drew, h4, h5⟩
theorem tokV_no {v : Val} (h : rightV v = false) : tokV v = [] := by unfold tokV; rw [h]; rfl
end Go.Proofs.Ytbodmfbpmeapoaa
