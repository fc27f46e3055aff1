/- Layer 9: Right. -/
import Derived.Test.YthfabalnioggcaaValW1
import Derived.Test.YthfabalnioggcaaFixWa
import Derived.Test.YthfabalnioggcaaLexE
import Derived.Deep.RegionWith
import Derived.Deep.DeepCutAuto
import Derived.Outline
namespace Go.Proofs.Ythfabalnioggcaa
open Go.RowKit TreN LexP FixP SynP ValP FixM
set_option linter.unusedVariables false

theorem blk_lt9 {w : World} {P : Nat} {o : Obj} (h : w.heap[P]? = some o) : P < w.heap.size := (Array.getElem?_eq_some_iff.1 h).1
def valV (v : Val) : Value := .agg #[.int .i64 v.kind, .int .i64 v.n, .int .i64 v.d, .string ⟨v.name.toArray⟩]
theorem words_ne : ∀ x ∈ wordsL, x ≠ [] := by decide
theorem units_ne : ∀ x ∈ unitsL, x ≠ [] := by decide
theorem txtP_in {L : List (List UInt8)} {n : Int} (h1 : 1 ≤ n) (h2 : n ≤ L.length) : txtP L n ∈ L := by
  unfold txtP
  rw [if_pos ⟨h1, h2⟩, List.getD_eq_getElem?_getD, List.getElem?_eq_getElem (by omega)]
  simp
theorem txtP_out {L : List (List UInt8)} {n : Int} (h : ¬ (1 ≤ n ∧ n ≤ L.length)) : txtP L n = [] := by unfold txtP; rw [if_neg h]
theorem rv1 (n d : Int) (nm : List UInt8) : rightV ⟨1, n, d, nm⟩ = (decide (d = 0 ∧ nm = []) && decide (1 ≤ n ∧ n ≤ 30)) := by
  unfold rightV; rw [if_pos rfl, Bool.eq_iff_iff]; simp; constructor <;> (intro h; simp [h])
theorem rv2 (n d : Int) (nm : List UInt8) : rightV ⟨2, n, d, nm⟩ = (decide (n = H n) && (decide (1 ≤ d ∧ d ≤ 8) && decide (nm = []))) := by
  unfold rightV; rw [if_neg (by dsimp only; decide), if_pos rfl, Bool.eq_iff_iff]; simp; intro _; exact ⟨fun h => ⟨⟨h.1, h.2.1⟩, h.2.2⟩, fun h => ⟨h.1.1, h.1.2, h.2⟩⟩
theorem rv3 (n d : Int) (nm : List UInt8) : rightV ⟨3, n, d, nm⟩ = (decide (n = H n) && decide (d = 0 ∧ nm = [])) := by
  unfold rightV; rw [if_neg (by dsimp only; decide), if_neg (by dsimp only; decide), if_pos (Or.inl rfl), Bool.eq_iff_iff]; simp
theorem rv4 (n d : Int) (nm : List UInt8) : rightV ⟨4, n, d, nm⟩ = (decide (n = H n) && decide (d = 0 ∧ nm = [])) := by
  unfold rightV; rw [if_neg (by dsimp only; decide), if_neg (by dsimp only; decide), if_pos (Or.inr rfl), Bool.eq_iff_iff]; simp
theorem rv5 (n d : Int) (nm : List UInt8) : rightV ⟨5, n, d, nm⟩ = (decide (0 ≤ n ∧ n ≤ 1073741824) && (decide (0 ≤ d ∧ d ≤ 1073741824) && decide (nm = []))) := by
  unfold rightV; rw [if_neg (by dsimp only; decide), if_neg (by dsimp only; decide), if_neg (by dsimp only; decide), if_pos rfl, Bool.eq_iff_iff]; simp; constructor <;> (intro h; simp [h])
theorem rv6 (n d : Int) (nm : List UInt8) : rightV ⟨6, n, d, nm⟩ = (decide (n = 0) && (decide (d = 0) && (nameL nm && decide (wordP nm = 0)))) := by
  unfold rightV; rw [if_neg (by dsimp only; decide), if_neg (by dsimp only; decide), if_neg (by dsimp only; decide), if_neg (by dsimp only; decide), if_pos rfl, Bool.eq_iff_iff]; simp
theorem rvo {k : Int} (n d : Int) (nm : List UInt8) (h1 : k ≠ 1) (h2 : k ≠ 2) (h3 : k ≠ 3) (h4 : k ≠ 4) (h5 : k ≠ 5) (h6 : k ≠ 6) : rightV ⟨k, n, d, nm⟩ = false := by
  unfold rightV; rw [if_neg h1, if_neg h2, if_neg (by dsimp only; omega), if_neg h5, if_neg h6]

end Go.Proofs.Ythfabalnioggcaa
