/- Layer 9: words, units, where a text stands in a list. -/
import Derived.Test.YtoaenlbbochjhaaValP
import Derived.Test.YtoaenlbbochjhaaWalkA
import Derived.Test.YtoaenlbbochjhaaMem
namespace Go.Proofs.Ytoaenlbbochjhaa
open Go.RowKit TreN LexP FixP SynP ValP
set_option linter.unusedVariables false

/-- texts lie there, from the head of a block on -/
def TxAt (w : World) (b : Nat) (L : List (List UInt8)) : Prop := ∀ i (h : i < L.length), w.cell? ⟨b, i, none⟩ = some (.string ⟨L[i].toArray⟩)
def txcs (L : List (List UInt8)) : Array Value := (L.map fun x => Value.string ⟨x.toArray⟩).toArray
theorem TxAt.made (w : World) (L : List (List UInt8)) : TxAt (w.alloc (.cells (txcs L) 9)) w.heap.size L := fun i h => by
  have hb : (w.alloc (.cells (txcs L) 9)).heap[w.heap.size]? = some (.cells (txcs L) 9 (0, 0)) := heap_alloc_new w _
  exact cell_of hb (by unfold txcs; simp [h])
theorem TxAt.below {w w' : World} {b : Nat} {L : List (List UInt8)} (h : TxAt w b L) (hb : Below w.heap.size w w') (hl : b < w.heap.size) : TxAt w' b L := fun i hi => (hb.cell (p := ⟨b, i, none⟩) hl).trans (h i hi)
def uL : List (List UInt8) := [] :: unitsL
def wL : List (List UInt8) := [] :: wordsL

theorem plc_drop (L : List (List UInt8)) (s : List UInt8) (k j : Nat) (h : k < L.length) : plc (L.drop k) s j = if L[k] = s then j else plc (L.drop (k + 1)) s (j + 1) := by
  rw [List.drop_eq_getElem_cons h]; rfl
theorem words_len : wordsL.length = 30 := rfl
theorem units_len : unitsL.length = 8 := rfl
end Go.Proofs.Ytoaenlbbochjhaa
