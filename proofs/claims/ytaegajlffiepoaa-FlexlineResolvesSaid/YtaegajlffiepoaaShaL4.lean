/- The walk of a law of layer 2: each share is what the division says, or one more. -/
import Derived.Test.YtaegajlffiepoaaShaL3
namespace Go.Proofs.Ytaegajlffiepoaa
open Go.RowKit FixM ShaD ShaM Go.Sort

theorem Lst_of2 {w : World} {a : Option Addr} {len cap : Nat} {zs : List Int}
    (h : (a = none ∧ len = 0 ∧ cap = 0 ∧ zs = []) ∨ ∃ x, a = some x ∧ len ≤ cap ∧ cap ≤ maxLen ∧ zs.length = cap ∧ (∀ i, i < zs.length → w.cell? (x.add i) = some (.int .i64 (zs.getD i 0))) ∧ ∀ n ∈ zs, (Lit.int .i64 n).wf = true) :
    ∃ ws : List Int, ws.length = len ∧ ws.length ≤ maxLen ∧ Lst w a ws := by
  obtain ⟨ws, h1, h2⟩ := Lst_of h
  refine ⟨ws, h1, ?_, h2⟩
  rcases h with ⟨_, h, _⟩ | ⟨_, _, h3, h4, _⟩ <;> omega

/-- known, called with nothing else done -/
theorem Lst_below {w w1 : World} {a : Option Addr} {ws : List Int} (hL : Lst w a ws) (hb : Below w.heap.size w w1) : Lst w1 a ws := by
  rcases hL with rfl | ⟨b, off, rfl, hbs, hc⟩
  · exact Or.inl rfl
  · exact Or.inr ⟨b, off, rfl, by have := hb.size; omega, fun i hi => by rw [hb.cell (p := ⟨b, off + i, none⟩) hbs]; exact hc i hi⟩

end Go.Proofs.Ytaegajlffiepoaa
