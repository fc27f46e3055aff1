/- The walks of layer 5's reference: a token's text. -/
import Derived.Test.YtoaenlbbochjhaaLexTa
import Derived.Test.YtoaenlbbochjhaaFixWc
namespace Go.Proofs.Ytoaenlbbochjhaa
open Go.RowKit TreN LexP FixP FixM
set_option linter.unusedVariables false

/-- has a kind a text? -/
def hasTx (k : Int) : Bool := decide (k = 1 ∨ k = 2 ∨ k = 3 ∨ k = 4 ∨ k = 5 ∨ k = 7 ∨ k = 8 ∨ k = 9 ∨ (10 ≤ k ∧ k ≤ 18) ∨ k = 19 ∨ k = 20)
theorem hasTx_none {k : Int} (h : NoKind k) : hasTx k = false := by
  obtain ⟨h0, h1, h2, h3, h4, h5, h7, h8, h9, h19, h20⟩ := h
  rw [beq_eq_false_iff_ne] at h1 h2 h3 h4 h5 h7 h8 h9 h19 h20
  unfold hasTx
  rw [decide_eq_false]
  omega
end Go.Proofs.Ytoaenlbbochjhaa
