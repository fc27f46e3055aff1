/- Layer 14: how a query's node that comes in is opened. -/
import Derived.Test.YtoaenlbbochjhaaTruO
namespace Go.Proofs.Ytoaenlbbochjhaa
open Go.ChangeShapes Go.WideShapes Go.ChangeAt Go.RowKit FixM FixP QryP
set_option linter.unusedVariables false
section
variable {H : Type} {enc : TypeId × Value → H} {w : World}
theorem open_qnV {r : Reach} {b0 : Nat} {v : Value} {d : DataW H} {ps : List MemPlace} (hv : Value.okWide Try.prog w r b0 39 v) (h : DataW.Trod enc Try.prog w 0 (fun _ => true) true 39 v d ps) : ∃ x : QN, v = qnV x := by
  simp only [Value.okWide, Try.underlying39] at hv
  obtain ⟨cs, rfl, _, _⟩ := hv
  obtain ⟨fuel, hf⟩ := h
  obtain ⟨l⟩ := cs
  simp only [Value.cells] at hf
  obtain ⟨x, hx⟩ := open_qnQ hf
  exact ⟨x, by rw [hx]⟩
end
end Go.Proofs.Ytoaenlbbochjhaa
