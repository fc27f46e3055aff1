/- Layer 14: how extents and nodes of queries that come in are opened. -/
import Derived.Test.YtoaenlbbochjhaaQryO
namespace Go.Proofs.Ytoaenlbbochjhaa
open Go.ChangeShapes Go.WideShapes Go.ChangeAt Go.RowKit FixM FixP QryP
set_option linter.unusedVariables false
section
variable {H : Type} {enc : TypeId × Value → H} {w : World}
theorem cells_exT : Try.prog.cellsOf 31 = 4 := by kernel_rfl
set_option maxRecDepth 100000 in
theorem open_exT {fuel : Nat} {cs : List Value} {x : DataW H × List MemPlace} (h : DataW.trod enc Try.prog w 0 (fun _ => true) true fuel 31 cs = some x) :
    ∃ (k : Int) (s : ByteArray) (n d : Int), cs = [.int .i64 k, .string s, .int .i64 n, .int .i64 d] := by
  obtain ⟨xs, n', _, _, hcl, hx, hf⟩ := DataW.trod_struct Try.underlying31 h
  rw [cells_exT] at hcl
  match cs, hcl with
  | [c0, c1, c2, c3], _ =>
    match xs, hx with
    | [y0, y1, y2, y3], _ =>
      have g0 : DataW.trod enc Try.prog w 0 (fun _ => true) true n' 3 [c0] = some y0 := by
        have g := hf 0 _ rfl
        simpa [cells_intQ] using g
      have g1 : DataW.trod enc Try.prog w 0 (fun _ => true) true n' 9 [c1] = some y1 := by
        have g := hf 1 _ rfl
        simpa [cells_intQ, cells_strQ] using g
      have g2 : DataW.trod enc Try.prog w 0 (fun _ => true) true n' 3 [c2] = some y2 := by
        have g := hf 2 _ rfl
        simpa [cells_intQ, cells_strQ] using g
      have g3 : DataW.trod enc Try.prog w 0 (fun _ => true) true n' 3 [c3] = some y3 := by
        have g := hf 3 _ rfl
        simpa [cells_intQ, cells_strQ] using g
      obtain ⟨k, hk, _, _⟩ := DataW.trod_int Try.underlying3 g0
      obtain ⟨s, hs, _, _⟩ := DataW.trod_string Try.underlying9 g1
      obtain ⟨n, hn, _, _⟩ := DataW.trod_int Try.underlying3 g2
      obtain ⟨d, hd, _, _⟩ := DataW.trod_int Try.underlying3 g3
      injection hk with hk
      injection hn with hn
      injection hd with hd
      injection hs with hs
      subst hk; subst hn; subst hd; subst hs
      exact ⟨k, s, n, d, rfl⟩
theorem open_extT {r : Reach} {b0 : Nat} {v : Value} {d : DataW H} {ps : List MemPlace} (hv : Value.okWide Try.prog w r b0 31 v) (h : DataW.Trod enc Try.prog w 0 (fun _ => true) true 31 v d ps) : ∃ (k : Int) (nm : ByteArray) (a b : Int), v = .agg #[.int .i64 k, .string nm, .int .i64 a, .int .i64 b] := by
  simp only [Value.okWide, Try.underlying31] at hv
  obtain ⟨cs, rfl, _, _⟩ := hv
  obtain ⟨fuel, hf⟩ := h
  obtain ⟨l⟩ := cs
  simp only [Value.cells] at hf
  obtain ⟨k, s, n, d, rfl⟩ := open_exT hf
  exact ⟨k, s, n, d, rfl⟩
end
end Go.Proofs.Ytoaenlbbochjhaa
