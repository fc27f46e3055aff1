/- Joined texts: LexO LexLx. -/
import Derived.Test.YtjfheadgohehlaaLexPs
import Derived.Test.YtjfheadgohehlaaLexW10
import Derived.OpenShut
import Derived.ProofKit
import Derived.Test.YtjfheadgohehlaaLexL1
namespace Go.Proofs.Ytjfheadgohehlaa
open Go.ChangeShapes Go.WideShapes Go.ChangeAt Go.RowKit LexP
section
variable {H : Type} {enc : TypeId × Value → H} {w : World}
theorem cells_tok : Try.prog.cellsOf 47 = 3 := by kernel_rfl
theorem cells_tint : Try.prog.cellsOf 3 = 1 := by kernel_rfl
theorem cells_tstr : Try.prog.cellsOf 9 = 1 := by kernel_rfl
theorem text_of (s : ByteArray) : (⟨s.data.toList.toArray⟩ : ByteArray) = s := by cases s; simp
set_option maxRecDepth 100000 in
/-- a token's three cells -/
theorem open_tok {fuel : Nat} {cs : List Value} {x : DataW H × List MemPlace} (h : DataW.trod enc Try.prog w 0 (fun _ => true) true fuel 47 cs = some x) :
    ∃ t : Tok, cs = [.int .i64 t.kind, .string ⟨t.text.toArray⟩, .int .i64 t.n] := by
  obtain ⟨xs, n', _, _, hcl, hx, hf⟩ := DataW.trod_struct Try.underlying47 h
  rw [cells_tok] at hcl
  match cs, hcl with
  | [c0, c1, c2], _ =>
    match xs, hx with
    | [y0, y1, y2], _ =>
      have g0 : DataW.trod enc Try.prog w 0 (fun _ => true) true n' 3 [c0] = some y0 := by
        have g := hf 0 _ rfl
        simpa [cells_tint] using g
      have g1 : DataW.trod enc Try.prog w 0 (fun _ => true) true n' 9 [c1] = some y1 := by
        have g := hf 1 _ rfl
        simpa [cells_tstr] using g
      have g2 : DataW.trod enc Try.prog w 0 (fun _ => true) true n' 3 [c2] = some y2 := by
        have g := hf 2 _ rfl
        simpa [cells_tint] using g
      obtain ⟨k, hk, _, _⟩ := DataW.trod_int Try.underlying3 g0
      obtain ⟨s, hs, _, _⟩ := DataW.trod_string Try.underlying9 g1
      obtain ⟨n, hn, _, _⟩ := DataW.trod_int Try.underlying3 g2
      injection hk with hk
      injection hs with hs
      injection hn with hn
      subst hk; subst hs; subst hn
      exact ⟨⟨k, s.data.toList, n⟩, by rw [text_of]⟩
set_option maxRecDepth 100000 in
theorem open_tokV {r : Reach} {b0 : Nat} {v : Value} {d : DataW H} {ps : List MemPlace} (hv : Value.okWide Try.prog w r b0 47 v) (h : DataW.Trod enc Try.prog w 0 (fun _ => true) true 47 v d ps) : ∃ t : Tok, v = t.val := by
  simp only [Value.okWide, Try.underlying47] at hv
  obtain ⟨cs, rfl, _, _⟩ := hv
  obtain ⟨fuel, hf⟩ := h
  obtain ⟨t, ht⟩ := open_tok hf
  refine ⟨t, ?_⟩
  obtain ⟨l⟩ := cs
  simp only [Value.cells] at ht
  subst ht
  rfl
end
set_option maxRecDepth 100000 in
theorem Has0.of_shaped {w : World} (h : w.ShapedOpen Try.prog) : Has0 w :=
  Go.Proofs.cell_of_shapedOpen_int (zero := #[.int .i64 0]) (t := 3) h (of_decide_eq_true (by kernel_rfl)) (by kernel_rfl) rfl (by kernel_rfl) (by kernel_rfl) Try.underlying3
end Go.Proofs.Ytjfheadgohehlaa

