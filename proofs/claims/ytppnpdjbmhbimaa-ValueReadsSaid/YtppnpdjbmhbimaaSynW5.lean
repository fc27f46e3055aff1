/- Layer 6: spoilt values, the mark of what is important. -/
import Derived.Test.YtppnpdjbmhbimaaSynU2
namespace Go.Proofs.Ytppnpdjbmhbimaa
open Go.RowKit TreN LexP FixP SynP
set_option linter.unusedVariables false

theorem text_imp (x : List UInt8) : ((⟨x.toArray⟩ : ByteArray).toList == (⟨#[105, 109, 112, 111, 114, 116, 97, 110, 116]⟩ : ByteArray).toList) = decide (x = impT) := str_beq x impT
theorem last_split {l : List Tok} (h : 0 < l.length) : ∃ j t, l.length = j + 1 ∧ l[j]? = some t ∧ l.getLast? = some t ∧ l.dropLast = l.take j := by
  obtain ⟨j, hj⟩ : ∃ j, l.length = j + 1 := ⟨l.length - 1, by omega⟩
  refine ⟨j, l[j]'(by omega), hj, List.getElem?_eq_getElem _, ?_, ?_⟩
  · rw [List.getLast?_eq_getElem?, show l.length - 1 = j by omega]; exact List.getElem?_eq_getElem _
  · rw [List.dropLast_eq_take, hj]; rfl

/-- what unmarked answers -/
def UnIs (w0 w : World) (r : List Tok × Bool) (e : Ending) (w' : World) : Prop := (∃ a2 c2, e = .returned (.tuple #[.slice a2 r.1.length c2, .bool r.2]) ∧ r.1.length ≤ c2 ∧ c2 ≤ maxLen ∧ Tks w' a2 r.1) ∧ Below w.heap.size w w'
theorem unmS_nil : unmS [] = ([], false) := rfl
theorem unmS_no {v : List Tok} {t : Tok} (h : v.getLast? = some t) (hn : ¬ (t.kind = 1 ∧ t.text = impT)) : unmS v = (v, false) := by unfold unmS; rw [h]; simp only []; rw [if_neg hn]
theorem unmS_end {v : List Tok} {t : Tok} (h : v.getLast? = some t) (hn : t.kind = 1 ∧ t.text = impT) (h2 : (trm v.dropLast).getLast? = none) : unmS v = (v, false) := by unfold unmS; rw [h]; simp only []; rw [if_pos hn, h2]
theorem unmS_some {v : List Tok} {t u : Tok} (h : v.getLast? = some t) (hn : t.kind = 1 ∧ t.text = impT) (h2 : (trm v.dropLast).getLast? = some u) : unmS v = if excl u = true then (trm (trm v.dropLast).dropLast, true) else (v, false) := by unfold unmS; rw [h]; simp only []; rw [if_pos hn, h2]

end Go.Proofs.Ytppnpdjbmhbimaa
