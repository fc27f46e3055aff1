/- Tokens held against each other. -/
import Derived.Test.YthfabalnioggcaaLexR6
import Derived.StillTailTactics
import Derived.Laws.StructEq
namespace Go.Proofs.Ythfabalnioggcaa
open Go.RowKit TreN LexP FixP

theorem str_beq (x y : List UInt8) : ((⟨x.toArray⟩ : ByteArray).toList == (⟨y.toArray⟩ : ByteArray).toList) = decide (x = y) := by
  rw [Lib.toList_data, Lib.toList_data, Bool.eq_iff_iff]
  simp
theorem Tks.get {w : World} {a : Option Addr} {l : List Tok} (h : Tks w a l) {i : Nat} (hi : i < l.length) : ∃ b o, a = some ⟨b, o, none⟩ ∧ b < w.heap.size ∧ TkAt w b (o + i * 3) l[i] := by
  rcases h with rfl | ⟨b, o, h1, h2, h3⟩
  · simp at hi
  · exact ⟨b, o, h1, h2, h3 i hi⟩
theorem below_drewN2 {B : Nat} {a w : World} (h : Below B a w) (q : Nat) : Below B a (w.drewN q) := h.trans ⟨rfl, rfl, rfl, Nat.le_refl _, fun _ _ => rfl⟩

end Go.Proofs.Ythfabalnioggcaa
