/- lex.cut: what comes next. -/
import Derived.Test.YtfbfndknhabmhaaLexJa
namespace Go.Proofs.Ytfbfndknhabmhaa
open Go.RowKit TreN LexP FixP

theorem drop_cons (s : ByteArray) (p : Nat) (h : p < s.size) : s.data.toList.drop p = s[p] :: s.data.toList.drop (p + 1) := by
  rw [List.drop_eq_getElem_cons (by rw [len_data]; exact h)]
  simp [ByteArray.getElem_eq_getElem_data]
theorem com_iff (s : ByteArray) (p : Nat) (h : p < s.size) : Lib.hasPrefix (s.extract p s.size).data.toList (ByteArray.mk #[47, 42]).data.toList = decide (s[p].toNat = 47 ∧ (s.data.toList.drop (p + 1)).head? = some 42) := by
  rw [Lib.extract_to_end]
  have e : (ByteArray.mk #[47, 42]).data.toList = [47, 42] := rfl
  rw [e, hasPrefix_2, drop_cons s p h, decide_eq_decide]
  constructor
  · rintro ⟨h1, h2⟩
    injection h1 with h1
    exact ⟨by rw [h1]; rfl, h2⟩
  · rintro ⟨h1, h2⟩
    exact ⟨by rw [show s[p] = 47 from UInt8.toNat_inj.1 h1]; rfl, h2⟩

end Go.Proofs.Ytfbfndknhabmhaa
