/- Joined texts: LexR4 LexR5. -/
import Derived.Test.YthfabalnioggcaaLexRa
import Derived.Test.YthfabalnioggcaaLexPs
import Derived.Test.YthfabalnioggcaaFixWb
import Derived.Handy
namespace Go.Proofs.Ythfabalnioggcaa
open Go.RowKit TreN LexP FixP

end Go.Proofs.Ythfabalnioggcaa

namespace Go.Proofs.Ythfabalnioggcaa
open Go.RowKit TreN LexP FixP

theorem drop_consR (s : ByteArray) (p : Nat) (h : p < s.size) : s.data.toList.drop p = s[p] :: s.data.toList.drop (p + 1) := by
  rw [List.drop_eq_getElem_cons (by rw [len_data]; exact h)]
  simp [ByteArray.getElem_eq_getElem_data]
theorem com_iffR (s : ByteArray) (p : Nat) (h : p < s.size) : Lib.hasPrefix (s.data.toList.drop p) [47, 42] = decide (s[p].toNat = 47 ∧ (s.data.toList.drop (p + 1)).head? = some 42) := by
  rw [hasPrefix_2, drop_consR s p h, decide_eq_decide]
  constructor
  · rintro ⟨h1, h2⟩
    injection h1 with h1
    exact ⟨by rw [h1]; rfl, h2⟩
  · rintro ⟨h1, h2⟩
    exact ⟨by rw [show s[p] = 47 from UInt8.toNat_inj.1 h1]; rfl, h2⟩

theorem ret_tok {t : Value} {a b : Int} (h : a = b) : Ending.returned (.tuple #[t, .int .i64 a]) = .returned (.tuple #[t, .int .i64 b]) := by rw [h]
theorem ext_oneR (s : ByteArray) (p : Nat) (h : p < s.size) : s.extract p (p + 1) = ⟨#[s[p]]⟩ := by
  refine ba_ext ?_
  rw [ext_list, drop_consR s p h]
  have e : p + 1 - p = 1 := by omega
  rw [e]; rfl
theorem signK_pos (c : UInt8) : 0 ≤ signK c := by
  unfold signK
  repeat' split
  all_goals omega

end Go.Proofs.Ythfabalnioggcaa
