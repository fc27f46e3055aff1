/- Joined texts: LexW7 LexW8. -/
import Derived.Test.YthfabalnioggcaaLexWa
import Derived.Test.YthfabalnioggcaaLexPs
import Derived.Test.YthfabalnioggcaaMem
namespace Go.Proofs.Ythfabalnioggcaa
open Go.RowKit TreN LexP FixP

theorem ext_take (s : ByteArray) (a n : Nat) : (s.extract a (a + n)).data.toList = (s.data.toList.drop a).take n := by
  rw [ext_list]; congr 1; omega
theorem pct_iff (s : ByteArray) (E : Nat) : Lib.hasPrefix (s.extract E s.size).data.toList (ByteArray.mk #[37]).data.toList = decide ((s.data.toList.drop E).head? = some 37) := by
  rw [Lib.extract_to_end]; exact hasPrefix_1 _ _

end Go.Proofs.Ythfabalnioggcaa

namespace Go.Proofs.Ythfabalnioggcaa
open Go.RowKit TreN LexP FixP

theorem sign_index (c : UInt8) : (signK c = 0 ∧ Lib.indexByte [58, 59, 44, 40, 41, 91, 93, 123, 125] c = -1) ∨ (∃ i : Nat, i ≤ 8 ∧ signK c = 10 + (i : Int) ∧ Lib.indexByte [58, 59, 44, 40, 41, 91, 93, 123, 125] c = (i : Int)) := by
  by_cases h1 : c = 58
  · subst h1; exact Or.inr ⟨0, by omega, by decide, by decide⟩
  by_cases h2 : c = 59
  · subst h2; exact Or.inr ⟨1, by omega, by decide, by decide⟩
  by_cases h3 : c = 44
  · subst h3; exact Or.inr ⟨2, by omega, by decide, by decide⟩
  by_cases h4 : c = 40
  · subst h4; exact Or.inr ⟨3, by omega, by decide, by decide⟩
  by_cases h5 : c = 41
  · subst h5; exact Or.inr ⟨4, by omega, by decide, by decide⟩
  by_cases h6 : c = 91
  · subst h6; exact Or.inr ⟨5, by omega, by decide, by decide⟩
  by_cases h7 : c = 93
  · subst h7; exact Or.inr ⟨6, by omega, by decide, by decide⟩
  by_cases h8 : c = 123
  · subst h8; exact Or.inr ⟨7, by omega, by decide, by decide⟩
  by_cases h9 : c = 125
  · subst h9; exact Or.inr ⟨8, by omega, by decide, by decide⟩
  left
  have e : ∀ d : UInt8, ¬ c = d → ¬ c.toNat = d.toNat ∧ (d == c) = false := fun d h => ⟨fun x => h (UInt8.toNat_inj.1 x), by rw [beq_eq_false_iff_ne]; exact fun x => h x.symm⟩
  have a1 : ¬ c.toNat = 58 := (e 58 h1).1
  have b1 := (e 58 h1).2
  have a2 : ¬ c.toNat = 59 := (e 59 h2).1
  have b2 := (e 59 h2).2
  have a3 : ¬ c.toNat = 44 := (e 44 h3).1
  have b3 := (e 44 h3).2
  have a4 : ¬ c.toNat = 40 := (e 40 h4).1
  have b4 := (e 40 h4).2
  have a5 : ¬ c.toNat = 41 := (e 41 h5).1
  have b5 := (e 41 h5).2
  have a6 : ¬ c.toNat = 91 := (e 91 h6).1
  have b6 := (e 91 h6).2
  have a7 : ¬ c.toNat = 93 := (e 93 h7).1
  have b7 := (e 93 h7).2
  have a8 : ¬ c.toNat = 123 := (e 123 h8).1
  have b8 := (e 123 h8).2
  have a9 : ¬ c.toNat = 125 := (e 125 h9).1
  have b9 := (e 125 h9).2
  constructor
  · unfold signK
    rw [if_neg a1, if_neg a2, if_neg a3, if_neg a4, if_neg a5, if_neg a6, if_neg a7, if_neg a8, if_neg a9]
  · simp [Lib.indexByte, b1, b2, b3, b4, b5, b6, b7, b8, b9]

end Go.Proofs.Ythfabalnioggcaa
