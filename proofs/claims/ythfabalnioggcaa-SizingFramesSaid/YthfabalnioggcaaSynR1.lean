/- Layer 6's reference: Closing, Match. -/
import Derived.Test.YthfabalnioggcaaSynU1
namespace Go.Proofs.Ythfabalnioggcaa
open Go.RowKit TreN LexP FixP SynP
set_option linter.unusedVariables false

/-- where the reference's loop stands -/
def RmAt (l : List Tok) (i k : Nat) (c : Int) : Prop := (k ≤ l.length ∧ mtc l i = lpR l c k) ∨ (k = l.length + 1 ∧ mtc l i = l.length)
theorem RmAt.step {l : List Tok} {i k : Nat} {c : Int} (h : RmAt l i k c) (hk : k < l.length) (hc : clo c = 0) (hn : l[k].kind ≠ c) : RmAt l i (mtc l k + 1) c := by
  rcases h with ⟨h1, h2⟩ | ⟨h1, _⟩
  · rw [lpR_step hk hn] at h2
    have hb := mtc_bd hk
    by_cases hle : mtc l k + 1 ≤ l.length
    · rw [if_pos hle] at h2; exact Or.inl ⟨hle, h2⟩
    · rw [if_neg hle] at h2; exact Or.inr ⟨by omega, h2⟩
  · omega
theorem RmAt.hit {l : List Tok} {i k : Nat} {c : Int} (h : RmAt l i k c) (hk : k < l.length) (hc : clo c = 0) (hn : l[k].kind = c) : mtc l i = k := by
  rcases h with ⟨h1, h2⟩ | ⟨h1, _⟩
  · rw [h2, lpR_hit hk hc hn]
  · omega
theorem RmAt.over {l : List Tok} {i k : Nat} {c : Int} (h : RmAt l i k c) (hk : l.length ≤ k) : mtc l i = l.length := by
  rcases h with ⟨h1, h2⟩ | ⟨h1, h2⟩
  · rw [h2, lpR_end c hk]
  · exact h2

end Go.Proofs.Ythfabalnioggcaa
