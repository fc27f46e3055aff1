/- Plain numbers for layer 1: parts in order, a whole out of two parts. Nothing of the program is imported. -/
import Derived.Test.YtpkhmagjdlpbjaaFixM
namespace Go.Proofs.Ytpkhmagjdlpbjaa.FixM

theorem PT_bd (a n d : Int) : -1073741824 ≤ PT a n d ∧ PT a n d ≤ 1073741824 := by
  unfold PT; split
  · omega
  · exact H_bd _

/-- of the greater length the part is not less -/
theorem PT_mono {a b n d : Int} (hab : a ≤ b) (hn : 0 ≤ n) (hd : 0 < d) : PT a n d ≤ PT b n d := by
  have hdp : 0 < H d := by unfold H; repeat' split <;> omega
  have hnp : 0 ≤ H n := by unfold H; repeat' split <;> omega
  unfold PT
  rw [if_neg (by omega), if_neg (by omega)]
  apply H_mono
  rw [FL_pos _ _ hdp, FL_pos _ _ hdp]
  exact Int.ediv_le_ediv hdp (Int.mul_le_mul_of_nonneg_right (H_mono hab) hnp)

/-- a percentage and what is left of a hundred: the whole, but for one -/
theorem PT_rest (b n : Int) (h0 : 0 ≤ n) (h1 : n ≤ 100000) : PT b n 100000 + PT b (100000 - n) 100000 ≤ H b ∧ H b ≤ PT b n 100000 + PT b (100000 - n) 100000 + 1 := by
  have hb := H_bd b
  unfold PT
  rw [if_neg (by omega), if_neg (by omega), H_id (x := n) (by omega) (by omega), H_id (x := 100000 - n) (by omega) (by omega), H_id (x := 100000) (by omega) (by omega)]
  rw [FL_pos _ _ (by omega), FL_pos _ _ (by omega), Int.mul_sub]
  obtain ⟨B, hB⟩ : ∃ B, B = H b := ⟨_, rfl⟩
  rw [← hB] at hb ⊢
  have hp : (-1073741824 * 100000 ≤ B * n ∧ B * n ≤ 1073741824 * 100000) ∧ (-1073741824 * 100000 ≤ B * 100000 - B * n ∧ B * 100000 - B * n ≤ 1073741824 * 100000) := by
    by_cases hs : 0 ≤ B
    · have e1 := Int.mul_le_mul_of_nonneg_left h1 hs
      have e2 := Int.mul_nonneg hs h0
      omega
    · have e1 := Int.mul_le_mul_of_nonneg_left h1 (show 0 ≤ -B by omega)
      have e2 := Int.mul_nonneg (show 0 ≤ -B by omega) h0
      rw [Int.neg_mul] at e2
      rw [Int.neg_mul, Int.neg_mul] at e1
      omega
  generalize B * n = p at hp ⊢
  rw [H_id (by omega) (by omega), H_id (by omega) (by omega)]
  omega
end Go.Proofs.Ytpkhmagjdlpbjaa.FixM
