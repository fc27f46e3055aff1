/- Plain numbers for layer 1: to hold, to divide downwards. Nothing of the program is imported. -/
namespace Go.Proofs.Ytanhpdejlodidaa.FixM

/-- to hold a number -/
def H (x : Int) : Int := if 1073741824 < x then 1073741824 else if x < -1073741824 then -1073741824 else x

theorem H_bd (x : Int) : -1073741824 ≤ H x ∧ H x ≤ 1073741824 := by unfold H; split <;> (try split) <;> omega
theorem H_id {x : Int} (h1 : -1073741824 ≤ x) (h2 : x ≤ 1073741824) : H x = x := by unfold H; split <;> (try split) <;> omega
theorem H_H (x : Int) : H (H x) = H x := H_id (H_bd x).1 (H_bd x).2
theorem H_zero {x : Int} : H x = 0 ↔ x = 0 := by unfold H; split <;> (try split) <;> omega
theorem H_neg (x : Int) : H (-x) = - H x := by unfold H; repeat' split <;> omega
theorem H_mono {x y : Int} (h : x ≤ y) : H x ≤ H y := by unfold H; repeat' split <;> omega
theorem H_hi {x : Int} (h : 1073741824 < x) : H x = 1073741824 := by unfold H; rw [if_pos h]
theorem H_lo {x : Int} (h : x < -1073741824) : H x = -1073741824 := by unfold H; rw [if_neg (by omega), if_pos h]

/-- to divide downwards -/
def FL (p d : Int) : Int := p.fdiv d

theorem tdiv_neg_form (p d : Int) (hp : p < 0) : p.tdiv d = -((-p) / d) := by
  have h : p = -(-p) := by omega
  rw [h, Int.neg_tdiv, Int.tdiv_eq_ediv_of_nonneg (by omega : 0 ≤ -p)]
  simp

theorem FL_pos (p d : Int) (hd : 0 < d) : FL p d = p / d := by
  unfold FL; exact Int.fdiv_eq_ediv_of_nonneg p (by omega)

theorem FL_neg_neg (p d : Int) : FL (-p) (-d) = FL p d := by
  unfold FL; exact Int.neg_fdiv_neg p d

theorem FL_bd (p d : Int) (b : Int) (hd : d ≠ 0) (h1 : -b ≤ p) (h2 : p ≤ b) : -b - 1 ≤ FL p d ∧ FL p d ≤ b + 1 := by
  have key : ∀ p d : Int, 0 < d → -b ≤ p → p ≤ b → -b - 1 ≤ FL p d ∧ FL p d ≤ b + 1 := by
    intro p d hd h1 h2
    rw [FL_pos p d hd]
    have e := Int.mul_ediv_add_emod p d
    have m1 := Int.emod_nonneg p (by omega : d ≠ 0)
    have m2 := Int.emod_lt_of_pos p hd
    constructor
    · have : -b ≤ p / d := by
        rw [Int.le_ediv_iff_mul_le hd]
        have : -b * d ≤ -b * 1 := by
          by_cases hb : 0 ≤ b
          · have := Int.mul_le_mul_of_nonneg_left (show (1:Int) ≤ d by omega) hb
            have e1 : -b * d = -(b * d) := by rw [Int.neg_mul]
            have e2 : -b * 1 = -(b * 1) := by rw [Int.neg_mul]
            omega
          · omega
        omega
      omega
    · have : p / d ≤ b := by
        by_cases hp : 0 ≤ p
        · have := Int.ediv_le_self d hp; omega
        · have : p / d < 0 := Int.ediv_neg_of_neg_of_pos (by omega) hd
          omega
      omega
  by_cases h : 0 < d
  · exact key p d h h1 h2
  · have := key (-p) (-d) (by omega) (by omega) (by omega)
    rwa [FL_neg_neg] at this

/-- Go's own quotient goes towards 0: one less where something is left and the signs part. -/
theorem FL_go (p d : Int) (hd : d ≠ 0) : FL p d = if p.tmod d ≠ 0 ∧ (decide (p < 0) ≠ decide (d < 0)) then p.tdiv d - 1 else p.tdiv d := by
  unfold FL
  have key : ∀ p d : Int, 0 < d → p.fdiv d = if p.tmod d ≠ 0 ∧ (decide (p < 0) ≠ decide (d < 0)) then p.tdiv d - 1 else p.tdiv d := by
    intro p d hd
    rw [Int.fdiv_eq_ediv_of_nonneg p (by omega)]
    by_cases hp : 0 ≤ p
    · rw [Int.tdiv_eq_ediv_of_nonneg hp, if_neg]
      rintro ⟨_, h⟩
      exact h (by simp; omega)
    · have e := Int.mul_ediv_add_emod (-p) d
      have m1 := Int.emod_nonneg (-p) (by omega : d ≠ 0)
      have m2 := Int.emod_lt_of_pos (-p) hd
      have e' := Int.mul_ediv_add_emod p d
      have m1' := Int.emod_nonneg p (by omega : d ≠ 0)
      have m2' := Int.emod_lt_of_pos p hd
      have et : p.tdiv d = -((-p) / d) := tdiv_neg_form p d (by omega)
      have em := Int.mul_tdiv_add_tmod p d
      rw [et] at em ⊢
      have en : d * -((-p) / d) = -(d * ((-p) / d)) := by rw [Int.mul_neg]
      have hm : p.tmod d = -((-p) % d) := by omega
      by_cases hz : (-p) % d = 0
      · rw [if_neg (by rw [hm, hz]; simp)]
        have : d * (p / d + (-p) / d) = -(p % d) := by rw [Int.mul_add]; omega
        have h0 : p / d + (-p) / d = 0 := by
          by_cases h1 : 0 < p / d + (-p) / d
          · have := Int.mul_le_mul_of_nonneg_left (show (1:Int) ≤ p / d + (-p) / d by omega) (by omega : (0:Int) ≤ d); omega
          · by_cases h2 : p / d + (-p) / d < 0
            · have := Int.mul_le_mul_of_nonneg_left (show p / d + (-p) / d ≤ (-1:Int) by omega) (by omega : (0:Int) ≤ d); omega
            · omega
        omega
      · rw [if_pos ⟨by rw [hm]; omega, by simp; omega⟩]
        have : d * (p / d + (-p) / d) = -(p % d) - (-p) % d := by rw [Int.mul_add]; omega
        have h0 : p / d + (-p) / d = -1 := by
          by_cases h1 : 0 ≤ p / d + (-p) / d
          · have := Int.mul_nonneg (by omega : (0:Int) ≤ d) h1; omega
          · by_cases h2 : p / d + (-p) / d < -1
            · have := Int.mul_le_mul_of_nonneg_left (show p / d + (-p) / d ≤ (-2:Int) by omega) (by omega : (0:Int) ≤ d); omega
            · omega
        omega
  by_cases h : 0 < d
  · exact key p d h
  · have k := key (-p) (-d) (by omega)
    rw [Int.neg_fdiv_neg, Int.neg_tdiv_neg] at k
    rw [k]
    have e1 : (-p).tmod (-d) = - p.tmod d := by rw [Int.tmod_neg, Int.neg_tmod]
    have et := Int.mul_tdiv_add_tmod p d
    rw [e1]
    by_cases hz : p.tmod d = 0
    · simp [hz]
    · have hp : p ≠ 0 := by rintro rfl; simp at hz
      have : (decide (-p < 0) ≠ decide (-d < 0)) ↔ (decide (p < 0) ≠ decide (d < 0)) := by
        by_cases a : p < 0 <;> by_cases b : d < 0 <;> simp [a, b] <;> omega
      simp only [this]
      simp [hz]

theorem tdiv_bd (p d b : Int) (h1 : -b ≤ p) (h2 : p ≤ b) : -b ≤ p.tdiv d ∧ p.tdiv d ≤ b := by
  have h : (p.tdiv d).natAbs = p.natAbs / d.natAbs := Int.natAbs_tdiv p d
  have h3 := Nat.div_le_self p.natAbs d.natAbs
  generalize p.natAbs / d.natAbs = e at *
  omega

theorem ref_form (p d : Int) (hd : 0 < d) : -((d - 1 - p) / d) = p / d := by
  have e := Int.mul_ediv_add_emod p d
  have m1 := Int.emod_nonneg p (by omega : d ≠ 0)
  have m2 := Int.emod_lt_of_pos p hd
  have e1 : d - 1 - p = (d - 1 - p % d) + d * (-(p / d)) := by rw [Int.mul_neg]; omega
  rw [e1, Int.add_mul_ediv_left _ _ (by omega : d ≠ 0), Int.ediv_eq_zero_of_lt (by omega) (by omega)]
  omega

/-- a part of a length -/
def PT (a n d : Int) : Int := if d = 0 then 0 else H (FL (H a * H n) (H d))

theorem prod_bd (a n : Int) : -1152921504606846976 ≤ H a * H n ∧ H a * H n ≤ 1152921504606846976 := by
  have ha := H_bd a
  have hn := H_bd n
  have key : ∀ x y : Int, 0 ≤ x → x ≤ 1073741824 → -1073741824 ≤ y → y ≤ 1073741824 → -1152921504606846976 ≤ x * y ∧ x * y ≤ 1152921504606846976 := by
    intro x y h1 h2 h3 h4
    have a1 := Int.mul_le_mul_of_nonneg_left h4 h1
    have a2 := Int.mul_le_mul_of_nonneg_left h3 h1
    omega
  by_cases h : 0 ≤ H a
  · exact key _ _ h (by omega) hn.1 hn.2
  · have := key (-H a) (H n) (by omega) (by omega) hn.1 hn.2
    rw [Int.neg_mul] at this
    omega

end Go.Proofs.Ytanhpdejlodidaa.FixM
