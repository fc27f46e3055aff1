/- Any float as a whole length; the words of whole numbers, swapped by a product. -/
import Derived.Test.YtanhpdejlodidaaAxiF
import Derived.Test.YtanhpdejlodidaaFixM
namespace Go.Proofs.Ytanhpdejlodidaa
namespace AxiF
open Ieee FixM

/-- the word of a whole number -/
theorem F_W (n : Int) : floatOfInt .f64 n = W (decide (n < 0)) n.natAbs := rfl

theorem sg_abs (n : Int) : sg (decide (n < 0)) n.natAbs = n := by
  unfold sg
  by_cases h : n < 0
  · simp only [h, decide_true, if_true]; omega
  · simp only [h, decide_false, Bool.false_eq_true, if_false]; omega

theorem Rd_F (n : Int) (h1 : -9007199254740992 < n) (h2 : n < 9007199254740992) : Rd (floatOfInt .f64 n) (decide (n < 0)) n.natAbs := by
  rw [F_W]; exact Rd_W _ _ (by omega)

theorem order_F (x y : Int) (h1 : -9007199254740992 < x) (h2 : x < 9007199254740992) (h3 : -9007199254740992 < y) (h4 : y < 9007199254740992) :
    FloatKind.f64.format.order (floatOfInt .f64 x) (floatOfInt .f64 y) = some (compare x y) := by
  obtain ⟨c, hc, rx⟩ := Rd_F x h1 h2
  obtain ⟨d, hd, ry⟩ := Rd_F y h3 h4
  show double.order _ _ = _
  unfold Format.order
  rw [rx, ry, order_V _ _ _ _ _ _ (by omega) (by omega), V_whole _ _ _ hc, V_whole _ _ _ hd, sg_abs, sg_abs, compare_mul _ _ _ T_pos]

theorem eq_F (x y : Int) (h1 : -9007199254740992 < x) (h2 : x < 9007199254740992) (h3 : -9007199254740992 < y) (h4 : y < 9007199254740992) :
    (FloatKind.f64.format.order (floatOfInt .f64 x) (floatOfInt .f64 y) == some .eq) = decide (x = y) := by
  rw [order_F x y h1 h2 h3 h4]
  by_cases h : x = y
  · subst h; simp
  · have : compare x y ≠ .eq := fun e => h (Int.compare_eq_eq.1 e)
    cases hc : compare x y <;> simp_all

/-- a float as a whole length -/
def wholeS (b : Nat) : Int :=
  match double.read b with
  | .nan .. => 0
  | .infinity s => if s then -1073741824 else 1073741824
  | .number s m i => if 1073741824 * (T : Int) ≤ V (.number s m i) then 1073741824 else if V (.number s m i) ≤ -1073741824 * (T : Int) then -1073741824 else (V (.number s m i)).tdiv (T : Int)

theorem tdiv_bd (v M : Int) (h1 : -(M * (T : Int)) ≤ v) (h2 : v ≤ M * (T : Int)) : -M ≤ v.tdiv T ∧ v.tdiv T ≤ M := by
  have hT : (0 : Int) < T := by have := T_pos; omega
  by_cases h : 0 ≤ v
  · rw [Int.tdiv_eq_ediv_of_nonneg h]
    have a := Int.ediv_nonneg h (Int.le_of_lt hT)
    have b : v / T ≤ M := Int.ediv_le_of_le_mul hT h2
    have c : 0 ≤ M := by
      by_cases hm : 0 ≤ M
      · exact hm
      · have := Int.mul_neg_of_neg_of_pos (show M < 0 by omega) hT; omega
    omega
  · have e : v = -(-v) := by omega
    rw [e, Int.neg_tdiv, Int.tdiv_eq_ediv_of_nonneg (by omega)]
    have a := Int.ediv_nonneg (show 0 ≤ -v by omega) (Int.le_of_lt hT)
    have b : -v / T ≤ M := Int.ediv_le_of_le_mul hT (by omega)
    omega

theorem wholeS_bd (b : Nat) : -1073741824 ≤ wholeS b ∧ wholeS b ≤ 1073741824 := by
  unfold wholeS
  split
  · omega
  · split <;> omega
  · rename_i s m i _
    by_cases h1 : 1073741824 * (T : Int) ≤ V (.number s m i)
    · rw [if_pos h1]; omega
    · rw [if_neg h1]
      by_cases h2 : V (.number s m i) ≤ -1073741824 * (T : Int)
      · rw [if_pos h2]; omega
      · rw [if_neg h2]
        exact tdiv_bd _ _ (by omega) (by omega)

theorem H_whole (b : Nat) : H (wholeS b) = wholeS b := H_id (wholeS_bd b).1 (wholeS_bd b).2

theorem whole_F (n : Int) (h1 : -1073741824 ≤ n) (h2 : n ≤ 1073741824) : wholeS (floatOfInt .f64 n) = n := by
  obtain ⟨c, hc, r⟩ := Rd_F n (by omega) (by omega)
  have hT : (0 : Int) < T := by have := T_pos; omega
  unfold wholeS
  rw [r]
  simp only [V_whole _ _ _ hc, sg_abs]
  by_cases a : 1073741824 * (T : Int) ≤ n * (T : Int)
  · rw [if_pos a]
    have := Int.le_of_mul_le_mul_right a hT; omega
  · rw [if_neg a]
    by_cases b : n * (T : Int) ≤ -1073741824 * (T : Int)
    · rw [if_pos b]
      have := Int.le_of_mul_le_mul_right b hT; omega
    · rw [if_neg b, Int.mul_tdiv_cancel _ (by omega)]

/-! ### to stop at an end -/
def fmin (k : FloatKind) (x y : Nat) : Option Nat := match k.format.order x y with
  | none => none | some .lt => some x | some .gt => some y | some .eq => some (if (k.decode x).neg then x else y)
def fmax (k : FloatKind) (x y : Nat) : Option Nat := match k.format.order x y with
  | none => none | some .lt => some y | some .gt => some x | some .eq => some (if (k.decode x).neg then y else x)

theorem run_fmin {P : Program} (w : World) (ts : Array TypeId) (t : TypeId) (k : FloatKind) (x y r : Nat) (h : fmin k x y = some r) :
    (Builtin.min_ ts t #[.float k x, .float k y]).run P w = .ok (.float k r) w := by
  unfold fmin at h
  split at h
  · cases h
  all_goals (rename_i e; cases h; simp [Builtin.min_, Builtin.min2, e])
theorem run_fmax {P : Program} (w : World) (ts : Array TypeId) (t : TypeId) (k : FloatKind) (x y r : Nat) (h : fmax k x y = some r) :
    (Builtin.max_ ts t #[.float k x, .float k y]).run P w = .ok (.float k r) w := by
  unfold fmax at h
  split at h
  · cases h
  all_goals (rename_i e; cases h; simp [Builtin.max_, Builtin.max2, e])

theorem bits_hi : (4742290407621132288 : Nat) = floatOfInt .f64 1073741824 := by decide +kernel
theorem bits_lo : (13965662444475908096 : Nat) = floatOfInt .f64 (-1073741824) := by decide +kernel
theorem bits_one : (4607182418800017408 : Nat) = floatOfInt .f64 1 := by decide +kernel
theorem bits_nil : (0 : Nat) = floatOfInt .f64 0 := by decide +kernel

/-- is it no number? -/
def nanB (b : Nat) : Bool := FloatKind.f64.format.order b b != some .eq

theorem nanB_iff (b : Nat) : nanB b = (double.read b).isNaN := by
  unfold nanB
  show (double.order b b != some .eq) = _
  unfold Format.order
  cases h : double.read b with
  | nan s f => rfl
  | infinity s => cases s <;> rfl
  | number s m i =>
    have hp := read_place b s m i h
    rw [order_V _ _ _ _ _ _ hp hp]
    simp [Datum.isNaN]

theorem whole_nan (b : Nat) (h : nanB b = true) : wholeS b = 0 := by
  rw [nanB_iff] at h
  unfold wholeS
  cases hr : double.read b with
  | nan s f => rfl
  | infinity s => rw [hr] at h; cases h
  | number s m i => rw [hr] at h; cases h

theorem toInt_read {b : Nat} {s : Bool} {m : Nat} {i : Int} (h : double.read b = .number s m i) {n : Int} (hn : (V (.number s m i)).tdiv (T : Int) = n) (h1 : -9223372036854775808 ≤ n) (h2 : n ≤ 9223372036854775807) :
    floatToIntVal .f64 b .i64 = some n := by
  have e : (FloatKind.f64.decode b).toInt .zero = some n := by
    show (double.read b).toInt .zero = _
    rw [h, toInt_V _ _ _ (read_place b s m i h), hn]
  unfold floatToIntVal
  rw [e]
  have : IntKind.i64.min ≤ n ∧ n ≤ IntKind.i64.max := by
    have a : IntKind.i64.min = -9223372036854775808 := by decide
    have b : IntKind.i64.max = 9223372036854775807 := by decide
    omega
  show (if _ then _ else _) = _
  rw [if_pos this]

theorem toInt_F (n : Int) (h1 : -1073741824 ≤ n) (h2 : n ≤ 1073741824) : floatToIntVal .f64 (floatOfInt .f64 n) .i64 = some n := by
  obtain ⟨c, hc, r⟩ := Rd_F n (by omega) (by omega)
  have hT : (0 : Int) < T := by have := T_pos; omega
  refine toInt_read r ?_ (by omega) (by omega)
  rw [V_whole _ _ _ hc, sg_abs, Int.mul_tdiv_cancel _ (by omega)]

/-- how a number stands to a whole one -/
theorem order_num {b : Nat} {s : Bool} {m : Nat} {i : Int} (h : double.read b = .number s m i) (n : Int) (h1 : -9007199254740992 < n) (h2 : n < 9007199254740992) :
    FloatKind.f64.format.order b (floatOfInt .f64 n) = some (compare (V (.number s m i)) (n * (T : Int))) ∧ FloatKind.f64.format.order (floatOfInt .f64 n) b = some (compare (n * (T : Int)) (V (.number s m i))) := by
  obtain ⟨c, hc, r⟩ := Rd_F n h1 h2
  have hp := read_place b s m i h
  constructor
  · show double.order _ _ = _
    unfold Format.order
    rw [h, r, order_V _ _ _ _ _ _ hp (by omega), V_whole _ _ _ hc, sg_abs]
  · show double.order _ _ = _
    unfold Format.order
    rw [h, r, order_V _ _ _ _ _ _ (by omega) hp, V_whole _ _ _ hc, sg_abs]

theorem order_inf {b : Nat} {s : Bool} (h : double.read b = .infinity s) (n : Int) (h1 : -9007199254740992 < n) (h2 : n < 9007199254740992) :
    FloatKind.f64.format.order b (floatOfInt .f64 n) = some (if s then .lt else .gt) ∧ FloatKind.f64.format.order (floatOfInt .f64 n) b = some (if s then .gt else .lt) := by
  obtain ⟨c, hc, r⟩ := Rd_F n h1 h2
  constructor
  · show double.order _ _ = _
    unfold Format.order
    rw [h, r]; rfl
  · show double.order _ _ = _
    unfold Format.order
    rw [h, r]; rfl

theorem clamp_num (b : Nat) (h : nanB b = false) : ∃ b1 b2, fmin .f64 b 4742290407621132288 = some b1 ∧ fmax .f64 13965662444475908096 b1 = some b2 ∧ floatToIntVal .f64 b2 .i64 = some (wholeS b) := by
  rw [nanB_iff] at h
  rw [bits_hi, bits_lo]
  have hT : (0 : Int) < T := by have := T_pos; omega
  have lohi := order_F (-1073741824) 1073741824 (by omega) (by omega) (by omega) (by omega)
  have lolo := order_F (-1073741824) (-1073741824) (by omega) (by omega) (by omega) (by omega)
  have ehi : compare (-1073741824 : Int) 1073741824 = .lt := by decide
  have elo : compare (-1073741824 : Int) (-1073741824) = .eq := by decide
  rw [ehi] at lohi
  rw [elo] at lolo
  cases hr : double.read b with
  | nan s f => rw [hr] at h; cases h
  | infinity s =>
    obtain ⟨o1, _⟩ := order_inf hr 1073741824 (by omega) (by omega)
    obtain ⟨_, o2⟩ := order_inf hr (-1073741824) (by omega) (by omega)
    cases s
    · refine ⟨floatOfInt .f64 1073741824, floatOfInt .f64 1073741824, ?_, ?_, ?_⟩
      · unfold fmin; rw [o1]; rfl
      · unfold fmax; rw [lohi]
      · rw [toInt_F _ (by omega) (by omega)]; unfold wholeS; rw [hr]; rfl
    · refine ⟨b, floatOfInt .f64 (-1073741824), ?_, ?_, ?_⟩
      · unfold fmin; rw [o1]; rfl
      · unfold fmax; rw [o2]; rfl
      · rw [toInt_F _ (by omega) (by omega)]; unfold wholeS; rw [hr]; rfl
  | number s m i =>
    obtain ⟨o1, _⟩ := order_num hr 1073741824 (by omega) (by omega)
    obtain ⟨_, o2⟩ := order_num hr (-1073741824) (by omega) (by omega)
    have hw : wholeS b = if 1073741824 * (T : Int) ≤ V (.number s m i) then 1073741824 else if V (.number s m i) ≤ -1073741824 * (T : Int) then -1073741824 else (V (.number s m i)).tdiv (T : Int) := by unfold wholeS; rw [hr]
    have ev : ∀ n : Int, V (.number s m i) = n * (T : Int) → (V (.number s m i)).tdiv (T : Int) = n := fun n e => by rw [e, Int.mul_tdiv_cancel _ (by omega)]
    by_cases c1 : 1073741824 * (T : Int) ≤ V (.number s m i)
    · rw [if_pos c1] at hw
      rw [hw]
      by_cases c2 : V (.number s m i) = 1073741824 * (T : Int)
      · rw [Int.compare_eq_eq.2 c2] at o1
        have o3 : compare (-1073741824 * (T : Int)) (V (.number s m i)) = .lt := Int.compare_eq_lt.2 (by omega)
        rw [o3] at o2
        by_cases hg : (FloatKind.f64.decode b).neg = true
        · refine ⟨b, b, ?_, ?_, toInt_read hr (ev _ c2) (by omega) (by omega)⟩
          · unfold fmin; rw [o1]; simp only [hg, if_true]
          · unfold fmax; rw [o2]
        · refine ⟨floatOfInt .f64 1073741824, floatOfInt .f64 1073741824, ?_, ?_, toInt_F _ (by omega) (by omega)⟩
          · unfold fmin; rw [o1]; simp only [hg, if_false, Bool.false_eq_true]
          · unfold fmax; rw [lohi]
      · have o3 : compare (V (.number s m i)) (1073741824 * (T : Int)) = .gt := Int.compare_eq_gt.2 (by omega)
        rw [o3] at o1
        refine ⟨floatOfInt .f64 1073741824, floatOfInt .f64 1073741824, ?_, ?_, toInt_F _ (by omega) (by omega)⟩
        · unfold fmin; rw [o1]
        · unfold fmax; rw [lohi]
    · have o3 : compare (V (.number s m i)) (1073741824 * (T : Int)) = .lt := Int.compare_eq_lt.2 (by omega)
      rw [o3] at o1
      rw [if_neg c1] at hw
      have hmin : fmin .f64 b (floatOfInt .f64 1073741824) = some b := by unfold fmin; rw [o1]
      by_cases c2 : V (.number s m i) ≤ -1073741824 * (T : Int)
      · rw [if_pos c2] at hw
        rw [hw]
        by_cases c3 : V (.number s m i) = -1073741824 * (T : Int)
        · rw [Int.compare_eq_eq.2 c3.symm] at o2
          by_cases hg : (FloatKind.f64.decode (floatOfInt .f64 (-1073741824))).neg = true
          · refine ⟨b, b, hmin, ?_, toInt_read hr (ev _ c3) (by omega) (by omega)⟩
            unfold fmax; rw [o2]; simp only [hg, if_true]
          · refine ⟨b, floatOfInt .f64 (-1073741824), hmin, ?_, toInt_F _ (by omega) (by omega)⟩
            unfold fmax; rw [o2]; simp only [hg, if_false, Bool.false_eq_true]
        · have o4 : compare (-1073741824 * (T : Int)) (V (.number s m i)) = .gt := Int.compare_eq_gt.2 (by omega)
          rw [o4] at o2
          refine ⟨b, floatOfInt .f64 (-1073741824), hmin, ?_, toInt_F _ (by omega) (by omega)⟩
          unfold fmax; rw [o2]
      · rw [if_neg c2] at hw
        have o4 : compare (-1073741824 * (T : Int)) (V (.number s m i)) = .lt := Int.compare_eq_lt.2 (by omega)
        rw [o4] at o2
        have hb := tdiv_bd (V (.number s m i)) 1073741824 (by omega) (by omega)
        refine ⟨b, b, hmin, ?_, toInt_read hr hw.symm (by omega) (by omega)⟩
        unfold fmax; rw [o2]

/-! ### to swap -/
theorem xor_low (r : Nat) (h : r < 9223372036854775808) : r ^^^ 9223372036854775808 = 9223372036854775808 + r := by
  have e : (9223372036854775808 : Nat) = 2 ^ 63 := by decide
  rw [e] at h ⊢
  apply Nat.eq_of_testBit_eq
  intro j
  rw [Nat.testBit_xor, Nat.testBit_two_pow]
  rcases Nat.lt_trichotomy j 63 with c | c | c
  · rw [Nat.testBit_two_pow_add_gt c, decide_eq_false (by omega), Bool.xor_false]
  · subst c
    rw [Nat.testBit_two_pow_add_eq]
    simp
  · have h1 : r.testBit j = false := Nat.testBit_lt_two_pow (Nat.lt_of_lt_of_le h (Nat.pow_le_pow_right (by omega) (by omega)))
    have h2 : (2 ^ 63 + r).testBit j = false := Nat.testBit_lt_two_pow (Nat.lt_of_lt_of_le (show 2 ^ 63 + r < 2 ^ 64 by omega) (Nat.pow_le_pow_right (by omega) (by omega)))
    rw [h1, h2, decide_eq_false (by omega), Bool.xor_false]

theorem neg_word (s : Bool) (r : Nat) (h : r < 9223372036854775808) : Op.negFloat .f64 (double.word s r) = double.word (!s) r := by
  unfold Op.negFloat
  have e : 2 ^ (FloatKind.f64.format.exponentBits + FloatKind.f64.format.fractionBits) = 9223372036854775808 := by decide +kernel
  rw [e]
  unfold Format.word
  rw [sw]
  cases s
  · simp only [Bool.false_eq_true, if_false, Bool.not_false, if_true]
    exact xor_low r h
  · simp only [Bool.false_eq_true, if_false, Bool.not_true, if_true]
    rw [← xor_low r h, Nat.xor_assoc, Nat.xor_self, Nat.xor_zero]

theorem neg_W (s : Bool) (m : Nat) (h : m < 9007199254740992) : Op.negFloat .f64 (W s m) = W (!s) m := by
  by_cases h0 : m = 0
  · subst h0; rw [W_zero, W_zero, neg_word _ _ (by omega)]
  · rw [W_rung _ _ h0 h, W_rung _ _ h0 h, neg_word _ _ (by have := rung_bd m h0 h; omega)]

/-- i times x - yi -/
theorem swap_bits (x y : Int) (h1 : -1073741824 ≤ x) (h2 : x ≤ 1073741824) (h3 : -1073741824 ≤ y) (h4 : y ≤ 1073741824) :
    cMulBits 0 4607182418800017408 (floatOfInt .f64 x) (Op.negFloat .f64 (floatOfInt .f64 y)) = some (floatOfInt .f64 y, floatOfInt .f64 x) := by
  rw [bits_one]
  have e0 : (0 : Nat) = W false 0 := bits_nil
  have e1 : floatOfInt .f64 1 = W false 1 := rfl
  rw [F_W y, neg_W _ _ (by omega), e1, F_W x]
  have r0 := Rd_W false 0 (by omega)
  rw [← e0] at r0
  have r1 := Rd_W false 1 (by omega)
  have rx := Rd_W (decide (x < 0)) x.natAbs (by omega)
  have ry := Rd_W (!decide (y < 0)) y.natAbs (by omega)
  have sx := sg_abs x
  have sy := sg_abs y
  generalize hsx : decide (x < 0) = s at *
  generalize hsy : decide (y < 0) = t at *
  have ac : floatBits .mul .f64 0 (W s x.natAbs) = some (W (false ^^ s) (0 * x.natAbs)) := mul_W r0 rx (by omega)
  have bd : floatBits .mul .f64 (W false 1) (W (!t) y.natAbs) = some (W (false ^^ !t) (1 * y.natAbs)) := mul_W r1 ry (by omega)
  have ad : floatBits .mul .f64 0 (W (!t) y.natAbs) = some (W (false ^^ !t) (0 * y.natAbs)) := mul_W r0 ry (by omega)
  have bc : floatBits .mul .f64 (W false 1) (W s x.natAbs) = some (W (false ^^ s) (1 * x.natAbs)) := mul_W r1 rx (by omega)
  simp only [Nat.zero_mul, Nat.one_mul, Bool.false_xor] at ac bd ad bc
  have z : ∀ u : Bool, sg u 0 = 0 := fun u => by cases u <;> rfl
  have re : floatBits .sub .f64 (W s 0) (W (!t) y.natAbs) = some (W t y.natAbs) := by
    have h := sub_W (Rd_W s 0 (by omega)) ry (by rw [z, Bool.not_not, sy]; omega)
    rw [z, Bool.not_not, sy] at h
    show double.sub _ _ = _
    rw [h]
    have e : (0 + y) = y := by omega
    rw [e]
    by_cases c : y = 0
    · have ht : t = false := by rw [← hsy]; simp [c]
      rw [if_pos c, ht]; simp
    · rw [if_neg c, hsy]
  have im : floatBits .add .f64 (W (!t) 0) (W s x.natAbs) = some (W s x.natAbs) := by
    have h := add_W (Rd_W (!t) 0 (by omega)) rx (by rw [z, sx]; omega)
    rw [z, sx] at h
    show double.add _ _ = _
    rw [h]
    have e : (0 + x) = x := by omega
    rw [e]
    by_cases c : x = 0
    · have hs : s = false := by rw [← hsx]; simp [c]
      rw [if_pos c, hs]; simp
    · rw [if_neg c, hsx]
  unfold cMulBits
  rw [ac, bd, ad, bc]
  simp only [Option.bind_some]
  rw [re, im]
  rfl

end AxiF
end Go.Proofs.Ytanhpdejlodidaa
