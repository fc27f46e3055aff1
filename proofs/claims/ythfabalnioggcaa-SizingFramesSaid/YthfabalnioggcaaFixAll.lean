/- Joined texts: FixM FixP FixQ FixN FixE FixR FixB TreN. -/
namespace Go.Proofs.Ythfabalnioggcaa.FixM

/-- to hold a number -/
def H (x : Int) : Int := if 1073741824 < x then 1073741824 else if x < -1073741824 then -1073741824 else x

theorem H_bd (x : Int) : -1073741824 ≤ H x ∧ H x ≤ 1073741824 := by unfold H; split <;> (try split) <;> omega
theorem H_id {x : Int} (h1 : -1073741824 ≤ x) (h2 : x ≤ 1073741824) : H x = x := by unfold H; split <;> (try split) <;> omega
theorem H_H (x : Int) : H (H x) = H x := H_id (H_bd x).1 (H_bd x).2
theorem H_zero {x : Int} : H x = 0 ↔ x = 0 := by unfold H; split <;> (try split) <;> omega
theorem H_neg (x : Int) : H (-x) = - H x := by unfold H; repeat' split <;> omega
theorem H_mono {x y : Int} (h : x ≤ y) : H x ≤ H y := by unfold H; repeat' split <;> omega
theorem H_hi {x : Int} (h : 1073741824 < x) : H x = 1073741824 := by unfold H; rw [if_pos h]
theorem H_lo {x : Int} (h : x < -1073741824) : H x = -1073741824 := by unfold H; rw [if_neg (by omega), if_pos h]

/-- to divide downwards -/
def FL (p d : Int) : Int := p.fdiv d

theorem tdiv_neg_form (p d : Int) (hp : p < 0) : p.tdiv d = -((-p) / d) := by
  have h : p = -(-p) := by omega
  rw [h, Int.neg_tdiv, Int.tdiv_eq_ediv_of_nonneg (by omega : 0 ≤ -p)]
  simp

theorem FL_pos (p d : Int) (hd : 0 < d) : FL p d = p / d := by
  unfold FL; exact Int.fdiv_eq_ediv_of_nonneg p (by omega)

theorem FL_neg_neg (p d : Int) : FL (-p) (-d) = FL p d := by
  unfold FL; exact Int.neg_fdiv_neg p d

theorem FL_bd (p d : Int) (b : Int) (hd : d ≠ 0) (h1 : -b ≤ p) (h2 : p ≤ b) : -b - 1 ≤ FL p d ∧ FL p d ≤ b + 1 := by
  have key : ∀ p d : Int, 0 < d → -b ≤ p → p ≤ b → -b - 1 ≤ FL p d ∧ FL p d ≤ b + 1 := by
    intro p d hd h1 h2
    rw [FL_pos p d hd]
    have e := Int.mul_ediv_add_emod p d
    have m1 := Int.emod_nonneg p (by omega : d ≠ 0)
    have m2 := Int.emod_lt_of_pos p hd
    constructor
    · have : -b ≤ p / d := by
        rw [Int.le_ediv_iff_mul_le hd]
        have : -b * d ≤ -b * 1 := by
          by_cases hb : 0 ≤ b
          · have := Int.mul_le_mul_of_nonneg_left (show (1:Int) ≤ d by omega) hb
            have e1 : -b * d = -(b * d) := by rw [Int.neg_mul]
            have e2 : -b * 1 = -(b * 1) := by rw [Int.neg_mul]
            omega
          · omega
        omega
      omega
    · have : p / d ≤ b := by
        by_cases hp : 0 ≤ p
        · have := Int.ediv_le_self d hp; omega
        · have : p / d < 0 := Int.ediv_neg_of_neg_of_pos (by omega) hd
          omega
      omega
  by_cases h : 0 < d
  · exact key p d h h1 h2
  · have := key (-p) (-d) (by omega) (by omega) (by omega)
    rwa [FL_neg_neg] at this

/-- Go's own quotient goes towards 0: one less where something is left and the signs part. -/
theorem FL_go (p d : Int) (hd : d ≠ 0) : FL p d = if p.tmod d ≠ 0 ∧ (decide (p < 0) ≠ decide (d < 0)) then p.tdiv d - 1 else p.tdiv d := by
  unfold FL
  have key : ∀ p d : Int, 0 < d → p.fdiv d = if p.tmod d ≠ 0 ∧ (decide (p < 0) ≠ decide (d < 0)) then p.tdiv d - 1 else p.tdiv d := by
    intro p d hd
    rw [Int.fdiv_eq_ediv_of_nonneg p (by omega)]
    by_cases hp : 0 ≤ p
    · rw [Int.tdiv_eq_ediv_of_nonneg hp, if_neg]
      rintro ⟨_, h⟩
      exact h (by simp; omega)
    · have e := Int.mul_ediv_add_emod (-p) d
      have m1 := Int.emod_nonneg (-p) (by omega : d ≠ 0)
      have m2 := Int.emod_lt_of_pos (-p) hd
      have e' := Int.mul_ediv_add_emod p d
      have m1' := Int.emod_nonneg p (by omega : d ≠ 0)
      have m2' := Int.emod_lt_of_pos p hd
      have et : p.tdiv d = -((-p) / d) := tdiv_neg_form p d (by omega)
      have em := Int.mul_tdiv_add_tmod p d
      rw [et] at em ⊢
      have en : d * -((-p) / d) = -(d * ((-p) / d)) := by rw [Int.mul_neg]
      have hm : p.tmod d = -((-p) % d) := by omega
      by_cases hz : (-p) % d = 0
      · rw [if_neg (by rw [hm, hz]; simp)]
        have : d * (p / d + (-p) / d) = -(p % d) := by rw [Int.mul_add]; omega
        have h0 : p / d + (-p) / d = 0 := by
          by_cases h1 : 0 < p / d + (-p) / d
          · have := Int.mul_le_mul_of_nonneg_left (show (1:Int) ≤ p / d + (-p) / d by omega) (by omega : (0:Int) ≤ d); omega
          · by_cases h2 : p / d + (-p) / d < 0
            · have := Int.mul_le_mul_of_nonneg_left (show p / d + (-p) / d ≤ (-1:Int) by omega) (by omega : (0:Int) ≤ d); omega
            · omega
        omega
      · rw [if_pos ⟨by rw [hm]; omega, by simp; omega⟩]
        have : d * (p / d + (-p) / d) = -(p % d) - (-p) % d := by rw [Int.mul_add]; omega
        have h0 : p / d + (-p) / d = -1 := by
          by_cases h1 : 0 ≤ p / d + (-p) / d
          · have := Int.mul_nonneg (by omega : (0:Int) ≤ d) h1; omega
          · by_cases h2 : p / d + (-p) / d < -1
            · have := Int.mul_le_mul_of_nonneg_left (show p / d + (-p) / d ≤ (-2:Int) by omega) (by omega : (0:Int) ≤ d); omega
            · omega
        omega
  by_cases h : 0 < d
  · exact key p d h
  · have k := key (-p) (-d) (by omega)
    rw [Int.neg_fdiv_neg, Int.neg_tdiv_neg] at k
    rw [k]
    have e1 : (-p).tmod (-d) = - p.tmod d := by rw [Int.tmod_neg, Int.neg_tmod]
    have et := Int.mul_tdiv_add_tmod p d
    rw [e1]
    by_cases hz : p.tmod d = 0
    · simp [hz]
    · have hp : p ≠ 0 := by rintro rfl; simp at hz
      have : (decide (-p < 0) ≠ decide (-d < 0)) ↔ (decide (p < 0) ≠ decide (d < 0)) := by
        by_cases a : p < 0 <;> by_cases b : d < 0 <;> simp [a, b] <;> omega
      simp only [this]
      simp [hz]

theorem tdiv_bd (p d b : Int) (h1 : -b ≤ p) (h2 : p ≤ b) : -b ≤ p.tdiv d ∧ p.tdiv d ≤ b := by
  have h : (p.tdiv d).natAbs = p.natAbs / d.natAbs := Int.natAbs_tdiv p d
  have h3 := Nat.div_le_self p.natAbs d.natAbs
  generalize p.natAbs / d.natAbs = e at *
  omega

theorem ref_form (p d : Int) (hd : 0 < d) : -((d - 1 - p) / d) = p / d := by
  have e := Int.mul_ediv_add_emod p d
  have m1 := Int.emod_nonneg p (by omega : d ≠ 0)
  have m2 := Int.emod_lt_of_pos p hd
  have e1 : d - 1 - p = (d - 1 - p % d) + d * (-(p / d)) := by rw [Int.mul_neg]; omega
  rw [e1, Int.add_mul_ediv_left _ _ (by omega : d ≠ 0), Int.ediv_eq_zero_of_lt (by omega) (by omega)]
  omega

/-- a part of a length -/
def PT (a n d : Int) : Int := if d = 0 then 0 else H (FL (H a * H n) (H d))

theorem prod_bd (a n : Int) : -1152921504606846976 ≤ H a * H n ∧ H a * H n ≤ 1152921504606846976 := by
  have ha := H_bd a
  have hn := H_bd n
  have key : ∀ x y : Int, 0 ≤ x → x ≤ 1073741824 → -1073741824 ≤ y → y ≤ 1073741824 → -1152921504606846976 ≤ x * y ∧ x * y ≤ 1152921504606846976 := by
    intro x y h1 h2 h3 h4
    have a1 := Int.mul_le_mul_of_nonneg_left h4 h1
    have a2 := Int.mul_le_mul_of_nonneg_left h3 h1
    omega
  by_cases h : 0 ≤ H a
  · exact key _ _ h (by omega) hn.1 hn.2
  · have := key (-H a) (H n) (by omega) (by omega) hn.1 hn.2
    rw [Int.neg_mul] at this
    omega

end Go.Proofs.Ythfabalnioggcaa.FixM

namespace Go.Proofs.Ythfabalnioggcaa.FixP
open FixM

/-- is a byte a digit? -/
def isD (c : UInt8) : Bool := decide (48 ≤ c.toNat) && decide (c.toNat ≤ 57)
/-- a digit's worth -/
def dv (c : UInt8) : Int := (c.toNat : Int) - 48
/-- the digits from a place on -/
def ds (l : List UInt8) (a : Nat) : List UInt8 := (l.drop a).takeWhile isD
def nd (l : List UInt8) (a : Nat) : Nat := (ds l a).length

theorem isD_iff (c : UInt8) : isD c = true ↔ 48 ≤ c.toNat ∧ c.toNat ≤ 57 := by simp [isD]
theorem isD_no (c : UInt8) : isD c = false ↔ c.toNat < 48 ∨ 57 < c.toNat := by
  cases h : isD c with
  | true => have := (isD_iff c).1 h; constructor <;> intro x <;> first | (cases x; done) | omega
  | false =>
    have : ¬ (48 ≤ c.toNat ∧ c.toNat ≤ 57) := fun x => by rw [(isD_iff c).2 x] at h; cases h
    constructor <;> intro _ <;> first | omega | rfl

theorem ds_end {l : List UInt8} {a : Nat} (h : l.length ≤ a) : ds l a = [] := by
  unfold ds; rw [List.drop_of_length_le h]; rfl
theorem ds_yes {l : List UInt8} {a : Nat} (h : a < l.length) (hd : isD l[a] = true) : ds l a = l[a] :: ds l (a + 1) := by
  unfold ds; rw [List.drop_eq_getElem_cons h, List.takeWhile_cons, if_pos hd]
theorem ds_no {l : List UInt8} {a : Nat} (h : a < l.length) (hd : isD l[a] = false) : ds l a = [] := by
  unfold ds; rw [List.drop_eq_getElem_cons h, List.takeWhile_cons, if_neg (by rw [hd]; simp)]
theorem nd_end {l : List UInt8} {a : Nat} (h : l.length ≤ a) : nd l a = 0 := by unfold nd; rw [ds_end h]; rfl
theorem nd_yes {l : List UInt8} {a : Nat} (h : a < l.length) (hd : isD l[a] = true) : nd l a = nd l (a + 1) + 1 := by
  unfold nd; rw [ds_yes h hd]; rfl
theorem nd_no {l : List UInt8} {a : Nat} (h : a < l.length) (hd : isD l[a] = false) : nd l a = 0 := by unfold nd; rw [ds_no h hd]; rfl
theorem nd_le {l : List UInt8} {a : Nat} (h : a ≤ l.length) : a + nd l a ≤ l.length := by
  unfold nd ds
  have := (List.takeWhile_prefix isD (l := l.drop a)).length_le
  rw [List.length_drop] at this
  omega
theorem ds_all (l : List UInt8) (a : Nat) : ∀ c ∈ ds l a, isD c = true := by
  intro c hc
  unfold ds at hc
  have := List.all_takeWhile (p := isD) (l := l.drop a)
  rw [List.all_eq_true] at this
  exact this c hc
theorem drop_split (l : List UInt8) (a : Nat) : l.drop a = ds l a ++ l.drop (a + nd l a) := by
  unfold nd
  have h : l.drop a = ds l a ++ (l.drop a).dropWhile isD := by unfold ds; exact (List.takeWhile_append_dropWhile).symm
  have h2 : (l.drop a).drop (ds l a).length = (l.drop a).dropWhile isD := by
    conv => lhs; rw [h]
    simp
  rw [List.drop_drop] at h2
  rw [← h2] at h
  rw [Nat.add_comm] at h
  rw [Nat.add_comm] 
  exact h

/-- digits told, one by one -/
def tell {σ : Type} (step : σ → Int → σ) (st : σ) (l : List UInt8) : σ := l.foldl (fun s c => step s (dv c)) st

def PI (st : Int × Int) : Prop := 0 ≤ st.1 ∧ st.1 ≤ 1073741824 ∧ 0 ≤ st.2 ∧ st.2 ≤ 3
def st1 (st : Int × Int) (d : Int) : Int × Int := (H (st.1 * 10 + d), st.2)
def st2 (st : Int × Int) (d : Int) : Int × Int := if st.2 < 3 then (H (st.1 * 10 + d), st.2 + 1) else st

theorem H_nonneg {x : Int} (h : 0 ≤ x) : 0 ≤ H x := by unfold H; repeat' split <;> omega
theorem PI_st1 {st : Int × Int} {d : Int} (h : PI st) (hd : 0 ≤ d) : PI (st1 st d) := by
  obtain ⟨h1, h2, h3, h4⟩ := h
  exact ⟨H_nonneg (by omega), (H_bd _).2, h3, h4⟩
theorem PI_st2 {st : Int × Int} {d : Int} (h : PI st) (hd : 0 ≤ d) : PI (st2 st d) := by
  unfold st2
  obtain ⟨h1, h2, h3, h4⟩ := h
  split
  · exact ⟨H_nonneg (by omega), (H_bd _).2, by show 0 ≤ st.2 + 1; omega, by show st.2 + 1 ≤ 3; omega⟩
  · exact ⟨h1, h2, h3, h4⟩
theorem tell_st1_snd (l : List UInt8) : ∀ st : Int × Int, (tell st1 st l).2 = st.2 := by
  induction l with
  | nil => intro st; rfl
  | cons c l ih => intro st; exact ih (st1 st (dv c))

/-- behind a sign -/
def beg (l : List UInt8) : Nat := match l with | c :: _ => if c.toNat = 43 ∨ c.toNat = 45 then 1 else 0 | [] => 0
theorem beg_le (l : List UInt8) : beg l ≤ l.length := by
  unfold beg
  cases l with
  | nil => simp
  | cons c l => simp only [List.length_cons]; split <;> omega
/-- where the point stands, if there is one -/
def pt (l : List UInt8) : Nat := beg l + nd l (beg l)
theorem pt_le (l : List UInt8) : pt l ≤ l.length := nd_le (beg_le l)
def stA (l : List UInt8) : Int × Int := tell st1 (0, 0) (ds l (beg l))
def stB (l : List UInt8) : Int × Int := tell st2 (stA l) (ds l (pt l + 1))
/-- noughts that are told to the end -/
def zer (n : Int) : Nat → Int
  | 0 => n
  | k + 1 => H (zer n k * 10)
theorem zer_bd {n : Int} (h : 0 ≤ n ∧ n ≤ 1073741824) : ∀ k, 0 ≤ zer n k ∧ zer n k ≤ 1073741824
  | 0 => h
  | k + 1 => ⟨H_nonneg (by have := zer_bd h k; omega), (H_bd _).2⟩
/-- with the sign -/
def sgnd (l : List UInt8) (n : Int) : Int := match l with | c :: _ => if c.toNat = 45 then -n else n | [] => n
theorem beg_cons {l : List UInt8} (h : 0 < l.length) : beg l = if l[0].toNat = 43 ∨ l[0].toNat = 45 then 1 else 0 := by
  cases l with
  | nil => simp at h
  | cons c l => rfl
theorem sgnd_cons {l : List UInt8} (h : 0 < l.length) (n : Int) : sgnd l n = if l[0].toNat = 45 then -n else n := by
  cases l with
  | nil => simp at h
  | cons c l => rfl
/-- what a text is read as: the thousandths and the error -/
def parse (l : List UInt8) : Int × Int :=
  if h : pt l < l.length then
    if l[pt l].toNat = 46 then
      if (stB l).2 = 0 ∨ pt l + 1 + nd l (pt l + 1) < l.length then (0, 10)
      else (sgnd l (zer (stB l).1 (3 - (stB l).2).toNat), 0)
    else (0, 10)
  else if pt l = beg l then (0, 10)
  else (sgnd l (zer (stA l).1 3), 0)
theorem parse_bad {l : List UInt8} (h : pt l < l.length) (hc : l[pt l].toNat ≠ 46) : parse l = (0, 10) := by
  unfold parse; rw [dif_pos h, if_neg hc]
theorem parse_dot_bad {l : List UInt8} (h : pt l < l.length) (hc : l[pt l].toNat = 46) (hb : (stB l).2 = 0 ∨ pt l + 1 + nd l (pt l + 1) < l.length) : parse l = (0, 10) := by
  unfold parse; rw [dif_pos h, if_pos hc, if_pos hb]
theorem parse_dot {l : List UInt8} (h : pt l < l.length) (hc : l[pt l].toNat = 46) (hb : ¬ ((stB l).2 = 0 ∨ pt l + 1 + nd l (pt l + 1) < l.length)) :
    parse l = (sgnd l (zer (stB l).1 (3 - (stB l).2).toNat), 0) := by
  unfold parse; rw [dif_pos h, if_pos hc, if_neg hb]
theorem parse_end_bad {l : List UInt8} (h : ¬ pt l < l.length) (hc : pt l = beg l) : parse l = (0, 10) := by
  unfold parse; rw [dif_neg h, if_pos hc]
theorem parse_end {l : List UInt8} (h : ¬ pt l < l.length) (hc : ¬ pt l = beg l) : parse l = (sgnd l (zer (stA l).1 3), 0) := by
  unfold parse; rw [dif_neg h, if_neg hc]

end Go.Proofs.Ythfabalnioggcaa.FixP

namespace Go.Proofs.Ythfabalnioggcaa.FixP
open FixM

/-- a digit's byte -/
def dgc (x : Int) : UInt8 := UInt8.ofNat (48 + x).toNat
theorem dgc_nat {x : Int} (h : 0 ≤ x) (h9 : x ≤ 9) : ((dgc x).toNat : Int) = 48 + x := by
  unfold dgc
  have : (48 + x).toNat < 256 := by omega
  have e : (UInt8.ofNat (48 + x).toNat).toNat = (48 + x).toNat := by rw [UInt8.toNat_ofNat']; omega
  rw [e]
  omega

/-- a thousandths' digit is told, from the last on: what is left, what is written -/
def pr1 (st : Int × List UInt8) : Int × List UInt8 := (st.1 / 10, if st.1 % 10 ≠ 0 ∨ st.2 ≠ [] then dgc (st.1 % 10) :: st.2 else st.2)
def pr1s (a : Int) : Nat → Int × List UInt8
  | 0 => (a, [])
  | k + 1 => pr1 (pr1s a k)
/-- the point -/
def prp (t : List UInt8) : List UInt8 := if t = [] then t else 46 :: t
/-- a digit of the whole part -/
def pr2 (first : Bool) (st : Int × List UInt8) : Int × List UInt8 := (st.1 / 10, if 0 < st.1 ∨ first = true then dgc (st.1 % 10) :: st.2 else st.2)
def pr2s (st : Int × List UInt8) : Nat → Int × List UInt8
  | 0 => st
  | k + 1 => pr2 (k == 0) (pr2s st k)
/-- what is printed of a number that is not below 0 -/
def prt (a : Int) : List UInt8 := (pr2s ((pr1s a 3).1, prp (pr1s a 3).2) 7).2
/-- what is printed of a number that is held -/
def prn (v : Int) : List UInt8 := if v < 0 then 45 :: prt (-v) else prt v
theorem prt_eq {a l l2 : Int} {t tp t2 : List UInt8} (h1 : (l, t) = pr1s a 3) (h2 : tp = prp t) (h3 : (l2, t2) = pr2s (l, tp) 7) : prt a = t2 := by
  unfold prt
  rw [← h1]
  show (pr2s (l, prp t) 7).2 = t2
  rw [← h2, ← h3]

theorem pr2_mono (f : Bool) (st : Int × List UInt8) : st.2.length ≤ (pr2 f st).2.length := by unfold pr2; simp only []; split <;> simp
theorem pr2s_pos (st : Int × List UInt8) : ∀ k, 0 < (pr2s st (k + 1)).2.length
  | 0 => by simp [pr2s, pr2]
  | k + 1 => by have := pr2s_pos st k; have := pr2_mono (k + 1 == 0) (pr2s st (k + 1)); simp only [pr2s] at *; omega
theorem pr1_len (st : Int × List UInt8) : (pr1 st).2.length ≤ st.2.length + 1 := by unfold pr1; simp only []; split <;> simp
theorem pr1s_len (a : Int) : ∀ k, (pr1s a k).2.length ≤ k
  | 0 => by simp [pr1s]
  | k + 1 => by have := pr1s_len a k; have := pr1_len (pr1s a k); simp only [pr1s]; omega
theorem prp_len (t : List UInt8) : (prp t).length ≤ t.length + 1 := by unfold prp; split <;> simp
theorem pr2_len (f : Bool) (st : Int × List UInt8) : (pr2 f st).2.length ≤ st.2.length + 1 := by unfold pr2; simp only []; split <;> simp
theorem pr2s_len (st : Int × List UInt8) : ∀ k, (pr2s st k).2.length ≤ st.2.length + k
  | 0 => by simp [pr2s]
  | k + 1 => by have := pr2s_len st k; have := pr2_len (k == 0) (pr2s st k); simp only [pr2s]; omega
theorem pr1s_bd {a : Int} (h : 0 ≤ a ∧ a ≤ 1073741824) : ∀ k, 0 ≤ (pr1s a k).1 ∧ (pr1s a k).1 ≤ 1073741824
  | 0 => h
  | k + 1 => by have := pr1s_bd h k; simp only [pr1s, pr1]; omega
theorem pr2s_bd {st : Int × List UInt8} (h : 0 ≤ st.1 ∧ st.1 ≤ 1073741824) : ∀ k, 0 ≤ (pr2s st k).1 ∧ (pr2s st k).1 ≤ 1073741824
  | 0 => h
  | k + 1 => by have := pr2s_bd h k; simp only [pr2s, pr2]; omega

end Go.Proofs.Ythfabalnioggcaa.FixP

namespace Go.Proofs.Ythfabalnioggcaa.FixP
open FixM

def at0 (l : List UInt8) (i : Nat) : Nat := (l.getD i 0).toNat
theorem at0_eq {l : List UInt8} {i : Nat} (h : i < l.length) : at0 l i = l[i].toNat := by
  unfold at0; rw [List.getD_eq_getElem?_getD, List.getElem?_eq_getElem h]; rfl
/-- behind a sign that stands at a place -/
def begAt (l : List UInt8) (f : Nat) : Nat := if f < l.length ∧ (at0 l f = 43 ∨ at0 l f = 45) then f + 1 else f
theorem begAt_le {l : List UInt8} {f : Nat} (h : f ≤ l.length) : begAt l f ≤ l.length := by unfold begAt; split <;> omega
theorem begAt_ge (l : List UInt8) (f : Nat) : f ≤ begAt l f := by unfold begAt; split <;> omega
def ptAt (l : List UInt8) (f : Nat) : Nat := begAt l f + nd l (begAt l f)
/-- how long a number's text is that begins at a place -/
def numAt (l : List UInt8) (f : Nat) : Nat :=
  if ptAt l f < l.length ∧ at0 l (ptAt l f) = 46 ∧ 0 < nd l (ptAt l f + 1) then ptAt l f + 1 + nd l (ptAt l f + 1) - f
  else if nd l (begAt l f) = 0 then 0 else ptAt l f - f
theorem begAt_zero (l : List UInt8) : begAt l 0 = beg l := by
  unfold begAt
  by_cases h : 0 < l.length
  · rw [beg_cons h, at0_eq h]
    by_cases c : l[0].toNat = 43 ∨ l[0].toNat = 45
    · rw [if_pos ⟨h, c⟩, if_pos c]
    · rw [if_neg (fun x => c x.2), if_neg c]
  · have : l = [] := List.eq_nil_of_length_eq_zero (by omega)
    subst this; rfl
theorem ptAt_zero (l : List UInt8) : ptAt l 0 = pt l := by unfold ptAt pt; rw [begAt_zero]

/-- the reference's way through a text: the worth so far, how many digits still count (-1: no point yet) -/
def wstep (st : Int × Int) (c : UInt8) : Int × Int :=
  let left := if c.toNat = 46 then 3 else st.2
  if c.toNat < 48 ∨ 57 < c.toNat ∨ left = 0 then (st.1, left)
  else (if 1125899906842624 < st.1 * 10 + dv c then 1125899906842624 else st.1 * 10 + dv c, if 0 < left then left - 1 else left)
def wfold (l : List UInt8) : Int × Int := l.foldl wstep (0, -1)
def WI (st : Int × Int) : Prop := 0 ≤ st.1 ∧ st.1 ≤ 1125899906842624 ∧ -1 ≤ st.2 ∧ st.2 ≤ 3
theorem WI_step {st : Int × Int} (h : WI st) (c : UInt8) : WI (wstep st c) := by
  obtain ⟨v, e⟩ := st
  obtain ⟨h1, h2, h3, h4⟩ := h
  simp only [] at h1 h2 h3 h4
  unfold wstep WI dv
  simp only []
  by_cases a : c.toNat = 46
  · simp [a]; omega
  · simp only [a, if_false]
    split
    · exact ⟨h1, h2, h3, h4⟩
    · simp only []
      refine ⟨?_, ?_, ?_, ?_⟩ <;> split <;> omega
theorem WI_fold (l : List UInt8) : ∀ st, WI st → WI (l.foldl wstep st) := by
  induction l with
  | nil => intro st h; exact h
  | cons c l ih => intro st h; exact ih _ (WI_step h c)
theorem wfold_WI (l : List UInt8) : WI (wfold l) := WI_fold l _ ⟨by decide, by decide, by decide, by decide⟩
theorem wfold_snoc (l : List UInt8) (k : Nat) (h : k < l.length) : wfold (l.take (k + 1)) = wstep (wfold (l.take k)) l[k] := by
  unfold wfold
  rw [List.take_succ_eq_append_getElem h, List.foldl_append]
  rfl
def mul10 (v : Int) : Nat → Int
  | 0 => v
  | k + 1 => mul10 v k * 10
theorem mul10_bd {v : Int} (h : 0 ≤ v ∧ v ≤ 1125899906842624) : ∀ k, k ≤ 3 → 0 ≤ mul10 v k ∧ mul10 v k ≤ 1125899906842624000
  | 0, _ => by simp [mul10]; omega
  | 1, _ => by simp [mul10]; omega
  | 2, _ => by simp [mul10]; omega
  | 3, _ => by simp [mul10]; omega
  | k + 4, h => by omega
/-- how many noughts are told to the end -/
def rest (e : Int) : Nat := if e < 0 then 3 else e.toNat
def worth (l : List UInt8) : Int := H (sgnd l (mul10 (wfold l).1 (rest (wfold l).2)))
end Go.Proofs.Ythfabalnioggcaa.FixP

namespace Go.Proofs.Ythfabalnioggcaa.FixP
open FixM

theorem H_cap {v d : Int} (hv : 0 ≤ v) (h0 : 0 ≤ d) (h9 : d ≤ 9) : H (H v * 10 + d) = H (if 1125899906842624 < v * 10 + d then 1125899906842624 else v * 10 + d) := by
  unfold H; repeat' split <;> omega
theorem H_ten {v : Int} (hv : 0 ≤ v) : H (H v * 10) = H (v * 10) := by
  unfold H; repeat' split <;> omega
theorem zer_mul (v : Int) (hv : 0 ≤ v) : ∀ k, zer (H v) k = H (mul10 v k) ∧ 0 ≤ mul10 v k
  | 0 => ⟨rfl, hv⟩
  | k + 1 => by
    have h := zer_mul v hv k
    simp only [zer, mul10]
    rw [h.1]
    exact ⟨H_ten h.2, by have := h.2; omega⟩
theorem sgnd_H (l : List UInt8) (x : Int) : sgnd l (H x) = H (sgnd l x) := by
  unfold sgnd
  cases l with
  | nil => rfl
  | cons c l => simp only []; split; rw [H_neg]; rfl

theorem dv_bd {c : UInt8} (h : isD c = true) : 0 ≤ dv c ∧ dv c ≤ 9 := by
  have := (isD_iff c).1 h; unfold dv; omega
theorem wstep_neg {c : UInt8} (h : isD c = true) (v : Int) : wstep (v, -1) c = (if 1125899906842624 < v * 10 + dv c then 1125899906842624 else v * 10 + dv c, -1) := by
  have hc := (isD_iff c).1 h
  have h46 : ¬ c.toNat = 46 := by omega
  unfold wstep
  simp only [h46, if_false]
  rw [if_neg (show ¬ (c.toNat < 48 ∨ 57 < c.toNat ∨ (-1 : Int) = 0) by omega), if_neg (show ¬ (0 : Int) < -1 by omega)]
theorem wstep_pos {c : UInt8} (h : isD c = true) (v e : Int) (he : 0 < e) : wstep (v, e) c = (if 1125899906842624 < v * 10 + dv c then 1125899906842624 else v * 10 + dv c, e - 1) := by
  have hc := (isD_iff c).1 h
  have h46 : ¬ c.toNat = 46 := by omega
  unfold wstep
  simp only [h46, if_false]
  rw [if_neg (show ¬ (c.toNat < 48 ∨ 57 < c.toNat ∨ e = 0) by omega), if_pos he]
theorem wstep_zero {c : UInt8} (h : isD c = true) (v : Int) : wstep (v, 0) c = (v, 0) := by
  have hc := (isD_iff c).1 h
  have h46 : ¬ c.toNat = 46 := by omega
  unfold wstep
  simp [h46]
theorem wstep_dot {c : UInt8} (h : c.toNat = 46) (v e : Int) : wstep (v, e) c = (v, 3) := by
  unfold wstep; simp [h]
theorem wstep_sign {c : UInt8} (h : c.toNat = 43 ∨ c.toNat = 45) (v e : Int) : wstep (v, e) c = (v, e) := by
  have h46 : ¬ c.toNat = 46 := by omega
  unfold wstep
  simp only [h46, if_false]
  rw [if_pos (by omega)]

theorem cap_nonneg {v d : Int} (hv : 0 ≤ v) (h0 : 0 ≤ d) : 0 ≤ (if 1125899906842624 < v * 10 + d then 1125899906842624 else v * 10 + d) := by split <;> omega
theorem fold_neg : ∀ (l : List UInt8) (v b : Int), (∀ c ∈ l, isD c = true) → 0 ≤ v →
    ∃ v', l.foldl wstep (v, -1) = (v', -1) ∧ 0 ≤ v' ∧ tell st1 (H v, b) l = (H v', b)
  | [], v, b, _, hv => ⟨v, rfl, hv, rfl⟩
  | c :: l, v, b, hl, hv => by
    have hc := hl c (List.mem_cons_self)
    have hd := dv_bd hc
    obtain ⟨v', h1, h2, h3⟩ := fold_neg l _ b (fun x hx => hl x (List.mem_cons_of_mem _ hx)) (cap_nonneg hv hd.1)
    refine ⟨v', ?_, h2, ?_⟩
    · rw [List.foldl_cons, wstep_neg hc]; exact h1
    · rw [← h3, ← H_cap hv hd.1 hd.2]; rfl
theorem fold_pos : ∀ (l : List UInt8) (v e : Int), (∀ c ∈ l, isD c = true) → 0 ≤ v → 0 ≤ e → e ≤ 3 →
    ∃ v' e', l.foldl wstep (v, e) = (v', e') ∧ 0 ≤ v' ∧ 0 ≤ e' ∧ e' ≤ 3 ∧ (l ≠ [] → e' < 3) ∧ (e' = 3 → e = 3) ∧ tell st2 (H v, 3 - e) l = (H v', 3 - e')
  | [], v, e, _, hv, h0, h3 => ⟨v, e, rfl, hv, h0, h3, fun h => (h rfl).elim, id, rfl⟩
  | c :: l, v, e, hl, hv, h0, h3 => by
    have hc := hl c (List.mem_cons_self)
    have hd := dv_bd hc
    by_cases he : 0 < e
    · obtain ⟨v', e', g1, g2, g3, g4, g5, g6, g7⟩ := fold_pos l _ (e - 1) (fun x hx => hl x (List.mem_cons_of_mem _ hx)) (cap_nonneg hv hd.1) (by omega) (by omega)
      refine ⟨v', e', ?_, g2, g3, g4, fun _ => ?_, fun h => ?_, ?_⟩
      · rw [List.foldl_cons, wstep_pos hc _ _ he]; exact g1
      · by_cases h : e' = 3
        · have := g6 h; omega
        · omega
      · have := g6 h; omega
      · rw [← g7, ← H_cap hv hd.1 hd.2]
        have hs : st2 (H v, 3 - e) (dv c) = (H (H v * 10 + dv c), 3 - (e - 1)) := by
          unfold st2; simp only []; rw [if_pos (by omega)]; congr 1; omega
        show tell st2 (st2 (H v, 3 - e) (dv c)) l = _
        rw [hs]
    · have he0 : e = 0 := by omega
      subst he0
      obtain ⟨v', e', g1, g2, g3, g4, g5, g6, g7⟩ := fold_pos l v 0 (fun x hx => hl x (List.mem_cons_of_mem _ hx)) hv (by omega) (by omega)
      refine ⟨v', e', ?_, g2, g3, g4, fun _ => ?_, g6, ?_⟩
      · rw [List.foldl_cons, wstep_zero hc]; exact g1
      · by_cases h : e' = 3
        · have := g6 h; omega
        · omega
      · rw [← g7]
        have hs : st2 (H v, 3 - 0) (dv c) = (H v, 3 - 0) := by
          unfold st2; simp only []; rw [if_neg (by omega)]
        show tell st2 (st2 (H v, 3 - 0) (dv c)) l = _
        rw [hs]

/-- behind the sign and the digits ahead of the point -/
theorem fold_front (l : List UInt8) : ∃ v, (l.take (pt l)).foldl wstep (0, -1) = (v, -1) ∧ 0 ≤ v ∧ stA l = (H v, 0) := by
  have h1 : l.take (pt l) = l.take (beg l) ++ ds l (beg l) := by
    unfold pt
    rw [List.take_add]
    congr 1
    have := drop_split l (beg l)
    rw [this]
    unfold nd
    simp
  have h2 : (l.take (beg l)).foldl wstep (0, -1) = (0, -1) := by
    by_cases hl : 0 < l.length
    · rw [beg_cons hl]
      by_cases c : l[0].toNat = 43 ∨ l[0].toNat = 45
      · rw [if_pos c]
        cases l with
        | nil => simp at hl
        | cons x l => simp only [List.take_succ_cons, List.take_zero, List.foldl_cons, List.foldl_nil]; exact wstep_sign c _ _
      · rw [if_neg c]; rfl
    · have : l = [] := List.eq_nil_of_length_eq_zero (by omega)
      subst this; rfl
  obtain ⟨v, g1, g2, g3⟩ := fold_neg (ds l (beg l)) 0 0 (ds_all l _) (by omega)
  refine ⟨v, ?_, g2, ?_⟩
  · rw [h1, List.foldl_append, h2]; exact g1
  · unfold stA; exact g3

theorem numAt_zero (l : List UInt8) : numAt l 0 = if pt l < l.length ∧ at0 l (pt l) = 46 ∧ 0 < nd l (pt l + 1) then pt l + 1 + nd l (pt l + 1)
    else if nd l (beg l) = 0 then 0 else pt l := by
  unfold numAt; rw [ptAt_zero, begAt_zero]; rfl

/-- BOTH WAYS OF READING COME TO THE SAME -/
theorem parse_eq (l : List UInt8) : parse l = if l.length = 0 ∨ numAt l 0 ≠ l.length then (0, 10) else (worth l, 0) := by
  have hpl := pt_le l
  obtain ⟨v, f1, f2, f3⟩ := fold_front l
  have hfold : wfold l = (l.drop (pt l)).foldl wstep (v, -1) := by
    unfold wfold
    conv => lhs; rw [← List.take_append_drop (pt l) l]
    rw [List.foldl_append, f1]
  by_cases hlt : pt l < l.length
  · have hat := at0_eq hlt
    by_cases h46 : l[pt l].toNat = 46
    · obtain ⟨m, hm⟩ : ∃ m, nd l (pt l + 1) = m := ⟨_, rfl⟩
      have hml := nd_le (l := l) (a := pt l + 1) (by omega)
      rw [hm] at hml
      have hd1 : l.drop (pt l) = l[pt l] :: l.drop (pt l + 1) := List.drop_eq_getElem_cons hlt
      have hd2 := drop_split l (pt l + 1)
      obtain ⟨v', e', g1, g2, g3, g4, g5, g6, g7⟩ := fold_pos (ds l (pt l + 1)) v 3 (ds_all l _) f2 (by omega) (by omega)
      have hB : stB l = (H v', 3 - e') := by unfold stB; rw [f3, ← g7]; rfl
      by_cases hm0 : 0 < m
      · have hnum : numAt l 0 = pt l + 1 + m := by rw [numAt_zero, hm, if_pos ⟨hlt, by rw [hat]; exact h46, hm0⟩]
        have hne : ds l (pt l + 1) ≠ [] := by
          intro h
          have : nd l (pt l + 1) = 0 := by unfold nd; rw [h]; rfl
          omega
        have he3 := g5 hne
        by_cases hend : pt l + 1 + m < l.length
        · rw [parse_dot_bad hlt h46 (Or.inr (by rw [hm]; exact hend)), if_pos (Or.inr (by rw [hnum]; omega))]
        · rw [parse_dot hlt h46 (by rw [hm, hB]; rintro (h | h); exact absurd h (by simp only []; omega); exact hend h), if_neg (by rw [hnum]; omega)]
          have hrest : l.drop (pt l + 1 + nd l (pt l + 1)) = [] := List.drop_of_length_le (by rw [hm]; omega)
          rw [hrest, List.append_nil] at hd2
          have hw : wfold l = (v', e') := by
            rw [hfold, hd1, List.foldl_cons, wstep_dot h46, hd2, g1]
          have hz := zer_mul v' g2 e'.toNat
          have hk : (3 - (3 - e')).toNat = e'.toNat := by omega
          have hr : rest e' = e'.toNat := by unfold rest; rw [if_neg (by omega)]
          unfold worth
          rw [hB, hw]
          simp only []
          rw [hk, hr, hz.1, sgnd_H]
      · have hm1 : m = 0 := by omega
        have hds : ds l (pt l + 1) = [] := by
          have : (ds l (pt l + 1)).length = 0 := by have := hm; unfold nd at this; omega
          exact List.eq_nil_of_length_eq_zero this
        have hB0 : (stB l).2 = 0 := by
          unfold stB; rw [hds, f3]; rfl
        rw [parse_dot_bad hlt h46 (Or.inl hB0), if_pos (Or.inr _)]
        rw [numAt_zero, hm, if_neg (fun x => hm0 x.2.2)]
        split <;> omega
    · rw [parse_bad hlt h46, if_pos (Or.inr _)]
      rw [numAt_zero, hat, if_neg (fun x => h46 x.2.1)]
      split <;> omega
  · have hpe : pt l = l.length := by omega
    have hnum : numAt l 0 = if nd l (beg l) = 0 then 0 else pt l := by rw [numAt_zero, if_neg (fun x => hlt x.1)]
    by_cases hb : pt l = beg l
    · have hn0 : nd l (beg l) = 0 := by have h : pt l = beg l + nd l (beg l) := rfl; omega
      rw [parse_end_bad hlt hb, if_pos _]
      rw [hnum, if_pos hn0]; omega
    · have hn0 : ¬ nd l (beg l) = 0 := by have h : pt l = beg l + nd l (beg l) := rfl; omega
      have hge : beg l ≤ pt l := by have h : pt l = beg l + nd l (beg l) := rfl; omega
      rw [parse_end hlt hb, if_neg (by rw [hnum, if_neg hn0]; omega)]
      have hw : wfold l = (v, -1) := by rw [hfold, hpe, List.drop_of_length_le (Nat.le_refl _)]; rfl
      have hz := zer_mul v f2 3
      have hr : rest (-1) = 3 := by decide
      unfold worth
      rw [f3, hw]
      simp only []
      rw [hr, hz.1, sgnd_H]
end Go.Proofs.Ythfabalnioggcaa.FixP

namespace Go.Proofs.Ythfabalnioggcaa.FixP
open FixM

/-- the digits of a whole number (so many at the most) -/
def whl : Nat → Int → List UInt8
  | 0, _ => []
  | k + 1, n => if n < 10 then [dgc n] else whl k (n / 10) ++ [dgc (n % 10)]
theorem whl_len : ∀ (k : Nat) (n : Int), (whl k n).length ≤ k
  | 0, _ => by simp [whl]
  | k + 1, n => by
    have := whl_len k (n / 10)
    unfold whl
    split
    · simp
    · simp; omega
theorem whl_digit {n : Int} (h : n < 10) (k : Nat) : whl (k + 1) n = [dgc n] := by unfold whl; rw [if_pos h]

/-- digits of the whole part, told from the last on -/
def itr (st : Int × List UInt8) : Nat → Int × List UInt8
  | 0 => st
  | k + 1 => itr (pr2 false st) k
theorem itr_out : ∀ (k : Nat) (st : Int × List UInt8), itr (pr2 false st) k = pr2 false (itr st k)
  | 0, _ => rfl
  | k + 1, st => itr_out k (pr2 false st)
theorem pr2s_itr (st : Int × List UInt8) : ∀ k, pr2s st (k + 1) = itr (pr2 true st) k
  | 0 => rfl
  | k + 1 => by
    show pr2 (k + 1 == 0) (pr2s st (k + 1)) = itr (pr2 false (pr2 true st)) k
    rw [pr2s_itr st k, itr_out]
    rfl
theorem itr_whl : ∀ (k : Nat) (x : Int) (t : List UInt8), 0 ≤ x → x < 10 ^ k → (itr (x, t) k).2 = (if x = 0 then [] else whl k x) ++ t
  | 0, x, t, h0, h1 => by
    have : x = 0 := by simp at h1; omega
    subst this; rfl
  | k + 1, x, t, h0, h1 => by
    have h3 : x / 10 < 10 ^ k := by rw [Int.pow_succ] at h1; omega
    show (itr (pr2 false (x, t)) k).2 = _
    by_cases hx : x = 0
    · subst hx
      have : pr2 false (0, t) = (0, t) := by unfold pr2; simp
      rw [this, itr_whl k 0 t (by omega) (by simpa using h3)]
      simp
    · have : pr2 false (x, t) = (x / 10, dgc (x % 10) :: t) := by unfold pr2; simp; omega
      rw [this, itr_whl k _ _ (by omega) h3, if_neg hx]
      by_cases h10 : x < 10
      · have e1 : x / 10 = 0 := by omega
        have e2 : x % 10 = x := by omega
        rw [whl_digit h10, e1, e2]
        rfl
      · rw [if_neg (by omega)]
        show _ = (if x < 10 then [dgc x] else whl k (x / 10) ++ [dgc (x % 10)]) ++ t
        rw [if_neg h10]
        simp
theorem pr2s_whl (x : Int) (t : List UInt8) (h0 : 0 ≤ x) (h1 : x < 10000000) : (pr2s (x, t) 7).2 = whl 7 x ++ t := by
  rw [pr2s_itr]
  have : pr2 true (x, t) = (x / 10, dgc (x % 10) :: t) := by unfold pr2; simp
  rw [this, itr_whl 6 _ _ (by omega) (by show x / 10 < 1000000; omega)]
  show _ = (if x < 10 then [dgc x] else whl 6 (x / 10) ++ [dgc (x % 10)]) ++ t
  by_cases h10 : x < 10
  · have e1 : x / 10 = 0 := by omega
    have e2 : x % 10 = x := by omega
    rw [if_pos h10, e1, e2]; rfl
  · rw [if_neg h10, if_neg (by omega)]; simp

/-- behind the point, as the reference goes: what is left, by what it is divided, what is written -/
def frp (q : Int) : Nat → Int
  | 0 => q
  | 1 => q % 100
  | 2 => q % 100 % 10
  | _ => 0
def frk : Nat → Int
  | 0 => 100
  | 1 => 10
  | 2 => 1
  | _ => 0
def frs (b : List UInt8) (q : Int) : Nat → List UInt8
  | 0 => b ++ [46]
  | j + 1 => frs b q j ++ [dgc (frp q j / frk j)]
def frr (b : List UInt8) (q : Int) : List UInt8 := if q % 100 = 0 then frs b q 1 else if q % 100 % 10 = 0 then frs b q 2 else frs b q 3
theorem frs_len (b : List UInt8) (q : Int) : ∀ j, (frs b q j).length = b.length + 1 + j
  | 0 => by simp [frs]
  | j + 1 => by simp [frs, frs_len b q j]; omega

theorem prt_eq_ref (a : Int) (h0 : 0 ≤ a) (h1 : a ≤ 1073741824) : prt a = if a % 1000 = 0 then whl 7 (a / 1000) else frr (whl 7 (a / 1000)) (a % 1000) := by
  unfold prt
  have e1 : (pr1s a 3).1 = a / 1000 := by show a / 10 / 10 / 10 = _; omega
  rw [e1, pr2s_whl _ _ (by omega) (by omega)]
  obtain ⟨b, hb⟩ : ∃ b, b = whl 7 (a / 1000) := ⟨_, rfl⟩
  rw [← hb]
  have c0 : a % 1000 % 100 % 10 = a % 10 := by omega
  have c1 : a % 100 / 10 = a / 10 % 10 := by omega
  have c2 : a % 1000 / 100 = a / 10 / 10 % 10 := by omega
  have hz : a % 1000 % 100 = 0 ↔ a % 10 = 0 ∧ a / 10 % 10 = 0 := by omega
  have hq : a % 1000 = 0 ↔ a % 10 = 0 ∧ a / 10 % 10 = 0 ∧ a / 10 / 10 % 10 = 0 := by omega
  have hf : (pr1s a 3).2 = if a / 10 / 10 % 10 ≠ 0 ∨ (if a / 10 % 10 ≠ 0 ∨ (if a % 10 ≠ 0 then [dgc (a % 10)] else []) ≠ [] then dgc (a / 10 % 10) :: (if a % 10 ≠ 0 then [dgc (a % 10)] else []) else (if a % 10 ≠ 0 then [dgc (a % 10)] else [])) ≠ []
      then dgc (a / 10 / 10 % 10) :: (if a / 10 % 10 ≠ 0 ∨ (if a % 10 ≠ 0 then [dgc (a % 10)] else []) ≠ [] then dgc (a / 10 % 10) :: (if a % 10 ≠ 0 then [dgc (a % 10)] else []) else (if a % 10 ≠ 0 then [dgc (a % 10)] else []))
      else (if a / 10 % 10 ≠ 0 ∨ (if a % 10 ≠ 0 then [dgc (a % 10)] else []) ≠ [] then dgc (a / 10 % 10) :: (if a % 10 ≠ 0 then [dgc (a % 10)] else []) else (if a % 10 ≠ 0 then [dgc (a % 10)] else [])) := by
    simp [pr1s, pr1]
  have hk0 : frk 0 = 100 := rfl
  have hk1 : frk 1 = 10 := rfl
  have hk2 : frk 2 = 1 := rfl
  have hp0 : frp (a % 1000) 0 = a % 1000 := rfl
  have hp1 : frp (a % 1000) 1 = a % 1000 % 100 := rfl
  have hp2 : frp (a % 1000) 2 = a % 1000 % 100 % 10 := rfl
  rw [hf]
  unfold frr
  rw [c0]
  by_cases d0 : a % 10 = 0
  · by_cases d1 : a / 10 % 10 = 0
    · by_cases d2 : a / 10 / 10 % 10 = 0
      · rw [if_pos (hq.2 ⟨d0, d1, d2⟩)]
        simp [d0, d1, d2, prp]
      · rw [if_neg (fun h => d2 (hq.1 h).2.2), if_pos (hz.2 ⟨d0, d1⟩)]
        simp [d0, d1, d2, prp, frs, hp0, hk0, c2]
    · rw [if_neg (fun h => d1 (hq.1 h).2.1), if_neg (fun h => d1 (hz.1 h).2)]
      simp [d0, d1, prp, frs, hp0, hk0, hp1, hk1, c1, c2]
  · rw [if_neg (fun h => d0 (hq.1 h).1), if_neg (fun h => d0 (hz.1 h).1)]
    simp [d0, prp, frs, hp0, hk0, hp1, hk1, hp2, hk2, c1, c2]
theorem fr_facts (q : Int) (h0 : 0 ≤ q) (h1 : q < 1000) (j : Nat) (hj : j ≤ 2) : 0 ≤ frp q j ∧ frp q j ≤ 999 ∧ 1 ≤ frk j ∧ frk j ≤ 100 ∧ 0 ≤ frp q j / frk j ∧ frp q j / frk j < 10 ∧
    frp q j % frk j = frp q (j + 1) ∧ frk j / 10 = frk (j + 1) := by
  have : j = 0 ∨ j = 1 ∨ j = 2 := by omega
  rcases this with rfl | rfl | rfl
  · show 0 ≤ q ∧ q ≤ 999 ∧ (1 : Int) ≤ 100 ∧ (100 : Int) ≤ 100 ∧ 0 ≤ q / 100 ∧ q / 100 < 10 ∧ q % 100 = q % 100 ∧ (100 : Int) / 10 = 10; omega
  · show 0 ≤ q % 100 ∧ q % 100 ≤ 999 ∧ (1 : Int) ≤ 10 ∧ (10 : Int) ≤ 100 ∧ 0 ≤ q % 100 / 10 ∧ q % 100 / 10 < 10 ∧ q % 100 % 10 = q % 100 % 10 ∧ (10 : Int) / 10 = 1; omega
  · show 0 ≤ q % 100 % 10 ∧ q % 100 % 10 ≤ 999 ∧ (1 : Int) ≤ 1 ∧ (1 : Int) ≤ 100 ∧ 0 ≤ q % 100 % 10 / 1 ∧ q % 100 % 10 / 1 < 10 ∧ q % 100 % 10 % 1 = 0 ∧ (1 : Int) / 10 = 0; omega
theorem frr_eq (b : List UInt8) (q : Int) (h : 0 < q) (j : Nat) (hj : j ≤ 3) (hz : frp q j = 0) (hb : ∀ i, i < j → 0 < i → 0 < frp q i) : frr b q = frs b q j := by
  have h1 : frp q 1 = q % 100 := rfl
  have h2 : frp q 2 = q % 100 % 10 := rfl
  have : j = 0 ∨ j = 1 ∨ j = 2 ∨ j = 3 := by omega
  rcases this with rfl | rfl | rfl | rfl
  · have e : frp q 0 = q := rfl
    omega
  · unfold frr; rw [if_pos (by omega)]
  · have := hb 1 (by omega) (by omega)
    unfold frr; rw [if_neg (by omega), if_pos (by omega)]
  · have := hb 1 (by omega) (by omega)
    have := hb 2 (by omega) (by omega)
    unfold frr; rw [if_neg (by omega), if_neg (by omega)]
end Go.Proofs.Ythfabalnioggcaa.FixP

namespace Go.Proofs.Ythfabalnioggcaa.FixP
open FixM

theorem isD_dgc {x : Int} (h0 : 0 ≤ x) (h9 : x ≤ 9) : isD (dgc x) = true := by
  rw [isD_iff]; have := dgc_nat h0 h9; omega
theorem dv_dgc {x : Int} (h0 : 0 ≤ x) (h9 : x ≤ 9) : dv (dgc x) = x := by
  unfold dv; have := dgc_nat h0 h9; omega
theorem tell_append {σ : Type} (step : σ → Int → σ) (st : σ) (l m : List UInt8) : tell step st (l ++ m) = tell step (tell step st l) m := by
  unfold tell; rw [List.foldl_append]
theorem whl_isD : ∀ (k : Nat) (x : Int), 0 ≤ x → ∀ c ∈ whl k x, isD c = true
  | 0, _, _, c, h => by simp [whl] at h
  | k + 1, x, h0, c, h => by
    unfold whl at h
    split at h
    · simp at h; subst h; exact isD_dgc h0 (by omega)
    · rcases List.mem_append.1 h with h | h
      · exact whl_isD k (x / 10) (by omega) c h
      · simp at h; subst h; exact isD_dgc (by omega) (by omega)
theorem whl_ne (k : Nat) (x : Int) : whl (k + 1) x ≠ [] := by unfold whl; split <;> simp
theorem tell_whl (b : Int) : ∀ (k : Nat) (x : Int), 0 ≤ x → x < 10 ^ (k + 1) → x ≤ 1073741824 → tell st1 (0, b) (whl (k + 1) x) = (x, b)
  | 0, x, h0, h1, h2 => by
    have h10 : x < 10 := by simpa using h1
    rw [whl_digit h10]
    show (H (0 * 10 + dv (dgc x)), b) = _
    rw [dv_dgc h0 (by omega), H_id (by omega) (by omega)]
    simp
  | k + 1, x, h0, h1, h2 => by
    by_cases h10 : x < 10
    · rw [whl_digit h10]
      show (H (0 * 10 + dv (dgc x)), b) = _
      rw [dv_dgc h0 (by omega), H_id (by omega) (by omega)]
      simp
    · have h3 : x / 10 < 10 ^ (k + 1) := by rw [Int.pow_succ] at h1; omega
      have hw : whl (k + 2) x = whl (k + 1) (x / 10) ++ [dgc (x % 10)] := by
        show (if x < 10 then _ else _) = _
        rw [if_neg h10]
      rw [hw, tell_append, tell_whl b k (x / 10) (by omega) h3 (by omega)]
      show (H (x / 10 * 10 + dv (dgc (x % 10))), b) = _
      rw [dv_dgc (by omega) (by omega)]
      have e : x / 10 * 10 + x % 10 = x := by omega
      rw [e, H_id (by omega) h2]

theorem ds_front (sg D R : List UInt8) (hD : ∀ c ∈ D, isD c = true) (hR : R = [] ∨ ∃ c r, R = c :: r ∧ isD c = false) : ds (sg ++ (D ++ R)) sg.length = D := by
  unfold ds
  rw [List.drop_left]
  rw [List.takeWhile_append_of_pos hD]
  rcases hR with rfl | ⟨c, r, rfl, hc⟩
  · simp
  · rw [List.takeWhile_cons, if_neg (by rw [hc]; simp)]; simp
theorem beg_front (sg D R : List UInt8) (hs : sg = [] ∨ sg = [45]) (hD : ∀ c ∈ D, isD c = true) (hne : D ≠ []) : beg (sg ++ (D ++ R)) = sg.length := by
  rcases hs with rfl | rfl
  · cases D with
    | nil => exact absurd rfl hne
    | cons c D =>
      have := (isD_iff c).1 (hD c List.mem_cons_self)
      show (if c.toNat = 43 ∨ c.toNat = 45 then 1 else 0) = 0
      rw [if_neg (by omega)]
  · rfl

theorem parse_whole (sg D : List UInt8) (hs : sg = [] ∨ sg = [45]) (hD : ∀ c ∈ D, isD c = true) (hne : D ≠ []) :
    parse (sg ++ D) = (sgnd (sg ++ D) (zer (tell st1 (0, 0) D).1 3), 0) := by
  have hb := beg_front sg D [] hs hD hne
  have hd := ds_front sg D [] hD (Or.inl rfl)
  rw [List.append_nil] at hb hd
  have hn : nd (sg ++ D) sg.length = D.length := by unfold nd; rw [hd]
  have hp : pt (sg ++ D) = (sg ++ D).length := by unfold pt; rw [hb, hn, List.length_append]
  have hl : D.length ≠ 0 := by simpa using hne
  rw [parse_end (by omega) (by rw [hp, hb, List.length_append]; omega)]
  unfold stA
  rw [hb, hd]

theorem parse_frac (sg D F : List UInt8) (hs : sg = [] ∨ sg = [45]) (hD : ∀ c ∈ D, isD c = true) (hne : D ≠ []) (hF : ∀ c ∈ F, isD c = true) (n b : Int)
    (hB : tell st2 (tell st1 (0, 0) D) F = (n, b)) (hb0 : b ≠ 0) :
    parse (sg ++ (D ++ 46 :: F)) = (sgnd (sg ++ (D ++ 46 :: F)) (zer n (3 - b).toNat), 0) := by
  have h46 : isD 46 = false := by decide
  have hbg := beg_front sg D (46 :: F) hs hD hne
  have hd := ds_front sg D (46 :: F) hD (Or.inr ⟨46, F, rfl, h46⟩)
  have hn : nd (sg ++ (D ++ 46 :: F)) sg.length = D.length := by unfold nd; rw [hd]
  have hp : pt (sg ++ (D ++ 46 :: F)) = (sg ++ D).length := by unfold pt; rw [hbg, hn, List.length_append]
  have hl : (sg ++ (D ++ 46 :: F)).length = (sg ++ D).length + 1 + F.length := by simp; omega
  have hds2 : ds (sg ++ (D ++ 46 :: F)) ((sg ++ D).length + 1) = F := by
    have e1 : sg ++ (D ++ 46 :: F) = (sg ++ D ++ [46]) ++ (F ++ []) := by simp
    have e2 : (sg ++ D).length + 1 = (sg ++ D ++ [46]).length := by simp; omega
    rw [e1, e2]
    exact ds_front _ F [] hF (Or.inl rfl)
  have hst : stB (sg ++ (D ++ 46 :: F)) = (n, b) := by unfold stB stA; rw [hp, hbg, hd, hds2, hB]
  have hlt : pt (sg ++ (D ++ 46 :: F)) < (sg ++ (D ++ 46 :: F)).length := by rw [hp, hl]; omega
  have hnd : nd (sg ++ (D ++ 46 :: F)) (pt (sg ++ (D ++ 46 :: F)) + 1) = F.length := by rw [hp]; unfold nd; rw [hds2]
  have hc : ((sg ++ (D ++ 46 :: F))[pt (sg ++ (D ++ 46 :: F))]).toNat = 46 := by
    have : (sg ++ (D ++ 46 :: F))[pt (sg ++ (D ++ 46 :: F))]? = some 46 := by
      rw [hp, ← List.append_assoc, List.getElem?_append_right (Nat.le_refl _)]
      simp
    rw [List.getElem?_eq_getElem hlt] at this
    rw [Option.some.inj this]; rfl
  rw [parse_dot hlt hc (by rw [hst, hnd, hp, hl]; rintro (h | h); exact hb0 h; omega), hst]

/-- a number that is not below 0, behind a sign or none -/
theorem parse_prt (sg : List UInt8) (hs : sg = [] ∨ sg = [45]) (a : Int) (h0 : 0 ≤ a) (h1 : a ≤ 1073741824) : parse (sg ++ prt a) = (sgnd (sg ++ prt a) a, 0) := by
  have hW := tell_whl 0 6 (a / 1000) (by omega) (by show a / 1000 < 10000000; omega) (by omega)
  have hD := whl_isD 7 (a / 1000) (by omega)
  have hne := whl_ne 6 (a / 1000)
  have hr := prt_eq_ref a h0 h1
  by_cases hz : a % 1000 = 0
  · rw [if_pos hz] at hr
    rw [hr, parse_whole sg _ hs hD hne, hW]
    have : zer (a / 1000) 3 = a := by
      show H (H (H (a / 1000 * 10) * 10) * 10) = a
      rw [H_id (x := a / 1000 * 10) (by omega) (by omega), H_id (x := a / 1000 * 10 * 10) (by omega) (by omega), H_id (by omega) (by omega)]
      omega
    simp only []
    rw [this]
  · rw [if_neg hz] at hr
    have g2 : 0 ≤ a % 1000 / 100 ∧ a % 1000 / 100 ≤ 9 := by omega
    have g1 : 0 ≤ a % 1000 % 100 / 10 ∧ a % 1000 % 100 / 10 ≤ 9 := by omega
    have g0 : 0 ≤ a % 1000 % 100 % 10 / 1 ∧ a % 1000 % 100 % 10 / 1 ≤ 9 := by omega
    have s1 : st2 (a / 1000, 0) (dv (dgc (a % 1000 / 100))) = (a / 1000 * 10 + a % 1000 / 100, 1) := by
      unfold st2; simp only []; rw [if_pos (by omega), dv_dgc g2.1 g2.2, H_id (by omega) (by omega)]; rfl
    have s2 : st2 (a / 1000 * 10 + a % 1000 / 100, 1) (dv (dgc (a % 1000 % 100 / 10))) = ((a / 1000 * 10 + a % 1000 / 100) * 10 + a % 1000 % 100 / 10, 2) := by
      unfold st2; simp only []; rw [if_pos (by omega), dv_dgc g1.1 g1.2, H_id (by omega) (by omega)]; rfl
    have s3 : st2 ((a / 1000 * 10 + a % 1000 / 100) * 10 + a % 1000 % 100 / 10, 2) (dv (dgc (a % 1000 % 100 % 10 / 1))) = (a, 3) := by
      unfold st2; simp only []; rw [if_pos (by omega), dv_dgc g0.1 g0.2]
      have e : ((a / 1000 * 10 + a % 1000 / 100) * 10 + a % 1000 % 100 / 10) * 10 + a % 1000 % 100 % 10 / 1 = a := by omega
      rw [e, H_id (by omega) h1]; rfl
    by_cases hz1 : a % 1000 % 100 = 0
    · have hf : prt a = whl 7 (a / 1000) ++ 46 :: [dgc (a % 1000 / 100)] := by
        rw [hr]; unfold frr; rw [if_pos hz1]; simp [frs, frp, frk]
      have hB : tell st2 (tell st1 (0, 0) (whl 7 (a / 1000))) [dgc (a % 1000 / 100)] = (a / 1000 * 10 + a % 1000 / 100, 1) := by
        rw [hW]; exact s1
      rw [hf, parse_frac sg _ _ hs hD hne (by intro c hc; simp at hc; subst hc; exact isD_dgc g2.1 g2.2) _ _ hB (by omega)]
      have : zer (a / 1000 * 10 + a % 1000 / 100) (3 - 1 : Int).toNat = a := by
        show H (H ((a / 1000 * 10 + a % 1000 / 100) * 10) * 10) = a
        rw [H_id (x := (a / 1000 * 10 + a % 1000 / 100) * 10) (by omega) (by omega), H_id (by omega) (by omega)]
        omega
      rw [this]
    · by_cases hz2 : a % 1000 % 100 % 10 = 0
      · have hf : prt a = whl 7 (a / 1000) ++ 46 :: [dgc (a % 1000 / 100), dgc (a % 1000 % 100 / 10)] := by
          rw [hr]; unfold frr; rw [if_neg hz1, if_pos hz2]; simp [frs, frp, frk]
        have hB : tell st2 (tell st1 (0, 0) (whl 7 (a / 1000))) [dgc (a % 1000 / 100), dgc (a % 1000 % 100 / 10)] = ((a / 1000 * 10 + a % 1000 / 100) * 10 + a % 1000 % 100 / 10, 2) := by
          rw [hW, ← s2, ← s1]; rfl
        rw [hf, parse_frac sg _ _ hs hD hne (by intro c hc; simp only [List.mem_cons, List.not_mem_nil, or_false] at hc; rcases hc with rfl | rfl; exact isD_dgc g2.1 g2.2; exact isD_dgc g1.1 g1.2) _ _ hB (by omega)]
        have : zer ((a / 1000 * 10 + a % 1000 / 100) * 10 + a % 1000 % 100 / 10) (3 - 2 : Int).toNat = a := by
          show H (((a / 1000 * 10 + a % 1000 / 100) * 10 + a % 1000 % 100 / 10) * 10) = a
          rw [H_id (by omega) (by omega)]
          omega
        rw [this]
      · have hf : prt a = whl 7 (a / 1000) ++ 46 :: [dgc (a % 1000 / 100), dgc (a % 1000 % 100 / 10), dgc (a % 1000 % 100 % 10 / 1)] := by
          rw [hr]; unfold frr; rw [if_neg hz1, if_neg hz2]; simp [frs, frp, frk]
        have hB : tell st2 (tell st1 (0, 0) (whl 7 (a / 1000))) [dgc (a % 1000 / 100), dgc (a % 1000 % 100 / 10), dgc (a % 1000 % 100 % 10 / 1)] = (a, 3) := by
          rw [hW, ← s3, ← s2, ← s1]; rfl
        rw [hf, parse_frac sg _ _ hs hD hne (by intro c hc; simp only [List.mem_cons, List.not_mem_nil, or_false] at hc; rcases hc with rfl | rfl | rfl; exact isD_dgc g2.1 g2.2; exact isD_dgc g1.1 g1.2; exact isD_dgc g0.1 g0.2) _ _ hB (by omega)]
        rfl

/-- WHAT IS PRINTED IS READ AS IT WAS -/
theorem parse_prn (v : Int) (h1 : -1073741824 ≤ v) (h2 : v ≤ 1073741824) : parse (prn v) = (v, 0) := by
  unfold prn
  by_cases h : v < 0
  · rw [if_pos h]
    have := parse_prt [45] (Or.inr rfl) (-v) (by omega) (by omega)
    have e : [45] ++ prt (-v) = 45 :: prt (-v) := rfl
    rw [e] at this
    rw [this]
    have hs : sgnd (45 :: prt (-v)) (-v) = -(-v) := rfl
    rw [hs, Int.neg_neg]
  · rw [if_neg h]
    have := parse_prt [] (Or.inl rfl) v (by omega) (by omega)
    rw [List.nil_append] at this
    rw [this]
    have hs : sgnd (prt v) v = v := by
      have hr := prt_eq_ref v (by omega) h2
      have hne := whl_ne 6 (v / 1000)
      have hD := whl_isD 7 (v / 1000) (by omega)
      obtain ⟨c, r, hcr⟩ : ∃ c r, whl 7 (v / 1000) = c :: r := by
        cases hw : whl 7 (v / 1000) with
        | nil => exact absurd hw hne
        | cons c r => exact ⟨c, r, rfl⟩
      have hc := (isD_iff c).1 (hD c (by rw [hcr]; exact List.mem_cons_self))
      obtain ⟨r', hr'⟩ : ∃ r', prt v = c :: r' := by
        rw [hr, hcr]
        split
        · exact ⟨r, rfl⟩
        · unfold frr
          split
          · exact ⟨_, rfl⟩
          · split
            · exact ⟨_, rfl⟩
            · exact ⟨_, rfl⟩
      rw [hr']
      show (if c.toNat = 45 then -v else v) = v
      rw [if_neg (by omega)]
    rw [hs]
end Go.Proofs.Ythfabalnioggcaa.FixP

namespace Go.Proofs.Ythfabalnioggcaa.TreN

/-- a byte of a text -/
def bt (s : ByteArray) (i : Nat) : Int := if h : i < s.size then (s[i].toNat : Int) else 0
set_option maxRecDepth 100000 in
theorem bt_eq (s : ByteArray) (i : Nat) (h : i < s.size) : bt s i = (s[i].toNat : Int) := by unfold bt; rw [dif_pos h]
set_option maxRecDepth 100000 in
theorem bt_bd (s : ByteArray) (i : Nat) : 0 ≤ bt s i ∧ bt s i ≤ 255 := by
  unfold bt
  split
  · have := UInt8.toNat_lt s[i]; omega
  · omega

/-- a beginning's byte; a byte of a name; a byte of words -/
def letB (c : Int) : Bool := decide (97 ≤ c ∧ c ≤ 122 ∨ 65 ≤ c ∧ c ≤ 90 ∨ c = 95 ∨ 128 ≤ c)
def goB (c : Int) : Bool := letB c || (decide (c = 45) || decide (48 ≤ c ∧ c ≤ 57))
def txB (c : Int) : Bool := decide (32 ≤ c ∧ c ≠ 34)

/-- all bytes are as they should -/
def allB (p : Int → Bool) (s : ByteArray) : Bool := (List.range s.size).all fun i => p (bt s i)
set_option maxRecDepth 100000 in
theorem allB_true {p : Int → Bool} {s : ByteArray} (h : ∀ j, j < s.size → p (bt s j) = true) : allB p s = true := by
  unfold allB
  rw [List.all_eq_true]
  intro x hx
  exact h x (List.mem_range.1 hx)
set_option maxRecDepth 100000 in
theorem allB_false {p : Int → Bool} {s : ByteArray} (k : Nat) (hk : k < s.size) (h : p (bt s k) = false) : allB p s = false := by
  unfold allB
  rw [List.all_eq_false]
  exact ⟨k, List.mem_range.2 hk, by rw [h]; decide⟩
set_option maxRecDepth 100000 in
theorem allB_iff {p : Int → Bool} {s : ByteArray} : allB p s = true ↔ ∀ j, j < s.size → p (bt s j) = true := by
  constructor
  · intro h j hj
    unfold allB at h
    rw [List.all_eq_true] at h
    exact h j (List.mem_range.2 hj)
  · exact allB_true

/-- a name's beginning -/
def begB (s : ByteArray) : Bool := if 1 < s.size ∧ bt s 0 = 45 then (decide (bt s 1 = 45) || letB (bt s 1)) else decide (0 < s.size) && letB (bt s 0)
def nameB (s : ByteArray) : Bool := decide (s.size ≤ 32) && (begB s && allB goB s)
def textB (s : ByteArray) : Bool := decide (s.size ≤ 256) && allB txB s
end Go.Proofs.Ythfabalnioggcaa.TreN
