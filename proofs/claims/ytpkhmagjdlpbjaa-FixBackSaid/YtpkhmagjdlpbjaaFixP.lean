/- Plain lists for layer 1's texts: digits, signs, a number's worth. Nothing of the program is imported. -/
import Derived.Test.YtpkhmagjdlpbjaaFixM
namespace Go.Proofs.Ytpkhmagjdlpbjaa.FixP
open FixM

/-- is a byte a digit? -/
def isD (c : UInt8) : Bool := decide (48 ≤ c.toNat) && decide (c.toNat ≤ 57)
/-- a digit's worth -/
def dv (c : UInt8) : Int := (c.toNat : Int) - 48
/-- the digits from a place on -/
def ds (l : List UInt8) (a : Nat) : List UInt8 := (l.drop a).takeWhile isD
def nd (l : List UInt8) (a : Nat) : Nat := (ds l a).length

theorem isD_iff (c : UInt8) : isD c = true ↔ 48 ≤ c.toNat ∧ c.toNat ≤ 57 := by simp [isD]
theorem isD_no (c : UInt8) : isD c = false ↔ c.toNat < 48 ∨ 57 < c.toNat := by
  cases h : isD c with
  | true => have := (isD_iff c).1 h; constructor <;> intro x <;> first | (cases x; done) | omega
  | false =>
    have : ¬ (48 ≤ c.toNat ∧ c.toNat ≤ 57) := fun x => by rw [(isD_iff c).2 x] at h; cases h
    constructor <;> intro _ <;> first | omega | rfl

theorem ds_end {l : List UInt8} {a : Nat} (h : l.length ≤ a) : ds l a = [] := by
  unfold ds; rw [List.drop_of_length_le h]; rfl
theorem ds_yes {l : List UInt8} {a : Nat} (h : a < l.length) (hd : isD l[a] = true) : ds l a = l[a] :: ds l (a + 1) := by
  unfold ds; rw [List.drop_eq_getElem_cons h, List.takeWhile_cons, if_pos hd]
theorem ds_no {l : List UInt8} {a : Nat} (h : a < l.length) (hd : isD l[a] = false) : ds l a = [] := by
  unfold ds; rw [List.drop_eq_getElem_cons h, List.takeWhile_cons, if_neg (by rw [hd]; simp)]
theorem nd_end {l : List UInt8} {a : Nat} (h : l.length ≤ a) : nd l a = 0 := by unfold nd; rw [ds_end h]; rfl
theorem nd_yes {l : List UInt8} {a : Nat} (h : a < l.length) (hd : isD l[a] = true) : nd l a = nd l (a + 1) + 1 := by
  unfold nd; rw [ds_yes h hd]; rfl
theorem nd_no {l : List UInt8} {a : Nat} (h : a < l.length) (hd : isD l[a] = false) : nd l a = 0 := by unfold nd; rw [ds_no h hd]; rfl
theorem nd_le {l : List UInt8} {a : Nat} (h : a ≤ l.length) : a + nd l a ≤ l.length := by
  unfold nd ds
  have := (List.takeWhile_prefix isD (l := l.drop a)).length_le
  rw [List.length_drop] at this
  omega
theorem ds_all (l : List UInt8) (a : Nat) : ∀ c ∈ ds l a, isD c = true := by
  intro c hc
  unfold ds at hc
  have := List.all_takeWhile (p := isD) (l := l.drop a)
  rw [List.all_eq_true] at this
  exact this c hc
theorem drop_split (l : List UInt8) (a : Nat) : l.drop a = ds l a ++ l.drop (a + nd l a) := by
  unfold nd
  have h : l.drop a = ds l a ++ (l.drop a).dropWhile isD := by unfold ds; exact (List.takeWhile_append_dropWhile).symm
  have h2 : (l.drop a).drop (ds l a).length = (l.drop a).dropWhile isD := by
    conv => lhs; rw [h]
    simp
  rw [List.drop_drop] at h2
  rw [← h2] at h
  rw [Nat.add_comm] at h
  rw [Nat.add_comm] 
  exact h

/-- digits told, one by one -/
def tell {σ : Type} (step : σ → Int → σ) (st : σ) (l : List UInt8) : σ := l.foldl (fun s c => step s (dv c)) st

def PI (st : Int × Int) : Prop := 0 ≤ st.1 ∧ st.1 ≤ 1073741824 ∧ 0 ≤ st.2 ∧ st.2 ≤ 3
def st1 (st : Int × Int) (d : Int) : Int × Int := (H (st.1 * 10 + d), st.2)
def st2 (st : Int × Int) (d : Int) : Int × Int := if st.2 < 3 then (H (st.1 * 10 + d), st.2 + 1) else st

theorem H_nonneg {x : Int} (h : 0 ≤ x) : 0 ≤ H x := by unfold H; repeat' split <;> omega
theorem PI_st1 {st : Int × Int} {d : Int} (h : PI st) (hd : 0 ≤ d) : PI (st1 st d) := by
  obtain ⟨h1, h2, h3, h4⟩ := h
  exact ⟨H_nonneg (by omega), (H_bd _).2, h3, h4⟩
theorem PI_st2 {st : Int × Int} {d : Int} (h : PI st) (hd : 0 ≤ d) : PI (st2 st d) := by
  unfold st2
  obtain ⟨h1, h2, h3, h4⟩ := h
  split
  · exact ⟨H_nonneg (by omega), (H_bd _).2, by show 0 ≤ st.2 + 1; omega, by show st.2 + 1 ≤ 3; omega⟩
  · exact ⟨h1, h2, h3, h4⟩
theorem tell_st1_snd (l : List UInt8) : ∀ st : Int × Int, (tell st1 st l).2 = st.2 := by
  induction l with
  | nil => intro st; rfl
  | cons c l ih => intro st; exact ih (st1 st (dv c))

/-- behind a sign -/
def beg (l : List UInt8) : Nat := match l with | c :: _ => if c.toNat = 43 ∨ c.toNat = 45 then 1 else 0 | [] => 0
theorem beg_le (l : List UInt8) : beg l ≤ l.length := by
  unfold beg
  cases l with
  | nil => simp
  | cons c l => simp only [List.length_cons]; split <;> omega
/-- where the point stands, if there is one -/
def pt (l : List UInt8) : Nat := beg l + nd l (beg l)
theorem pt_le (l : List UInt8) : pt l ≤ l.length := nd_le (beg_le l)
def stA (l : List UInt8) : Int × Int := tell st1 (0, 0) (ds l (beg l))
def stB (l : List UInt8) : Int × Int := tell st2 (stA l) (ds l (pt l + 1))
/-- noughts that are told to the end -/
def zer (n : Int) : Nat → Int
  | 0 => n
  | k + 1 => H (zer n k * 10)
theorem zer_bd {n : Int} (h : 0 ≤ n ∧ n ≤ 1073741824) : ∀ k, 0 ≤ zer n k ∧ zer n k ≤ 1073741824
  | 0 => h
  | k + 1 => ⟨H_nonneg (by have := zer_bd h k; omega), (H_bd _).2⟩
/-- with the sign -/
def sgnd (l : List UInt8) (n : Int) : Int := match l with | c :: _ => if c.toNat = 45 then -n else n | [] => n
theorem beg_cons {l : List UInt8} (h : 0 < l.length) : beg l = if l[0].toNat = 43 ∨ l[0].toNat = 45 then 1 else 0 := by
  cases l with
  | nil => simp at h
  | cons c l => rfl
theorem sgnd_cons {l : List UInt8} (h : 0 < l.length) (n : Int) : sgnd l n = if l[0].toNat = 45 then -n else n := by
  cases l with
  | nil => simp at h
  | cons c l => rfl
/-- what a text is read as: the thousandths and the error -/
def parse (l : List UInt8) : Int × Int :=
  if h : pt l < l.length then
    if l[pt l].toNat = 46 then
      if (stB l).2 = 0 ∨ pt l + 1 + nd l (pt l + 1) < l.length then (0, 10)
      else (sgnd l (zer (stB l).1 (3 - (stB l).2).toNat), 0)
    else (0, 10)
  else if pt l = beg l then (0, 10)
  else (sgnd l (zer (stA l).1 3), 0)
theorem parse_bad {l : List UInt8} (h : pt l < l.length) (hc : l[pt l].toNat ≠ 46) : parse l = (0, 10) := by
  unfold parse; rw [dif_pos h, if_neg hc]
theorem parse_dot_bad {l : List UInt8} (h : pt l < l.length) (hc : l[pt l].toNat = 46) (hb : (stB l).2 = 0 ∨ pt l + 1 + nd l (pt l + 1) < l.length) : parse l = (0, 10) := by
  unfold parse; rw [dif_pos h, if_pos hc, if_pos hb]
theorem parse_dot {l : List UInt8} (h : pt l < l.length) (hc : l[pt l].toNat = 46) (hb : ¬ ((stB l).2 = 0 ∨ pt l + 1 + nd l (pt l + 1) < l.length)) :
    parse l = (sgnd l (zer (stB l).1 (3 - (stB l).2).toNat), 0) := by
  unfold parse; rw [dif_pos h, if_pos hc, if_neg hb]
theorem parse_end_bad {l : List UInt8} (h : ¬ pt l < l.length) (hc : pt l = beg l) : parse l = (0, 10) := by
  unfold parse; rw [dif_neg h, if_pos hc]
theorem parse_end {l : List UInt8} (h : ¬ pt l < l.length) (hc : ¬ pt l = beg l) : parse l = (sgnd l (zer (stA l).1 3), 0) := by
  unfold parse; rw [dif_neg h, if_neg hc]

end Go.Proofs.Ytpkhmagjdlpbjaa.FixP
