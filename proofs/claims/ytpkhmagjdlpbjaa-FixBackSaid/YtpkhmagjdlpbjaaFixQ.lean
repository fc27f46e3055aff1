/- Plain lists for layer 1's texts: what is printed. Nothing of the program is imported. -/
import Derived.Test.YtpkhmagjdlpbjaaFixP
namespace Go.Proofs.Ytpkhmagjdlpbjaa.FixP
open FixM

/-- a digit's byte -/
def dgc (x : Int) : UInt8 := UInt8.ofNat (48 + x).toNat
theorem dgc_nat {x : Int} (h : 0 ≤ x) (h9 : x ≤ 9) : ((dgc x).toNat : Int) = 48 + x := by
  unfold dgc
  have : (48 + x).toNat < 256 := by omega
  have e : (UInt8.ofNat (48 + x).toNat).toNat = (48 + x).toNat := by rw [UInt8.toNat_ofNat']; omega
  rw [e]
  omega

/-- a thousandths' digit is told, from the last on: what is left, what is written -/
def pr1 (st : Int × List UInt8) : Int × List UInt8 := (st.1 / 10, if st.1 % 10 ≠ 0 ∨ st.2 ≠ [] then dgc (st.1 % 10) :: st.2 else st.2)
def pr1s (a : Int) : Nat → Int × List UInt8
  | 0 => (a, [])
  | k + 1 => pr1 (pr1s a k)
/-- the point -/
def prp (t : List UInt8) : List UInt8 := if t = [] then t else 46 :: t
/-- a digit of the whole part -/
def pr2 (first : Bool) (st : Int × List UInt8) : Int × List UInt8 := (st.1 / 10, if 0 < st.1 ∨ first = true then dgc (st.1 % 10) :: st.2 else st.2)
def pr2s (st : Int × List UInt8) : Nat → Int × List UInt8
  | 0 => st
  | k + 1 => pr2 (k == 0) (pr2s st k)
/-- what is printed of a number that is not below 0 -/
def prt (a : Int) : List UInt8 := (pr2s ((pr1s a 3).1, prp (pr1s a 3).2) 7).2
/-- what is printed of a number that is held -/
def prn (v : Int) : List UInt8 := if v < 0 then 45 :: prt (-v) else prt v
theorem prt_eq {a l l2 : Int} {t tp t2 : List UInt8} (h1 : (l, t) = pr1s a 3) (h2 : tp = prp t) (h3 : (l2, t2) = pr2s (l, tp) 7) : prt a = t2 := by
  unfold prt
  rw [← h1]
  show (pr2s (l, prp t) 7).2 = t2
  rw [← h2, ← h3]

theorem pr2_mono (f : Bool) (st : Int × List UInt8) : st.2.length ≤ (pr2 f st).2.length := by unfold pr2; simp only []; split <;> simp
theorem pr2s_pos (st : Int × List UInt8) : ∀ k, 0 < (pr2s st (k + 1)).2.length
  | 0 => by simp [pr2s, pr2]
  | k + 1 => by have := pr2s_pos st k; have := pr2_mono (k + 1 == 0) (pr2s st (k + 1)); simp only [pr2s] at *; omega
theorem pr1_len (st : Int × List UInt8) : (pr1 st).2.length ≤ st.2.length + 1 := by unfold pr1; simp only []; split <;> simp
theorem pr1s_len (a : Int) : ∀ k, (pr1s a k).2.length ≤ k
  | 0 => by simp [pr1s]
  | k + 1 => by have := pr1s_len a k; have := pr1_len (pr1s a k); simp only [pr1s]; omega
theorem prp_len (t : List UInt8) : (prp t).length ≤ t.length + 1 := by unfold prp; split <;> simp
theorem pr2_len (f : Bool) (st : Int × List UInt8) : (pr2 f st).2.length ≤ st.2.length + 1 := by unfold pr2; simp only []; split <;> simp
theorem pr2s_len (st : Int × List UInt8) : ∀ k, (pr2s st k).2.length ≤ st.2.length + k
  | 0 => by simp [pr2s]
  | k + 1 => by have := pr2s_len st k; have := pr2_len (k == 0) (pr2s st k); simp only [pr2s]; omega
theorem pr1s_bd {a : Int} (h : 0 ≤ a ∧ a ≤ 1073741824) : ∀ k, 0 ≤ (pr1s a k).1 ∧ (pr1s a k).1 ≤ 1073741824
  | 0 => h
  | k + 1 => by have := pr1s_bd h k; simp only [pr1s, pr1]; omega
theorem pr2s_bd {st : Int × List UInt8} (h : 0 ≤ st.1 ∧ st.1 ≤ 1073741824) : ∀ k, 0 ≤ (pr2s st k).1 ∧ (pr2s st k).1 ≤ 1073741824
  | 0 => h
  | k + 1 => by have := pr2s_bd h k; simp only [pr2s, pr2]; omega

end Go.Proofs.Ytpkhmagjdlpbjaa.FixP
