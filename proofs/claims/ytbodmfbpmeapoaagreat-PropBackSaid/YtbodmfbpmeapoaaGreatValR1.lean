/- Layer 7's and 9's references: Is, Sign, Skip. -/
import Derived.Test.YtbodmfbpmeapoaaGreatValW3
import Derived.Test.YtbodmfbpmeapoaaGreatSynR2
namespace Go.Proofs.YtbodmfbpmeapoaaGreat
open Go.RowKit TreN LexP FixP SynP ValP FixM
set_option linter.unusedVariables false

def isP (l : List Tok) (i : Nat) (k : Int) : Bool := match l.drop i with
  | [] => false
  | t :: _ => decide (t.kind = k)
def signP (l : List Tok) (i : Nat) (x : List UInt8) : Bool := isP l i 19 && decide ((nxt (l.drop i)).text = x)
def skipN (l : List Tok) (i : Nat) : Nat := i + ((l.drop i).length - (bs (l.drop i)).length)
theorem isP_lt {l : List Tok} {i : Nat} (h : i < l.length) (k : Int) : isP l i k = decide (l[i].kind = k) := by
  unfold isP
  rw [List.drop_eq_getElem_cons h]
theorem isP_ge {l : List Tok} {i : Nat} (h : l.length ≤ i) (k : Int) : isP l i k = false := by
  unfold isP
  rw [List.drop_of_length_le h]
theorem skipN_yes {l : List Tok} {i : Nat} (h : isP l i 20 = true) : skipN l i = skipN l (i + 1) := by
  by_cases hi : i < l.length
  · rw [isP_lt hi, decide_eq_true_eq] at h
    unfold skipN
    rw [List.drop_eq_getElem_cons hi, bs_sp h]
    have h1 := bs_len (l.drop (i + 1))
    simp only [List.length_cons]
    omega
  · rw [isP_ge (by omega)] at h; cases h
theorem skipN_no {l : List Tok} {i : Nat} (h : isP l i 20 = false) : skipN l i = i := by
  unfold skipN
  by_cases hi : i < l.length
  · rw [isP_lt hi, decide_eq_false_iff_not] at h
    rw [List.drop_eq_getElem_cons hi, bs_no h]; omega
  · rw [List.drop_of_length_le (by omega)]; rfl
theorem skipN_drop (l : List Tok) (i : Nat) : l.drop (skipN l i) = bs (l.drop i) := by
  unfold skipN
  obtain ⟨p, hp⟩ := bs_suf (l.drop i)
  have hl := congrArg List.length hp
  rw [List.length_append] at hl
  rw [← List.drop_drop]
  have e : (l.drop i).length - (bs (l.drop i)).length = p.length := by omega
  rw [e]
  conv => lhs; rw [← hp]
  rw [List.drop_left]
theorem skipN_le {l : List Tok} {i : Nat} (h : i ≤ l.length) : skipN l i ≤ l.length := by
  unfold skipN
  rw [List.length_drop]; omega
theorem skipN_ge (l : List Tok) (i : Nat) : i ≤ skipN l i := by unfold skipN; omega
theorem skipN_bd (l : List Tok) (i : Nat) : skipN l i ≤ i + l.length := by
  unfold skipN
  rw [List.length_drop]; omega

end Go.Proofs.YtbodmfbpmeapoaaGreat
