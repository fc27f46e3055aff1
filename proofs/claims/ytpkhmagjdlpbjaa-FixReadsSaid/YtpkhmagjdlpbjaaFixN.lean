/- Plain lists for layer 1's texts: what the reference reads. Nothing of the program is imported. -/
import Derived.Test.YtpkhmagjdlpbjaaFixP
namespace Go.Proofs.Ytpkhmagjdlpbjaa.FixP
open FixM

def at0 (l : List UInt8) (i : Nat) : Nat := (l.getD i 0).toNat
theorem at0_eq {l : List UInt8} {i : Nat} (h : i < l.length) : at0 l i = l[i].toNat := by
  unfold at0; rw [List.getD_eq_getElem?_getD, List.getElem?_eq_getElem h]; rfl
/-- behind a sign that stands at a place -/
def begAt (l : List UInt8) (f : Nat) : Nat := if f < l.length ∧ (at0 l f = 43 ∨ at0 l f = 45) then f + 1 else f
theorem begAt_le {l : List UInt8} {f : Nat} (h : f ≤ l.length) : begAt l f ≤ l.length := by unfold begAt; split <;> omega
theorem begAt_ge (l : List UInt8) (f : Nat) : f ≤ begAt l f := by unfold begAt; split <;> omega
def ptAt (l : List UInt8) (f : Nat) : Nat := begAt l f + nd l (begAt l f)
/-- how long a number's text is that begins at a place -/
def numAt (l : List UInt8) (f : Nat) : Nat :=
  if ptAt l f < l.length ∧ at0 l (ptAt l f) = 46 ∧ 0 < nd l (ptAt l f + 1) then ptAt l f + 1 + nd l (ptAt l f + 1) - f
  else if nd l (begAt l f) = 0 then 0 else ptAt l f - f
theorem begAt_zero (l : List UInt8) : begAt l 0 = beg l := by
  unfold begAt
  by_cases h : 0 < l.length
  · rw [beg_cons h, at0_eq h]
    by_cases c : l[0].toNat = 43 ∨ l[0].toNat = 45
    · rw [if_pos ⟨h, c⟩, if_pos c]
    · rw [if_neg (fun x => c x.2), if_neg c]
  · have : l = [] := List.eq_nil_of_length_eq_zero (by omega)
    subst this; rfl
theorem ptAt_zero (l : List UInt8) : ptAt l 0 = pt l := by unfold ptAt pt; rw [begAt_zero]

/-- the reference's way through a text: the worth so far, how many digits still count (-1: no point yet) -/
def wstep (st : Int × Int) (c : UInt8) : Int × Int :=
  let left := if c.toNat = 46 then 3 else st.2
  if c.toNat < 48 ∨ 57 < c.toNat ∨ left = 0 then (st.1, left)
  else (if 1125899906842624 < st.1 * 10 + dv c then 1125899906842624 else st.1 * 10 + dv c, if 0 < left then left - 1 else left)
def wfold (l : List UInt8) : Int × Int := l.foldl wstep (0, -1)
def WI (st : Int × Int) : Prop := 0 ≤ st.1 ∧ st.1 ≤ 1125899906842624 ∧ -1 ≤ st.2 ∧ st.2 ≤ 3
theorem WI_step {st : Int × Int} (h : WI st) (c : UInt8) : WI (wstep st c) := by
  obtain ⟨v, e⟩ := st
  obtain ⟨h1, h2, h3, h4⟩ := h
  simp only [] at h1 h2 h3 h4
  unfold wstep WI dv
  simp only []
  by_cases a : c.toNat = 46
  · simp [a]; omega
  · simp only [a, if_false]
    split
    · exact ⟨h1, h2, h3, h4⟩
    · simp only []
      refine ⟨?_, ?_, ?_, ?_⟩ <;> split <;> omega
theorem WI_fold (l : List UInt8) : ∀ st, WI st → WI (l.foldl wstep st) := by
  induction l with
  | nil => intro st h; exact h
  | cons c l ih => intro st h; exact ih _ (WI_step h c)
theorem wfold_WI (l : List UInt8) : WI (wfold l) := WI_fold l _ ⟨by decide, by decide, by decide, by decide⟩
theorem wfold_snoc (l : List UInt8) (k : Nat) (h : k < l.length) : wfold (l.take (k + 1)) = wstep (wfold (l.take k)) l[k] := by
  unfold wfold
  rw [List.take_succ_eq_append_getElem h, List.foldl_append]
  rfl
def mul10 (v : Int) : Nat → Int
  | 0 => v
  | k + 1 => mul10 v k * 10
theorem mul10_bd {v : Int} (h : 0 ≤ v ∧ v ≤ 1125899906842624) : ∀ k, k ≤ 3 → 0 ≤ mul10 v k ∧ mul10 v k ≤ 1125899906842624000
  | 0, _ => by simp [mul10]; omega
  | 1, _ => by simp [mul10]; omega
  | 2, _ => by simp [mul10]; omega
  | 3, _ => by simp [mul10]; omega
  | k + 4, h => by omega
/-- how many noughts are told to the end -/
def rest (e : Int) : Nat := if e < 0 then 3 else e.toNat
def worth (l : List UInt8) : Int := H (sgnd l (mul10 (wfold l).1 (rest (wfold l).2)))
end Go.Proofs.Ytpkhmagjdlpbjaa.FixP
