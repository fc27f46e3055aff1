/- What check says is the same of equal lists. -/
import Derived.Test.YtlnglpjmfoigmaaTreT
import Derived.Test.YtlnglpjmfoigmaaTreW17
namespace Go.Proofs.Ytlnglpjmfoigmaa
open Go.RowKit TreN TreP

/-- equal lists of nodes -/
def EqL (A B : Nat → Nd) (n : Nat) : Prop := ∀ i, i < n → Eqn (A i) (B i) ∧ (B i).par = (A i).par

set_option maxRecDepth 100000 in
theorem mkB_eq (A B : Nd) (h : Eqn A B) : mkB B = mkB A := by
  unfold mkB
  rw [h.cl, h.al]
  have e1 : (List.range A.cl).all (fun j => nameB (B.cs j)) = (List.range A.cl).all (fun j => nameB (A.cs j)) := by
    rw [Bool.eq_iff_iff, List.all_eq_true, List.all_eq_true]
    constructor
    · intro H j hj; rw [← h.cs j (List.mem_range.1 hj)]; exact H j hj
    · intro H j hj; rw [h.cs j (List.mem_range.1 hj)]; exact H j hj
  have e2 : (List.range A.al).all (fun j => nameB (B.an j) && textB (B.av j)) = (List.range A.al).all (fun j => nameB (A.an j) && textB (A.av j)) := by
    rw [Bool.eq_iff_iff, List.all_eq_true, List.all_eq_true]
    constructor
    · intro H j hj; rw [← h.an j (List.mem_range.1 hj), ← h.av j (List.mem_range.1 hj)]; exact H j hj
    · intro H j hj; rw [h.an j (List.mem_range.1 hj), h.av j (List.mem_range.1 hj)]; exact H j hj
  rw [e1, e2]
set_option maxRecDepth 100000 in
theorem rightB_eq (A B : Nd) (h : Eqn A B) : rightB B = rightB A := by
  unfold rightB
  rw [h.tag, h.id, h.tx, h.cl, h.al, mkB_eq A B h]
set_option maxRecDepth 100000 in
theorem up_eq (A B : Nat → Nd) (n : Nat) (h : EqL A B n) (k : Nat) (hk : k < n) : up (parOf B) k = up (parOf A) k := by
  unfold up parOf
  rw [(h k hk).2]
set_option maxRecDepth 100000 in
theorem ups_eq (A B : Nat → Nd) (n : Nat) (h : EqL A B n) : ∀ m k, k ≤ m → k < n → ups (parOf B) k = ups (parOf A) k := by
  intro m
  induction m with
  | zero =>
    intro k hk hn
    have e : k = 0 := by omega
    subst e
    have hu := up_bd (parOf A) 0
    rw [ups_none _ _ (by rw [up_eq A B n h 0 hn]; omega), ups_none _ _ (by omega)]
  | succ m ih =>
    intro k hk hn
    rcases ups_cases (parOf A) k with ⟨h1, h2⟩ | ⟨p, hp, h1, h2⟩
    · rw [h2, ups_none _ _ (by rw [up_eq A B n h k hn, h1]; omega)]
    · rw [h2, ups_some (parOf B) k p (by rw [up_eq A B n h k hn, h1]), ih p (by omega) (by omega)]
set_option maxRecDepth 100000 in
theorem undB_eq (A B : Nat → Nd) (n : Nat) (h : EqL A B n) (k p : Nat) (hk : k < n) : undB (parOf B) k p = undB (parOf A) k p := by
  unfold undB
  rw [ups_eq A B n h k k (Nat.le_refl _) hk]
set_option maxRecDepth 100000 in
theorem stB_eq (A B : Nat → Nd) (n : Nat) (h : EqL A B n) (k : Nat) (hk : k < n) : stB B k = stB A k := by
  unfold stB
  by_cases h0 : k = 0
  · subst h0
    rw [if_pos rfl, if_pos rfl, (h 0 hk).2, (h 0 hk).1.tag]
  · rw [if_neg h0, if_neg h0, up_eq A B n h k hk]
    by_cases hu : 0 ≤ up (parOf A) k
    · have hb := up_bd (parOf A) k
      rw [(h (up (parOf A) k).toNat (by omega)).1.tag, undB_eq A B n h (k - 1) _ (by omega)]
    · rw [decide_eq_false hu, Bool.false_and, Bool.false_and]
set_option maxRecDepth 100000 in
theorem nodeS_eq (A B : Nat → Nd) (n : Nat) (h : EqL A B n) (k : Nat) (hk : k < n) : nodeS B k = nodeS A k := by
  unfold nodeS
  rw [rightB_eq _ _ (h k hk).1, stB_eq A B n h k hk, ups_eq A B n h k k (Nat.le_refl _) hk]
set_option maxRecDepth 100000 in
theorem chkTo_eq (A B : Nat → Nd) (n : Nat) (h : EqL A B n) : ∀ k, k ≤ n → chkTo B k = chkTo A k
  | 0, _ => rfl
  | k + 1, hk => by
    unfold chkTo
    rw [chkTo_eq A B n h k (by omega), nodeS_eq A B n h k (by omega)]
set_option maxRecDepth 100000 in
theorem checkS_eq (A B : Nat → Nd) (n : Nat) (h : EqL A B n) : checkS B n = checkS A n := by
  unfold checkS
  rw [chkTo_eq A B n h n (Nat.le_refl _)]
end Go.Proofs.Ytlnglpjmfoigmaa
