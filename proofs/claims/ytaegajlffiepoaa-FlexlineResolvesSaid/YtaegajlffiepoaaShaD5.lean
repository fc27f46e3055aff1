/- Plain numbers for layer 2's reference: who is the neediest. -/
import Derived.Test.YtaegajlffiepoaaShaD4
namespace Go.Proofs.Ytaegajlffiepoaa.ShaD
open FixM ShaM

/-- one place stands before another -/
def LTb (r : Nat → Int) (i j : Nat) : Prop := r j < r i ∨ (r i = r j ∧ i < j)

theorem flenlt (p q : Nat → Bool) (h : ∀ x, p x = true → q x = true) (a : Nat) (hq : q a = true) (hp : p a = false) : ∀ l : List Nat, a ∈ l → (l.filter p).length < (l.filter q).length
  | [], ha => by cases ha
  | x :: l, ha => by
    have hl := flen p q h l
    by_cases e : a = x
    · subst e
      rw [List.filter_cons, List.filter_cons, if_neg (by rw [hp]; decide), if_pos hq, List.length_cons]
      omega
    · have hm : a ∈ l := (List.mem_cons.1 ha).resolve_left e
      have ih := flenlt p q h a hq hp l hm
      rw [List.filter_cons, List.filter_cons]
      by_cases c : p x = true
      · rw [if_pos c, if_pos (h x c), List.length_cons, List.length_cons]; omega
      · rw [if_neg c]
        split
        · rw [List.length_cons]; omega
        · exact ih

theorem rk_lt (r : Nat → Int) (n i j : Nat) (hi : i < n) (h : LTb r i j) : rk r n i < rk r n j := by
  unfold rk
  unfold LTb at h
  refine flenlt _ _ (fun x hx => ?_) i ?_ ?_ _ (List.mem_range.2 hi)
  · simp only [decide_eq_true_eq] at hx ⊢; omega
  · simp only [decide_eq_true_eq]; omega
  · simp only [decide_eq_false_iff_not]; omega

theorem rk_bd (r : Nat → Int) (n i : Nat) (hi : i < n) : rk r n i < n := by
  have h := flenlt (fun x => decide (r i < r x ∨ (r x = r i ∧ x < i))) (fun _ => true) (fun _ _ => rfl) i rfl (by simp) (List.range n) (List.mem_range.2 hi)
  have e : ((List.range n).filter (fun _ => true)).length = n := by rw [List.filter_eq_self.2 (fun _ _ => rfl), List.length_range]
  rw [e] at h
  exact h

theorem rk_inj (r : Nat → Int) (n i j : Nat) (hi : i < n) (hj : j < n) (h : rk r n i = rk r n j) : i = j := by
  by_cases e : i = j
  · exact e
  · exfalso
    have key : LTb r i j ∨ LTb r j i := by unfold LTb; omega
    rcases key with k | k
    · have := rk_lt r n i j hi k; omega
    · have := rk_lt r n j i hj k; omega

theorem rk_onto (r : Nat → Int) (n m : Nat) (hm : m < n) : ∃ p, p < n ∧ rk r n p = m := by
  have hg : ∀ k, k < n → ((List.range n).map (fun k => (rk r n k : Int))).toArray[k]! = (rk r n k : Int) := fun k hk => by
    rw [getElem!_pos _ _ (by simpa using hk)]
    simp
  obtain ⟨p, hp, e⟩ := onto (n := n) (d := ((List.range n).map (fun k => (rk r n k : Int))).toArray)
    (fun k hk => by rw [hg k hk]; have := rk_bd r n k hk; omega)
    (fun i j hij hj => by
      rw [hg i (by omega), hg j hj]
      intro e
      have := rk_inj r n i j (by omega) hj (by omega)
      omega) m hm
  rw [hg p hp] at e
  exact ⟨p, hp, by omega⟩

/-- what is left of the places when m have got theirs -/
def lft (r : Nat → Int) (n m i : Nat) : Int := if rk r n i < m then -1 else r i

theorem first_best (r : Nat → Int) (n m p b : Nat) (h0 : ∀ i, 0 ≤ r i) (hp : p < n) (hr : rk r n p = m) (hb : b < n)
    (hbest : ∀ j, j < n → j ≠ b → lft r n m j < lft r n m b ∨ (lft r n m j = lft r n m b ∧ b < j)) : rk r n b = m := by
  by_cases e : p = b
  · rw [← e]; exact hr
  · exfalso
    have h := hbest p hp e
    have h0p := h0 p
    have hpl : lft r n m p = r p := by unfold lft; rw [if_neg (by omega)]
    rw [hpl] at h
    by_cases c : rk r n b < m
    · have : lft r n m b = -1 := by unfold lft; rw [if_pos c]
      omega
    · have : lft r n m b = r b := by unfold lft; rw [if_neg c]
      have := rk_lt r n b p hb (by unfold LTb; omega)
      omega

theorem next_rk (r : Nat → Int) (n m b i : Nat) (hb : b < n) (hi : i < n) (h : rk r n b = m) : rk r n i < m + 1 ↔ (rk r n i < m ∨ i = b) := by
  constructor
  · intro h1
    by_cases c : rk r n i < m
    · exact Or.inl c
    · exact Or.inr (rk_inj r n i b hi hb (by omega))
  · rintro (h1 | rfl) <;> omega
end Go.Proofs.Ytaegajlffiepoaa.ShaD
