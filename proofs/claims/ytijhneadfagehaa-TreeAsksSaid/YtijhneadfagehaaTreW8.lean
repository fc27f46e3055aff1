/- The walks of layer 4's reference: is a node right? -/
import Derived.Test.YtijhneadfagehaaTreW7
namespace Go.Proofs.Ytijhneadfagehaa
open Go.RowKit TreN TreP

set_option maxRecDepth 100000 in
theorem range_next (p : Nat → Bool) (k : Nat) : (List.range (k + 1)).all p = ((List.range k).all p && p k) := by
  rw [List.range_succ, List.all_append]; simp
set_option maxRecDepth 100000 in
theorem all_cut (v : Bool) (p : Nat → Bool) {k n : Nat} (hk : k ≤ n) (h : (v && (List.range k).all p) = false) : (v && (List.range n).all p) = false := by
  cases v with
  | false => rfl
  | true =>
    rw [Bool.true_and] at h ⊢
    rw [List.all_eq_false] at h ⊢
    obtain ⟨x, hx, hp⟩ := h
    exact ⟨x, List.mem_range.2 (by have := List.mem_range.1 hx; omega), hp⟩
set_option maxRecDepth 100000 in
theorem fin_yes (v0 v : Bool) (A B : Bool) (h : v = (v0 && A)) {v2 : Bool} (h2 : v2 = (v && B)) : (v0 && (A && B)) = v2 := by rw [h2, h, Bool.and_assoc]
set_option maxRecDepth 100000 in
theorem fin_no (v0 v : Bool) (A : Bool) (p : Nat → Bool) {k n : Nat} (h : v = (v0 && A)) (h2 : v = false ∨ (k ≤ n ∧ (v && (List.range k).all p) = false)) : (v0 && (A && (List.range n).all p)) = false := by
  rw [← Bool.and_assoc, ← h]
  rcases h2 with h2 | ⟨hk, h2⟩
  · rw [h2]; rfl
  · exact all_cut v p hk h2

end Go.Proofs.Ytijhneadfagehaa
