/- The walk of slices.Concat at three rows of nodes. -/
import Derived.Test.YtffelkillcboeaaTreW16
namespace Go.Proofs.Ytffelkillcboeaa
open Go.RowKit TreN TreP

def sumN (n : Nat → Nat) : Nat → Nat
  | 0 => 0
  | k + 1 => sumN n k + n k
def catp (C : Nat → Nat → Nd) (n : Nat → Nat) : Nat → Nat → Nd
  | 0 => C 0
  | k + 1 => cat (catp C n k) (C k) (sumN n k)
set_option maxRecDepth 100000 in
theorem ndcs_catp (C : Nat → Nat → Nd) (n : Nat → Nat) (k : Nat) : ndcs (catp C n k) (sumN n k) ++ ndcs (C k) (n k) = ndcs (catp C n (k + 1)) (sumN n (k + 1)) := ndcs_cat _ _ _ _
set_option maxRecDepth 100000 in
theorem catp_in (C : Nat → Nat → Nd) (n : Nat → Nat) (P : Nd → Prop) (k : Nat) (h : ∀ t, t < k → ∀ i, i < n t → P (C t i)) : ∀ i, i < sumN n k → P (catp C n k i) := by
  induction k with
  | zero => intro i hi; exact absurd hi (by simp [sumN])
  | succ k ih =>
    intro i hi
    unfold catp cat
    by_cases hc : i < sumN n k
    · rw [if_pos hc]
      exact ih (fun t ht => h t (by omega)) i hc
    · rw [if_neg hc]
      exact h k (by omega) _ (by unfold sumN at hi; omega)
set_option maxRecDepth 100000 in
theorem sumN_le (n : Nat → Nat) (h : ∀ t, t < 3 → n t ≤ 1100) (k : Nat) (hk : k ≤ 3) : sumN n k ≤ k * 1100 := by
  induction k with
  | zero => simp [sumN]
  | succ k ih =>
    have := ih (by omega)
    have := h k (by omega)
    unfold sumN
    omega
set_option maxRecDepth 100000 in
theorem below_grown3 {B : Nat} {w w' : World} {r : Option Nat} (h : w.grownBy w' r) (hr : ∀ g, r = some g → B ≤ g) (hs : B ≤ w.heap.size) : Below B w w' := by
  obtain ⟨h1, h2, h3, h4, h5⟩ := h
  exact ⟨h1, h2, h3, h4, fun k hk => h5 k (by omega) (fun e => by have := hr k e.symm; omega)⟩

end Go.Proofs.Ytffelkillcboeaa
