/- Plain numbers for layer 2: weights and shares. Nothing of the program is imported. -/
import Derived.Test.YtaegajlffiepoaaFixAll
namespace Go.Proofs.Ytaegajlffiepoaa.ShaD
open FixM

/-- what a number weighs -/
def WT (x : Int) : Int := max 0 (H x)
theorem WT_bd (x : Int) : 0 ≤ WT x ∧ WT x ≤ 1073741824 := by have := H_bd x; unfold WT; omega
/-- all weights together -/
def wsum (l : List Int) : Int := (l.map WT).sum
theorem wsum_snoc (l : List Int) (k : Nat) (h : k < l.length) : wsum (l.take (k + 1)) = wsum (l.take k) + WT (l.getD k 0) := by
  unfold wsum
  rw [List.take_succ_eq_append_getElem h, List.map_append, List.sum_append]
  have : l.getD k 0 = l[k] := by rw [List.getD_eq_getElem?_getD, List.getElem?_eq_getElem h]; rfl
  rw [this]; simp
theorem wsum_bd : ∀ l : List Int, 0 ≤ wsum l ∧ wsum l ≤ 1073741824 * l.length
  | [] => by simp [wsum]
  | x :: l => by
    have h := wsum_bd l
    have := WT_bd x
    unfold wsum at *
    simp only [List.map_cons, List.sum_cons, List.length_cons]
    omega
/-- three ways of comparing -/
def cmp3 (x y : Int) : Int := if x < y then -1 else if y < x then 1 else 0
end Go.Proofs.Ytaegajlffiepoaa.ShaD
