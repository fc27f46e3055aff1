/- Plain rows of numbers: one put into its place among sorted ones. Nothing of the program is imported. -/
import Derived.Test.YtaegajlffiepoaaShaM
namespace Go.Proofs.Ytaegajlffiepoaa.ShaM
open Go.Sort

/-- x, which began at i, has come down to j -/
structure Inner (LT : Int → Int → Prop) (a i j : Nat) (dk dj : Array Int) (x : Int) : Prop where
  mv : Mv a (i + 1) dk dj
  here : dj[j]! = x
  lt : ∀ p, a ≤ p → p ≤ i → p ≠ j → dj[p]! < x
  srt : ∀ p q, a ≤ p → p < q → q ≤ i → p ≠ j → q ≠ j → LT dj[p]! dj[q]!
  gt : ∀ q, j < q → q ≤ i → LT x dj[q]!

theorem Inner.start {LT : Int → Int → Prop} {a i : Nat} {d dk : Array Int} (hm : Mv a i d dk) (hs : Srt LT a i dk) (hinc : ∀ p, a ≤ p → p < i → d[p]! < d[i]!) :
    Inner LT a i i dk dk d[i]! := by
  refine ⟨Mv.refl _ _ _, hm.out i (by omega), fun p h1 h2 h3 => ?_, fun p q h1 h2 h3 h4 h5 => hs p q h1 h2 (by omega), fun q h1 h2 => by omega⟩
  obtain ⟨j, j1, j2, e⟩ := hm.into p h1 (by omega)
  rw [e]; exact hinc j j1 j2
theorem Inner.step {LT : Int → Int → Prop} {a i j : Nat} {dk dj : Array Int} {x : Int} (h : Inner LT a i (j + 1) dk dj x) (ha : a ≤ j) (hi : j + 1 ≤ i) (hsz : i < dj.size) (hl : LT x dj[j]!) :
    Inner LT a i j dk (swp dj (j + 1) j) x := by
  have g := swp_get dj (j + 1) j (by omega) (by omega)
  refine ⟨h.mv.trans (Mv.swp dj (by omega) (by omega) (by omega) (by omega) (by omega)), ?_, fun p h1 h2 h3 => ?_, fun p q h1 h2 h3 h4 h5 => ?_, fun q h1 h2 => ?_⟩
  · rw [g, if_pos rfl]; exact h.here
  · rw [g, if_neg h3]
    split
    · exact h.lt j (by omega) (by omega) (by omega)
    · exact h.lt p h1 h2 (by omega)
  · rw [g, g, if_neg h4, if_neg h5]
    split
    · rw [if_neg (by omega)]
      exact h.srt j q (by omega) (by omega) h3 (by omega) (by omega)
    · split
      · exact h.srt p j h1 (by omega) (by omega) (by omega) (by omega)
      · exact h.srt p q h1 h2 h3 (by omega) (by omega)
  · rw [g, if_neg (by omega)]
    split
    · exact hl
    · exact h.gt q (by omega) h2
theorem Inner.stop {LT : Int → Int → Prop} (hO : Ord LT) {a i j : Nat} {dk dj : Array Int} {x : Int} (h : Inner LT a i j dk dj x) (ha : a ≤ j) (hi : j ≤ i) (hs : j = a ∨ ¬ LT x dj[j - 1]!) :
    Srt LT a (i + 1) dj := by
  have hd : ∀ p, a ≤ p → p < j → LT dj[p]! x := fun p h1 h2 => by
    rcases hs with hs | hs
    · omega
    · have hne : x ≠ dj[j - 1]! := by have := h.lt (j - 1) (by omega) (by omega) (by omega); omega
      have hlt : LT dj[j - 1]! x := (hO.total _ _ hne).resolve_left hs
      by_cases c : p = j - 1
      · rw [c]; exact hlt
      · exact hO.trans _ _ _ (h.srt p (j - 1) h1 (by omega) (by omega) (by omega) (by omega)) hlt
  intro p q h1 h2 h3
  by_cases cp : p = j
  · rw [cp, h.here]; exact h.gt q (by omega) (by omega)
  · by_cases cq : q = j
    · rw [cq, h.here]; exact hd p h1 (by omega)
    · exact h.srt p q h1 h2 (by omega) cp cq
theorem Mv.next {a i : Nat} {d dk dj : Array Int} (h : Mv a i d dk) (g : Mv a (i + 1) dk dj) : Mv a (i + 1) d dj := (h.mono (Nat.le_refl _) (by omega)).trans g
/-- all numbers of the row are places of it -/
def Rng (n : Nat) (d : Array Int) : Prop := ∀ k, k < n → 0 ≤ d[k]! ∧ d[k]! < n
theorem Mv.rng {a b n : Nat} {d e : Array Int} (h : Mv a b d e) (hb : b ≤ n) (hr : Rng n d) : Rng n e := by
  intro k hk
  by_cases c : a ≤ k ∧ k < b
  · obtain ⟨j, j1, j2, e1⟩ := h.into k c.1 c.2
    rw [e1]; exact hr j (by omega)
  · rw [h.out k (by omega)]; exact hr k hk
end Go.Proofs.Ytaegajlffiepoaa.ShaM
