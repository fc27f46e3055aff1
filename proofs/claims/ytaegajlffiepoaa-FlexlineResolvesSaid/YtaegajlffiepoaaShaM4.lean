/- Plain rows of numbers: two sorted pieces made one, the ends. Nothing of the program is imported. -/
import Derived.Test.YtaegajlffiepoaaShaM3
namespace Go.Proofs.Ytaegajlffiepoaa.ShaM
open Go.Sort

theorem Two.triv {LT : Int → Int → Prop} {a s b : Nat} {d : Array Int} (h : Two LT a s b d) (hc : ¬ (a < s ∧ s < b)) (h1 : a ≤ s) (h2 : s ≤ b) : Srt LT a b d := by
  intro i j x y z
  by_cases c : s ≤ a
  · exact h.right i j (by omega) y z
  · exact h.left i j x y (by omega)
theorem FR_triv (f : Nat → Int) (s m e : Nat) (h1 : s ≤ m) (h2 : m ≤ e) (h : ¬ (s < m ∧ m < e)) (k : Nat) : f k = FR f s m e k := by
  unfold FR
  repeat' split
  all_goals first | omega | (congr 1; omega) | rfl
/-- the whole: cut, turned round, both halves sorted -/
theorem sym_end {LT : Int → Int → Prop} {a m b mid s e : Nat} {d d1 d2 d3 : Array Int} (has : a ≤ s) (hsm : s ≤ m) (hme : m ≤ e) (heb : e ≤ b) (ham : a ≤ mid) (hmb : mid ≤ b) (hsz : d1.size = d.size) (h1 : ∀ k, d1[k]! = FR (fun x => d[x]!) s m e k)
    (m2 : Mv a mid d1 d2) (s2 : Srt LT a mid d2) (m3 : Mv mid b d2 d3) (s3 : Srt LT mid b d3) (hc : ∀ i j, a ≤ i → i < mid → mid ≤ j → j < b → LT d1[i]! d1[j]!) :
    Mv a b d d3 ∧ Srt LT a b d3 :=
  ⟨(((Mv.FR hsm hme hsz h1).mono has heb).trans (m2.mono (Nat.le_refl _) hmb)).trans (m3.mono ham (Nat.le_refl _)), join_two m2 s2 m3 s3 hc⟩
end Go.Proofs.Ytaegajlffiepoaa.ShaM
