/- Plain rows of numbers: two sorted pieces made one. Nothing of the program is imported. -/
import Derived.Test.YtaegajlffiepoaaShaM2
namespace Go.Proofs.Ytaegajlffiepoaa.ShaM
open Go.Sort

/-- two neighbouring sorted pieces; all places of the first are less than those of the other -/
structure Two (LT : Int → Int → Prop) (a m b : Nat) (d : Array Int) : Prop where
  left : Srt LT a m d
  right : Srt LT m b d
  less : ∀ i j, a ≤ i → i < m → m ≤ j → j < b → d[i]! < d[j]!

/-- the first one steps on -/
theorem step_up (d dk : Array Int) (a k : Nat) (ha : a ≤ k) (hk : k + 1 < dk.size) (h : ∀ p, dk[p]! = FR (fun x => d[x]!) a (a + 1) (k + 1) p) (p : Nat) :
    (swp dk k (k + 1))[p]! = FR (fun x => d[x]!) a (a + 1) (k + 2) p := by
  rw [swp_get dk k (k + 1) (by omega) hk, h, h, h]
  unfold FR
  repeat' split
  all_goals first | omega | (congr 1; omega)
theorem up_first (d : Array Int) (a : Nat) (p : Nat) : d[p]! = FR (fun x => d[x]!) a (a + 1) (a + 1) p := by
  unfold FR
  repeat' split
  all_goals first | omega | (congr 1; omega) | rfl
/-- the last one steps down -/
theorem step_down (d dk : Array Int) (m k : Nat) (hkm : k + 1 ≤ m) (hk : m < dk.size) (h : ∀ p, dk[p]! = FR (fun x => d[x]!) (k + 1) m (m + 1) p) (p : Nat) :
    (swp dk (k + 1) k)[p]! = FR (fun x => d[x]!) k m (m + 1) p := by
  rw [swp_get dk (k + 1) k (by omega) (by omega), h, h, h]
  unfold FR
  repeat' split
  all_goals first | omega | (congr 1; omega)
theorem down_first (d : Array Int) (m : Nat) (p : Nat) : d[p]! = FR (fun x => d[x]!) m m (m + 1) p := by
  unfold FR
  repeat' split
  all_goals first | omega | (congr 1; omega) | rfl

theorem merge_up {LT : Int → Int → Prop} {d e : Array Int} {a b i : Nat} (h : Two LT a (a + 1) b d) (hi : a + 1 ≤ i) (hib : i ≤ b)
    (h1 : ∀ k, a + 1 ≤ k → k < i → LT d[k]! d[a]!) (h2 : ∀ k, i ≤ k → k < b → LT d[a]! d[k]!) (he : ∀ p, e[p]! = FR (fun x => d[x]!) a (a + 1) i p) : Srt LT a b e := by
  intro p q hp hpq hq
  rw [he, he]
  unfold FR
  repeat' split
  all_goals first
    | omega
    | (apply h.right <;> omega)
    | (have e1 : q - (i - (a + 1)) = a := by omega
       simp only [e1]
       apply h1 <;> omega)
    | (have e1 : p - (i - (a + 1)) = a := by omega
       simp only [e1]
       apply h2 <;> omega)
theorem merge_down {LT : Int → Int → Prop} {d e : Array Int} {a m i : Nat} (h : Two LT a m (m + 1) d) (hi : a ≤ i) (him : i ≤ m)
    (h1 : ∀ k, a ≤ k → k < i → LT d[k]! d[m]!) (h2 : ∀ k, i ≤ k → k < m → LT d[m]! d[k]!) (he : ∀ p, e[p]! = FR (fun x => d[x]!) i m (m + 1) p) : Srt LT a (m + 1) e := by
  intro p q hp hpq hq
  rw [he, he]
  unfold FR
  repeat' split
  all_goals first
    | omega
    | (apply h.left <;> omega)
    | (have e1 : q + (m - i) = m := by omega
       simp only [e1]
       apply h1 <;> omega)
    | (have e1 : p + (m - i) = m := by omega
       simp only [e1]
       apply h2 <;> omega)

/-- the search has found where both pieces are cut: what comes of turning round what lies between -/
theorem cut_two {LT : Int → Int → Prop} (hO : Ord LT) {d e : Array Int} {a m b mid s n : Nat} (h : Two LT a m b d) (ham : a < m) (hmb : m < b) (hmid : mid = (a + b) / 2) (hn : n = mid + m)
    (lo hi : Nat) (hlo : (mid < m ∧ lo = n - b ∧ hi = mid) ∨ (m ≤ mid ∧ lo = a ∧ hi = m)) (hs1 : lo ≤ s) (hs2 : s ≤ hi)
    (h1 : ∀ c, lo ≤ c → c < s → LT d[c]! d[n - 1 - c]!) (h2 : ∀ c, s ≤ c → c < hi → LT d[n - 1 - c]! d[c]!)
    (he : ∀ p, e[p]! = FR (fun x => d[x]!) s m (n - s) p) :
    a ≤ s ∧ s ≤ mid ∧ mid ≤ n - s ∧ n - s ≤ b ∧ s ≤ m ∧ m ≤ n - s ∧ Two LT a s mid e ∧ Two LT mid (n - s) b e ∧ (∀ i j, a ≤ i → i < mid → mid ≤ j → j < b → LT e[i]! e[j]!) := by
  have k1 : a ≤ s := by omega
  have k2 : s ≤ mid := by omega
  have k3 : mid ≤ n - s := by omega
  have k4 : n - s ≤ b := by omega
  have k5 : s ≤ m := by omega
  have k6 : m ≤ n - s := by omega
  have k7 : s + (n - s - m) = mid := by omega
  -- what each place of e holds
  have g1 : ∀ i, a ≤ i → i < s → e[i]! = d[i]! := fun i x y => by rw [he]; unfold FR; rw [if_neg (by omega), if_neg (by omega)]
  have g2 : ∀ i, s ≤ i → i < mid → e[i]! = d[i + (m - s)]! := fun i x y => by rw [he]; unfold FR; rw [if_pos (by omega)]
  have g3 : ∀ i, mid ≤ i → i < n - s → e[i]! = d[i - (n - s - m)]! := fun i x y => by rw [he]; unfold FR; rw [if_neg (by omega), if_pos (by omega)]
  have g4 : ∀ i, n - s ≤ i → i < b → e[i]! = d[i]! := fun i x y => by rw [he]; unfold FR; rw [if_neg (by omega), if_neg (by omega)]
  -- across the cut
  have c14 : ∀ p q, a ≤ p → p < s → n - s ≤ q → q < b → LT d[p]! d[q]! := fun p q x1 x2 x3 x4 => by
    have hlos : lo < s := by omega
    have hx := h1 (s - 1) (by omega) (by omega)
    have e1 : n - 1 - (s - 1) = n - s := by omega
    rw [e1] at hx
    have hy : LT d[p]! d[n - s]! := by
      by_cases c : p = s - 1
      · rw [c]; exact hx
      · exact hO.trans _ _ _ (h.left p (s - 1) x1 (by omega) (by omega)) hx
    by_cases c : q = n - s
    · rw [c]; exact hy
    · exact hO.trans _ _ _ hy (h.right (n - s) q (by omega) (by omega) x4)
  have c23 : ∀ p q, m ≤ p → p < n - s → s ≤ q → q < m → LT d[p]! d[q]! := fun p q x1 x2 x3 x4 => by
    have hshi : s < hi := by omega
    have hx := h2 s (by omega) (by omega)
    have hy : LT d[p]! d[s]! := by
      by_cases c : p = n - 1 - s
      · rw [c]; exact hx
      · exact hO.trans _ _ _ (h.right p (n - 1 - s) x1 (by omega) (by omega)) hx
    by_cases c : q = s
    · rw [c]; exact hy
    · exact hO.trans _ _ _ hy (h.left s q (by omega) (by omega) x4)
  refine ⟨k1, k2, k3, k4, k5, k6, ⟨fun i j x y z => ?_, fun i j x y z => ?_, fun i j x y z u => ?_⟩, ⟨fun i j x y z => ?_, fun i j x y z => ?_, fun i j x y z u => ?_⟩, fun i j x y z u => ?_⟩
  · rw [g1 i x (by omega), g1 j (by omega) z]; exact h.left i j x y (by omega)
  · rw [g2 i x (by omega), g2 j (by omega) z]; exact h.right _ _ (by omega) (by omega) (by omega)
  · rw [g1 i x y, g2 j z u]; exact h.less _ _ x (by omega) (by omega) (by omega)
  · rw [g3 i x (by omega), g3 j (by omega) z]; exact h.left _ _ (by omega) (by omega) (by omega)
  · rw [g4 i x (by omega), g4 j (by omega) z]; exact h.right _ _ (by omega) (by omega) z
  · rw [g3 i x y, g4 j z u]; exact h.less _ _ (by omega) (by omega) (by omega) u
  · by_cases ci : i < s
    · rw [g1 i x ci]
      by_cases cj : j < n - s
      · rw [g3 j z cj]; exact h.left _ _ x (by omega) (by omega)
      · rw [g4 j (by omega) u]; exact c14 i j x ci (by omega) u
    · rw [g2 i (by omega) y]
      by_cases cj : j < n - s
      · rw [g3 j z cj]; exact c23 _ _ (by omega) (by omega) (by omega) (by omega)
      · rw [g4 j (by omega) u]; exact h.right _ _ (by omega) (by omega) u

/-- both halves sorted: the whole -/
theorem join_two {LT : Int → Int → Prop} {a mid b : Nat} {e f g : Array Int} (h1 : Mv a mid e f) (s1 : Srt LT a mid f) (h2 : Mv mid b f g) (s2 : Srt LT mid b g)
    (hc : ∀ i j, a ≤ i → i < mid → mid ≤ j → j < b → LT e[i]! e[j]!) : Srt LT a b g := by
  intro i j hi hij hj
  by_cases c1 : j < mid
  · rw [h2.out i (by omega), h2.out j (by omega)]; exact s1 i j hi hij c1
  · by_cases c2 : mid ≤ i
    · exact s2 i j c2 hij hj
    · obtain ⟨p, p1, p2, e1⟩ := h1.into i hi (by omega)
      obtain ⟨q, q1, q2, e2⟩ := h2.into j (by omega) hj
      rw [h2.out i (by omega), e1, e2, h1.out q (by omega)]
      exact hc p q p1 p2 q1 q2
theorem Two.keep {LT : Int → Int → Prop} {a m b p q : Nat} {d e : Array Int} (h : Two LT a m b d) (ham : a ≤ m) (hm : Mv p q d e) (ho : q ≤ a) : Two LT a m b e := by
  refine ⟨fun i j x y z => ?_, fun i j x y z => ?_, fun i j x y z u => ?_⟩
  · rw [hm.out i (by omega), hm.out j (by omega)]; exact h.left i j x y z
  · rw [hm.out i (by omega), hm.out j (by omega)]; exact h.right i j x y z
  · rw [hm.out i (by omega), hm.out j (by omega)]; exact h.less i j x y z u
end Go.Proofs.Ytaegajlffiepoaa.ShaM
