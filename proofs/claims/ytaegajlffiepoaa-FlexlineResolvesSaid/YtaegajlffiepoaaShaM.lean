/- Plain rows of numbers: pieces moved, sorted pieces. Nothing of the program is imported. -/
import Derived.Sort.Row
namespace Go.Proofs.Ytaegajlffiepoaa.ShaM
open Go.Sort

theorem swp_size (d : Array Int) (i j : Nat) : (swp d i j).size = d.size := by unfold swp; simp
theorem swp_get (d : Array Int) (i j : Nat) (hi : i < d.size) (hj : j < d.size) (x : Nat) : (swp d i j)[x]! = if x = j then d[i]! else if x = i then d[j]! else d[x]! := by
  unfold swp
  by_cases h : x = j
  · subst h; rw [if_pos rfl, getElem!_set_same _ _ _ (by simpa using hj)]
  · rw [if_neg h, getElem!_set_other _ _ _ _ h]
    by_cases h2 : x = i
    · subst h2; rw [if_pos rfl, getElem!_set_same _ _ _ hi]
    · rw [if_neg h2, getElem!_set_other _ _ _ _ h2]

/-- two pieces exchanged, one by one -/
def swr (a b : Nat) (d : Array Int) : Nat → Array Int
  | 0 => d
  | k + 1 => swp (swr a b d k) (a + k) (b + k)
theorem swr_size (a b : Nat) (d : Array Int) : ∀ k, (swr a b d k).size = d.size
  | 0 => rfl
  | k + 1 => by simp only [swr, swp_size, swr_size a b d k]
theorem swr_get (a b : Nat) (d : Array Int) : ∀ k, a + k ≤ b → b + k ≤ d.size → ∀ x, (swr a b d k)[x]! = if a ≤ x ∧ x < a + k then d[x - a + b]! else if b ≤ x ∧ x < b + k then d[x - b + a]! else d[x]!
  | 0, _, _, x => by
    show d[x]! = _
    rw [if_neg (by omega), if_neg (by omega)]
  | k + 1, h1, h2, x => by
    show (swp (swr a b d k) (a + k) (b + k))[x]! = _
    rw [swp_get _ _ _ (by rw [swr_size]; omega) (by rw [swr_size]; omega)]
    have e1 := swr_get a b d k (by omega) (by omega) (a + k)
    have e2 := swr_get a b d k (by omega) (by omega) (b + k)
    have e3 := swr_get a b d k (by omega) (by omega) x
    rw [if_neg (by omega), if_neg (by omega)] at e1 e2
    rw [e1, e2, e3]
    repeat' split
    all_goals first | omega | (congr 1; omega)

/-- two neighbouring pieces turned round: [s, m) and [m, e) -/
def FR (f : Nat → Int) (s m e : Nat) (k : Nat) : Int := if s ≤ k ∧ k < s + (e - m) then f (k + (m - s)) else if s + (e - m) ≤ k ∧ k < e then f (k - (e - m)) else f k

theorem FR_gt (d : Array Int) (i j m : Nat) (hij : j < i) (him : i ≤ m) (hj : 0 < j) (hs : m + j ≤ d.size) (k : Nat) :
    FR (fun x => (swr (m - i) m d j)[x]!) (m - (i - j)) m (m + j) k = FR (fun x => d[x]!) (m - i) m (m + j) k := by
  have g := swr_get (m - i) m d j (by omega) (by omega)
  unfold FR
  simp only [g]
  repeat' split
  all_goals first | omega | (congr 1; omega)
theorem FR_lt (d : Array Int) (i j m : Nat) (hij : i < j) (him : i ≤ m) (hi : 0 < i) (hs : m + j ≤ d.size) (k : Nat) :
    FR (fun x => (swr (m - i) (m + j - i) d i)[x]!) (m - i) m (m + (j - i)) k = FR (fun x => d[x]!) (m - i) m (m + j) k := by
  have g := swr_get (m - i) (m + j - i) d i (by omega) (by omega)
  unfold FR
  simp only [g]
  repeat' split
  all_goals first | omega | (congr 1; omega)
theorem FR_eq (d : Array Int) (i m : Nat) (him : i ≤ m) (hs : m + i ≤ d.size) (k : Nat) :
    (swr (m - i) m d i)[k]! = FR (fun x => d[x]!) (m - i) m (m + i) k := by
  have g := swr_get (m - i) m d i (by omega) (by omega)
  unfold FR
  simp only [g]
  repeat' split
  all_goals first | omega | (congr 1; omega)

/-- what lies in [a, b) is moved, nothing else -/
structure Mv (a b : Nat) (d d' : Array Int) : Prop where
  size : d'.size = d.size
  out : ∀ k, k < a ∨ b ≤ k → d'[k]! = d[k]!
  into : ∀ k, a ≤ k → k < b → ∃ j, a ≤ j ∧ j < b ∧ d'[k]! = d[j]!
  inj : (∀ i j, a ≤ i → i < j → j < b → d[i]! ≠ d[j]!) → ∀ i j, a ≤ i → i < j → j < b → d'[i]! ≠ d'[j]!

theorem Mv.refl (a b : Nat) (d : Array Int) : Mv a b d d := ⟨rfl, fun _ _ => rfl, fun k h1 h2 => ⟨k, h1, h2, rfl⟩, id⟩
theorem Mv.trans {a b : Nat} {d e f : Array Int} (h : Mv a b d e) (g : Mv a b e f) : Mv a b d f :=
  ⟨g.size.trans h.size, fun k hk => (g.out k hk).trans (h.out k hk), fun k h1 h2 => by
    obtain ⟨j, j1, j2, e1⟩ := g.into k h1 h2
    obtain ⟨i, i1, i2, e2⟩ := h.into j j1 j2
    exact ⟨i, i1, i2, e1.trans e2⟩, fun hd => g.inj (h.inj hd)⟩
theorem Mv.mono {a b a' b' : Nat} {d e : Array Int} (h : Mv a b d e) (ha : a' ≤ a) (hb : b ≤ b') : Mv a' b' d e :=
  ⟨h.size, fun k hk => h.out k (by omega), fun k h1 h2 => by
    by_cases c : a ≤ k ∧ k < b
    · obtain ⟨j, j1, j2, e1⟩ := h.into k c.1 c.2
      exact ⟨j, by omega, by omega, e1⟩
    · exact ⟨k, h1, h2, h.out k (by omega)⟩, fun hd i j h1 h2 h3 => by
    by_cases ci : a ≤ i ∧ i < b
    · by_cases cj : a ≤ j ∧ j < b
      · exact h.inj (fun p q x y z => hd p q (by omega) y (by omega)) i j ci.1 h2 cj.2
      · obtain ⟨p, p1, p2, e1⟩ := h.into i ci.1 ci.2
        rw [e1, h.out j (by omega)]
        exact hd p j (by omega) (by omega) h3
    · by_cases cj : a ≤ j ∧ j < b
      · obtain ⟨p, p1, p2, e1⟩ := h.into j cj.1 cj.2
        rw [e1, h.out i (by omega)]
        exact hd i p h1 (by omega) (by omega)
      · rw [h.out i (by omega), h.out j (by omega)]
        exact hd i j h1 h2 h3⟩
theorem Mv.swp {a b : Nat} (d : Array Int) {i j : Nat} (hi : a ≤ i) (hi2 : i < b) (hj : a ≤ j) (hj2 : j < b) (hs : b ≤ d.size) : Mv a b d (swp d i j) := by
  have g := swp_get d i j (by omega) (by omega)
  refine ⟨swp_size d i j, fun k hk => ?_, fun k h1 h2 => ?_, fun hd p q h1 h2 h3 => ?_⟩
  · rw [g, if_neg (by omega), if_neg (by omega)]
  · rw [g]
    split
    · exact ⟨i, hi, hi2, rfl⟩
    · split
      · exact ⟨j, hj, hj2, rfl⟩
      · exact ⟨k, h1, h2, rfl⟩
  · have hd' : ∀ x y, a ≤ x → a ≤ y → x < b → y < b → x ≠ y → d[x]! ≠ d[y]! := fun x y x1 y1 x2 y2 hne => by
      by_cases c : x < y
      · exact hd x y x1 c y2
      · exact fun e => hd y x y1 (by omega) x2 e.symm
    rw [g, g]
    repeat' split
    all_goals first | omega | (apply hd' <;> omega)
/-- a row that is turned round is moved -/
theorem Mv.FR {a m b : Nat} {d e : Array Int} (h1 : a ≤ m) (h2 : m ≤ b) (hs : e.size = d.size) (he : ∀ k, e[k]! = ShaM.FR (fun x => d[x]!) a m b k) : Mv a b d e := by
  refine ⟨hs, fun k hk => ?_, fun k k1 k2 => ?_, fun hd p q p1 p2 p3 => ?_⟩
  · rw [he]; unfold ShaM.FR; rw [if_neg (by omega), if_neg (by omega)]
  · rw [he]; unfold ShaM.FR
    split
    · exact ⟨k + (m - a), by omega, by omega, rfl⟩
    · rw [if_pos (by omega)]
      exact ⟨k - (b - m), by omega, by omega, rfl⟩
  · have hd' : ∀ x y, a ≤ x → a ≤ y → x < b → y < b → x ≠ y → d[x]! ≠ d[y]! := fun x y x1 y1 x2 y2 hne => by
      by_cases c : x < y
      · exact hd x y x1 c y2
      · exact fun e => hd y x y1 (by omega) x2 e.symm
    rw [he, he]; unfold ShaM.FR
    repeat' split
    all_goals first | omega | (apply hd' <;> omega)

/-- the order in which places go: a strict one, of any two that differ one goes ahead -/
structure Ord (LT : Int → Int → Prop) : Prop where
  trans : ∀ x y z, LT x y → LT y z → LT x z
  asymm : ∀ x y, LT x y → ¬ LT y x
  total : ∀ x y, x ≠ y → LT x y ∨ LT y x
/-- sorted: each one goes ahead of those behind it -/
def Srt (LT : Int → Int → Prop) (a b : Nat) (d : Array Int) : Prop := ∀ i j, a ≤ i → i < j → j < b → LT d[i]! d[j]!
end Go.Proofs.Ytaegajlffiepoaa.ShaM
