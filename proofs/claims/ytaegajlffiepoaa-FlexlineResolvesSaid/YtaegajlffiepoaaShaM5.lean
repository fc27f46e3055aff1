/- Plain rows of numbers: blocks, sorted one by one, then two by two. Nothing of the program is imported. -/
import Derived.Test.YtaegajlffiepoaaShaM3
namespace Go.Proofs.Ytaegajlffiepoaa.ShaM
open Go.Sort

/-- a block: sorted, and it holds just its own places -/
def Blk (LT : Int → Int → Prop) (s e : Nat) (d : Array Int) : Prop := Srt LT s e d ∧ ∀ i, s ≤ i → i < e → (s : Int) ≤ d[i]! ∧ d[i]! < (e : Int)
theorem Blk.keep {LT : Int → Int → Prop} {s e p q : Nat} {d d' : Array Int} (h : Blk LT s e d) (m : Mv p q d d') (ho : e ≤ p ∨ q ≤ s) : Blk LT s e d' := by
  refine ⟨fun i j x y z => ?_, fun i x y => ?_⟩
  · rw [m.out i (by omega), m.out j (by omega)]; exact h.1 i j x y z
  · rw [m.out i (by omega)]; exact h.2 i x y
theorem Blk.two {LT : Int → Int → Prop} {a m b : Nat} {d : Array Int} (h1 : Blk LT a m d) (h2 : Blk LT m b d) : Two LT a m b d :=
  ⟨h1.1, h2.1, fun i j x y z u => by have := (h1.2 i x y).2; have := (h2.2 j z u).1; omega⟩
theorem Blk.merged {LT : Int → Int → Prop} {a m b : Nat} {d d' : Array Int} (h1 : Blk LT a m d) (h2 : Blk LT m b d) (ham : a ≤ m) (hmb : m ≤ b) (hm : Mv a b d d') (hs : Srt LT a b d') : Blk LT a b d' := by
  refine ⟨hs, fun i x y => ?_⟩
  obtain ⟨j, j1, j2, e⟩ := hm.into i x y
  rw [e]
  by_cases c : j < m
  · have := h1.2 j j1 c; omega
  · have := h2.2 j (by omega) j2; omega
theorem dvd_lt {D s a : Nat} (h1 : D ∣ s) (h2 : D ∣ a) (h : s < a + D) : s ≤ a := by
  by_cases c : s ≤ a
  · exact c
  · have := Nat.le_of_dvd (by omega) (Nat.dvd_sub h1 h2); omega
/-- all blocks of B places -/
def All (LT : Int → Int → Prop) (B n : Nat) (d : Array Int) : Prop := ∀ s, B ∣ s → s < n → Blk LT s (min (s + B) n) d
/-- the blocks ahead of a -/
def Ahead (LT : Int → Int → Prop) (B a : Nat) (d : Array Int) : Prop := ∀ s, B ∣ s → s < a → Blk LT s (s + B) d
/-- the blocks from a on -/
def From (LT : Int → Int → Prop) (B a n : Nat) (d : Array Int) : Prop := ∀ s, B ∣ s → a ≤ s → s < n → Blk LT s (min (s + B) n) d

theorem Ahead.none (LT : Int → Int → Prop) (B : Nat) (d : Array Int) : Ahead LT B 0 d := fun s _ h => by omega
theorem Ahead.next {LT : Int → Int → Prop} {B a : Nat} {d d' : Array Int} (h : Ahead LT B a d) (ha : B ∣ a) (m : Mv a (a + B) d d') (hb : Blk LT a (a + B) d') : Ahead LT B (a + B) d' := by
  intro s hs hlt
  have := dvd_lt hs ha hlt
  by_cases c : s = a
  · rw [c]; exact hb
  · have hB : s + B ≤ a := by
      have := Nat.le_of_dvd (by omega) (Nat.dvd_sub ha hs); omega
    exact (h s hs (by omega)).keep m (Or.inl hB)
theorem Ahead.all {LT : Int → Int → Prop} {B a n : Nat} {d d' : Array Int} (h : Ahead LT B a d) (ha : B ∣ a) (hn : n < a + B) (m : Mv a n d d') (hb : a < n → Blk LT a n d') (han : a ≤ n) : All LT B n d' := by
  intro s hs hlt
  have := dvd_lt hs ha (by omega)
  by_cases c : s = a
  · rw [c, show min (a + B) n = n by omega]; exact hb (by omega)
  · have hB : s + B ≤ a := by
      have := Nat.le_of_dvd (by omega) (Nat.dvd_sub ha hs); omega
    rw [show min (s + B) n = s + B by omega]
    exact (h s hs (by omega)).keep m (Or.inl hB)
theorem All.from {LT : Int → Int → Prop} {B n : Nat} {d : Array Int} (h : All LT B n d) : From LT B 0 n d := fun s hs _ hlt => h s hs hlt
theorem From.next {LT : Int → Int → Prop} {B a b n : Nat} {d d' : Array Int} (h : From LT B a n d) (hab : a ≤ b) (m : Mv a b d d') : From LT B b n d' := fun s hs h1 h2 => (h s hs (by omega) h2).keep m (Or.inr h1)
theorem All.whole {LT : Int → Int → Prop} {B n : Nat} {d : Array Int} (h : All LT B n d) (hB : n ≤ B) : Srt LT 0 n d := by
  by_cases c : 0 < n
  · have := h 0 (Nat.dvd_zero B) c
    rw [show min (0 + B) n = n by omega] at this
    exact this.1
  · intro i j _ x y; omega
/-- the places as they stand at first -/
theorem first_blk {LT : Int → Int → Prop} {a b : Nat} {d d' : Array Int} (hd : ∀ i, a ≤ i → i < b → d[i]! = (i : Int)) (m : Mv a b d d') (hs : Srt LT a b d') : Blk LT a b d' := by
  refine ⟨hs, fun i x y => ?_⟩
  obtain ⟨j, j1, j2, e⟩ := m.into i x y
  rw [e, hd j j1 j2]; omega
end Go.Proofs.Ytaegajlffiepoaa.ShaM
