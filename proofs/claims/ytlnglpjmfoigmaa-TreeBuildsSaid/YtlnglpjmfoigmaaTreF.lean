/- A store of six cells, one by one. -/
import Derived.Test.YtlnglpjmfoigmaaTreE
namespace Go.Proofs.Ytlnglpjmfoigmaa
open Go.RowKit TreN TreP

/-- x is w but for six cells of block b from o -/
structure Six (w x : World) (b o : Nat) (n0 n1 n2 n3 n4 n5 : Value) : Prop where
  h0 : x.cell? ⟨b, o, none⟩ = some n0
  h1 : x.cell? ⟨b, o + 1, none⟩ = some n1
  h2 : x.cell? ⟨b, o + 2, none⟩ = some n2
  h3 : x.cell? ⟨b, o + 3, none⟩ = some n3
  h4 : x.cell? ⟨b, o + 4, none⟩ = some n4
  h5 : x.cell? ⟨b, o + 5, none⟩ = some n5
  other : ∀ b' k, b' ≠ b ∨ k < o ∨ o + 6 ≤ k → x.cell? ⟨b', k, none⟩ = w.cell? ⟨b', k, none⟩
  froz : ∀ p, x.frozen? p = w.frozen? p
  size : x.heap.size = w.heap.size
  below : ∀ (lo : Nat) (a : World), lo ≤ b → Below lo a w → Below lo a x


set_option maxRecDepth 100000 in
set_option maxHeartbeats 1000000 in
theorem six_store (w : World) (b o : Nat) (n0 n1 n2 n3 n4 n5 : Value) (hc : ∀ j, j < 6 → ∃ v, w.cell? ⟨b, o + j, none⟩ = some v) (hf : ∀ j, j < 6 → w.frozen? ⟨b, o + j, none⟩ = false) :
    ∃ x1 x2 x3 x4 x5 x6 v0 v1 v2 v3 v4 v5, (w.cell? ⟨b, o, none⟩ = some v0 ∧ w.frozen? ⟨b, o, none⟩ = false ∧ w.setCell ⟨b, o, none⟩ n0 = x1) ∧
      (x1.cell? ⟨b, o + 1, none⟩ = some v1 ∧ x1.frozen? ⟨b, o + 1, none⟩ = false ∧ x1.setCell ⟨b, o + 1, none⟩ n1 = x2) ∧ (x2.cell? ⟨b, o + 2, none⟩ = some v2 ∧ x2.frozen? ⟨b, o + 2, none⟩ = false ∧ x2.setCell ⟨b, o + 2, none⟩ n2 = x3) ∧
      (x3.cell? ⟨b, o + 3, none⟩ = some v3 ∧ x3.frozen? ⟨b, o + 3, none⟩ = false ∧ x3.setCell ⟨b, o + 3, none⟩ n3 = x4) ∧ (x4.cell? ⟨b, o + 4, none⟩ = some v4 ∧ x4.frozen? ⟨b, o + 4, none⟩ = false ∧ x4.setCell ⟨b, o + 4, none⟩ n4 = x5) ∧
      (x5.cell? ⟨b, o + 5, none⟩ = some v5 ∧ x5.frozen? ⟨b, o + 5, none⟩ = false ∧ x5.setCell ⟨b, o + 5, none⟩ n5 = x6) ∧ Six w x6 b o n0 n1 n2 n3 n4 n5 := by
  obtain ⟨v0, c0⟩ := hc 0 (by omega)
  obtain ⟨v1, c1⟩ := hc 1 (by omega)
  obtain ⟨v2, c2⟩ := hc 2 (by omega)
  obtain ⟨v3, c3⟩ := hc 3 (by omega)
  obtain ⟨v4, c4⟩ := hc 4 (by omega)
  obtain ⟨v5, c5⟩ := hc 5 (by omega)
  have g0 := hf 0 (by omega)
  have g1 := hf 1 (by omega)
  have g2 := hf 2 (by omega)
  have g3 := hf 3 (by omega)
  have g4 := hf 4 (by omega)
  have g5 := hf 5 (by omega)
  rw [Nat.add_zero] at c0 g0
  have oth : ∀ (u : World) (b' k l : Nat) (v : Value), b' ≠ b ∨ k ≠ l → (u.setCell ⟨b, l, none⟩ v).cell? ⟨b', k, none⟩ = u.cell? ⟨b', k, none⟩ := fun u b' k l v h => by
    rw [World.cell?_setCell_other (h := by intro e; injection e; omega)]
  have oth2 : ∀ (u : World) (k l : Nat) (v : Value), k ≠ l → (u.setCell ⟨b, l, none⟩ v).cell? ⟨b, k, none⟩ = u.cell? ⟨b, k, none⟩ := fun u k l v h => oth u b k l v (Or.inr h)
  have k1 : (w.setCell ⟨b, o, none⟩ n0).cell? ⟨b, o + 1, none⟩ = some v1 := (oth2 _ _ _ _ (by omega)).trans c1
  have k2 : ((w.setCell ⟨b, o, none⟩ n0).setCell ⟨b, o + 1, none⟩ n1).cell? ⟨b, o + 2, none⟩ = some v2 := (oth2 _ _ _ _ (by omega)).trans ((oth2 _ _ _ _ (by omega)).trans c2)
  have k3 : (((w.setCell ⟨b, o, none⟩ n0).setCell ⟨b, o + 1, none⟩ n1).setCell ⟨b, o + 2, none⟩ n2).cell? ⟨b, o + 3, none⟩ = some v3 := (oth2 _ _ _ _ (by omega)).trans ((oth2 _ _ _ _ (by omega)).trans ((oth2 _ _ _ _ (by omega)).trans c3))
  have k4 : ((((w.setCell ⟨b, o, none⟩ n0).setCell ⟨b, o + 1, none⟩ n1).setCell ⟨b, o + 2, none⟩ n2).setCell ⟨b, o + 3, none⟩ n3).cell? ⟨b, o + 4, none⟩ = some v4 := (oth2 _ _ _ _ (by omega)).trans ((oth2 _ _ _ _ (by omega)).trans ((oth2 _ _ _ _ (by omega)).trans ((oth2 _ _ _ _ (by omega)).trans c4)))
  have k5 : (((((w.setCell ⟨b, o, none⟩ n0).setCell ⟨b, o + 1, none⟩ n1).setCell ⟨b, o + 2, none⟩ n2).setCell ⟨b, o + 3, none⟩ n3).setCell ⟨b, o + 4, none⟩ n4).cell? ⟨b, o + 5, none⟩ = some v5 := (oth2 _ _ _ _ (by omega)).trans ((oth2 _ _ _ _ (by omega)).trans ((oth2 _ _ _ _ (by omega)).trans ((oth2 _ _ _ _ (by omega)).trans ((oth2 _ _ _ _ (by omega)).trans c5))))
  refine ⟨_, _, _, _, _, _, v0, v1, v2, v3, v4, v5, ⟨c0, g0, rfl⟩, ⟨k1, ?_, rfl⟩, ⟨k2, ?_, rfl⟩, ⟨k3, ?_, rfl⟩, ⟨k4, ?_, rfl⟩, ⟨k5, ?_, rfl⟩, ?_⟩
  · rw [World.frozen?_setCell]; exact g1
  · rw [World.frozen?_setCell, World.frozen?_setCell]; exact g2
  · rw [World.frozen?_setCell, World.frozen?_setCell, World.frozen?_setCell]; exact g3
  · rw [World.frozen?_setCell, World.frozen?_setCell, World.frozen?_setCell, World.frozen?_setCell]; exact g4
  · rw [World.frozen?_setCell, World.frozen?_setCell, World.frozen?_setCell, World.frozen?_setCell, World.frozen?_setCell]; exact g5
  · refine ⟨?_, ?_, ?_, ?_, ?_, ?_, fun b' k h => ?_, fun p => ?_, ?_, fun lo a hlo hb => ?_⟩
    · rw [oth2 _ _ _ _ (by omega), oth2 _ _ _ _ (by omega), oth2 _ _ _ _ (by omega), oth2 _ _ _ _ (by omega), oth2 _ _ _ _ (by omega), World.cell?_setCell_same (h := c0)]
    · rw [oth2 _ _ _ _ (by omega), oth2 _ _ _ _ (by omega), oth2 _ _ _ _ (by omega), oth2 _ _ _ _ (by omega), World.cell?_setCell_same (h := k1)]
    · rw [oth2 _ _ _ _ (by omega), oth2 _ _ _ _ (by omega), oth2 _ _ _ _ (by omega), World.cell?_setCell_same (h := k2)]
    · rw [oth2 _ _ _ _ (by omega), oth2 _ _ _ _ (by omega), World.cell?_setCell_same (h := k3)]
    · rw [oth2 _ _ _ _ (by omega), World.cell?_setCell_same (h := k4)]
    · rw [World.cell?_setCell_same (h := k5)]
    · rw [oth _ _ _ _ _ (by omega), oth _ _ _ _ _ (by omega), oth _ _ _ _ _ (by omega), oth _ _ _ _ _ (by omega), oth _ _ _ _ _ (by omega), oth _ _ _ _ _ (by omega)]
    · rw [World.frozen?_setCell, World.frozen?_setCell, World.frozen?_setCell, World.frozen?_setCell, World.frozen?_setCell, World.frozen?_setCell]
    · simp only [setCell_size]
    · exact (((((hb.setCell (p := ⟨b, o, none⟩) hlo n0).setCell (p := ⟨b, o + 1, none⟩) hlo n1).setCell (p := ⟨b, o + 2, none⟩) hlo n2).setCell (p := ⟨b, o + 3, none⟩) hlo n3).setCell (p := ⟨b, o + 4, none⟩) hlo n4).setCell (p := ⟨b, o + 5, none⟩) hlo n5
end Go.Proofs.Ytlnglpjmfoigmaa
