/- The walks of layer 4: is a node right? -/
import Derived.Test.YtjhhpilaaahicaaTreD
namespace Go.Proofs.Ytjhhpilaaahicaa
open Go.RowKit TreN TreP

/-- a node's cells, in a block of their own -/
def Box (w : World) (g : Nat) (n : Nd) : Prop :=
  w.cell? ⟨g, 0, none⟩ = some (.int .i64 n.par) ∧ w.cell? ⟨g, 1, none⟩ = some (.string n.tag) ∧ w.cell? ⟨g, 2, none⟩ = some (.string n.id) ∧
  w.cell? ⟨g, 3, none⟩ = some (.slice n.ca n.cl n.cc) ∧ w.cell? ⟨g, 4, none⟩ = some (.slice n.aa n.al n.ac) ∧ w.cell? ⟨g, 5, none⟩ = some (.string n.tx)
set_option maxRecDepth 100000 in
theorem Box.below {w w' : World} {g B : Nat} {n : Nd} (h : Box w g n) (hb : Below B w w') (hg : g < B) : Box w' g n := by
  obtain ⟨h0, h1, h2, h3, h4, h5⟩ := h
  refine ⟨?_, ?_, ?_, ?_, ?_, ?_⟩
  · rw [hb.cell (p := ⟨g, 0, none⟩) hg]; exact h0
  · rw [hb.cell (p := ⟨g, 1, none⟩) hg]; exact h1
  · rw [hb.cell (p := ⟨g, 2, none⟩) hg]; exact h2
  · rw [hb.cell (p := ⟨g, 3, none⟩) hg]; exact h3
  · rw [hb.cell (p := ⟨g, 4, none⟩) hg]; exact h4
  · rw [hb.cell (p := ⟨g, 5, none⟩) hg]; exact h5
def boxed (w : World) (n : Nd) : World := w.alloc (.cells #[.int .i64 n.par, .string n.tag, .string n.id, .slice n.ca n.cl n.cc, .slice n.aa n.al n.ac, .string n.tx] 85)
set_option maxRecDepth 100000 in
theorem boxed_box (w : World) (n : Nd) : Box (boxed w n) w.heap.size n := by
  unfold boxed
  refine ⟨?_, ?_, ?_, ?_, ?_, ?_⟩
  all_goals (rw [World.cell?_alloc_at _ _ _ _ rfl]; rfl)
set_option maxRecDepth 100000 in
theorem boxed_below (w : World) (n : Nd) : Below w.heap.size w (boxed w n) := (Below.refl _ _).alloc (Nat.le_refl _) _
set_option maxRecDepth 100000 in
theorem boxed_size (w : World) (n : Nd) : w.heap.size < (boxed w n).heap.size := by unfold boxed; simp
set_option maxRecDepth 100000 in
theorem Nd.val_eq (n : Nd) : n.val = #[.int .i64 n.par, .string n.tag, .string n.id, .slice n.ca n.cl n.cc, .slice n.aa n.al n.ac, .string n.tx] := rfl

set_option maxRecDepth 100000 in
theorem rightB_w (n : Nd) (h : emB n.tag = true) : rightB n = (textB n.tx && (emB n.id && (decide (n.cl = 0) && decide (n.al = 0)))) := by unfold rightB; rw [if_pos h]
set_option maxRecDepth 100000 in
theorem rightB_e (n : Nd) (h : emB n.tag = false) : rightB n = (nameB n.tag && ((emB n.id || nameB n.id) && (emB n.tx && mkB n))) := by unfold rightB; rw [if_neg (by rw [h]; decide)]

end Go.Proofs.Ytjhhpilaaahicaa
