/- The walk of layer 4's Graft where it refuses. -/
import Derived.Test.YtffelkillcboeaaTreW18
import Derived.Test.YtffelkillcboeaaTreW11
namespace Go.Proofs.Ytffelkillcboeaa
open Go.RowKit TreN TreP

/-- the boxes of Graft's i and m -/
def gbox (w : World) (i : Int) (ma : Option Addr) (m mc : Nat) : World := (w.alloc (.cells #[.int .i64 i] 3)).alloc (.cells #[.slice ma m mc] 25)
set_option maxRecDepth 100000 in
theorem gbox_below (w : World) (i : Int) (ma : Option Addr) (m mc : Nat) : Below w.heap.size w (gbox w i ma m mc) := ((Below.refl _ _).alloc (Nat.le_refl _) _).alloc (by simp) _
set_option maxRecDepth 100000 in
theorem gbox_size (w : World) (i : Int) (ma : Option Addr) (m mc : Nat) : (gbox w i ma m mc).heap.size = w.heap.size + 2 := by simp [gbox]
set_option maxRecDepth 100000 in
theorem gbox_i (w : World) (i : Int) (ma : Option Addr) (m mc : Nat) : (gbox w i ma m mc).cell? ⟨w.heap.size, 0, none⟩ = some (.int .i64 i) := by
  unfold gbox
  rw [World.cell?_alloc_past _ _ _ (by simp), World.cell?_alloc_at _ _ _ _ rfl]; rfl
set_option maxRecDepth 100000 in
theorem gbox_m (w : World) (i : Int) (ma : Option Addr) (m mc : Nat) : (gbox w i ma m mc).cell? ⟨w.heap.size + 1, 0, none⟩ = some (.slice ma m mc) := by
  unfold gbox
  rw [World.cell?_alloc_at _ _ _ _ (by simp)]; rfl

end Go.Proofs.Ytffelkillcboeaa
