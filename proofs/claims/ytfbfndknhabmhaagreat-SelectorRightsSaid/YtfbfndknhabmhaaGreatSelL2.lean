/- Layer 7: SelectorSums: the walk. -/
import Derived.Test.YtfbfndknhabmhaaGreatSelKa
import Derived.Deep.RegionHeld3
namespace Go.Proofs.YtfbfndknhabmhaaGreat
open Go.RowKit TreN LexP FixP SynP ValP SelP FixM
set_option linter.unusedVariables false

/-- a box of three numbers in an old block -/
def BoxAt (w : World) (S : Nat) (x y z : Int) : Prop := w.heap[S]? = some (.cells #[.int .i64 x, .int .i64 y, .int .i64 z] 25 (0, 0))
theorem below_al {w w' : World} (h : Below w.heap.size w w') (ob : Obj) : Below w.heap.size w (w'.alloc ob) := h.alloc h.size _
theorem below_set3 {w w' : World} {S : Nat} (h : Below w.heap.size w w') (hS : w.heap.size ≤ S) (x y z : Value) : Below w.heap.size w (((w'.setCell ⟨S, 0, none⟩ x).setCell ⟨S, 1, none⟩ y).setCell ⟨S, 2, none⟩ z) :=
  ((h.setCell (p := ⟨S, 0, none⟩) hS _).setCell (p := ⟨S, 1, none⟩) hS _).setCell (p := ⟨S, 2, none⟩) hS _
theorem BoxAt.al {w : World} {S : Nat} {x y z : Int} (h : BoxAt w S x y z) (ob : Obj) : BoxAt (w.alloc ob) S x y z := ((below_one7 w ob).block S (Array.getElem?_eq_some_iff.1 h).1).trans h
theorem BoxAt.set {w : World} {S : Nat} {x y z : Int} (h : BoxAt w S x y z) (a b c : Int) : BoxAt (((w.setCell ⟨S, 0, none⟩ (.int .i64 a)).setCell ⟨S, 1, none⟩ (.int .i64 b)).setCell ⟨S, 2, none⟩ (.int .i64 c)) S a b c :=
  setCell_here (k := 2) (.int .i64 c) (setCell_here (k := 1) (.int .i64 b) (setCell_here (k := 0) (.int .i64 a) h))
theorem BoxAt.other {w : World} {S Z : Nat} {x y z : Int} (h : BoxAt w S x y z) (hne : S ≠ Z) (a b c : Value) : BoxAt (((w.setCell ⟨Z, 0, none⟩ a).setCell ⟨Z, 1, none⟩ b).setCell ⟨Z, 2, none⟩ c) S x y z := by
  unfold BoxAt
  rw [setCell_there _ hne, setCell_there _ hne, setCell_there _ hne]; exact h
/-- what a store of three numbers wants to know -/
theorem BoxAt.ready {w : World} {S : Nat} {x y z : Int} (h : BoxAt w S x y z) (a b : Int) :
    w.cell? ⟨S, 0, none⟩ = some (.int .i64 x) ∧ w.frozen? ⟨S, 0, none⟩ = false ∧ (w.setCell ⟨S, 0, none⟩ (.int .i64 a)).cell? ⟨S, 1, none⟩ = some (.int .i64 y) ∧ (w.setCell ⟨S, 0, none⟩ (.int .i64 a)).frozen? ⟨S, 1, none⟩ = false ∧ ((w.setCell ⟨S, 0, none⟩ (.int .i64 a)).setCell ⟨S, 1, none⟩ (.int .i64 b)).cell? ⟨S, 2, none⟩ = some (.int .i64 z) ∧ ((w.setCell ⟨S, 0, none⟩ (.int .i64 a)).setCell ⟨S, 1, none⟩ (.int .i64 b)).frozen? ⟨S, 2, none⟩ = false := by
  have h1 : (w.setCell ⟨S, 0, none⟩ (.int .i64 a)).heap[S]? = some (.cells #[.int .i64 a, .int .i64 y, .int .i64 z] 25 (0, 0)) := setCell_here (k := 0) (.int .i64 a) h
  have h2 : ((w.setCell ⟨S, 0, none⟩ (.int .i64 a)).setCell ⟨S, 1, none⟩ (.int .i64 b)).heap[S]? = some (.cells #[.int .i64 a, .int .i64 b, .int .i64 z] 25 (0, 0)) := setCell_here (k := 1) (.int .i64 b) h1
  exact ⟨cell_of h rfl, unfrozen_of h, cell_of h1 rfl, unfrozen_of h1, cell_of h2 rfl, unfrozen_of h2⟩
theorem BoxAt.old {w : World} {S : Nat} {x y z : Int} (h : BoxAt w S x y z) : S ≠ w.heap.size := Nat.ne_of_lt (Array.getElem?_eq_some_iff.1 h).1
theorem blk_box {W w : World} {S : Nat} {x y z : Int} (hb : Below W.heap.size W w) (h : BoxAt W S x y z) : BoxAt w S x y z := blk_keepS hb h
theorem box_made (X : World) (x y z : Int) : BoxAt (X.alloc (.cells #[.int .i64 x, .int .i64 y, .int .i64 z] 25)) X.heap.size x y z := heap_alloc_new X _
theorem box_one {X w : World} {x y z : Int} (hb : Below (X.alloc (.cells #[.int .i64 x, .int .i64 y, .int .i64 z] 25)).heap.size (X.alloc (.cells #[.int .i64 x, .int .i64 y, .int .i64 z] 25)) w) : BoxAt w X.heap.size x y z := blk_box hb (box_made X x y z)
theorem box_two {X w : World} {x y z x' y' z' : Int} (hb : Below ((X.alloc (.cells #[.int .i64 x, .int .i64 y, .int .i64 z] 25)).alloc (.cells #[.int .i64 x', .int .i64 y', .int .i64 z'] 25)).heap.size ((X.alloc (.cells #[.int .i64 x, .int .i64 y, .int .i64 z] 25)).alloc (.cells #[.int .i64 x', .int .i64 y', .int .i64 z'] 25)) w) : BoxAt w X.heap.size x y z ∧ BoxAt w (X.heap.size + 1) x' y' z' := by
  refine ⟨blk_box hb ((box_made X x y z).al _), ?_⟩
  have h := blk_box hb (box_made (X.alloc (.cells #[.int .i64 x, .int .i64 y, .int .i64 z] 25)) x' y' z')
  rwa [show (X.alloc (.cells #[.int .i64 x, .int .i64 y, .int .i64 z] 25)).heap.size = X.heap.size + 1 by simp] at h

theorem box_one_d {X w : World} {x y z : Int} (hb : Below (X.alloc (.cells #[.int .i64 x, .int .i64 y, .int .i64 z] 25)).drew.heap.size (X.alloc (.cells #[.int .i64 x, .int .i64 y, .int .i64 z] 25)).drew w) : BoxAt w X.heap.size x y z := box_one (X := X) ((Below.drew (Below.refl _ _)).trans hb)
theorem box_two_d {X w : World} {x y z x' y' z' : Int} (hb : Below ((X.alloc (.cells #[.int .i64 x, .int .i64 y, .int .i64 z] 25)).alloc (.cells #[.int .i64 x', .int .i64 y', .int .i64 z'] 25)).drew.heap.size ((X.alloc (.cells #[.int .i64 x, .int .i64 y, .int .i64 z] 25)).alloc (.cells #[.int .i64 x', .int .i64 y', .int .i64 z'] 25)).drew w) : BoxAt w X.heap.size x y z ∧ BoxAt w (X.heap.size + 1) x' y' z' := box_two (X := X) ((Below.drew (Below.refl _ _)).trans hb)
theorem box_made2 (X : World) (o : Obj) (x y z : Int) : BoxAt ((X.alloc o).alloc (.cells #[.int .i64 x, .int .i64 y, .int .i64 z] 25)) (X.heap.size + 1) x y z := by
  have h := box_made (X.alloc o) x y z
  rwa [show (X.alloc o).heap.size = X.heap.size + 1 by simp] at h

end Go.Proofs.YtfbfndknhabmhaaGreat
