/- Layer 17, the other text: what a size's value comes to. -/
import Derived.Test.YthfabalnioggcaaStyR2
import Derived.Test.YthfabalnioggcaaMsr
namespace Go.Proofs.Ythfabalnioggcaa
open Go.RowKit TreN LexP FixP SynP ValP PropP FixM Go.Sort
set_option linter.unusedVariables false

def w7L : List (List UInt8) := [[97, 117, 116, 111], [110, 111, 114, 109, 97, 108], [], [109, 105, 110, 45, 99, 111, 110, 116, 101, 110, 116], [109, 97, 120, 45, 99, 111, 110, 116, 101, 110, 116], [102, 105, 116, 45, 99, 111, 110, 116, 101, 110, 116], [110, 111, 110, 101]]
def sizK (k n : Int) : Int := if k = 2 then 1 else if k = 3 then 2 else if ix17 w7L (txtS k n) < 7 then (ix17 w7L (txtS k n) : Nat) else 4
def sizN (k n d : Int) (below : Bool) (font a b : Int) : Int := if k = 2 then (if below = true then measS k n d font a b else lst17 (measS k n d font a b)) else if k = 3 then n else 0
theorem size_fin {w W : World} {R : Nat} {x y : Int} {u v : Int} (hR : w.heap.size ≤ R) (hr : W.heap[R]? = some (.cells #[.int .i64 0, .int .i64 0] 23 (0, 0))) (hb : Below w.heap.size w W) (hu : u = x) (hv : v = y) (f : Act) (hf : f.tmps[10]? = some (.pointer (some ⟨R, 0, none⟩))) (hd : f.defers = []) :
    bodyPost Try.prog Try.f81 (fun e w' => e = .returned (.agg #[.int .i64 u, .int .i64 v]) ∧ Below w.heap.size w w') .ret f ((W.setCell ⟨R, 0, none⟩ (.int .i64 x)).setCell ⟨R, 1, none⟩ (.int .i64 y)) := by
  subst hu; subst hv
  have h1 := heap_setCell_same _ R 0 _ _ (.int .i64 u) hr
  have h2 : ((W.setCell ⟨R, 0, none⟩ (.int .i64 u)).setCell ⟨R, 1, none⟩ (.int .i64 v)).heap[R]? = some (.cells #[.int .i64 u, .int .i64 v] 23 (0, 0)) := heap_setCell_same _ R 1 _ _ (.int .i64 v) h1
  have y0 : ((W.setCell ⟨R, 0, none⟩ (.int .i64 u)).setCell ⟨R, 1, none⟩ (.int .i64 v)).cell? ⟨R, 0, none⟩ = some (.int .i64 u) := cell_of h2 rfl
  have y1 : ((W.setCell ⟨R, 0, none⟩ (.int .i64 u)).setCell ⟨R, 1, none⟩ (.int .i64 v)).cell? ⟨R, 1, none⟩ = some (.int .i64 v) := cell_of h2 rfl
  exact bodyPost_ret (v := .agg #[.int .i64 u, .int .i64 v]) (by simp [results, Try.results81, go_sem, hf, y0, y1]) hd ⟨rfl, (hb.setCell (p := ⟨R, 0, none⟩) hR _).setCell (p := ⟨R, 1, none⟩) hR _⟩
/-- a value's box and what is answered -/
structure Vz (w W : World) (R : Nat) (k n d : Int) (nm : List UInt8) : Prop where
  v : W.heap[w.heap.size]? = some (.cells #[.int .i64 k, .int .i64 n, .int .i64 d, .string ⟨nm.toArray⟩] 80 (0, 0))
  r : W.heap[R]? = some (.cells #[.int .i64 0, .int .i64 0] 23 (0, 0))
  bel : Below w.heap.size w W
theorem Vz.below {w W W' : World} {R : Nat} {k n d : Int} {nm : List UInt8} (h : Vz w W R k n d nm) (hb : Below W.heap.size W W') : Vz w W' R k n d nm :=
  ⟨(hb.block _ (Array.getElem?_eq_some_iff.1 h.v).1).trans h.v, (hb.block _ (Array.getElem?_eq_some_iff.1 h.r).1).trans h.r, h.bel.trans (hb.mono h.bel.size)⟩
structure Vzc (w W : World) (R : Nat) (k n d : Int) (nm : List UInt8) : Prop where
  v0 : W.cell? ⟨w.heap.size, 0, none⟩ = some (.int .i64 k)
  v1 : W.cell? ⟨w.heap.size, 1, none⟩ = some (.int .i64 n)
  v2 : W.cell? ⟨w.heap.size, 2, none⟩ = some (.int .i64 d)
  v3 : W.cell? ⟨w.heap.size, 3, none⟩ = some (.string ⟨nm.toArray⟩)
  r0 : W.cell? ⟨R, 0, none⟩ = some (.int .i64 0)
  r1 : W.cell? ⟨R, 1, none⟩ = some (.int .i64 0)
  e0 : W.frozen? ⟨R, 0, none⟩ = false
  e1 : W.frozen? ⟨R, 1, none⟩ = false
  l0 : w.heap.size < W.heap.size
  l1 : R < W.heap.size
theorem Vz.cells {w W : World} {R : Nat} {k n d : Int} {nm : List UInt8} (h : Vz w W R k n d nm) : Vzc w W R k n d nm :=
  ⟨cell_of h.v rfl, cell_of h.v rfl, cell_of h.v rfl, cell_of h.v rfl, cell_of h.r rfl, cell_of h.r rfl, unfrozen_of h.r, unfrozen_of h.r, (Array.getElem?_eq_some_iff.1 h.v).1, (Array.getElem?_eq_some_iff.1 h.r).1⟩

set_option maxRecDepth 100000 in
set_option maxHeartbeats 4000000 in
theorem Size17_num (k n d : Int) (below : Bool) (font a b : Int) (nm : List UInt8) (w : World) (hk : k = 2 ∨ k = 3) : Calls Try.prog 81 #[.agg #[.int .i64 k, .int .i64 n, .int .i64 d, .string ⟨nm.toArray⟩], .bool below, .int .i64 font, .int .i64 a, .int .i64 b] w fun e w' => e = .returned (.agg #[.int .i64 (sizK k n), .int .i64 (sizN k n d below font a b)]) ∧ Below w.heap.size w w' := by
  have hb0 : Below w.heap.size w (w.alloc (.cells #[.int .i64 k, .int .i64 n, .int .i64 d, .string ⟨nm.toArray⟩] 80)) := (Below.refl _ _).alloc (Nat.le_refl _) _
  have hx0 := heap_alloc_new w (.cells #[.int .i64 k, .int .i64 n, .int .i64 d, .string ⟨nm.toArray⟩] 80)
  have hs0 : (w.alloc (.cells #[.int .i64 k, .int .i64 n, .int .i64 d, .string ⟨nm.toArray⟩] 80)).heap.size = w.heap.size + 1 := by simp
  generalize hW0 : w.alloc (.cells #[.int .i64 k, .int .i64 n, .int .i64 d, .string ⟨nm.toArray⟩] 80) = W0 at *
  have hb1 : Below W0.heap.size W0 (W0.alloc (.cells #[.int .i64 0, .int .i64 0] 23)) := (Below.refl _ _).alloc (Nat.le_refl _) _
  have hx1 := heap_alloc_new W0 (.cells #[.int .i64 0, .int .i64 0] 23)
  generalize hW1 : W0.alloc (.cells #[.int .i64 0, .int .i64 0] 23) = W1 at *
  have hZ : Vz w W1 W0.heap.size k n d nm := ⟨(hb1.block _ (by rw [hs0]; omega)).trans hx0, hx1, hb0.trans (hb1.mono (by rw [hs0]; omega))⟩
  have HZ := Lib.hid hZ
  have HS0 : Hid (w.heap.size ≤ W0.heap.size) := Lib.hid (by rw [hs0]; omega)
  obtain ⟨v0, v1, v2, v3, r0, r1, e0, e1, l0, l1⟩ := hZ.cells
  have CM0 := fun W => refMeasure_any k n d font a b nm W
  obtain ⟨m, hm⟩ : ∃ m, measS k n d font a b = m := ⟨_, rfl⟩
  rw [hm] at CM0
  have CM := Lib.hid CM0
  have CL := Lib.hid (fun W => Least17_any m W)
  obtain ⟨u, hu⟩ : ∃ u, sizK k n = u := ⟨_, rfl⟩
  obtain ⟨v, hv⟩ : ∃ v, sizN k n d below font a b = v := ⟨_, rfl⟩
  rw [hu, hv]
  have HUV := Lib.hid (And.intro hu (And.intro hv hm))
  clear hb0 hx0 hb1 hx1 hZ CM0 hm hu hv hs0
  rcases hk with rfl | rfl
  · cases below
    · have HE : Hid (u = 1 ∧ v = lst17 m) := Lib.hid ⟨by rw [← HUV.out.1]; rfl, by rw [← HUV.out.2.1, ← HUV.out.2.2]; unfold sizN; rw [if_pos rfl, if_neg (by decide)]⟩
      go_enter Try.func81, Try.ntmps81
      go_wp2_with fail
      refine (CM.out _).mono ?_
      rintro e w2 ⟨rfl, hb⟩
      have HZ2 := Lib.hid (HZ.out.below hb)
      clear hb v0 v1 v2 v3 r0 r1 e0 e1 l0 l1
      obtain ⟨v0, v1, v2, v3, r0, r1, e0, e1, l0, l1⟩ := HZ2.out.cells
      go_wp2_with fail
      refine (CL.out _).mono ?_
      rintro e w' ⟨rfl, rfl⟩
      go_wp2_with fail
      exact size_fin HS0.out HZ2.out.r HZ2.out.bel HE.out.1 HE.out.2 _ rfl rfl
    · have HE : Hid (u = 1 ∧ v = m) := Lib.hid ⟨by rw [← HUV.out.1]; rfl, by rw [← HUV.out.2.1, ← HUV.out.2.2]; unfold sizN; rw [if_pos rfl, if_pos rfl]⟩
      go_enter Try.func81, Try.ntmps81
      go_wp2_with fail
      refine (CM.out _).mono ?_
      rintro e w2 ⟨rfl, hb⟩
      have HZ2 := Lib.hid (HZ.out.below hb)
      clear hb v0 v1 v2 v3 r0 r1 e0 e1 l0 l1
      obtain ⟨v0, v1, v2, v3, r0, r1, e0, e1, l0, l1⟩ := HZ2.out.cells
      go_wp2_with fail
      exact size_fin HS0.out HZ2.out.r HZ2.out.bel HE.out.1 HE.out.2 _ rfl rfl
  · have HE : Hid (u = 2 ∧ v = n) := Lib.hid ⟨by rw [← HUV.out.1]; rfl, by rw [← HUV.out.2.1]; rfl⟩
    go_enter Try.func81, Try.ntmps81
    go_wp2_with fail
    exact size_fin HS0.out HZ.out.r HZ.out.bel HE.out.1 HE.out.2 _ rfl rfl
end Go.Proofs.Ythfabalnioggcaa
