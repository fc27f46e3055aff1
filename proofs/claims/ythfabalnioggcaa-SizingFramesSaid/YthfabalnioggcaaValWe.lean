/- Joined texts: ValW6 ValW7. -/
import Derived.Test.YthfabalnioggcaaValW2
import Derived.Test.YthfabalnioggcaaTokX
import Derived.BigRegion
namespace Go.Proofs.Ythfabalnioggcaa
open Go.RowKit TreN LexP FixP SynP ValP FixM
set_option linter.unusedVariables false

/-- x is w, but block b holds other cells -/
structure Put (w x : World) (b : Nat) (T : TypeId) (cur : Array Value) : Prop where
  here : x.heap[b]? = some (.cells cur T (0, 0))
  there : ∀ k, k ≠ b → x.heap[k]? = w.heap[k]?
  size : x.heap.size = w.heap.size
  below : ∀ (lo : Nat) (a : World), lo ≤ b → Below lo a w → Below lo a x
theorem Put.grown {w x : World} {b : Nat} {T : TypeId} {cur : Array Value} (h : Put w x b T cur) : w.grownBy x (some b) := by
  have h1 := h.below b w (Nat.le_refl _) (Below.refl _ _)
  exact ⟨h1.os, h1.tape, h1.output, h1.size, fun k hk hn => h.there k (fun e => hn (by rw [e]))⟩
theorem four_store (w : World) (b : Nat) (T : TypeId) (cur : Array Value) (o0 o1 o2 o3 : Nat) (n0 n1 n2 n3 : Value) (h : w.heap[b]? = some (.cells cur T (0, 0))) (h0 : o0 < cur.size) (h1 : o1 < cur.size) (h2 : o2 < cur.size) (h3 : o3 < cur.size) :
    ∃ x1 x2 x3 x4 v0 v1 v2 v3, (w.cell? ⟨b, o0, none⟩ = some v0 ∧ w.frozen? ⟨b, o0, none⟩ = false ∧ w.setCell ⟨b, o0, none⟩ n0 = x1) ∧
      (x1.cell? ⟨b, o1, none⟩ = some v1 ∧ x1.frozen? ⟨b, o1, none⟩ = false ∧ x1.setCell ⟨b, o1, none⟩ n1 = x2) ∧
      (x2.cell? ⟨b, o2, none⟩ = some v2 ∧ x2.frozen? ⟨b, o2, none⟩ = false ∧ x2.setCell ⟨b, o2, none⟩ n2 = x3) ∧
      (x3.cell? ⟨b, o3, none⟩ = some v3 ∧ x3.frozen? ⟨b, o3, none⟩ = false ∧ x3.setCell ⟨b, o3, none⟩ n3 = x4) ∧
      Put w x4 b T ((((cur.setIfInBounds o0 n0).setIfInBounds o1 n1).setIfInBounds o2 n2).setIfInBounds o3 n3) := by
  have g1 := setCell_here (k := o0) n0 h
  have g2 := setCell_here (k := o1) n1 g1
  have g3 := setCell_here (k := o2) n2 g2
  have g4 := setCell_here (k := o3) n3 g3
  refine ⟨_, _, _, _, cur[o0], (cur.setIfInBounds o0 n0)[o1]'(by simpa using h1), ((cur.setIfInBounds o0 n0).setIfInBounds o1 n1)[o2]'(by simpa using h2), (((cur.setIfInBounds o0 n0).setIfInBounds o1 n1).setIfInBounds o2 n2)[o3]'(by simpa using h3),
    ⟨cell_of h (by simp [h0]), unfrozen_of h, rfl⟩, ⟨cell_of g1 (by simp [h1]), unfrozen_of g1, rfl⟩, ⟨cell_of g2 (by simp [h2]), unfrozen_of g2, rfl⟩, ⟨cell_of g3 (by simp [h3]), unfrozen_of g3, rfl⟩, g4, fun k hk => ?_, ?_, fun lo a hlo hb => ?_⟩
  · rw [setCell_there _ hk, setCell_there _ hk, setCell_there _ hk, setCell_there _ hk]
  · simp only [setCell_size]
  · exact (((hb.setCell (p := ⟨b, o0, none⟩) hlo n0).setCell (p := ⟨b, o1, none⟩) hlo n1).setCell (p := ⟨b, o2, none⟩) hlo n2).setCell (p := ⟨b, o3, none⟩) hlo n3
/-- a value's cells -/
def vc (v : Val) : List Value := [.int .i64 v.kind, .int .i64 v.n, .int .i64 v.d, .string ⟨v.name.toArray⟩]
/-- how a token is told as a value -/
def AsCb (f : Nat) (g : Tok → Val) : Prop := ∀ (t : Tok) (W : World), Calls Try.prog f #[t.val] W fun e w' => e = .returned (valV (g t)) ∧ Below W.heap.size W w'

/-- a box, and behind it the block of an answer -/
theorem two_blocks (W w2 : World) (o z : Obj) (hb : Below ((W.alloc o).alloc z).heap.size ((W.alloc o).alloc z) w2) : w2.heap[W.heap.size]? = some o ∧ w2.heap[W.heap.size + 1]? = some z ∧ Below W.heap.size W w2 ∧ W.heap.size + 1 < w2.heap.size := by
  have h1 : ((W.alloc o).alloc z).heap[W.heap.size]? = some o := by rw [Below.heap_alloc _ _ _ (by simp)]; exact heap_alloc_new W _
  have h2 : ((W.alloc o).alloc z).heap[W.heap.size + 1]? = some z := by
    have := heap_alloc_new (W.alloc o) z
    simpa using this
  have hs := hb.size
  simp at hs
  exact ⟨(hb.block _ (by simp; omega)).trans h1, (hb.block _ (by simp)).trans h2, (((Below.refl _ _).alloc (Nat.le_refl _) _).alloc (by simp) _).trans (hb.mono (by simp; omega)), by omega⟩
theorem dim_facts {W V w2 : World} {o : Array Value} {tt : TypeId} {q n : Int} (h1 : V.heap[W.heap.size]? = some (.cells o tt (0, 0))) (h2 : V.heap[W.heap.size + 1]? = some (.cells #[.int .i64 0, .int .i64 0, .int .i64 0, .string ⟨#[]⟩] 80 (0, 0))) (h3 : Below W.heap.size W V) (hb : Below V.drew.heap.size V.drew w2) :
    w2.heap[W.heap.size]? = some (.cells o tt (0, 0)) ∧ ∃ x1 x2 x3 x4 v0 v1 v2 v3, (w2.cell? ⟨W.heap.size + 1, 0, none⟩ = some v0 ∧ w2.frozen? ⟨W.heap.size + 1, 0, none⟩ = false ∧ w2.setCell ⟨W.heap.size + 1, 0, none⟩ (.int .i64 2) = x1) ∧
      (x1.cell? ⟨W.heap.size + 1, 1, none⟩ = some v1 ∧ x1.frozen? ⟨W.heap.size + 1, 1, none⟩ = false ∧ x1.setCell ⟨W.heap.size + 1, 1, none⟩ (.int .i64 n) = x2) ∧
      (x2.cell? ⟨W.heap.size + 1, 2, none⟩ = some v2 ∧ x2.frozen? ⟨W.heap.size + 1, 2, none⟩ = false ∧ x2.setCell ⟨W.heap.size + 1, 2, none⟩ (.int .i64 q) = x3) ∧
      (x3.cell? ⟨W.heap.size + 1, 3, none⟩ = some v3 ∧ x3.frozen? ⟨W.heap.size + 1, 3, none⟩ = false ∧ x3.setCell ⟨W.heap.size + 1, 3, none⟩ (.string ⟨#[]⟩) = x4) ∧
      x4.cell? ⟨W.heap.size + 1, 0, none⟩ = some (.int .i64 2) ∧ x4.cell? ⟨W.heap.size + 1, 1, none⟩ = some (.int .i64 n) ∧ x4.cell? ⟨W.heap.size + 1, 2, none⟩ = some (.int .i64 q) ∧ x4.cell? ⟨W.heap.size + 1, 3, none⟩ = some (.string ⟨#[]⟩) ∧ Hid (Below W.heap.size W x4) := by
  have l1 : W.heap.size + 1 < V.heap.size := blk_lt9 h2
  have k1 : w2.heap[W.heap.size]? = some (.cells o tt (0, 0)) := (hb.block _ (by show _ < V.heap.size; omega)).trans h1
  have k2 : w2.heap[W.heap.size + 1]? = some (.cells #[.int .i64 0, .int .i64 0, .int .i64 0, .string ⟨#[]⟩] 80 (0, 0)) := (hb.block _ l1).trans h2
  have k3 : Below W.heap.size W w2 := h3.trans ((Below.refl _ _).drew.trans (hb.mono (by show _ ≤ V.heap.size; omega)))
  obtain ⟨x1, x2, x3, x4, v0, v1, v2, v3, a1, a2, a3, a4, h4⟩ := four_store w2 (W.heap.size + 1) 80 _ 0 1 2 3 (.int .i64 2) (.int .i64 n) (.int .i64 q) (.string ⟨#[]⟩) k2 (by decide) (by decide) (by decide) (by decide)
  exact ⟨k1, x1, x2, x3, x4, v0, v1, v2, v3, a1, a2, a3, a4, cell_of (k := 0) h4.here rfl, cell_of (k := 1) h4.here rfl, cell_of (k := 2) h4.here rfl, cell_of (k := 3) h4.here rfl, h4.below W.heap.size W (by omega) k3⟩
end Go.Proofs.Ythfabalnioggcaa

namespace Go.Proofs.Ythfabalnioggcaa
open Go.RowKit TreN LexP FixP SynP ValP FixM
set_option linter.unusedVariables false

theorem below_one9 (w : World) (o : Obj) : Below w.heap.size w (w.alloc o) := (Below.refl _ _).alloc (Nat.le_refl _) _
theorem valV_eq (v : Val) : valV v = .agg #[.int .i64 v.kind, .int .i64 v.n, .int .i64 v.d, .string ⟨v.name.toArray⟩] := rfl
/-- a cursor, what stands behind it told anew -/
theorem Cur.rest {w0 w x : World} {P : Nat} {T : TypeId} {v u : Val} {l : List Tok} {s : Value} (h : Cur w0 w P T (vc v) l) (hs : w.heap[P]? = some (.cells (s :: vc v).toArray T (0, 0))) (hp : Put w x P T (s :: vc u).toArray) : Cur w0 x P T (vc u) l := by
  obtain ⟨a, c, h1, h2, h3, h4⟩ := h.ex
  rw [hs] at h1
  injection h1 with h1; injection h1 with h1 _ _
  have e := congrArg (fun (x : Array Value) => x[0]?) h1
  simp at e
  subst e
  exact ⟨⟨a, c, hp.here, h2, h3, h4⟩, h.base, hp.below _ _ h.base h.bel⟩

end Go.Proofs.Ythfabalnioggcaa
