/- The walks of layer 21: a round. -/
import Derived.Test.YtaegajlffiepoaaFlxW3
import Derived.Test.YtaegajlffiepoaaFlxQ
namespace Go.Proofs.Ytaegajlffiepoaa
open Go.RowKit FixM ShaD ShaM Go.Sort
set_option linter.unusedVariables false

/-- a row that was written, as a list that is read -/
theorem Lst_rowF {w : World} {S n : Nat} {f : Nat → Int} (h : Row w S n f) : Lst w (some ⟨S, 0, none⟩) ((List.range n).map f) := by
  by_cases hn : n = 0
  · subst hn; exact Or.inl rfl
  · refine Or.inr ⟨S, 0, rfl, Row_lt h (by omega), fun i hi => ?_⟩
    have hi' : i < n := by simpa using hi
    rw [Nat.zero_add, (h i hi').1]
    simp [List.getD, hi']
theorem len_rowF (n : Nat) (f : Nat → Int) : ((List.range n).map f).length = n := by simp

theorem info_trial : (Try.prog.info? 61).map (fun i => (i.zero, i.size, i.bytes)) = some (some (.agg #[.int .i64 0, .int .i64 0, .int .i64 0]), 3, 24) := by kernel_rfl
def mkT (w : World) (n : Nat) : World := w.alloc (.cells (madeCells #[.int .i64 0, .int .i64 0, .int .i64 0] (n * 3)) 61)
theorem make_trials (n : Nat) (h : n ≤ 1000) (u : World) : (Instr.makeSlice 58 (.int .i64 (n : Int)) (.int .i64 (n : Int))).run Try.prog u = .ok (.slice (some ⟨u.heap.size, 0, none⟩) n n) (mkT u n) := by
  obtain ⟨i0, hi, hz0, hz1, hz2⟩ := info_parts info_trial
  have h := run_make (P := Try.prog) u 58 61 i0 _ Try.underlying58 hi hz0 .i64 .i64 (n : Int) (n : Int) (by omega) (Int.le_refl _) (by rw [hz2]; omega) (by omega)
  simpa [hz1, Value.cells, mkT] using h

/-- the row of trials, the first k of them told -/
structure Tri (w : World) (S j : Nat) (told : Prop) (x : Nat × Int × Int) : Prop where
  ex : ∃ a b c, w.cell? ⟨S, j * 3, none⟩ = some a ∧ w.cell? ⟨S, j * 3 + 1, none⟩ = some b ∧ w.cell? ⟨S, j * 3 + 2, none⟩ = some c ∧ (told → a = .int .i64 (x.1 : Int) ∧ b = .int .i64 x.2.1 ∧ c = .int .i64 x.2.2)
  f0 : w.frozen? ⟨S, j * 3, none⟩ = false
  f1 : w.frozen? ⟨S, j * 3 + 1, none⟩ = false
  f2 : w.frozen? ⟨S, j * 3 + 2, none⟩ = false
def TrR (w : World) (S m k : Nat) (f : Nat → Nat × Int × Int) : Prop := ∀ j, j < m → Tri w S j (j < k) (f j)
theorem TrR.blk {w w' : World} {S m k : Nat} {f : Nat → Nat × Int × Int} (h : TrR w S m k f) (e : w'.heap[S]? = w.heap[S]?) : TrR w' S m k f := fun j hj => by
  obtain ⟨⟨a, b, c, h0, h1, h2, h3⟩, f0, f1, f2⟩ := h j hj
  exact ⟨⟨a, b, c, (cell_blk e _).trans h0, (cell_blk e _).trans h1, (cell_blk e _).trans h2, h3⟩, (frz_blk e _).trans f0, (frz_blk e _).trans f1, (frz_blk e _).trans f2⟩
theorem TrR.start (w : World) (m : Nat) (f : Nat → Nat × Int × Int) : TrR (mkT w m) w.heap.size m 0 f := by
  have hb := heap_alloc_new w (.cells (madeCells #[.int .i64 0, .int .i64 0, .int .i64 0] (m * 3)) 61)
  have hc : ∀ j, j < m * 3 → ∃ a, (mkT w m).cell? ⟨w.heap.size, j, none⟩ = some a := fun j hj => by
    have hz : j < (madeCells #[Value.int .i64 0, .int .i64 0, .int .i64 0] (m * 3)).size := by rw [size_madeCells]; exact hj
    exact ⟨_, cell_ofF hb (Array.getElem?_eq_getElem hz)⟩
  intro j hj
  obtain ⟨a, h0⟩ := hc (j * 3) (by omega)
  obtain ⟨b, h1⟩ := hc (j * 3 + 1) (by omega)
  obtain ⟨c, h2⟩ := hc (j * 3 + 2) (by omega)
  exact ⟨⟨a, b, c, h0, h1, h2, fun h => by omega⟩, frz_ofF hb, frz_ofF hb, frz_ofF hb⟩
theorem set_tri (w : World) (S k o : Nat) (v0 v1 v2 : Value) (h0 : ∃ a, w.cell? ⟨S, k, none⟩ = some a) (h1 : ∃ a, w.cell? ⟨S, k + 1, none⟩ = some a) (h2 : ∃ a, w.cell? ⟨S, k + 2, none⟩ = some a) :
    (((w.setCell ⟨S, k, none⟩ v0).setCell ⟨S, k + 1, none⟩ v1).setCell ⟨S, k + 2, none⟩ v2).cell? ⟨S, o, none⟩ = if o = k then some v0 else if o = k + 1 then some v1 else if o = k + 2 then some v2 else w.cell? ⟨S, o, none⟩ := by
  obtain ⟨a0, h0⟩ := h0
  obtain ⟨a1, h1⟩ := h1
  obtain ⟨a2, h2⟩ := h2
  have g1 : (w.setCell ⟨S, k, none⟩ v0).cell? ⟨S, k + 1, none⟩ = some a1 := by rw [World.cell?_setCell_other (h := by intro e; injection e; omega)]; exact h1
  have g2 : ((w.setCell ⟨S, k, none⟩ v0).setCell ⟨S, k + 1, none⟩ v1).cell? ⟨S, k + 2, none⟩ = some a2 := by
    rw [World.cell?_setCell_other (h := by intro e; injection e; omega), World.cell?_setCell_other (h := by intro e; injection e; omega)]; exact h2
  by_cases e2 : o = k + 2
  · subst e2
    rw [World.cell?_setCell_same (h := g2), if_neg (by omega), if_neg (by omega), if_pos rfl]
  · rw [World.cell?_setCell_other (h := by intro e; injection e; omega)]
    by_cases e1 : o = k + 1
    · subst e1
      rw [World.cell?_setCell_same (h := g1), if_neg (by omega), if_pos rfl]
    · rw [World.cell?_setCell_other (h := by intro e; injection e; omega)]
      by_cases e0 : o = k
      · subst e0
        rw [World.cell?_setCell_same (h := h0), if_pos rfl]
      · rw [World.cell?_setCell_other (h := by intro e; injection e; omega), if_neg e0, if_neg e1, if_neg e2]
theorem TrR.put {w : World} {S m k : Nat} {f : Nat → Nat × Int × Int} (h : TrR w S m k f) (hk : k < m) :
    TrR (((w.setCell ⟨S, k * 3, none⟩ (.int .i64 ((f k).1 : Int))).setCell ⟨S, k * 3 + 1, none⟩ (.int .i64 (f k).2.1)).setCell ⟨S, k * 3 + 2, none⟩ (.int .i64 (f k).2.2)) S m (k + 1) f := by
  obtain ⟨⟨a, b, c, h0, h1, h2, _⟩, _, _, _⟩ := h k hk
  have hs := fun o => set_tri w S (k * 3) o (.int .i64 ((f k).1 : Int)) (.int .i64 (f k).2.1) (.int .i64 (f k).2.2) ⟨a, h0⟩ ⟨b, h1⟩ ⟨c, h2⟩
  intro j hj
  obtain ⟨⟨a', b', c', g0, g1, g2, g3⟩, f0, f1, f2⟩ := h j hj
  refine ⟨?_, by rw [World.frozen?_setCell, World.frozen?_setCell, World.frozen?_setCell]; exact f0, by rw [World.frozen?_setCell, World.frozen?_setCell, World.frozen?_setCell]; exact f1, by rw [World.frozen?_setCell, World.frozen?_setCell, World.frozen?_setCell]; exact f2⟩
  by_cases e : j = k
  · subst e
    refine ⟨.int .i64 ((f j).1 : Int), .int .i64 (f j).2.1, .int .i64 (f j).2.2, ?_, ?_, ?_, fun _ => ⟨rfl, rfl, rfl⟩⟩
    · rw [hs, if_pos rfl]
    · rw [hs, if_neg (by omega), if_pos rfl]
    · rw [hs, if_neg (by omega), if_neg (by omega), if_pos rfl]
  · refine ⟨a', b', c', ?_, ?_, ?_, fun h => g3 (by omega)⟩
    · rw [hs, if_neg (by omega), if_neg (by omega), if_neg (by omega)]; exact g0
    · rw [hs, if_neg (by omega), if_neg (by omega), if_neg (by omega)]; exact g1
    · rw [hs, if_neg (by omega), if_neg (by omega), if_neg (by omega)]; exact g2
/-- no place is loose any more -/
theorem LnAt.clear {w0 w : World} {P bl Bo n : Nat} {iv ov : Value} {L : Nat → It} {s : FSt} {first : Int} {fF fW : Nat} (h : LnAt w0 w P bl Bo n iv ov L s first fF fW) :
    LnAt w0 (w.setCell ⟨P, 2, none⟩ (.slice none 0 0)) P bl w.heap.size n iv (.slice none 0 0) L ⟨s.len, [], s.free⟩ first fF fW := by
  have hoth : ∀ b, b ≠ P → (w.setCell ⟨P, 2, none⟩ (.slice none 0 0)).heap[b]? = w.heap[b]? := fun b n1 => heap_setCell_other _ _ _ _ n1
  have hB := h.bB
  have h1 := h.pB
  have h2 := h.lB
  refine ⟨?_, ?_, row_blk h.len (hoth _ h.ne), ⟨rfl, Or.inl ⟨rfl, rfl⟩⟩, h.bel.setCell (p := ⟨P, 2, none⟩) h.p0 _, h.p0, h.l0, by omega, by omega, h.ne, by simp⟩
  · rw [heap_setCell_same _ P 2 _ _ _ h.blk]; rfl
  · rcases h.its with e | ⟨bi, io, ci, e, hi2, n1, n2, n3⟩
    · exact Or.inl e
    · exact Or.inr ⟨bi, io, ci, e, hi2.blk (hoth _ n1), n1, n2, by omega⟩
end Go.Proofs.Ytaegajlffiepoaa
