/- Layer 21: a line in memory. -/
import Derived.Test.YtaegajlffiepoaaFlxW1
import Derived.Test.YtaegajlffiepoaaShaL5
import Derived.Test.YtaegajlffiepoaaShaW14
import Derived.Test.YtaegajlffiepoaaAppG
namespace Go.Proofs.Ytaegajlffiepoaa
open Go.RowKit FixM ShaD ShaM Go.Sort
set_option linter.unusedVariables false

theorem cell_ofF {w : World} {B k : Nat} {a : Array Value} {T : TypeId} {v : Value} (h : w.heap[B]? = some (.cells a T (0, 0))) (hv : a[k]? = some v) : w.cell? ⟨B, k, none⟩ = some v := by
  simp [World.cell?, h, hv]
theorem frz_ofF {w : World} {B k : Nat} {a : Array Value} {T : TypeId} (h : w.heap[B]? = some (.cells a T (0, 0))) : w.frozen? ⟨B, k, none⟩ = false := by
  simp [World.frozen?, h]
theorem blk_ltF {w : World} {B : Nat} {o : Obj} (h : w.heap[B]? = some o) : B < w.heap.size := (Array.getElem?_eq_some_iff.1 h).1
theorem cell_blk {w w' : World} {b : Nat} (h : w'.heap[b]? = w.heap[b]?) (k : Nat) : w'.cell? ⟨b, k, none⟩ = w.cell? ⟨b, k, none⟩ := by simp only [World.cell?, h]
theorem frz_blk {w w' : World} {b : Nat} (h : w'.heap[b]? = w.heap[b]?) (k : Nat) : w'.frozen? ⟨b, k, none⟩ = w.frozen? ⟨b, k, none⟩ := by simp only [World.frozen?, h]

/-- an item's seven cells -/
structure Seven (w : World) (b o : Nat) (t : It) : Prop where
  c0 : w.cell? ⟨b, o, none⟩ = some (.int .i64 t.b)
  c1 : w.cell? ⟨b, o + 1, none⟩ = some (.int .i64 t.l)
  c2 : w.cell? ⟨b, o + 2, none⟩ = some (.int .i64 t.m)
  c3 : w.cell? ⟨b, o + 3, none⟩ = some (.int .i64 t.g)
  c4 : w.cell? ⟨b, o + 4, none⟩ = some (.int .i64 t.i)
  c5 : w.cell? ⟨b, o + 5, none⟩ = some (.int .i64 t.gr)
  c6 : w.cell? ⟨b, o + 6, none⟩ = some (.int .i64 t.sh)
theorem Seven.blk {w w' : World} {b o : Nat} {t : It} (h : Seven w b o t) (e : w'.heap[b]? = w.heap[b]?) : Seven w' b o t :=
  ⟨(cell_blk e _).trans h.c0, (cell_blk e _).trans h.c1, (cell_blk e _).trans h.c2, (cell_blk e _).trans h.c3, (cell_blk e _).trans h.c4, (cell_blk e _).trans h.c5, (cell_blk e _).trans h.c6⟩
def ItR (w : World) (b o n : Nat) (L : Nat → It) : Prop := ∀ i, i < n → Seven w b (o + i * 7) (L i)
theorem ItR.blk {w w' : World} {b o n : Nat} {L : Nat → It} (h : ItR w b o n L) (e : w'.heap[b]? = w.heap[b]?) : ItR w' b o n L := fun i hi => (h i hi).blk e
theorem cell_lt {w : World} {b k : Nat} {v : Value} (h : w.cell? ⟨b, k, none⟩ = some v) : b < w.heap.size := World.block_lt_of_cell? w _ h
theorem ItR.lt {w : World} {b o n : Nat} {L : Nat → It} (h : ItR w b o n L) (hn : 0 < n) : b < w.heap.size := cell_lt (h 0 hn).c0
theorem row_blk {w w' : World} {b n : Nat} {f : Nat → Int} (h : Row w b n f) (e : w'.heap[b]? = w.heap[b]?) : Row w' b n f := fun i hi => ⟨(cell_blk e _).trans (h i hi).1, (frz_blk e _).trans (h i hi).2⟩

def inc21 (l : List Nat) : List Value := l.map fun (x : Nat) => Value.int .i64 (x : Int)
theorem inc21_length (l : List Nat) : (inc21 l).length = l.length := by simp [inc21]
theorem info_int21 : (Try.prog.info? 3).map (fun i => (i.zero, i.size, i.bytes)) = some (some (.int .i64 0), 1, 8) := by kernel_rfl

/-- what a step leaves as it was, under Bo: all but the line's block and its lengths -/
structure Kp (P bl Bo : Nat) (w w' : World) : Prop where
  size : w.heap.size ≤ w'.heap.size
  blk : ∀ b, b < Bo → b ≠ P → b ≠ bl → w'.heap[b]? = w.heap[b]?
theorem Kp.refl (P bl Bo : Nat) (w : World) : Kp P bl Bo w w := ⟨Nat.le_refl _, fun _ _ _ _ => rfl⟩
theorem Kp.trans {P bl Bo : Nat} {a b c : World} (h1 : Kp P bl Bo a b) (h2 : Kp P bl Bo b c) : Kp P bl Bo a c := ⟨Nat.le_trans h1.size h2.size, fun q h n1 n2 => (h2.blk q h n1 n2).trans (h1.blk q h n1 n2)⟩
theorem Kp.below {P bl Bo : Nat} {a b : World} (h : Below a.heap.size a b) (hB : Bo ≤ a.heap.size) : Kp P bl Bo a b := ⟨h.size, fun q hq _ _ => h.block q (by omega)⟩

/-- a line at P: its lengths at bl, its loose places at Bo or above -/
structure LnAt (w0 w : World) (P bl Bo n : Nat) (iv ov : Value) (L : Nat → It) (s : FSt) (first : Int) (fF fW : Nat) : Prop where
  blk : w.heap[P]? = some (.cells #[iv, .slice (some ⟨bl, 0, none⟩) n n, ov, .int .i64 s.free, .int .i64 first, .func (.func fF) #[] #[], .func (.func fW) #[] #[]] 47 (0, 0))
  its : n = 0 ∨ ∃ bi io ci, iv = .slice (some ⟨bi, io, none⟩) n ci ∧ ItR w bi io n L ∧ bi ≠ P ∧ bi ≠ bl ∧ bi < Bo
  len : Row w bl n s.len
  loo : w.ownsRow Bo 3 1 ov s.loose.length (inc21 s.loose)
  bel : Below w0.heap.size w0 w
  p0 : w0.heap.size ≤ P
  l0 : w0.heap.size ≤ bl
  pB : P < Bo
  lB : bl < Bo
  ne : bl ≠ P
  bB : Bo ≤ w.heap.size
theorem LnAt.below {w0 w w' : World} {P bl Bo n : Nat} {iv ov : Value} {L : Nat → It} {s : FSt} {first : Int} {fF fW : Nat} (h : LnAt w0 w P bl Bo n iv ov L s first fF fW) (hb : Below w.heap.size w w') : LnAt w0 w' P bl Bo n iv ov L s first fF fW := by
  refine ⟨(hb.block _ (blk_ltF h.blk)).trans h.blk, ?_, ?_, rowA_below h.loo hb, h.bel.trans (hb.mono h.bel.size), h.p0, h.l0, h.pB, h.lB, h.ne, Nat.le_trans h.bB hb.size⟩
  · rcases h.its with e | ⟨bi, io, ci, e, hi, n1, n2, n3⟩
    · exact Or.inl e
    · exact Or.inr ⟨bi, io, ci, e, hi.blk (hb.block _ (by have := h.bB; omega)), n1, n2, n3⟩
  · exact row_blk h.len (hb.block _ (by have := h.lB; have := h.bB; omega))
theorem LnAt.drew {w0 w : World} {P bl Bo n : Nat} {iv ov : Value} {L : Nat → It} {s : FSt} {first : Int} {fF fW : Nat} (h : LnAt w0 w P bl Bo n iv ov L s first fF fW) : LnAt w0 w.drew P bl Bo n iv ov L s first fF fW := h.below (Below.drew (Below.refl _ _))
/-- an item more is frozen -/
theorem LnAt.frz {w0 w : World} {P bl Bo n : Nat} {iv ov : Value} {L : Nat → It} {s : FSt} {first : Int} {fF fW : Nat} (h : LnAt w0 w P bl Bo n iv ov L s first fF fW) (B : Nat → Int) (i : Nat) (x : Int) (hi : i < n) :
    LnAt w0 ((w.setCell ⟨bl, i, none⟩ (.int .i64 x)).setCell ⟨P, 3, none⟩ (.int .i64 (s.free + (B i - x)))) P bl Bo n iv ov L (frz B s i x) first fF fW ∧ Kp P bl Bo w ((w.setCell ⟨bl, i, none⟩ (.int .i64 x)).setCell ⟨P, 3, none⟩ (.int .i64 (s.free + (B i - x)))) := by
  have hP : (w.setCell ⟨bl, i, none⟩ (.int .i64 x)).heap[P]? = w.heap[P]? := heap_setCell_other _ _ _ _ (by have := h.ne; show P ≠ bl; omega)
  have hoth : ∀ b, b ≠ P → b ≠ bl → ((w.setCell ⟨bl, i, none⟩ (.int .i64 x)).setCell ⟨P, 3, none⟩ (.int .i64 (s.free + (B i - x)))).heap[b]? = w.heap[b]? := fun b n1 n2 => by
    rw [heap_setCell_other _ _ _ _ n1, heap_setCell_other _ _ _ _ n2]
  have hsz : ((w.setCell ⟨bl, i, none⟩ (.int .i64 x)).setCell ⟨P, 3, none⟩ (.int .i64 (s.free + (B i - x)))).heap.size = w.heap.size := by simp
  refine ⟨⟨?_, ?_, ?_, ?_, ?_, h.p0, h.l0, h.pB, h.lB, h.ne, by rw [hsz]; exact h.bB⟩, ⟨by rw [hsz]; exact Nat.le_refl _, fun b _ n1 n2 => hoth b n1 n2⟩⟩
  · rw [heap_setCell_same _ P 3 _ _ _ (hP.trans h.blk)]; rfl
  · rcases h.its with e | ⟨bi, io, ci, e, hi2, n1, n2, n3⟩
    · exact Or.inl e
    · exact Or.inr ⟨bi, io, ci, e, hi2.blk (hoth _ n1 n2), n1, n2, n3⟩
  · exact (h.len.set hi x).other (b' := P) (k := 3) (fun e => h.ne e.symm) _
  · exact ownsRow_setCell_below (ownsRow_setCell_below h.loo (by exact h.lB) _) (by exact h.pB) _
  · exact (h.bel.setCell (p := ⟨bl, i, none⟩) h.l0 _).setCell (p := ⟨P, 3, none⟩) h.p0 _
theorem put21 (Bo : Nat) (v : Value) (xs : List Nat) (x : Nat) (W : World) (hK : Bo ≤ W.heap.size) (hx : xs.length ≤ 200000) (h : W.ownsRow Bo 3 1 v xs.length (inc21 xs)) :
    ∃ v' w', (Builtin.append_ #[25, 25] 25 #[v, .slice (some ⟨W.heap.size, 0, none⟩) 1 1]).run Try.prog (W.alloc (.cells #[.int .i64 (x : Int)] 3)) = .ok v' w' ∧ w'.ownsRow Bo 3 1 v' (xs ++ [x]).length (inc21 (xs ++ [x])) ∧ (W.alloc (.cells #[.int .i64 (x : Int)] 3)).grownBy w' v.ownBlock := by
  obtain ⟨i, hi, hz0, hz1, hz2⟩ := info_parts info_int21
  obtain ⟨v', w', r1, r2, r3, r4⟩ := app_cellsA 25 3 i _ 1 8 Try.underlying25 hi hz0 hz1 hz2 rfl (by decide) Bo v xs.length (inc21 xs) (some ⟨W.heap.size, 0, none⟩) 1 1 [.int .i64 (x : Int)] (W.alloc (.cells #[.int .i64 (x : Int)] 3)) (by simp; omega) (World.ownsRow.alloc h _) rfl (Or.inr ⟨_, rfl, World.news_of_block (heap_alloc_new W _)⟩) (by intro u hu; simp only [List.mem_singleton] at hu; subst hu; rfl) (by unfold maxLen; omega) (by omega)
  refine ⟨v', w', r1, ?_, r4⟩
  rw [List.length_append]
  unfold inc21 at r2 ⊢
  rw [List.map_append]
  exact r2
/-- an item more stays loose -/
theorem LnAt.stay {w0 w w5 : World} {P bl Bo n : Nat} {iv ov v5 : Value} {L : Nat → It} {s : FSt} {first : Int} {fF fW : Nat} (h : LnAt w0 w P bl Bo n iv ov L s first fF fW) (x : Nat)
    (h5 : w5.ownsRow Bo 3 1 v5 (s.loose ++ [x]).length (inc21 (s.loose ++ [x]))) (hg5 : (w.alloc (.cells #[.int .i64 (x : Int)] 3)).grownBy w5 ov.ownBlock) :
    w5.heap[P]? = w.heap[P]? ∧ LnAt w0 (w5.setCell ⟨P, 2, none⟩ v5) P bl Bo n iv v5 L (stay s x) first fF fW ∧ Kp P bl Bo w (w5.setCell ⟨P, 2, none⟩ v5) := by
  have hrow : ∀ q, ov.ownBlock = some q → Bo ≤ q ∧ q < w.heap.size := fun q hq => World.ownsRow.lt h.loo q hq
  have hk5 : ∀ b, b < Bo → w5.heap[b]? = w.heap[b]? := fun b hb => by
    have h1 : b < w.heap.size := by have := h.bB; omega
    rw [hg5.block b (by simp; omega) (fun e => by have := hrow b e.symm; omega), Below.heap_alloc _ _ _ h1]
  have hP := hk5 P h.pB
  have hoth : ∀ b, b < Bo → b ≠ P → (w5.setCell ⟨P, 2, none⟩ v5).heap[b]? = w.heap[b]? := fun b hb n1 => by
    rw [heap_setCell_other _ _ _ _ n1]; exact hk5 b hb
  have hb5 : Below w0.heap.size w0 w5 := (h.bel.alloc h.bel.size _).grown hg5 (by have := h.bel.size; simp; omega) (fun q hq => by have := hrow q hq; have := h.p0; have := h.pB; omega)
  have hs5 : w.heap.size ≤ w5.heap.size := by have := hg5.size; simp at this; omega
  have hsz : (w5.setCell ⟨P, 2, none⟩ v5).heap.size = w5.heap.size := by simp
  refine ⟨hP, ⟨?_, ?_, ?_, ?_, hb5.setCell (p := ⟨P, 2, none⟩) h.p0 _, h.p0, h.l0, h.pB, h.lB, h.ne, by rw [hsz]; have := h.bB; omega⟩, ⟨by rw [hsz]; exact hs5, fun b hb n1 _ => hoth b hb n1⟩⟩
  · rw [heap_setCell_same _ P 2 _ _ _ (hP.trans h.blk)]; rfl
  · rcases h.its with e | ⟨bi, io, ci, e, hi2, n1, n2, n3⟩
    · exact Or.inl e
    · exact Or.inr ⟨bi, io, ci, e, hi2.blk (hoth _ n3 n1), n1, n2, n3⟩
  · exact row_blk h.len (hoth _ h.lB h.ne)
  · exact ownsRow_setCell_below h5 (by exact h.pB) _
end Go.Proofs.Ytaegajlffiepoaa
