/- Layer 21: the line of some items, while it is made. -/
import Derived.Test.YtaegajlffiepoaaFlxW5
namespace Go.Proofs.Ytaegajlffiepoaa
open Go.RowKit FixM ShaD ShaM Go.Sort
set_option linter.unusedVariables false

/-- a list of items that came in -/
def ItA (w : World) (a : Option Addr) (n : Nat) (L : Nat → It) : Prop := n = 0 ∨ ∃ b off, a = some ⟨b, off, none⟩ ∧ b < w.heap.size ∧ ItR w b off n L
theorem ItA.below {w w' : World} {a : Option Addr} {n : Nat} {L : Nat → It} (h : ItA w a n L) (hb : Below w.heap.size w w') : ItA w' a n L := by
  rcases h with h | ⟨b, off, e, hl, hi⟩
  · exact Or.inl h
  · exact Or.inr ⟨b, off, e, Nat.lt_of_lt_of_le hl hb.size, hi.blk (hb.block b hl)⟩

def itc (t : It) : List Value := [.int .i64 t.b, .int .i64 t.l, .int .i64 t.m, .int .i64 t.g, .int .i64 t.i, .int .i64 t.gr, .int .i64 t.sh]
def itcs (L : Nat → It) : Nat → List Value
  | 0 => []
  | k + 1 => itcs L k ++ itc (L k)
theorem itcs_length (L : Nat → It) : ∀ k, (itcs L k).length = k * 7
  | 0 => rfl
  | k + 1 => by simp [itcs, itcs_length L k, itc]; omega
theorem itcs_get (L : Nat → It) (j : Nat) (hj : j < 7) (i : Nat) : ∀ k, i < k → (itcs L k)[i * 7 + j]? = (itc (L i))[j]?
  | 0, h => by omega
  | k + 1, h => by
    simp only [itcs]
    by_cases c : i = k
    · subst c
      rw [List.getElem?_append_right (by rw [itcs_length]; omega), itcs_length]
      congr 1; omega
    · rw [List.getElem?_append_left (by rw [itcs_length]; omega)]
      exact itcs_get L j hj i k (by omega)

/-- the line while items are put into it -/
structure LnB (w0 w : World) (P bl n : Nat) (iv : Value) (L : Nat → It) (k : Nat) (fr : Int) : Prop where
  blk : w.heap[P]? = some (.cells #[iv, .slice (some ⟨bl, 0, none⟩) n n, .slice none 0 0, .int .i64 fr, .int .i64 0, .nilFunc, .nilFunc] 47 (0, 0))
  own : w.ownsRow (P + 1) 34 7 iv k (itcs L k)
  nil : k = 0 → iv = .slice none 0 0
  len : Row w bl n (fun _ => 0)
  bel : Below w0.heap.size w0 w
  p0 : w0.heap.size ≤ P
  l0 : w0.heap.size ≤ bl
  lt : bl < P
  bB : P + 1 ≤ w.heap.size
theorem LnB.below {w0 w w' : World} {P bl n : Nat} {iv : Value} {L : Nat → It} {k : Nat} {fr : Int} (h : LnB w0 w P bl n iv L k fr) (hb : Below w.heap.size w w') : LnB w0 w' P bl n iv L k fr :=
  ⟨(hb.block _ (blk_ltF h.blk)).trans h.blk, rowA_below h.own hb, h.nil, row_blk h.len (hb.block _ (by have := h.lt; have := h.bB; omega)), h.bel.trans (hb.mono h.bel.size), h.p0, h.l0, h.lt, Nat.le_trans h.bB hb.size⟩
theorem LnB.drew {w0 w : World} {P bl n : Nat} {iv : Value} {L : Nat → It} {k : Nat} {fr : Int} (h : LnB w0 w P bl n iv L k fr) : LnB w0 w.drew P bl n iv L k fr := h.below (Below.drew (Below.refl _ _))
theorem LnB.start (w : World) (n : Nat) (L : Nat → It) (F : Int) (u : World) (hu : Below w.heap.size w u) (hz : u.heap.size = w.heap.size) :
    LnB w ((mk0 u n).alloc (.cells #[.slice none 0 0, .slice (some ⟨w.heap.size, 0, none⟩) n n, .slice none 0 0, .int .i64 F, .int .i64 0, .nilFunc, .nilFunc] 47)) (w.heap.size + 1) w.heap.size n (.slice none 0 0) L 0 F := by
  have zm : (mk0 u n).heap.size = w.heap.size + 1 := by unfold mk0; simp [hz]
  have hb := heap_alloc_new (mk0 u n) (.cells #[.slice none 0 0, .slice (some ⟨w.heap.size, 0, none⟩) n n, .slice none 0 0, .int .i64 F, .int .i64 0, .nilFunc, .nilFunc] 47)
  rw [zm] at hb
  have hr : Row (mk0 u n) w.heap.size n (fun _ => 0) := by have := row_mk0 u n; rwa [hz] at this
  have hbel : Below w.heap.size w (mk0 u n) := hu.trans ((below_mk0 u n).mono (by omega))
  refine ⟨hb, ⟨rfl, Or.inl ⟨rfl, rfl⟩⟩, fun _ => rfl, row_blk hr (Below.heap_alloc _ _ _ (by omega)), hbel.alloc (by omega) _, by omega, Nat.le_refl _, by omega, by simp [zm]⟩
theorem info_item21 : (Try.prog.info? 34).map (fun i => (i.zero, i.size, i.bytes)) = some (some (.agg #[.int .i64 0, .int .i64 0, .int .i64 0, .int .i64 0, .int .i64 0, .int .i64 0, .int .i64 0]), 7, 56) := by kernel_rfl
theorem putIt (B : Nat) (v : Value) (L : Nat → It) (k : Nat) (W : World) (hK : B ≤ W.heap.size) (hx : k ≤ 200000) (h : W.ownsRow B 34 7 v k (itcs L k)) :
    ∃ g c w', (Builtin.append_ #[22, 22] 22 #[v, .slice (some ⟨W.heap.size, 0, none⟩) 1 1]).run Try.prog (W.alloc (.cells (itc (L k)).toArray 34)) = .ok (.slice (some ⟨g, 0, none⟩) (k + 1) c) w' ∧ w'.ownsRow B 34 7 (.slice (some ⟨g, 0, none⟩) (k + 1) c) (k + 1) (itcs L (k + 1)) ∧ (W.alloc (.cells (itc (L k)).toArray 34)).grownBy w' v.ownBlock := by
  obtain ⟨i, hi, hz0, hz1, hz2⟩ := info_parts info_item21
  obtain ⟨v', w', r1, r2, r3, r4⟩ := app_cellsA 22 34 i _ 7 56 Try.underlying22 hi hz0 hz1 hz2 rfl (by decide) B v k (itcs L k) (some ⟨W.heap.size, 0, none⟩) 1 1 (itc (L k)) (W.alloc (.cells (itc (L k)).toArray 34)) (by simp; omega) (World.ownsRow.alloc h _) rfl (Or.inr ⟨_, rfl, World.news_of_block (heap_alloc_new W _)⟩) (by intro u hu; simp only [itc, List.mem_cons, List.not_mem_nil, or_false] at hu; rcases hu with rfl | rfl | rfl | rfl | rfl | rfl | rfl <;> rfl) (by unfold maxLen; omega) (by omega)
  obtain ⟨g, c, hv, _, _⟩ := r2.form (by omega)
  subst hv
  exact ⟨g, c, w', r1, r2, r4⟩
/-- an item more -/
theorem LnB.push {w0 w w5 : World} {P bl n : Nat} {iv v5 : Value} {L : Nat → It} {k : Nat} {fr : Int} (h : LnB w0 w P bl n iv L k fr)
    (h5 : w5.ownsRow (P + 1) 34 7 v5 (k + 1) (itcs L (k + 1))) (hg5 : (w.alloc (.cells (itc (L k)).toArray 34)).grownBy w5 iv.ownBlock) :
    (∀ b, b < P + 1 → w5.heap[b]? = w.heap[b]?) ∧ LnB w0 (w5.setCell ⟨P, 0, none⟩ v5) P bl n v5 L (k + 1) fr ∧ (∀ b, b < w.heap.size → b ≠ P → (∀ q, iv.ownBlock = some q → b ≠ q) → (w5.setCell ⟨P, 0, none⟩ v5).heap[b]? = w.heap[b]?) := by
  have hrow : ∀ q, iv.ownBlock = some q → P + 1 ≤ q ∧ q < w.heap.size := fun q hq => World.ownsRow.lt h.own q hq
  have hk6 : ∀ b, b < w.heap.size → (∀ q, iv.ownBlock = some q → b ≠ q) → w5.heap[b]? = w.heap[b]? := fun b hb hn => by
    rw [hg5.block b (by simp; omega) (fun e => hn b e.symm rfl), Below.heap_alloc _ _ _ hb]
  have hk5 : ∀ b, b < P + 1 → w5.heap[b]? = w.heap[b]? := fun b hb => hk6 b (by have := h.bB; omega) (fun q hq e => by have := (hrow q hq).1; omega)
  have hP := hk5 P (by omega)
  have hb5 : Below w0.heap.size w0 w5 := (h.bel.alloc h.bel.size _).grown hg5 (by have := h.bel.size; simp; omega) (fun q hq => by have := hrow q hq; have := h.p0; omega)
  have hs5 : w.heap.size ≤ w5.heap.size := by have := hg5.size; simp at this; omega
  have hsz : (w5.setCell ⟨P, 0, none⟩ v5).heap.size = w5.heap.size := by simp
  have hlt := h.lt
  refine ⟨hk5, ⟨?_, ownsRow_setCell_below h5 (by show P < P + 1; omega) _, fun e => by omega, ?_, hb5.setCell (p := ⟨P, 0, none⟩) h.p0 _, h.p0, h.l0, h.lt, by rw [hsz]; have := h.bB; omega⟩, fun b hb n1 hn => ?_⟩
  · rw [heap_setCell_same _ P 0 _ _ _ (hP.trans h.blk)]; rfl
  · exact row_blk h.len ((heap_setCell_other _ _ _ _ (by show bl ≠ P; omega)).trans (hk5 bl (by omega)))
  · rw [heap_setCell_other _ _ _ _ n1]; exact hk6 b hb hn
/-- what is free is reckoned -/
theorem LnB.setFree {w0 w : World} {P bl n : Nat} {iv : Value} {L : Nat → It} {k : Nat} {fr : Int} (h : LnB w0 w P bl n iv L k fr) (fr' : Int) : LnB w0 (w.setCell ⟨P, 3, none⟩ (.int .i64 fr')) P bl n iv L k fr' := by
  have hlt := h.lt
  refine ⟨?_, ownsRow_setCell_below h.own (by show P < P + 1; omega) _, h.nil, ?_, h.bel.setCell (p := ⟨P, 3, none⟩) h.p0 _, h.p0, h.l0, h.lt, by simpa using h.bB⟩
  · rw [heap_setCell_same _ P 3 _ _ _ h.blk]; rfl
  · exact row_blk h.len (heap_setCell_other _ _ _ _ (by show bl ≠ P; omega))
/-- all items are in it -/
theorem LnB.done {w0 w : World} {P bl n : Nat} {iv : Value} {L : Nat → It} {fr : Int} (h : LnB w0 w P bl n iv L n fr) (fF fW : Nat) :
    LnAt w0 ((w.setCell ⟨P, 5, none⟩ (.func (.func fF) #[] #[])).setCell ⟨P, 6, none⟩ (.func (.func fW) #[] #[])) P bl w.heap.size n iv (.slice none 0 0) L ⟨fun _ => 0, [], fr⟩ 0 fF fW := by
  have hoth : ∀ b, b ≠ P → ((w.setCell ⟨P, 5, none⟩ (.func (.func fF) #[] #[])).setCell ⟨P, 6, none⟩ (.func (.func fW) #[] #[])).heap[b]? = w.heap[b]? := fun b n1 => by
    rw [heap_setCell_other _ _ _ _ n1, heap_setCell_other _ _ _ _ n1]
  have hlt := h.lt
  have hB := h.bB
  refine ⟨?_, ?_, row_blk h.len (hoth _ (by omega)), ⟨rfl, Or.inl ⟨rfl, rfl⟩⟩, (h.bel.setCell (p := ⟨P, 5, none⟩) h.p0 _).setCell (p := ⟨P, 6, none⟩) h.p0 _, h.p0, h.l0, by omega, by omega, by omega, by simp⟩
  · rw [heap_setCell_same _ P 6 _ _ _ (heap_setCell_same _ P 5 _ _ _ h.blk)]; rfl
  · by_cases hn : n = 0
    · exact Or.inl hn
    · obtain ⟨g, c, hv, _, _⟩ := h.own.form (by omega)
      have ho := h.own
      rw [hv] at ho
      have hg := World.ownsRow.lt ho g rfl
      refine Or.inr ⟨g, 0, c, hv, fun i hi => ?_, by omega, by omega, hg.2⟩
      have key : ∀ j, j < 7 → ((w.setCell ⟨P, 5, none⟩ (.func (.func fF) #[] #[])).setCell ⟨P, 6, none⟩ (.func (.func fW) #[] #[])).cell? ⟨g, i * 7 + j, none⟩ = (itc (L i))[j]? := fun j hj => by
        rw [cell_blk (hoth g (by omega)), ho.cellAt _ (by omega), itcs_get L j hj i n hi]
      rw [Nat.zero_add]
      exact ⟨key 0 (by omega), key 1 (by omega), key 2 (by omega), key 3 (by omega), key 4 (by omega), key 5 (by omega), key 6 (by omega)⟩
/-- what is free now is remembered -/
theorem LnAt.remember {w0 w : World} {P bl Bo n : Nat} {iv ov : Value} {L : Nat → It} {s : FSt} {first : Int} {fF fW : Nat} (h : LnAt w0 w P bl Bo n iv ov L s first fF fW) (x : Int) :
    LnAt w0 (w.setCell ⟨P, 4, none⟩ (.int .i64 x)) P bl Bo n iv ov L s x fF fW := by
  have hoth : ∀ b, b ≠ P → (w.setCell ⟨P, 4, none⟩ (.int .i64 x)).heap[b]? = w.heap[b]? := fun b n1 => heap_setCell_other _ _ _ _ n1
  refine ⟨?_, ?_, row_blk h.len (hoth _ h.ne), ownsRow_setCell_below h.loo (by exact h.pB) _, h.bel.setCell (p := ⟨P, 4, none⟩) h.p0 _, h.p0, h.l0, h.pB, h.lB, h.ne, by simpa using h.bB⟩
  · rw [heap_setCell_same _ P 4 _ _ _ h.blk]; rfl
  · rcases h.its with e | ⟨bi, io, ci, e, hi2, n1, n2, n3⟩
    · exact Or.inl e
    · exact Or.inr ⟨bi, io, ci, e, hi2.blk (hoth _ n1), n1, n2, n3⟩
theorem put7F (W : World) (S : Nat) (T : TypeId) (a0 a1 a2 a3 a4 a5 a6 b0 b1 b2 b3 b4 b5 b6 : Value) (h : W.heap[S]? = some (.cells #[a0, a1, a2, a3, a4, a5, a6] T (0, 0))) :
    (((((((W.setCell ⟨S, 0, none⟩ b0).setCell ⟨S, 1, none⟩ b1).setCell ⟨S, 2, none⟩ b2).setCell ⟨S, 3, none⟩ b3).setCell ⟨S, 4, none⟩ b4).setCell ⟨S, 5, none⟩ b5).setCell ⟨S, 6, none⟩ b6).heap[S]? = some (.cells #[b0, b1, b2, b3, b4, b5, b6] T (0, 0)) := by
  rw [heap_setCell_same _ S 6 _ _ _ (heap_setCell_same _ S 5 _ _ _ (heap_setCell_same _ S 4 _ _ _ (heap_setCell_same _ S 3 _ _ _ (heap_setCell_same _ S 2 _ _ _ (heap_setCell_same _ S 1 _ _ _ (heap_setCell_same _ S 0 _ _ _ h))))))]; rfl
theorem below7F {B : Nat} {w W : World} (S : Nat) (b0 b1 b2 b3 b4 b5 b6 : Value) (hS : B ≤ S) (h : Below B w W) :
    Below B w (((((((W.setCell ⟨S, 0, none⟩ b0).setCell ⟨S, 1, none⟩ b1).setCell ⟨S, 2, none⟩ b2).setCell ⟨S, 3, none⟩ b3).setCell ⟨S, 4, none⟩ b4).setCell ⟨S, 5, none⟩ b5).setCell ⟨S, 6, none⟩ b6) :=
  ((((((h.setCell (p := ⟨S, 0, none⟩) hS _).setCell (p := ⟨S, 1, none⟩) hS _).setCell (p := ⟨S, 2, none⟩) hS _).setCell (p := ⟨S, 3, none⟩) hS _).setCell (p := ⟨S, 4, none⟩) hS _).setCell (p := ⟨S, 5, none⟩) hS _).setCell (p := ⟨S, 6, none⟩) hS _
/-- an append whose outcome is known -/
theorem wpList_append_runF {P : Program} {ops : Array Oper} {rest : List Oper} {o : Oper} {a : Act} {Q : Exit → Act → World → Prop} {w : World} (hgd : o.guard = none) (s x : Operand) (t : TypeId)
    (ho : o.op = .call { callee := .builtin .append, args := #[s, x], argTypes := #[t, t] }) (vs vx v : Value) (w' : World) (hs : a.eval s = vs) (hx : a.eval x = vx)
    (hr : (Builtin.append_ #[t, t] o.type #[vs, vx]).run P w = .ok v w') (h : wpList P ops Q rest (a.put o.dst v) w') : wpList P ops Q (o :: rest) a w := by
  refine wpList_plain hgd fun K hK => ?_
  unfold Oper.wp execOp
  simp only [ho, resolve, invoke, builtin, Sem.run_bind, Sem.run_pure, Result.andThen_ok, List.map_toArray, List.map_cons, List.map_nil, hs, hx, hr]
  exact hK _ _ h
/-- the line's two functions are exchanged -/
theorem LnAt.fns {w0 w : World} {P bl Bo n : Nat} {iv ov : Value} {L : Nat → It} {s : FSt} {first : Int} {fF fW : Nat} (h : LnAt w0 w P bl Bo n iv ov L s first fF fW) (gF gW : Nat) :
    LnAt w0 ((w.setCell ⟨P, 5, none⟩ (.func (.func gF) #[] #[])).setCell ⟨P, 6, none⟩ (.func (.func gW) #[] #[])) P bl Bo n iv ov L s first gF gW := by
  have hoth : ∀ b, b ≠ P → ((w.setCell ⟨P, 5, none⟩ (.func (.func gF) #[] #[])).setCell ⟨P, 6, none⟩ (.func (.func gW) #[] #[])).heap[b]? = w.heap[b]? := fun b n1 => by
    rw [heap_setCell_other _ _ _ _ n1, heap_setCell_other _ _ _ _ n1]
  refine ⟨?_, ?_, row_blk h.len (hoth _ h.ne), ownsRow_setCell_below (ownsRow_setCell_below h.loo (by exact h.pB) _) (by exact h.pB) _, (h.bel.setCell (p := ⟨P, 5, none⟩) h.p0 _).setCell (p := ⟨P, 6, none⟩) h.p0 _, h.p0, h.l0, h.pB, h.lB, h.ne, by simpa using h.bB⟩
  · rw [heap_setCell_same _ P 6 _ _ _ (heap_setCell_same _ P 5 _ _ _ h.blk)]; rfl
  · rcases h.its with e | ⟨bi, io, ci, e, hi2, n1, n2, n3⟩
    · exact Or.inl e
    · exact Or.inr ⟨bi, io, ci, e, hi2.blk (hoth _ n1), n1, n2, n3⟩
/-- what tells whether an item is past its wish -/
def TellsB (f : Nat) (v : It → Bool) : Prop := (∀ args w, (callFunc f args).run Try.prog w = .ok (.enter f args) w) ∧ ∀ (t : It) (w : World), Calls Try.prog f #[.agg #[.int .i64 t.b, .int .i64 t.l, .int .i64 t.m, .int .i64 t.g, .int .i64 t.i, .int .i64 t.gr, .int .i64 t.sh]] w fun e w' => e = .returned (.bool (v t)) ∧ Below w.heap.size w w'
theorem tells_long : TellsB 36 (pastI true) := ⟨enters_of Try.func36 (by kernel_rfl) rfl, fun t w => long21_any t w⟩
theorem tells_short : TellsB 33 (pastI false) := ⟨enters_of Try.func33 (by kernel_rfl) rfl, fun t w => short21_any t w⟩
end Go.Proofs.Ytaegajlffiepoaa
