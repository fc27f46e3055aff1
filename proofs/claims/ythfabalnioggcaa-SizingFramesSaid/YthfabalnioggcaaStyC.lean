/- Layer 17, the other text: what Compute answers of nothing told, of a style whose font's size and line alone are set: the style at the start. (Written by gen_styc2.py.) -/
import Derived.Test.YthfabalnioggcaaStyM
namespace Go.Proofs.Ythfabalnioggcaa
open Go.RowKit TreN LexP FixP SynP ValP PropP FixM Go.Sort
set_option linter.unusedVariables false

def upL : List Value := [Value.int .i64 0, Value.bool false, Value.int .i64 0, Value.int .i64 0, Value.int .i64 0, Value.int .i64 0, Value.int .i64 0, Value.int .i64 0, Value.int .i64 0, Value.int .i64 0, Value.int .i64 0, Value.int .i64 0, Value.int .i64 0, Value.int .i64 0, Value.int .i64 0, Value.int .i64 0, Value.int .i64 0, Value.int .i64 0, Value.int .i64 0, Value.int .i64 0, Value.int .i64 0, Value.int .i64 0, Value.int .i64 0, Value.int .i64 0, Value.int .i64 0, Value.int .i64 0, Value.int .i64 0, Value.int .i64 0, Value.int .i64 0, Value.int .i64 0, Value.int .i64 0, Value.int .i64 0, Value.int .i64 0, Value.int .i64 0, Value.int .i64 0, Value.int .i64 0, Value.int .i64 0, Value.int .i64 0, Value.int .i64 0, Value.int .i64 0, Value.int .i64 0, Value.int .i64 0, Value.int .i64 0, Value.int .i64 0, Value.int .i64 0, Value.int .i64 0, Value.int .i64 0, Value.int .i64 0, Value.int .i64 0, Value.int .i64 0, Value.int .i64 0, Value.int .i64 0, Value.string ⟨#[]⟩, Value.int .i64 1024, Value.int .i64 1200]
theorem upL_arr : upC 1024 1200 = upL.toArray := rfl
theorem upL_at (i : Nat) (hi : i < 55) (h1 : i ≠ 1) (h2 : i ≠ 52) (h3 : i ≠ 53) (h4 : i ≠ 54) : upL[i]? = some (.int .i64 0) := by
  have h : i = 0 ∨ i = 2 ∨ i = 3 ∨ i = 4 ∨ i = 5 ∨ i = 6 ∨ i = 7 ∨ i = 8 ∨ i = 9 ∨ i = 10 ∨ i = 11 ∨ i = 12 ∨ i = 13 ∨ i = 14 ∨ i = 15 ∨ i = 16 ∨ i = 17 ∨ i = 18 ∨ i = 19 ∨ i = 20 ∨ i = 21 ∨ i = 22 ∨ i = 23 ∨ i = 24 ∨ i = 25 ∨ i = 26 ∨ i = 27 ∨ i = 28 ∨ i = 29 ∨ i = 30 ∨ i = 31 ∨ i = 32 ∨ i = 33 ∨ i = 34 ∨ i = 35 ∨ i = 36 ∨ i = 37 ∨ i = 38 ∨ i = 39 ∨ i = 40 ∨ i = 41 ∨ i = 42 ∨ i = 43 ∨ i = 44 ∨ i = 45 ∨ i = 46 ∨ i = 47 ∨ i = 48 ∨ i = 49 ∨ i = 50 ∨ i = 51 := by omega
  rcases h with rfl | rfl | rfl | rfl | rfl | rfl | rfl | rfl | rfl | rfl | rfl | rfl | rfl | rfl | rfl | rfl | rfl | rfl | rfl | rfl | rfl | rfl | rfl | rfl | rfl | rfl | rfl | rfl | rfl | rfl | rfl | rfl | rfl | rfl | rfl | rfl | rfl | rfl | rfl | rfl | rfl | rfl | rfl | rfl | rfl | rfl | rfl | rfl | rfl | rfl | rfl <;> rfl
theorem FontS (w : World) : Calls Try.prog 67 #[.slice none 0 0, .agg upL.toArray, .int .i64 0, .int .i64 0] w fun e w' => e = .returned (.int .i64 1024) ∧ Below w.heap.size w w' := by
  have h := Font17_nil 1024 1200 0 0 w
  rw [upL_arr] at h
  exact h
theorem TextB (w : World) : Calls Try.prog 70 #[.agg #[.int .i64 1, .int .i64 5, .int .i64 0, .string ⟨#[]⟩]] w fun e w' => e = .returned (.string ⟨#[99, 111, 110, 116, 101, 110, 116, 45, 98, 111, 120]⟩) ∧ Below w.heap.size w w' := by
  have h := Text17_any 1 5 0 [] w
  rw [show (txtS 1 5).toArray = #[99, 111, 110, 116, 101, 110, 116, 45, 98, 111, 120] from by kernel_rfl] at h
  exact h
theorem MeasE (w : World) : Calls Try.prog 73 #[.agg #[.int .i64 2, .int .i64 0, .int .i64 1, .string ⟨#[]⟩], .int .i64 1024, .int .i64 0, .int .i64 0] w fun e w' => e = .returned (.int .i64 0) ∧ Below w.heap.size w w' := by
  have h := refMeasure_any 2 0 1 1024 0 0 [] w
  rw [show measS 2 0 1 1024 0 0 = 0 from by kernel_rfl] at h
  exact h
theorem LeastE (w : World) : Calls Try.prog 72 #[.int .i64 0] w fun e w' => e = .returned (.int .i64 0) ∧ w = w' := by
  have h := Least17_any 0 w
  rw [show lst17 0 = 0 from by kernel_rfl] at h
  exact h
theorem wpList_moveS {ops : Array Oper} {rest : List Oper} {op : Oper} {a : Act} {w : World} {Q : Exit → Act → World → Prop} (hgd : op.guard = none) (x : Operand) (ho : op.op = .move x)
    (h : wpList Try.prog ops Q rest (a.put op.dst (a.eval x)) w) : wpList Try.prog ops Q (op :: rest) a w :=
  wpList_plain hgd fun K hK => by
    unfold Oper.wp execOp
    simp only [ho]
    exact hK _ _ h
def zF : List Value := [Value.int .i64 0, Value.bool false, Value.int .i64 0, Value.int .i64 0, Value.int .i64 0, Value.int .i64 0, Value.int .i64 0, Value.int .i64 0, Value.int .i64 0, Value.int .i64 0, Value.int .i64 0, Value.int .i64 0, Value.int .i64 0, Value.int .i64 0, Value.int .i64 0, Value.int .i64 0, Value.int .i64 0, Value.int .i64 0, Value.int .i64 0, Value.int .i64 0, Value.int .i64 0, Value.int .i64 0, Value.int .i64 0, Value.int .i64 0, Value.int .i64 0, Value.int .i64 0, Value.int .i64 0, Value.int .i64 0, Value.int .i64 0, Value.int .i64 0, Value.int .i64 0, Value.int .i64 0, Value.int .i64 0, Value.int .i64 0, Value.int .i64 0, Value.int .i64 0, Value.int .i64 0, Value.int .i64 0, Value.int .i64 0, Value.int .i64 0, Value.int .i64 0, Value.int .i64 0, Value.int .i64 0, Value.int .i64 0, Value.int .i64 0, Value.int .i64 0, Value.int .i64 0, Value.int .i64 0, Value.int .i64 0, Value.int .i64 0, Value.int .i64 0, Value.int .i64 0, Value.string ⟨#[]⟩, Value.int .i64 1024, Value.int .i64 0]
theorem run_buildS (w : World) : (Instr.build 27 #[(27, .int .i64 1024)]).run Try.prog w = .ok (.agg zF.toArray) w := by kernel_rfl
theorem wpList_buildS {ops : Array Oper} {rest : List Oper} {op : Oper} {a : Act} {w : World} {Q : Exit → Act → World → Prop} (hgd : op.guard = none) (x0 : Operand) (ho : op.op = .build 27 #[(27, x0)])
    (h0 : a.eval x0 = .int .i64 1024) (h : wpList Try.prog ops Q rest (a.put op.dst (.agg zF.toArray)) w) : wpList Try.prog ops Q (op :: rest) a w :=
  wpList_plain hgd fun K hK => by
    unfold Oper.wp execOp
    have e : (#[(27, x0)] : Array (Nat × Operand)).map (fun (i, x) => (i, a.eval x)) = #[(27, .int .i64 1024)] := by simp [h0]
    simp only [ho, e, Sem.run_bind, run_buildS w, Result.andThen_ok, Sem.run_pure]
    exact hK _ _ h
theorem zF_one : ∀ v, v ∈ zF → v.oneCell' = true := by
  intro v hv
  unfold zF at hv
  simp only [List.mem_cons, List.not_mem_nil, or_false] at hv
  repeat' (rcases hv with rfl | hv; · rfl)
theorem startS_is : ((((((((((((((((((((sideS ((((((((((((((zF.set 0 (.int .i64 0)).set 1 (.bool false)).set 2 (.int .i64 0)).set 3 (.int .i64 0)).set 4 (.int .i64 0)).set 5 (.int .i64 0)).set 6 (.int .i64 0)).set 7 (.int .i64 0)).set 8 (.int .i64 0)).set 9 (.int .i64 0)).set 10 (.int .i64 6)).set 11 (.int .i64 0)).set 12 (.int .i64 6)).set 13 (.int .i64 0)) 4).set 36 (.int .i64 0)).set 37 (.int .i64 0)).set 38 (.int .i64 0)).set 39 (.int .i64 1000)).set 40 (.int .i64 0)).set 41 (.int .i64 0)).set 42 (.int .i64 0)).set 43 (.int .i64 0)).set 44 (.int .i64 0)).set 45 (.int .i64 0)).set 46 (.int .i64 0)).set 47 (.int .i64 1)).set 48 (.int .i64 0)).set 49 (.int .i64 1)).set 50 (.int .i64 0)).set 51 (.int .i64 0)).set 52 (.string ⟨#[]⟩)).set 54 (.int .i64 0)).set 54 (.int .i64 1200)) = startS := by kernel_rfl
theorem CS.begin {w W : World} {As : List Value} (hb0 : Below w.heap.size w W) (hr : W.rangeAt w.heap.size 0 As) (ht : W.there (w.heap.size + 1) 0 55) (hl : w.heap.size + 1 < W.heap.size) (L : List Value) (hL : L.length = 55) : CS w ((W.alloc (.cells #[Value.int .i64 0, Value.bool false, Value.int .i64 0, Value.int .i64 0, Value.int .i64 0, Value.int .i64 0, Value.int .i64 0, Value.int .i64 0, Value.int .i64 0, Value.int .i64 0, Value.int .i64 0, Value.int .i64 0, Value.int .i64 0, Value.int .i64 0, Value.int .i64 0, Value.int .i64 0, Value.int .i64 0, Value.int .i64 0, Value.int .i64 0, Value.int .i64 0, Value.int .i64 0, Value.int .i64 0, Value.int .i64 0, Value.int .i64 0, Value.int .i64 0, Value.int .i64 0, Value.int .i64 0, Value.int .i64 0, Value.int .i64 0, Value.int .i64 0, Value.int .i64 0, Value.int .i64 0, Value.int .i64 0, Value.int .i64 0, Value.int .i64 0, Value.int .i64 0, Value.int .i64 0, Value.int .i64 0, Value.int .i64 0, Value.int .i64 0, Value.int .i64 0, Value.int .i64 0, Value.int .i64 0, Value.int .i64 0, Value.int .i64 0, Value.int .i64 0, Value.int .i64 0, Value.int .i64 0, Value.int .i64 0, Value.int .i64 0, Value.int .i64 0, Value.int .i64 0, Value.string ⟨#[]⟩, Value.int .i64 0, Value.int .i64 0] 27)).setCells W.heap.size 0 L) w.heap.size (w.heap.size + 1) W.heap.size As L := by
  have hb := below_one7h W (.cells #[Value.int .i64 0, Value.bool false, Value.int .i64 0, Value.int .i64 0, Value.int .i64 0, Value.int .i64 0, Value.int .i64 0, Value.int .i64 0, Value.int .i64 0, Value.int .i64 0, Value.int .i64 0, Value.int .i64 0, Value.int .i64 0, Value.int .i64 0, Value.int .i64 0, Value.int .i64 0, Value.int .i64 0, Value.int .i64 0, Value.int .i64 0, Value.int .i64 0, Value.int .i64 0, Value.int .i64 0, Value.int .i64 0, Value.int .i64 0, Value.int .i64 0, Value.int .i64 0, Value.int .i64 0, Value.int .i64 0, Value.int .i64 0, Value.int .i64 0, Value.int .i64 0, Value.int .i64 0, Value.int .i64 0, Value.int .i64 0, Value.int .i64 0, Value.int .i64 0, Value.int .i64 0, Value.int .i64 0, Value.int .i64 0, Value.int .i64 0, Value.int .i64 0, Value.int .i64 0, Value.int .i64 0, Value.int .i64 0, Value.int .i64 0, Value.int .i64 0, Value.int .i64 0, Value.int .i64 0, Value.int .i64 0, Value.int .i64 0, Value.int .i64 0, Value.int .i64 0, Value.string ⟨#[]⟩, Value.int .i64 0, Value.int .i64 0] 27)
  have hx := heap_alloc_new W (.cells #[Value.int .i64 0, Value.bool false, Value.int .i64 0, Value.int .i64 0, Value.int .i64 0, Value.int .i64 0, Value.int .i64 0, Value.int .i64 0, Value.int .i64 0, Value.int .i64 0, Value.int .i64 0, Value.int .i64 0, Value.int .i64 0, Value.int .i64 0, Value.int .i64 0, Value.int .i64 0, Value.int .i64 0, Value.int .i64 0, Value.int .i64 0, Value.int .i64 0, Value.int .i64 0, Value.int .i64 0, Value.int .i64 0, Value.int .i64 0, Value.int .i64 0, Value.int .i64 0, Value.int .i64 0, Value.int .i64 0, Value.int .i64 0, Value.int .i64 0, Value.int .i64 0, Value.int .i64 0, Value.int .i64 0, Value.int .i64 0, Value.int .i64 0, Value.int .i64 0, Value.int .i64 0, Value.int .i64 0, Value.int .i64 0, Value.int .i64 0, Value.int .i64 0, Value.int .i64 0, Value.int .i64 0, Value.int .i64 0, Value.int .i64 0, Value.int .i64 0, Value.int .i64 0, Value.int .i64 0, Value.int .i64 0, Value.int .i64 0, Value.int .i64 0, Value.int .i64 0, Value.string ⟨#[]⟩, Value.int .i64 0, Value.int .i64 0] 27)
  have hs : (W.alloc (.cells #[Value.int .i64 0, Value.bool false, Value.int .i64 0, Value.int .i64 0, Value.int .i64 0, Value.int .i64 0, Value.int .i64 0, Value.int .i64 0, Value.int .i64 0, Value.int .i64 0, Value.int .i64 0, Value.int .i64 0, Value.int .i64 0, Value.int .i64 0, Value.int .i64 0, Value.int .i64 0, Value.int .i64 0, Value.int .i64 0, Value.int .i64 0, Value.int .i64 0, Value.int .i64 0, Value.int .i64 0, Value.int .i64 0, Value.int .i64 0, Value.int .i64 0, Value.int .i64 0, Value.int .i64 0, Value.int .i64 0, Value.int .i64 0, Value.int .i64 0, Value.int .i64 0, Value.int .i64 0, Value.int .i64 0, Value.int .i64 0, Value.int .i64 0, Value.int .i64 0, Value.int .i64 0, Value.int .i64 0, Value.int .i64 0, Value.int .i64 0, Value.int .i64 0, Value.int .i64 0, Value.int .i64 0, Value.int .i64 0, Value.int .i64 0, Value.int .i64 0, Value.int .i64 0, Value.int .i64 0, Value.int .i64 0, Value.int .i64 0, Value.int .i64 0, Value.int .i64 0, Value.string ⟨#[]⟩, Value.int .i64 0, Value.int .i64 0] 27)).heap.size = W.heap.size + 1 := by simp
  have ht2 : (W.alloc (.cells #[Value.int .i64 0, Value.bool false, Value.int .i64 0, Value.int .i64 0, Value.int .i64 0, Value.int .i64 0, Value.int .i64 0, Value.int .i64 0, Value.int .i64 0, Value.int .i64 0, Value.int .i64 0, Value.int .i64 0, Value.int .i64 0, Value.int .i64 0, Value.int .i64 0, Value.int .i64 0, Value.int .i64 0, Value.int .i64 0, Value.int .i64 0, Value.int .i64 0, Value.int .i64 0, Value.int .i64 0, Value.int .i64 0, Value.int .i64 0, Value.int .i64 0, Value.int .i64 0, Value.int .i64 0, Value.int .i64 0, Value.int .i64 0, Value.int .i64 0, Value.int .i64 0, Value.int .i64 0, Value.int .i64 0, Value.int .i64 0, Value.int .i64 0, Value.int .i64 0, Value.int .i64 0, Value.int .i64 0, Value.int .i64 0, Value.int .i64 0, Value.int .i64 0, Value.int .i64 0, Value.int .i64 0, Value.int .i64 0, Value.int .i64 0, Value.int .i64 0, Value.int .i64 0, Value.int .i64 0, Value.int .i64 0, Value.int .i64 0, Value.int .i64 0, Value.int .i64 0, Value.string ⟨#[]⟩, Value.int .i64 0, Value.int .i64 0] 27)).there W.heap.size 0 55 := thereS_of_block hx
  have hr2 := World.rangeAt_setCells_same _ W.heap.size 0 L (by rw [hL]; exact ht2)
  have hr3 := World.rangeAt_setCells_apart (rangeS_below hr hb (by omega)) W.heap.size 0 L (Or.inl (by omega))
  have hsz : ∀ b, b < W.heap.size + 1 → b < ((W.alloc (.cells #[Value.int .i64 0, Value.bool false, Value.int .i64 0, Value.int .i64 0, Value.int .i64 0, Value.int .i64 0, Value.int .i64 0, Value.int .i64 0, Value.int .i64 0, Value.int .i64 0, Value.int .i64 0, Value.int .i64 0, Value.int .i64 0, Value.int .i64 0, Value.int .i64 0, Value.int .i64 0, Value.int .i64 0, Value.int .i64 0, Value.int .i64 0, Value.int .i64 0, Value.int .i64 0, Value.int .i64 0, Value.int .i64 0, Value.int .i64 0, Value.int .i64 0, Value.int .i64 0, Value.int .i64 0, Value.int .i64 0, Value.int .i64 0, Value.int .i64 0, Value.int .i64 0, Value.int .i64 0, Value.int .i64 0, Value.int .i64 0, Value.int .i64 0, Value.int .i64 0, Value.int .i64 0, Value.int .i64 0, Value.int .i64 0, Value.int .i64 0, Value.int .i64 0, Value.int .i64 0, Value.int .i64 0, Value.int .i64 0, Value.int .i64 0, Value.int .i64 0, Value.int .i64 0, Value.int .i64 0, Value.int .i64 0, Value.int .i64 0, Value.int .i64 0, Value.int .i64 0, Value.string ⟨#[]⟩, Value.int .i64 0, Value.int .i64 0] 27)).setCells W.heap.size 0 L).heap.size := fun b h => by
    have := (belowS_setCells (Below.refl 0 (W.alloc (.cells #[Value.int .i64 0, Value.bool false, Value.int .i64 0, Value.int .i64 0, Value.int .i64 0, Value.int .i64 0, Value.int .i64 0, Value.int .i64 0, Value.int .i64 0, Value.int .i64 0, Value.int .i64 0, Value.int .i64 0, Value.int .i64 0, Value.int .i64 0, Value.int .i64 0, Value.int .i64 0, Value.int .i64 0, Value.int .i64 0, Value.int .i64 0, Value.int .i64 0, Value.int .i64 0, Value.int .i64 0, Value.int .i64 0, Value.int .i64 0, Value.int .i64 0, Value.int .i64 0, Value.int .i64 0, Value.int .i64 0, Value.int .i64 0, Value.int .i64 0, Value.int .i64 0, Value.int .i64 0, Value.int .i64 0, Value.int .i64 0, Value.int .i64 0, Value.int .i64 0, Value.int .i64 0, Value.int .i64 0, Value.int .i64 0, Value.int .i64 0, Value.int .i64 0, Value.int .i64 0, Value.int .i64 0, Value.int .i64 0, Value.int .i64 0, Value.int .i64 0, Value.int .i64 0, Value.int .i64 0, Value.int .i64 0, Value.int .i64 0, Value.int .i64 0, Value.int .i64 0, Value.string ⟨#[]⟩, Value.int .i64 0, Value.int .i64 0] 27))) W.heap.size (by omega) L 0).size
    omega
  exact ⟨belowS_setCells (hb0.trans (hb.mono hb0.size)) W.heap.size (by omega) L 0, hr3, World.there_setCells (thereS_below ht hb hl) _ _ _, hr2, World.there_setCells ht2 _ _ _, hsz _ (by omega), hsz _ (by omega), hsz _ (by omega), by omega, by omega, by omega, by omega⟩
set_option maxRecDepth 100000 in
set_option maxHeartbeats 8000000 in
theorem ComputeS (w : World) : Calls Try.prog 55 #[.slice none 0 0, .agg upL.toArray, .int .i64 0, .int .i64 0] w fun e w' => e = .returned (.agg startS.toArray) ∧ Below w.heap.size w w' := by
  have hs0 : (w.alloc (.cells upL.toArray 27)).heap.size = w.heap.size + 1 := by simp
  have hb1 := below_one7h w (.cells upL.toArray 27)
  have hb2 := below_one7h (w.alloc (.cells upL.toArray 27)) (.cells #[Value.int .i64 0, Value.bool false, Value.int .i64 0, Value.int .i64 0, Value.int .i64 0, Value.int .i64 0, Value.int .i64 0, Value.int .i64 0, Value.int .i64 0, Value.int .i64 0, Value.int .i64 0, Value.int .i64 0, Value.int .i64 0, Value.int .i64 0, Value.int .i64 0, Value.int .i64 0, Value.int .i64 0, Value.int .i64 0, Value.int .i64 0, Value.int .i64 0, Value.int .i64 0, Value.int .i64 0, Value.int .i64 0, Value.int .i64 0, Value.int .i64 0, Value.int .i64 0, Value.int .i64 0, Value.int .i64 0, Value.int .i64 0, Value.int .i64 0, Value.int .i64 0, Value.int .i64 0, Value.int .i64 0, Value.int .i64 0, Value.int .i64 0, Value.int .i64 0, Value.int .i64 0, Value.int .i64 0, Value.int .i64 0, Value.int .i64 0, Value.int .i64 0, Value.int .i64 0, Value.int .i64 0, Value.int .i64 0, Value.int .i64 0, Value.int .i64 0, Value.int .i64 0, Value.int .i64 0, Value.int .i64 0, Value.int .i64 0, Value.int .i64 0, Value.int .i64 0, Value.string ⟨#[]⟩, Value.int .i64 0, Value.int .i64 0] 27)
  have A1 := rangeS_below (rangeS_of_block (heap_alloc_new w (.cells upL.toArray 27))) hb2 (by omega)
  have A2 := thereS_of_block (heap_alloc_new (w.alloc (.cells upL.toArray 27)) (.cells #[Value.int .i64 0, Value.bool false, Value.int .i64 0, Value.int .i64 0, Value.int .i64 0, Value.int .i64 0, Value.int .i64 0, Value.int .i64 0, Value.int .i64 0, Value.int .i64 0, Value.int .i64 0, Value.int .i64 0, Value.int .i64 0, Value.int .i64 0, Value.int .i64 0, Value.int .i64 0, Value.int .i64 0, Value.int .i64 0, Value.int .i64 0, Value.int .i64 0, Value.int .i64 0, Value.int .i64 0, Value.int .i64 0, Value.int .i64 0, Value.int .i64 0, Value.int .i64 0, Value.int .i64 0, Value.int .i64 0, Value.int .i64 0, Value.int .i64 0, Value.int .i64 0, Value.int .i64 0, Value.int .i64 0, Value.int .i64 0, Value.int .i64 0, Value.int .i64 0, Value.int .i64 0, Value.int .i64 0, Value.int .i64 0, Value.int .i64 0, Value.int .i64 0, Value.int .i64 0, Value.int .i64 0, Value.int .i64 0, Value.int .i64 0, Value.int .i64 0, Value.int .i64 0, Value.int .i64 0, Value.int .i64 0, Value.int .i64 0, Value.int .i64 0, Value.int .i64 0, Value.string ⟨#[]⟩, Value.int .i64 0, Value.int .i64 0] 27))
  rw [hs0] at A2
  have A3 := hb1.trans (hb2.mono hb1.size)
  have A4 : w.heap.size + 1 < ((w.alloc (.cells upL.toArray 27)).alloc (.cells #[Value.int .i64 0, Value.bool false, Value.int .i64 0, Value.int .i64 0, Value.int .i64 0, Value.int .i64 0, Value.int .i64 0, Value.int .i64 0, Value.int .i64 0, Value.int .i64 0, Value.int .i64 0, Value.int .i64 0, Value.int .i64 0, Value.int .i64 0, Value.int .i64 0, Value.int .i64 0, Value.int .i64 0, Value.int .i64 0, Value.int .i64 0, Value.int .i64 0, Value.int .i64 0, Value.int .i64 0, Value.int .i64 0, Value.int .i64 0, Value.int .i64 0, Value.int .i64 0, Value.int .i64 0, Value.int .i64 0, Value.int .i64 0, Value.int .i64 0, Value.int .i64 0, Value.int .i64 0, Value.int .i64 0, Value.int .i64 0, Value.int .i64 0, Value.int .i64 0, Value.int .i64 0, Value.int .i64 0, Value.int .i64 0, Value.int .i64 0, Value.int .i64 0, Value.int .i64 0, Value.int .i64 0, Value.int .i64 0, Value.int .i64 0, Value.int .i64 0, Value.int .i64 0, Value.int .i64 0, Value.int .i64 0, Value.int .i64 0, Value.int .i64 0, Value.int .i64 0, Value.string ⟨#[]⟩, Value.int .i64 0, Value.int .i64 0] 27)).heap.size := by simp
  have hU := upL_at
  have hUl : upL.length = 55 := rfl
  have hU54 : upL[54]? = some (.int .i64 1200) := rfl
  have hSl : startS.length = 55 := rfl
  have hSo : ∀ v, v ∈ startS → v.oneCell' = true := by
    intro v hv
    unfold startS at hv
    simp only [List.mem_cons, List.not_mem_nil, or_false] at hv
    repeat' (rcases hv with rfl | hv; · rfl)
  have HSO := Lib.hid hSo
  have HB := Lib.hid (fun (W : World) (x : Below w.heap.size w W) (y : W.rangeAt w.heap.size 0 upL) (z : W.there (w.heap.size + 1) 0 55) (l : w.heap.size + 1 < W.heap.size) => CS.begin x y z l zF rfl)
  have HFT := Lib.hid (fun W => FontS W)
  have HST := Lib.hid startS_is
  generalize upL = As at *
  generalize startS = Ts at *
  have hs1 := hs0
  clear hs0 hb1 hb2 hSo
  go_enter Try.func55, Try.ntmps55
  go_upto_region 1 with fail
  generalize ((w.alloc (.cells As.toArray 27)).alloc (.cells #[Value.int .i64 0, Value.bool false, Value.int .i64 0, Value.int .i64 0, Value.int .i64 0, Value.int .i64 0, Value.int .i64 0, Value.int .i64 0, Value.int .i64 0, Value.int .i64 0, Value.int .i64 0, Value.int .i64 0, Value.int .i64 0, Value.int .i64 0, Value.int .i64 0, Value.int .i64 0, Value.int .i64 0, Value.int .i64 0, Value.int .i64 0, Value.int .i64 0, Value.int .i64 0, Value.int .i64 0, Value.int .i64 0, Value.int .i64 0, Value.int .i64 0, Value.int .i64 0, Value.int .i64 0, Value.int .i64 0, Value.int .i64 0, Value.int .i64 0, Value.int .i64 0, Value.int .i64 0, Value.int .i64 0, Value.int .i64 0, Value.int .i64 0, Value.int .i64 0, Value.int .i64 0, Value.int .i64 0, Value.int .i64 0, Value.int .i64 0, Value.int .i64 0, Value.int .i64 0, Value.int .i64 0, Value.int .i64 0, Value.int .i64 0, Value.int .i64 0, Value.int .i64 0, Value.int .i64 0, Value.int .i64 0, Value.int .i64 0, Value.int .i64 0, Value.int .i64 0, Value.string ⟨#[]⟩, Value.int .i64 0, Value.int .i64 0] 27)) = W1 at *
  have A2' : W1.there (w.heap.size + 1) 0 55 := A2
  have HA := Lib.hid (And.intro A1 (And.intro A2' (And.intro A3 A4)))
  clear A2 A2' A3 A4
  refine wp_region_lit ?_
  refine wpList_moveS rfl _ rfl ?_
  refine wpList_load_mid rfl 27 _ rfl w.heap.size 0 rfl As _ A1 Try.underlying27 rfl (by rw [sizeS17, hUl]) ?_
  clear A1
  go_wp2_with fail
  refine (HFT.out _).mono ?_
  rintro e w1 ⟨rfl, hb⟩
  have HS := Lib.hid (HB.out w1 (HA.out.2.2.1.trans (hb.mono HA.out.2.2.1.size)) (rangeS_below HA.out.1 hb (by have := HA.out.2.2.2; omega)) (thereS_below HA.out.2.1 hb HA.out.2.2.2) (Nat.lt_of_lt_of_le HA.out.2.2.2 hb.size))
  clear hb HA HB HFT
  go_upto_region 2 with fail
  refine wp_region_lit ?_
  refine wpList_moveS rfl _ rfl ?_
  refine wpList_buildS rfl _ rfl rfl ?_
  go_step
  go_step
  rename_i K' hK'
  refine hK' _ _ ?_
  clear hK'
  have htt : (w1.alloc (.cells #[Value.int .i64 0, Value.bool false, Value.int .i64 0, Value.int .i64 0, Value.int .i64 0, Value.int .i64 0, Value.int .i64 0, Value.int .i64 0, Value.int .i64 0, Value.int .i64 0, Value.int .i64 0, Value.int .i64 0, Value.int .i64 0, Value.int .i64 0, Value.int .i64 0, Value.int .i64 0, Value.int .i64 0, Value.int .i64 0, Value.int .i64 0, Value.int .i64 0, Value.int .i64 0, Value.int .i64 0, Value.int .i64 0, Value.int .i64 0, Value.int .i64 0, Value.int .i64 0, Value.int .i64 0, Value.int .i64 0, Value.int .i64 0, Value.int .i64 0, Value.int .i64 0, Value.int .i64 0, Value.int .i64 0, Value.int .i64 0, Value.int .i64 0, Value.int .i64 0, Value.int .i64 0, Value.int .i64 0, Value.int .i64 0, Value.int .i64 0, Value.int .i64 0, Value.int .i64 0, Value.int .i64 0, Value.int .i64 0, Value.int .i64 0, Value.int .i64 0, Value.int .i64 0, Value.int .i64 0, Value.int .i64 0, Value.int .i64 0, Value.int .i64 0, Value.int .i64 0, Value.string ⟨#[]⟩, Value.int .i64 0, Value.int .i64 0] 27)).there w1.heap.size 0 55 := thereS_of_block (heap_alloc_new w1 (.cells #[Value.int .i64 0, Value.bool false, Value.int .i64 0, Value.int .i64 0, Value.int .i64 0, Value.int .i64 0, Value.int .i64 0, Value.int .i64 0, Value.int .i64 0, Value.int .i64 0, Value.int .i64 0, Value.int .i64 0, Value.int .i64 0, Value.int .i64 0, Value.int .i64 0, Value.int .i64 0, Value.int .i64 0, Value.int .i64 0, Value.int .i64 0, Value.int .i64 0, Value.int .i64 0, Value.int .i64 0, Value.int .i64 0, Value.int .i64 0, Value.int .i64 0, Value.int .i64 0, Value.int .i64 0, Value.int .i64 0, Value.int .i64 0, Value.int .i64 0, Value.int .i64 0, Value.int .i64 0, Value.int .i64 0, Value.int .i64 0, Value.int .i64 0, Value.int .i64 0, Value.int .i64 0, Value.int .i64 0, Value.int .i64 0, Value.int .i64 0, Value.int .i64 0, Value.int .i64 0, Value.int .i64 0, Value.int .i64 0, Value.int .i64 0, Value.int .i64 0, Value.int .i64 0, Value.int .i64 0, Value.int .i64 0, Value.int .i64 0, Value.int .i64 0, Value.int .i64 0, Value.string ⟨#[]⟩, Value.int .i64 0, Value.int .i64 0] 27))
  refine wpList_store_mid rfl 27 _ _ rfl w1.heap.size 0 zF.toArray rfl rfl htt sizeS17 (all_oneCell_toArray zF_one) ?_
  have ezf : zF.toArray.toList = zF := rfl
  rw [ezf]
  clear ezf htt
  obtain ⟨W3, hW⟩ : ∃ W, (w1.alloc (.cells #[Value.int .i64 0, Value.bool false, Value.int .i64 0, Value.int .i64 0, Value.int .i64 0, Value.int .i64 0, Value.int .i64 0, Value.int .i64 0, Value.int .i64 0, Value.int .i64 0, Value.int .i64 0, Value.int .i64 0, Value.int .i64 0, Value.int .i64 0, Value.int .i64 0, Value.int .i64 0, Value.int .i64 0, Value.int .i64 0, Value.int .i64 0, Value.int .i64 0, Value.int .i64 0, Value.int .i64 0, Value.int .i64 0, Value.int .i64 0, Value.int .i64 0, Value.int .i64 0, Value.int .i64 0, Value.int .i64 0, Value.int .i64 0, Value.int .i64 0, Value.int .i64 0, Value.int .i64 0, Value.int .i64 0, Value.int .i64 0, Value.int .i64 0, Value.int .i64 0, Value.int .i64 0, Value.int .i64 0, Value.int .i64 0, Value.int .i64 0, Value.int .i64 0, Value.int .i64 0, Value.int .i64 0, Value.int .i64 0, Value.int .i64 0, Value.int .i64 0, Value.int .i64 0, Value.int .i64 0, Value.int .i64 0, Value.int .i64 0, Value.int .i64 0, Value.int .i64 0, Value.string ⟨#[]⟩, Value.int .i64 0, Value.int .i64 0] 27)).setCells w1.heap.size 0 zF = W := ⟨_, rfl⟩
  rw [hW] at HS ⊢
  clear hW
  have HS3 : Hid (CS w W3 w.heap.size (w.heap.size + 1) w1.heap.size As zF) := HS
  clear HS hs1
  obtain ⟨bs, hbs⟩ : ∃ bs, w1.heap.size = bs := ⟨_, rfl⟩
  obtain ⟨b8, hb8⟩ : ∃ b8, w.heap.size + 1 = b8 := ⟨_, rfl⟩
  obtain ⟨bu, hbu⟩ : ∃ bu, w.heap.size = bu := ⟨_, rfl⟩
  rw [hb8, hbs, hbu] at HS3
  rw [hb8, hbs, hbu]
  have hlu : bu ≤ bu := Nat.le_refl _
  have u0 := HS3.out.u 0 (.int .i64 0) (hU 0 (by decide) (by decide) (by decide) (by decide) (by decide))
  go_wp2_with fail
  refine (W17_1 _).mono ?_
  rintro e w2 ⟨rfl, hb⟩
  have HT := Lib.hid (HS3.out.call hb)
  clear hb HS3 u0
  obtain ⟨v0, c0, f0⟩ := HT.out.c 0 (by decide)
  go_upto_region 4 with fail
  have HN := Lib.hid ((HT.out.set 0 (.int .i64 0)))
  obtain ⟨W4, hW⟩ : ∃ W, (w2.setCell ⟨bs, 0, none⟩ (.int .i64 0)) = W := ⟨_, rfl⟩
  rw [hW] at HN ⊢
  clear hW HT c0 f0 v0
  have HS4 := HN
  clear HN
  go_wp2_with fail
  refine (H17_2 _).mono ?_
  rintro e w2 ⟨rfl, hb⟩
  have HT := Lib.hid (HS4.out.call hb)
  clear hb HS4
  have HX0 : Hid (bs < w2.heap.size) := HT.out.ls
  have hx := heap_alloc_new w2 (.cells #[.int .i64 1, .int .i64 5, .int .i64 0, .string ⟨#[]⟩] 80)
  have HN := Lib.hid (HT.out.call (below_one7h w2 (.cells #[.int .i64 1, .int .i64 5, .int .i64 0, .string ⟨#[]⟩] 80)))
  go_upto_region 5 with fail
  obtain ⟨W5, hW⟩ : ∃ W, w2.alloc (.cells #[.int .i64 1, .int .i64 5, .int .i64 0, .string ⟨#[]⟩] 80) = W := ⟨_, rfl⟩
  rw [hW] at HN hx ⊢
  clear hW HT
  have hxn : bs ≠ w2.heap.size := by have := HX0.out; omega
  obtain ⟨bv, hbv⟩ : ∃ bv, w2.heap.size = bv := ⟨_, rfl⟩
  rw [hbv] at hx hxn ⊢
  have HX := Lib.hid hx
  have HXN := Lib.hid hxn
  clear hx hxn hbv HX0
  have HS5 := HN
  clear HN
  obtain ⟨y0, y1, y2, y3, _, _, _, _, _⟩ := val_cells17 HX.out
  go_wp2_with fail
  refine (TextB _).mono ?_
  rintro e w2 ⟨rfl, hb⟩
  have HT := Lib.hid (HS5.out.call hb)
  clear hb y0 y1 y2 y3 HX HS5
  obtain ⟨v0, c0, f0⟩ := HT.out.c 1 (by decide)
  go_upto_region 6 with fail
  have HN := Lib.hid (HT.out.set 1 (.bool false))
  obtain ⟨W6, hW⟩ : ∃ W, (w2.setCell ⟨bs, 1, none⟩ (.bool false)) = W := ⟨_, rfl⟩
  rw [hW] at HN ⊢
  clear hW HT c0 f0 v0
  have HS6 := HN
  clear HN
  have u0 := HS6.out.u 2 (.int .i64 0) (hU 2 (by decide) (by decide) (by decide) (by decide) (by decide))
  have u1 := HS6.out.u 3 (.int .i64 0) (hU 3 (by decide) (by decide) (by decide) (by decide) (by decide))
  go_wp2_with fail
  refine (S17_3 _).mono ?_
  rintro e w2 ⟨rfl, hb⟩
  have HT := Lib.hid (HS6.out.call hb)
  clear hb HS6 u0 u1
  obtain ⟨v0, c0, f0⟩ := HT.out.c 2 (by decide)
  obtain ⟨v1, c1, f1⟩ := HT.out.c 3 (by decide)
  go_upto_region 7 with fail
  have HN := Lib.hid (((HT.out.set 2 (.int .i64 0)).set 3 (.int .i64 0)))
  obtain ⟨W7, hW⟩ : ∃ W, ((w2.setCell ⟨bs, 2, none⟩ (.int .i64 0)).setCell ⟨bs, 3, none⟩ (.int .i64 0)) = W := ⟨_, rfl⟩
  rw [hW] at HN ⊢
  clear hW HT c0 f0 c1 f1 v0 v1
  have HS7 := HN
  clear HN
  have u0 := HS7.out.u 4 (.int .i64 0) (hU 4 (by decide) (by decide) (by decide) (by decide) (by decide))
  have u1 := HS7.out.u 5 (.int .i64 0) (hU 5 (by decide) (by decide) (by decide) (by decide) (by decide))
  go_wp2_with fail
  refine (S17_4 _).mono ?_
  rintro e w2 ⟨rfl, hb⟩
  have HT := Lib.hid (HS7.out.call hb)
  clear hb HS7 u0 u1
  obtain ⟨v0, c0, f0⟩ := HT.out.c 4 (by decide)
  obtain ⟨v1, c1, f1⟩ := HT.out.c 5 (by decide)
  go_upto_region 8 with fail
  have HN := Lib.hid (((HT.out.set 4 (.int .i64 0)).set 5 (.int .i64 0)))
  obtain ⟨W8, hW⟩ : ∃ W, ((w2.setCell ⟨bs, 4, none⟩ (.int .i64 0)).setCell ⟨bs, 5, none⟩ (.int .i64 0)) = W := ⟨_, rfl⟩
  rw [hW] at HN ⊢
  clear hW HT c0 f0 c1 f1 v0 v1
  have HS8 := HN
  clear HN
  have u0 := HS8.out.u 6 (.int .i64 0) (hU 6 (by decide) (by decide) (by decide) (by decide) (by decide))
  have u1 := HS8.out.u 7 (.int .i64 0) (hU 7 (by decide) (by decide) (by decide) (by decide) (by decide))
  go_wp2_with fail
  refine (S17_5 _).mono ?_
  rintro e w2 ⟨rfl, hb⟩
  have HT := Lib.hid (HS8.out.call hb)
  clear hb HS8 u0 u1
  obtain ⟨v0, c0, f0⟩ := HT.out.c 6 (by decide)
  obtain ⟨v1, c1, f1⟩ := HT.out.c 7 (by decide)
  go_upto_region 9 with fail
  have HN := Lib.hid (((HT.out.set 6 (.int .i64 0)).set 7 (.int .i64 0)))
  obtain ⟨W9, hW⟩ : ∃ W, ((w2.setCell ⟨bs, 6, none⟩ (.int .i64 0)).setCell ⟨bs, 7, none⟩ (.int .i64 0)) = W := ⟨_, rfl⟩
  rw [hW] at HN ⊢
  clear hW HT c0 f0 c1 f1 v0 v1
  have HS9 := HN
  clear HN
  have u0 := HS9.out.u 8 (.int .i64 0) (hU 8 (by decide) (by decide) (by decide) (by decide) (by decide))
  have u1 := HS9.out.u 9 (.int .i64 0) (hU 9 (by decide) (by decide) (by decide) (by decide) (by decide))
  go_wp2_with fail
  refine (S17_6 _).mono ?_
  rintro e w2 ⟨rfl, hb⟩
  have HT := Lib.hid (HS9.out.call hb)
  clear hb HS9 u0 u1
  obtain ⟨v0, c0, f0⟩ := HT.out.c 8 (by decide)
  obtain ⟨v1, c1, f1⟩ := HT.out.c 9 (by decide)
  go_upto_region 10 with fail
  have HN := Lib.hid (((HT.out.set 8 (.int .i64 0)).set 9 (.int .i64 0)))
  obtain ⟨W10, hW⟩ : ∃ W, ((w2.setCell ⟨bs, 8, none⟩ (.int .i64 0)).setCell ⟨bs, 9, none⟩ (.int .i64 0)) = W := ⟨_, rfl⟩
  rw [hW] at HN ⊢
  clear hW HT c0 f0 c1 f1 v0 v1
  have HS10 := HN
  clear HN
  have u0 := HS10.out.u 10 (.int .i64 0) (hU 10 (by decide) (by decide) (by decide) (by decide) (by decide))
  have u1 := HS10.out.u 11 (.int .i64 0) (hU 11 (by decide) (by decide) (by decide) (by decide) (by decide))
  go_wp2_with fail
  refine (S17_7 _).mono ?_
  rintro e w2 ⟨rfl, hb⟩
  have HT := Lib.hid (HS10.out.call hb)
  clear hb HS10 u0 u1
  obtain ⟨v0, c0, f0⟩ := HT.out.c 10 (by decide)
  obtain ⟨v1, c1, f1⟩ := HT.out.c 11 (by decide)
  go_upto_region 11 with fail
  have HN := Lib.hid (((HT.out.set 10 (.int .i64 6)).set 11 (.int .i64 0)))
  obtain ⟨W11, hW⟩ : ∃ W, ((w2.setCell ⟨bs, 10, none⟩ (.int .i64 6)).setCell ⟨bs, 11, none⟩ (.int .i64 0)) = W := ⟨_, rfl⟩
  rw [hW] at HN ⊢
  clear hW HT c0 f0 c1 f1 v0 v1
  have HS11 := HN
  clear HN
  have u0 := HS11.out.u 12 (.int .i64 0) (hU 12 (by decide) (by decide) (by decide) (by decide) (by decide))
  have u1 := HS11.out.u 13 (.int .i64 0) (hU 13 (by decide) (by decide) (by decide) (by decide) (by decide))
  go_wp2_with fail
  refine (S17_8 _).mono ?_
  rintro e w2 ⟨rfl, hb⟩
  have HT := Lib.hid (HS11.out.call hb)
  clear hb HS11 u0 u1
  obtain ⟨v0, c0, f0⟩ := HT.out.c 12 (by decide)
  obtain ⟨v1, c1, f1⟩ := HT.out.c 13 (by decide)
  go_upto_region 12 with fail
  have HN := Lib.hid (((HT.out.set 12 (.int .i64 6)).set 13 (.int .i64 0)))
  obtain ⟨W12, hW⟩ : ∃ W, ((w2.setCell ⟨bs, 12, none⟩ (.int .i64 6)).setCell ⟨bs, 13, none⟩ (.int .i64 0)) = W := ⟨_, rfl⟩
  rw [hW] at HN ⊢
  clear hW HT c0 f0 c1 f1 v0 v1
  have HS12 := HN
  clear HN
  obtain ⟨S0, hS0⟩ : ∃ S, ((((((((((((((zF.set 0 (.int .i64 0)).set 1 (.bool false)).set 2 (.int .i64 0)).set 3 (.int .i64 0)).set 4 (.int .i64 0)).set 5 (.int .i64 0)).set 6 (.int .i64 0)).set 7 (.int .i64 0)).set 8 (.int .i64 0)).set 9 (.int .i64 0)).set 10 (.int .i64 6)).set 11 (.int .i64 0)).set 12 (.int .i64 6)).set 13 (.int .i64 0)) = S := ⟨_, rfl⟩
  rw [hS0] at HS12
  have HS0 := Lib.hid hS0
  clear hS0
  go_wp2_with fail
  go_loopw [13] (fun vi wr => ∃ k : Nat, vi = .int .i64 k ∧ k ≤ 4 ∧ Hid (CS w wr bu b8 bs As (sideS S0 k))) (fun vi _ => 4 - (intOf vi).toNat)
  case atStart => exact ⟨0, rfl, by omega, HS12⟩
  case round =>
    clear HS12
    obtain ⟨k, rfl, hk, HK⟩ := hrel
    by_cases hlt : k < 4
    · have hltz : (k : Int) < 4 := by omega
      have CM := Lib.hid (fun W => S17m k hlt W)
      have CP := Lib.hid (fun W => S17p k hlt W)
      have CE := Lib.hid (fun W => H17e k hlt W)
      have u0 := HK.out.u (14 + k * 2) (.int .i64 0) (hU (14 + k * 2) (by omega) (by omega) (by omega) (by omega) (by omega))
      have u1 := HK.out.u (14 + k * 2 + 1) (.int .i64 0) (hU (14 + k * 2 + 1) (by omega) (by omega) (by omega) (by omega) (by omega))
      go_wp2_with fail
      refine (CM.out _).mono ?_
      rintro e w2 ⟨rfl, hb⟩
      have HT := Lib.hid (HK.out.call hb)
      clear hb HK u0 u1
      obtain ⟨v0, c0, f0⟩ := HT.out.c (14 + k * 2) (by omega)
      obtain ⟨v1, c1, f1⟩ := HT.out.c (14 + k * 2 + 1) (by omega)
      go_upto_region 16 with fail
      have HN := Lib.hid (((HT.out.set (14 + k * 2) (.int .i64 1)).set (14 + k * 2 + 1) (.int .i64 0)))
      obtain ⟨Wa, hW⟩ : ∃ W, ((w2.setCell ⟨bs, 14 + k * 2, none⟩ (.int .i64 1)).setCell ⟨bs, 14 + k * 2 + 1, none⟩ (.int .i64 0)) = W := ⟨_, rfl⟩
      rw [hW] at HN ⊢
      clear hW HT c0 f0 c1 f1 v0 v1
      have HKa := HN
      clear HN
      have u0 := HKa.out.u (22 + k * 2) (.int .i64 0) (hU (22 + k * 2) (by omega) (by omega) (by omega) (by omega) (by omega))
      have u1 := HKa.out.u (22 + k * 2 + 1) (.int .i64 0) (hU (22 + k * 2 + 1) (by omega) (by omega) (by omega) (by omega) (by omega))
      go_wp2_with fail
      refine (CP.out _).mono ?_
      rintro e w2 ⟨rfl, hb⟩
      have HT := Lib.hid (HKa.out.call hb)
      clear hb HKa u0 u1
      obtain ⟨v0, c0, f0⟩ := HT.out.c (22 + k * 2) (by omega)
      obtain ⟨v1, c1, f1⟩ := HT.out.c (22 + k * 2 + 1) (by omega)
      go_upto_region 17 with fail
      have HN := Lib.hid (((HT.out.set (22 + k * 2) (.int .i64 1)).set (22 + k * 2 + 1) (.int .i64 0)))
      obtain ⟨Wb, hW⟩ : ∃ W, ((w2.setCell ⟨bs, 22 + k * 2, none⟩ (.int .i64 1)).setCell ⟨bs, 22 + k * 2 + 1, none⟩ (.int .i64 0)) = W := ⟨_, rfl⟩
      rw [hW] at HN ⊢
      clear hW HT c0 f0 c1 f1 v0 v1
      have HKb := HN
      clear HN
      go_wp2_with fail
      refine (CE.out _).mono ?_
      rintro e w2 ⟨rfl, hb⟩
      have HT := Lib.hid (HKb.out.call hb)
      clear hb HKb
      have hx := heap_alloc_new w2 (.cells #[.int .i64 2, .int .i64 0, .int .i64 1, .string ⟨#[]⟩] 80)
      have HN := Lib.hid (HT.out.call (below_one7h w2 (.cells #[.int .i64 2, .int .i64 0, .int .i64 1, .string ⟨#[]⟩] 80)))
      go_upto_region 18 with fail
      obtain ⟨Wc, hW⟩ : ∃ W, w2.alloc (.cells #[.int .i64 2, .int .i64 0, .int .i64 1, .string ⟨#[]⟩] 80) = W := ⟨_, rfl⟩
      rw [hW] at HN hx ⊢
      clear hW HT
      obtain ⟨bv, hbv⟩ : ∃ bv, w2.heap.size = bv := ⟨_, rfl⟩
      rw [hbv] at hx ⊢
      clear hbv
      have HKc := HN
      clear HN
      obtain ⟨y0, y1, y2, y3, _, _, _, _, _⟩ := val_cells17 hx
      go_wp2_with fail
      refine (MeasE _).mono ?_
      rintro e w2 ⟨rfl, hb⟩
      have HT := Lib.hid (HKc.out.call hb)
      clear hb y0 y1 y2 y3 hx HKc
      go_wp2_with fail
      refine (LeastE _).mono ?_
      rintro e w3 ⟨rfl, rfl⟩
      obtain ⟨v0, c0, f0⟩ := HT.out.c (30 + k) (by omega)
      go_upto_region 19 with fail
      have HN := Lib.hid ((HT.out.set (30 + k) (.int .i64 0)))
      obtain ⟨Wd, hW⟩ : ∃ W, (w2.setCell ⟨bs, 30 + k, none⟩ (.int .i64 0)) = W := ⟨_, rfl⟩
      rw [hW] at HN ⊢
      clear hW HT c0 f0 v0
      have HKd := HN
      clear HN
      go_wp2_with fail
      go_roundw
      case rel => exact ⟨k + 1, by go_num, by omega, HKd⟩
      case measure => (simp [intOf] <;> omega)
    · have hk4 : k = 4 := by omega
      subst hk4
      clear hlt hk
      go_upto_region 21 with fail
      go_wp2_with fail
      refine (H17_21 _).mono ?_
      rintro e w2 ⟨rfl, hb⟩
      have HT := Lib.hid (HK.out.call hb)
      clear hb HK
      have HX0 : Hid (bs < w2.heap.size) := HT.out.ls
      have hx := heap_alloc_new w2 (.cells #[.int .i64 1, .int .i64 1, .int .i64 0, .string ⟨#[]⟩] 80)
      have HN := Lib.hid (HT.out.call (below_one7h w2 (.cells #[.int .i64 1, .int .i64 1, .int .i64 0, .string ⟨#[]⟩] 80)))
      go_upto_region 22 with fail
      obtain ⟨W13, hW⟩ : ∃ W, w2.alloc (.cells #[.int .i64 1, .int .i64 1, .int .i64 0, .string ⟨#[]⟩] 80) = W := ⟨_, rfl⟩
      rw [hW] at HN hx ⊢
      clear hW HT
      have hxn : bs ≠ w2.heap.size := by have := HX0.out; omega
      obtain ⟨bv, hbv⟩ : ∃ bv, w2.heap.size = bv := ⟨_, rfl⟩
      rw [hbv] at hx hxn ⊢
      have HX := Lib.hid hx
      have HXN := Lib.hid hxn
      clear hx hxn hbv HX0
      have HS13 := HN
      clear HN
      obtain ⟨y0, y1, y2, y3, _, _, _, _, _⟩ := val_cells17 HX.out
      go_upto_region 28 with fail
      clear y0 y1 y2 y3 HX
      have u0 := HS13.out.u 36 (.int .i64 0) (hU 36 (by decide) (by decide) (by decide) (by decide) (by decide))
      go_wp2_with fail
      refine (W17_22 _).mono ?_
      rintro e w2 ⟨rfl, hb⟩
      have HT := Lib.hid (HS13.out.call hb)
      clear hb HS13 u0
      obtain ⟨v0, c0, f0⟩ := HT.out.c 36 (by decide)
      go_upto_region 29 with fail
      have HN := Lib.hid ((HT.out.set 36 (.int .i64 0)))
      obtain ⟨W14, hW⟩ : ∃ W, (w2.setCell ⟨bs, 36, none⟩ (.int .i64 0)) = W := ⟨_, rfl⟩
      rw [hW] at HN ⊢
      clear hW HT c0 f0 v0
      have HS14 := HN
      clear HN
      have u0 := HS14.out.u 37 (.int .i64 0) (hU 37 (by decide) (by decide) (by decide) (by decide) (by decide))
      go_wp2_with fail
      refine (W17_23 _).mono ?_
      rintro e w2 ⟨rfl, hb⟩
      have HT := Lib.hid (HS14.out.call hb)
      clear hb HS14 u0
      obtain ⟨v0, c0, f0⟩ := HT.out.c 37 (by decide)
      go_upto_region 30 with fail
      have HN := Lib.hid ((HT.out.set 37 (.int .i64 0)))
      obtain ⟨W15, hW⟩ : ∃ W, (w2.setCell ⟨bs, 37, none⟩ (.int .i64 0)) = W := ⟨_, rfl⟩
      rw [hW] at HN ⊢
      clear hW HT c0 f0 v0
      have HS15 := HN
      clear HN
      have u0 := HS15.out.u 38 (.int .i64 0) (hU 38 (by decide) (by decide) (by decide) (by decide) (by decide))
      go_wp2_with fail
      refine (N17_24 _).mono ?_
      rintro e w2 ⟨rfl, hb⟩
      have HT := Lib.hid (HS15.out.call hb)
      clear hb HS15 u0
      obtain ⟨v0, c0, f0⟩ := HT.out.c 38 (by decide)
      go_upto_region 31 with fail
      have HN := Lib.hid ((HT.out.set 38 (.int .i64 0)))
      obtain ⟨W16, hW⟩ : ∃ W, (w2.setCell ⟨bs, 38, none⟩ (.int .i64 0)) = W := ⟨_, rfl⟩
      rw [hW] at HN ⊢
      clear hW HT c0 f0 v0
      have HS16 := HN
      clear HN
      have u0 := HS16.out.u 39 (.int .i64 0) (hU 39 (by decide) (by decide) (by decide) (by decide) (by decide))
      go_wp2_with fail
      refine (N17_25 _).mono ?_
      rintro e w2 ⟨rfl, hb⟩
      have HT := Lib.hid (HS16.out.call hb)
      clear hb HS16 u0
      obtain ⟨v0, c0, f0⟩ := HT.out.c 39 (by decide)
      go_upto_region 32 with fail
      have HN := Lib.hid ((HT.out.set 39 (.int .i64 1000)))
      obtain ⟨W17, hW⟩ : ∃ W, (w2.setCell ⟨bs, 39, none⟩ (.int .i64 1000)) = W := ⟨_, rfl⟩
      rw [hW] at HN ⊢
      clear hW HT c0 f0 v0
      have HS17 := HN
      clear HN
      have u0 := HS17.out.u 40 (.int .i64 0) (hU 40 (by decide) (by decide) (by decide) (by decide) (by decide))
      have u1 := HS17.out.u 41 (.int .i64 0) (hU 41 (by decide) (by decide) (by decide) (by decide) (by decide))
      go_wp2_with fail
      refine (S17_26 _).mono ?_
      rintro e w2 ⟨rfl, hb⟩
      have HT := Lib.hid (HS17.out.call hb)
      clear hb HS17 u0 u1
      obtain ⟨v0, c0, f0⟩ := HT.out.c 40 (by decide)
      obtain ⟨v1, c1, f1⟩ := HT.out.c 41 (by decide)
      go_upto_region 33 with fail
      have HN := Lib.hid (((HT.out.set 40 (.int .i64 0)).set 41 (.int .i64 0)))
      obtain ⟨W18, hW⟩ : ∃ W, ((w2.setCell ⟨bs, 40, none⟩ (.int .i64 0)).setCell ⟨bs, 41, none⟩ (.int .i64 0)) = W := ⟨_, rfl⟩
      rw [hW] at HN ⊢
      clear hW HT c0 f0 c1 f1 v0 v1
      have HS18 := HN
      clear HN
      have u0 := HS18.out.u 42 (.int .i64 0) (hU 42 (by decide) (by decide) (by decide) (by decide) (by decide))
      go_wp2_with fail
      refine (N17_27 _).mono ?_
      rintro e w2 ⟨rfl, hb⟩
      have HT := Lib.hid (HS18.out.call hb)
      clear hb HS18 u0
      obtain ⟨v0, c0, f0⟩ := HT.out.c 42 (by decide)
      go_upto_region 34 with fail
      have HN := Lib.hid ((HT.out.set 42 (.int .i64 0)))
      obtain ⟨W19, hW⟩ : ∃ W, (w2.setCell ⟨bs, 42, none⟩ (.int .i64 0)) = W := ⟨_, rfl⟩
      rw [hW] at HN ⊢
      clear hW HT c0 f0 v0
      have HS19 := HN
      clear HN
      have u0 := HS19.out.u 43 (.int .i64 0) (hU 43 (by decide) (by decide) (by decide) (by decide) (by decide))
      go_wp2_with fail
      refine (W17_28 _).mono ?_
      rintro e w2 ⟨rfl, hb⟩
      have HT := Lib.hid (HS19.out.call hb)
      clear hb HS19 u0
      obtain ⟨v0, c0, f0⟩ := HT.out.c 43 (by decide)
      go_upto_region 35 with fail
      have HN := Lib.hid ((HT.out.set 43 (.int .i64 0)))
      obtain ⟨W20, hW⟩ : ∃ W, (w2.setCell ⟨bs, 43, none⟩ (.int .i64 0)) = W := ⟨_, rfl⟩
      rw [hW] at HN ⊢
      clear hW HT c0 f0 v0
      have HS20 := HN
      clear HN
      have u0 := HS20.out.u 44 (.int .i64 0) (hU 44 (by decide) (by decide) (by decide) (by decide) (by decide))
      go_wp2_with fail
      refine (W17_29 _).mono ?_
      rintro e w2 ⟨rfl, hb⟩
      have HT := Lib.hid (HS20.out.call hb)
      clear hb HS20 u0
      obtain ⟨v0, c0, f0⟩ := HT.out.c 44 (by decide)
      go_upto_region 36 with fail
      have HN := Lib.hid ((HT.out.set 44 (.int .i64 0)))
      obtain ⟨W21, hW⟩ : ∃ W, (w2.setCell ⟨bs, 44, none⟩ (.int .i64 0)) = W := ⟨_, rfl⟩
      rw [hW] at HN ⊢
      clear hW HT c0 f0 v0
      have HS21 := HN
      clear HN
      have u0 := HS21.out.u 45 (.int .i64 0) (hU 45 (by decide) (by decide) (by decide) (by decide) (by decide))
      go_wp2_with fail
      refine (W17_30 _).mono ?_
      rintro e w2 ⟨rfl, hb⟩
      have HT := Lib.hid (HS21.out.call hb)
      clear hb HS21 u0
      obtain ⟨v0, c0, f0⟩ := HT.out.c 45 (by decide)
      go_upto_region 37 with fail
      have HN := Lib.hid ((HT.out.set 45 (.int .i64 0)))
      obtain ⟨W22, hW⟩ : ∃ W, (w2.setCell ⟨bs, 45, none⟩ (.int .i64 0)) = W := ⟨_, rfl⟩
      rw [hW] at HN ⊢
      clear hW HT c0 f0 v0
      have HS22 := HN
      clear HN
      have u0 := HS22.out.u 46 (.int .i64 0) (hU 46 (by decide) (by decide) (by decide) (by decide) (by decide))
      go_wp2_with fail
      refine (W17_31 _).mono ?_
      rintro e w2 ⟨rfl, hb⟩
      have HT := Lib.hid (HS22.out.call hb)
      clear hb HS22 u0
      obtain ⟨v0, c0, f0⟩ := HT.out.c 46 (by decide)
      go_upto_region 38 with fail
      have HN := Lib.hid ((HT.out.set 46 (.int .i64 0)))
      obtain ⟨W23, hW⟩ : ∃ W, (w2.setCell ⟨bs, 46, none⟩ (.int .i64 0)) = W := ⟨_, rfl⟩
      rw [hW] at HN ⊢
      clear hW HT c0 f0 v0
      have HS23 := HN
      clear HN
      have u0 := HS23.out.u 47 (.int .i64 0) (hU 47 (by decide) (by decide) (by decide) (by decide) (by decide))
      have u1 := HS23.out.u 48 (.int .i64 0) (hU 48 (by decide) (by decide) (by decide) (by decide) (by decide))
      go_wp2_with fail
      refine (S17_32 _).mono ?_
      rintro e w2 ⟨rfl, hb⟩
      have HT := Lib.hid (HS23.out.call hb)
      clear hb HS23 u0 u1
      obtain ⟨v0, c0, f0⟩ := HT.out.c 47 (by decide)
      obtain ⟨v1, c1, f1⟩ := HT.out.c 48 (by decide)
      go_upto_region 39 with fail
      have HN := Lib.hid (((HT.out.set 47 (.int .i64 1)).set 48 (.int .i64 0)))
      obtain ⟨W24, hW⟩ : ∃ W, ((w2.setCell ⟨bs, 47, none⟩ (.int .i64 1)).setCell ⟨bs, 48, none⟩ (.int .i64 0)) = W := ⟨_, rfl⟩
      rw [hW] at HN ⊢
      clear hW HT c0 f0 c1 f1 v0 v1
      have HS24 := HN
      clear HN
      have u0 := HS24.out.u 49 (.int .i64 0) (hU 49 (by decide) (by decide) (by decide) (by decide) (by decide))
      have u1 := HS24.out.u 50 (.int .i64 0) (hU 50 (by decide) (by decide) (by decide) (by decide) (by decide))
      go_wp2_with fail
      refine (S17_33 _).mono ?_
      rintro e w2 ⟨rfl, hb⟩
      have HT := Lib.hid (HS24.out.call hb)
      clear hb HS24 u0 u1
      obtain ⟨v0, c0, f0⟩ := HT.out.c 49 (by decide)
      obtain ⟨v1, c1, f1⟩ := HT.out.c 50 (by decide)
      go_upto_region 40 with fail
      have HN := Lib.hid (((HT.out.set 49 (.int .i64 1)).set 50 (.int .i64 0)))
      obtain ⟨W25, hW⟩ : ∃ W, ((w2.setCell ⟨bs, 49, none⟩ (.int .i64 1)).setCell ⟨bs, 50, none⟩ (.int .i64 0)) = W := ⟨_, rfl⟩
      rw [hW] at HN ⊢
      clear hW HT c0 f0 c1 f1 v0 v1
      have HS25 := HN
      clear HN
      have u0 := HS25.out.u 51 (.int .i64 0) (hU 51 (by decide) (by decide) (by decide) (by decide) (by decide))
      go_wp2_with fail
      refine (W17_34 _).mono ?_
      rintro e w2 ⟨rfl, hb⟩
      have HT := Lib.hid (HS25.out.call hb)
      clear hb HS25 u0
      obtain ⟨v0, c0, f0⟩ := HT.out.c 51 (by decide)
      go_upto_region 41 with fail
      have HN := Lib.hid ((HT.out.set 51 (.int .i64 0)))
      obtain ⟨W26, hW⟩ : ∃ W, (w2.setCell ⟨bs, 51, none⟩ (.int .i64 0)) = W := ⟨_, rfl⟩
      rw [hW] at HN ⊢
      clear hW HT c0 f0 v0
      have HS26 := HN
      clear HN
      go_wp2_with fail
      refine (H17_35 _).mono ?_
      rintro e w2 ⟨rfl, hb⟩
      have HT := Lib.hid (HS26.out.call hb)
      clear hb HS26
      have HX0 : Hid (bs < w2.heap.size) := HT.out.ls
      have hx := heap_alloc_new w2 (.cells #[.int .i64 1, .int .i64 2, .int .i64 0, .string ⟨#[]⟩] 80)
      have HN := Lib.hid (HT.out.call (below_one7h w2 (.cells #[.int .i64 1, .int .i64 2, .int .i64 0, .string ⟨#[]⟩] 80)))
      go_upto_region 42 with fail
      obtain ⟨W27, hW⟩ : ∃ W, w2.alloc (.cells #[.int .i64 1, .int .i64 2, .int .i64 0, .string ⟨#[]⟩] 80) = W := ⟨_, rfl⟩
      rw [hW] at HN hx ⊢
      clear hW HT
      have hxn : bs ≠ w2.heap.size := by have := HX0.out; omega
      obtain ⟨bv, hbv⟩ : ∃ bv, w2.heap.size = bv := ⟨_, rfl⟩
      rw [hbv] at hx hxn ⊢
      have HX := Lib.hid hx
      have HXN := Lib.hid hxn
      clear hx hxn hbv HX0
      have HS27 := HN
      clear HN
      obtain ⟨y0, y1, y2, y3, _, _, _, _, _⟩ := val_cells17 HX.out
      obtain ⟨v0, c0, f0⟩ := HS27.out.c 52 (by decide)
      go_upto_region 43 with fail
      have HN := Lib.hid (HS27.out.set 52 (.string ⟨#[]⟩))
      obtain ⟨W28, hW⟩ : ∃ W, W27.setCell ⟨bs, 52, none⟩ (.string ⟨#[]⟩) = W := ⟨_, rfl⟩
      rw [hW] at HN ⊢
      clear hW c0 f0 v0 HS27
      have HS28 := HN
      clear HN
      clear y0 y1 y2 y3 HX
      go_upto_region 45 with fail
      go_wp2_with fail
      refine (H17_37 _).mono ?_
      rintro e w2 ⟨rfl, hb⟩
      have HT := Lib.hid (HS28.out.call hb)
      clear hb HS28
      have HX0 : Hid (bs < w2.heap.size) := HT.out.ls
      have hx := heap_alloc_new w2 (.cells #[.int .i64 0, .int .i64 0, .int .i64 0, .string ⟨#[]⟩] 80)
      have HN := Lib.hid (HT.out.call (below_one7h w2 (.cells #[.int .i64 0, .int .i64 0, .int .i64 0, .string ⟨#[]⟩] 80)))
      go_upto_region 46 with fail
      obtain ⟨W29, hW⟩ : ∃ W, w2.alloc (.cells #[.int .i64 0, .int .i64 0, .int .i64 0, .string ⟨#[]⟩] 80) = W := ⟨_, rfl⟩
      rw [hW] at HN hx ⊢
      clear hW HT
      have hxn : bs ≠ w2.heap.size := by have := HX0.out; omega
      obtain ⟨bv, hbv⟩ : ∃ bv, w2.heap.size = bv := ⟨_, rfl⟩
      rw [hbv] at hx hxn ⊢
      have HX := Lib.hid hx
      have HXN := Lib.hid hxn
      clear hx hxn hbv HX0
      have HS29 := HN
      clear HN
      obtain ⟨y0, y1, y2, y3, _, _, _, _, lx⟩ := val_cells17 HX.out
      have nx : bs ≠ bv := HXN.out
      obtain ⟨v0, c0, f0⟩ := HS29.out.c 54 (by decide)
      have u0 := HS29.out.u 54 _ hU54
      have n1 := HS29.out.n1
      go_upto_region 51 with fail
      have HN := Lib.hid ((HS29.out.set 54 (.int .i64 0)).set 54 (.int .i64 1200))
      obtain ⟨WE, hW⟩ : ∃ W, (W29.setCell ⟨bs, 54, none⟩ (.int .i64 0)).setCell ⟨bs, 54, none⟩ (.int .i64 1200) = W := ⟨_, rfl⟩
      rw [hW] at HN ⊢
      clear hW
      have hF : ((((((((((((((((((((sideS S0 4).set 36 (.int .i64 0)).set 37 (.int .i64 0)).set 38 (.int .i64 0)).set 39 (.int .i64 1000)).set 40 (.int .i64 0)).set 41 (.int .i64 0)).set 42 (.int .i64 0)).set 43 (.int .i64 0)).set 44 (.int .i64 0)).set 45 (.int .i64 0)).set 46 (.int .i64 0)).set 47 (.int .i64 1)).set 48 (.int .i64 0)).set 49 (.int .i64 1)).set 50 (.int .i64 0)).set 51 (.int .i64 0)).set 52 (.string ⟨#[]⟩)).set 54 (.int .i64 0)).set 54 (.int .i64 1200)) = Ts := by rw [← HS0.out]; exact HST.out
      have hs := HN.out.s
      rw [hF] at hs
      have hTz : Ts.toArray.size = 55 := by simpa using hSl
      clear hF
      refine wp_region_lit ?_
      refine wpList_load_mid rfl 27 _ rfl bs 0 rfl Ts _ hs Try.underlying27 rfl (by rw [sizeS17, hSl]) ?_
      refine wpList_store_mid rfl 27 _ _ rfl b8 0 Ts.toArray (by kernel_rfl) (by kernel_rfl) (by rw [hTz]; exact HN.out.r8) (by rw [hTz]; exact sizeS17) (all_oneCell_toArray HSO.out) ?_
      have hrr := World.rangeAt_setCells_same WE b8 0 Ts (by rw [hSl]; exact HN.out.r8)
      have hbf := belowS_setCells HN.out.bel b8 HN.out.h8 Ts 0
      have e55 : Ts.toArray.toList = Ts := rfl
      rw [e55]
      generalize WE.setCells b8 0 Ts = wf at *
      clear HN hs e55
      go_step
      rename_i hKK
      refine hKK _ _ ?_
      go_step
      exact bodyPost_ret (resultsS_style rfl _ _ b8 Ts hSl (by kernel_rfl) hrr) (by kernel_rfl) ⟨rfl, hbf⟩
theorem run_buildU (w : World) : (Instr.build 27 #[(27, .int .i64 1024), (28, .int .i64 1200)]).run Try.prog w = .ok (.agg upL.toArray) w := by kernel_rfl
theorem wpList_buildU {ops : Array Oper} {rest : List Oper} {op : Oper} {a : Act} {w : World} {Q : Exit → Act → World → Prop} (hgd : op.guard = none) (x0 x1 : Operand) (ho : op.op = .build 27 #[(27, x0), (28, x1)])
    (h0 : a.eval x0 = .int .i64 1024) (h1 : a.eval x1 = .int .i64 1200) (h : wpList Try.prog ops Q rest (a.put op.dst (.agg upL.toArray)) w) : wpList Try.prog ops Q (op :: rest) a w :=
  wpList_plain hgd fun K hK => by
    unfold Oper.wp execOp
    have e : (#[(27, x0), (28, x1)] : Array (Nat × Operand)).map (fun (i, x) => (i, a.eval x)) = #[(27, .int .i64 1024), (28, .int .i64 1200)] := by simp [h0, h1]
    simp only [ho, e, Sem.run_bind, run_buildU w, Result.andThen_ok, Sem.run_pure]
    exact hK _ _ h
theorem startS_len : startS.length = 55 := rfl
theorem startS_one : ∀ v, v ∈ startS → v.oneCell' = true := by
  intro v hv
  unfold startS at hv
  simp only [List.mem_cons, List.not_mem_nil, or_false] at hv
  repeat' (rcases hv with rfl | hv; · rfl)
set_option maxRecDepth 100000 in
set_option maxHeartbeats 2000000 in
theorem StartS (w : World) : Calls Try.prog 37 #[] w fun e w' => e = .returned (.agg startS.toArray) ∧ Below w.heap.size w w' := by
  have CC := Lib.hid (fun W => ComputeS W)
  have HSO := Lib.hid startS_one
  have hSl := startS_len
  have hb1 := below_one7h w (.cells #[Value.int .i64 0, Value.bool false, Value.int .i64 0, Value.int .i64 0, Value.int .i64 0, Value.int .i64 0, Value.int .i64 0, Value.int .i64 0, Value.int .i64 0, Value.int .i64 0, Value.int .i64 0, Value.int .i64 0, Value.int .i64 0, Value.int .i64 0, Value.int .i64 0, Value.int .i64 0, Value.int .i64 0, Value.int .i64 0, Value.int .i64 0, Value.int .i64 0, Value.int .i64 0, Value.int .i64 0, Value.int .i64 0, Value.int .i64 0, Value.int .i64 0, Value.int .i64 0, Value.int .i64 0, Value.int .i64 0, Value.int .i64 0, Value.int .i64 0, Value.int .i64 0, Value.int .i64 0, Value.int .i64 0, Value.int .i64 0, Value.int .i64 0, Value.int .i64 0, Value.int .i64 0, Value.int .i64 0, Value.int .i64 0, Value.int .i64 0, Value.int .i64 0, Value.int .i64 0, Value.int .i64 0, Value.int .i64 0, Value.int .i64 0, Value.int .i64 0, Value.int .i64 0, Value.int .i64 0, Value.int .i64 0, Value.int .i64 0, Value.int .i64 0, Value.int .i64 0, Value.string ⟨#[]⟩, Value.int .i64 0, Value.int .i64 0] 27)
  have A2 : (w.alloc (.cells #[Value.int .i64 0, Value.bool false, Value.int .i64 0, Value.int .i64 0, Value.int .i64 0, Value.int .i64 0, Value.int .i64 0, Value.int .i64 0, Value.int .i64 0, Value.int .i64 0, Value.int .i64 0, Value.int .i64 0, Value.int .i64 0, Value.int .i64 0, Value.int .i64 0, Value.int .i64 0, Value.int .i64 0, Value.int .i64 0, Value.int .i64 0, Value.int .i64 0, Value.int .i64 0, Value.int .i64 0, Value.int .i64 0, Value.int .i64 0, Value.int .i64 0, Value.int .i64 0, Value.int .i64 0, Value.int .i64 0, Value.int .i64 0, Value.int .i64 0, Value.int .i64 0, Value.int .i64 0, Value.int .i64 0, Value.int .i64 0, Value.int .i64 0, Value.int .i64 0, Value.int .i64 0, Value.int .i64 0, Value.int .i64 0, Value.int .i64 0, Value.int .i64 0, Value.int .i64 0, Value.int .i64 0, Value.int .i64 0, Value.int .i64 0, Value.int .i64 0, Value.int .i64 0, Value.int .i64 0, Value.int .i64 0, Value.int .i64 0, Value.int .i64 0, Value.int .i64 0, Value.string ⟨#[]⟩, Value.int .i64 0, Value.int .i64 0] 27)).there w.heap.size 0 55 := thereS_of_block (heap_alloc_new w (.cells #[Value.int .i64 0, Value.bool false, Value.int .i64 0, Value.int .i64 0, Value.int .i64 0, Value.int .i64 0, Value.int .i64 0, Value.int .i64 0, Value.int .i64 0, Value.int .i64 0, Value.int .i64 0, Value.int .i64 0, Value.int .i64 0, Value.int .i64 0, Value.int .i64 0, Value.int .i64 0, Value.int .i64 0, Value.int .i64 0, Value.int .i64 0, Value.int .i64 0, Value.int .i64 0, Value.int .i64 0, Value.int .i64 0, Value.int .i64 0, Value.int .i64 0, Value.int .i64 0, Value.int .i64 0, Value.int .i64 0, Value.int .i64 0, Value.int .i64 0, Value.int .i64 0, Value.int .i64 0, Value.int .i64 0, Value.int .i64 0, Value.int .i64 0, Value.int .i64 0, Value.int .i64 0, Value.int .i64 0, Value.int .i64 0, Value.int .i64 0, Value.int .i64 0, Value.int .i64 0, Value.int .i64 0, Value.int .i64 0, Value.int .i64 0, Value.int .i64 0, Value.int .i64 0, Value.int .i64 0, Value.int .i64 0, Value.int .i64 0, Value.int .i64 0, Value.int .i64 0, Value.string ⟨#[]⟩, Value.int .i64 0, Value.int .i64 0] 27))
  have hl : w.heap.size < (w.alloc (.cells #[Value.int .i64 0, Value.bool false, Value.int .i64 0, Value.int .i64 0, Value.int .i64 0, Value.int .i64 0, Value.int .i64 0, Value.int .i64 0, Value.int .i64 0, Value.int .i64 0, Value.int .i64 0, Value.int .i64 0, Value.int .i64 0, Value.int .i64 0, Value.int .i64 0, Value.int .i64 0, Value.int .i64 0, Value.int .i64 0, Value.int .i64 0, Value.int .i64 0, Value.int .i64 0, Value.int .i64 0, Value.int .i64 0, Value.int .i64 0, Value.int .i64 0, Value.int .i64 0, Value.int .i64 0, Value.int .i64 0, Value.int .i64 0, Value.int .i64 0, Value.int .i64 0, Value.int .i64 0, Value.int .i64 0, Value.int .i64 0, Value.int .i64 0, Value.int .i64 0, Value.int .i64 0, Value.int .i64 0, Value.int .i64 0, Value.int .i64 0, Value.int .i64 0, Value.int .i64 0, Value.int .i64 0, Value.int .i64 0, Value.int .i64 0, Value.int .i64 0, Value.int .i64 0, Value.int .i64 0, Value.int .i64 0, Value.int .i64 0, Value.int .i64 0, Value.int .i64 0, Value.string ⟨#[]⟩, Value.int .i64 0, Value.int .i64 0] 27)).heap.size := by simp
  generalize startS = Ts at *
  have hTz : Ts.toArray.size = 55 := by simpa using hSl
  go_enter Try.func37, Try.ntmps37
  go_upto_region 1 with fail
  generalize w.alloc (.cells #[Value.int .i64 0, Value.bool false, Value.int .i64 0, Value.int .i64 0, Value.int .i64 0, Value.int .i64 0, Value.int .i64 0, Value.int .i64 0, Value.int .i64 0, Value.int .i64 0, Value.int .i64 0, Value.int .i64 0, Value.int .i64 0, Value.int .i64 0, Value.int .i64 0, Value.int .i64 0, Value.int .i64 0, Value.int .i64 0, Value.int .i64 0, Value.int .i64 0, Value.int .i64 0, Value.int .i64 0, Value.int .i64 0, Value.int .i64 0, Value.int .i64 0, Value.int .i64 0, Value.int .i64 0, Value.int .i64 0, Value.int .i64 0, Value.int .i64 0, Value.int .i64 0, Value.int .i64 0, Value.int .i64 0, Value.int .i64 0, Value.int .i64 0, Value.int .i64 0, Value.int .i64 0, Value.int .i64 0, Value.int .i64 0, Value.int .i64 0, Value.int .i64 0, Value.int .i64 0, Value.int .i64 0, Value.int .i64 0, Value.int .i64 0, Value.int .i64 0, Value.int .i64 0, Value.int .i64 0, Value.int .i64 0, Value.int .i64 0, Value.int .i64 0, Value.int .i64 0, Value.string ⟨#[]⟩, Value.int .i64 0, Value.int .i64 0] 27) = W1 at *
  have HA := Lib.hid (And.intro hb1 (And.intro A2 hl))
  clear hb1 A2 hl
  refine wp_region_lit ?_
  refine wpList_buildU rfl _ _ rfl rfl rfl ?_
  have hul := @upL_arr
  generalize upL = Us at *
  go_wp2_with fail
  refine (CC.out _).mono ?_
  rintro e w1 ⟨rfl, hb⟩
  have HB := Lib.hid (HA.out.1.trans (hb.mono HA.out.1.size))
  have HT := Lib.hid (thereS_below HA.out.2.1 hb HA.out.2.2)
  clear hb HA
  dsimp only
  rename_i K' hK'
  refine hK' _ _ ?_
  clear hK'
  refine wpList_store_mid rfl 27 _ _ rfl w.heap.size 0 Ts.toArray rfl rfl (by rw [hTz]; exact HT.out) (by rw [hTz]; exact sizeS17) (all_oneCell_toArray HSO.out) ?_
  have hrr := World.rangeAt_setCells_same w1 w.heap.size 0 Ts (by rw [hSl]; exact HT.out)
  have hbf := belowS_setCells HB.out w.heap.size (Nat.le_refl _) Ts 0
  have e55 : Ts.toArray.toList = Ts := rfl
  rw [e55]
  generalize w1.setCells w.heap.size 0 Ts = wf at *
  clear HT e55
  go_wp2_with fail
  exact bodyPost_ret (resultsS_style rfl _ _ w.heap.size Ts hSl rfl hrr) rfl ⟨rfl, hbf⟩
end Go.Proofs.Ythfabalnioggcaa
