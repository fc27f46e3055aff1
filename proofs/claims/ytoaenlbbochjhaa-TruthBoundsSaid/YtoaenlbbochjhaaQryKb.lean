/- Joined texts: QryK4 QryK5 QryK6 QryK7. -/
import Derived.Test.YtoaenlbbochjhaaQryKa
import Derived.Deep.CutBlock
import Derived.Test.YtoaenlbbochjhaaSynU1
import Derived.Test.YtoaenlbbochjhaaQryW1
namespace Go.Proofs.Ytoaenlbbochjhaa
open Go.RowKit TreN LexP FixP SynP ValP FixM QryP
set_option linter.unusedVariables false

theorem qn_und : ∃ d, Try.prog.underlying 39 = some d ∧ (match d with | .struct _ | .array _ _ => true | _ => false) = true := by
  have this : (Try.prog.underlying 39).map (fun d => match d with | .struct _ | .array _ _ => true | _ => false) = some true := by kernel_rfl
  cases h : Try.prog.underlying 39 with
  | none => rw [h] at this; cases this
  | some d => rw [h] at this; injection this with this; exact ⟨d, rfl, this⟩
theorem results_front8 (tmps : Array Value) (w : World) (H : Nat) (x0 x1 x2 x3 x4 x5 x6 x7 x8 u : Value) (hp : tmps.getD 4 undef = .pointer (some ⟨H, 0, none⟩)) (hu : tmps.getD 5 undef = u) (hg : w.heap[H]? = some (.cells #[x0, x1, x2, x3, x4, x5, x6, x7, x8] 39 (0, 0))) :
    (results Try.f95 tmps).run Try.prog w = .ok (.tuple #[.agg #[x0, x1, x2, x3, x4, x5, x6, x7, x8], u]) w := by
  obtain ⟨d, hd1, hd2⟩ := qn_und
  rw [results_cell_tmp (p := 4) (ty := 39) (u := 5) rfl, hp, hu]
  simp only [asAddr, Sem.run_pure, Result.andThen_ok, run_loadVar_row w H 39 39 _ (0, 0) d hg hd1 (by cases d <;> first | rfl | cases hd2) (by kernel_rfl)]
/-- nine stores into a node's block -/
theorem qn_store {w W : World} {H B : Nat} {p0 p1 p2 p3 p4 p5 p6 p7 p8 : Value} (hb : Below B w W) (hB : B ≤ H) (hx : W.heap[H]? = some (.cells #[p0, p1, p2, p3, p4, p5, p6, p7, p8] 39 (0, 0))) (v0 v1 v2 v3 v4 v5 v6 v7 v8 : Value) :
    ∃ x1 x2 x3 x4 x5 x6 x7 x8 x9, (W.cell? ⟨H, 0, none⟩ = some p0 ∧ W.frozen? ⟨H, 0, none⟩ = false ∧ W.setCell ⟨H, 0, none⟩ v0 = x1) ∧ (x1.cell? ⟨H, 1, none⟩ = some p1 ∧ x1.frozen? ⟨H, 1, none⟩ = false ∧ x1.setCell ⟨H, 1, none⟩ v1 = x2) ∧ (x2.cell? ⟨H, 2, none⟩ = some p2 ∧ x2.frozen? ⟨H, 2, none⟩ = false ∧ x2.setCell ⟨H, 2, none⟩ v2 = x3) ∧ (x3.cell? ⟨H, 3, none⟩ = some p3 ∧ x3.frozen? ⟨H, 3, none⟩ = false ∧ x3.setCell ⟨H, 3, none⟩ v3 = x4) ∧ (x4.cell? ⟨H, 4, none⟩ = some p4 ∧ x4.frozen? ⟨H, 4, none⟩ = false ∧ x4.setCell ⟨H, 4, none⟩ v4 = x5) ∧ (x5.cell? ⟨H, 5, none⟩ = some p5 ∧ x5.frozen? ⟨H, 5, none⟩ = false ∧ x5.setCell ⟨H, 5, none⟩ v5 = x6) ∧ (x6.cell? ⟨H, 6, none⟩ = some p6 ∧ x6.frozen? ⟨H, 6, none⟩ = false ∧ x6.setCell ⟨H, 6, none⟩ v6 = x7) ∧ (x7.cell? ⟨H, 7, none⟩ = some p7 ∧ x7.frozen? ⟨H, 7, none⟩ = false ∧ x7.setCell ⟨H, 7, none⟩ v7 = x8) ∧ (x8.cell? ⟨H, 8, none⟩ = some p8 ∧ x8.frozen? ⟨H, 8, none⟩ = false ∧ x8.setCell ⟨H, 8, none⟩ v8 = x9) ∧ Below B w x9 ∧ x9.heap[H]? = some (.cells #[v0, v1, v2, v3, v4, v5, v6, v7, v8] 39 (0, 0)) ∧ ∀ k, k ≠ H → x9.heap[k]? = W.heap[k]? := by
  have h0 := hx
  have h1 : (W.setCell ⟨H, 0, none⟩ v0).heap[H]? = some (.cells #[v0, p1, p2, p3, p4, p5, p6, p7, p8] 39 (0, 0)) := heap_setCell_same _ H 0 _ 39 v0 h0
  have c0 : W.cell? ⟨H, 0, none⟩ = some p0 := cell_of h0 rfl
  have f0 : W.frozen? ⟨H, 0, none⟩ = false := by unfold World.frozen?; rw [h0]; rfl
  have b0 : Below B w (W.setCell ⟨H, 0, none⟩ v0) := hb.setCell (p := ⟨H, 0, none⟩) hB v0
  have o0 : ∀ k, k ≠ H → (W.setCell ⟨H, 0, none⟩ v0).heap[k]? = W.heap[k]? := fun k hk => (heap_setCell_other _ _ _ _ (by exact hk))
  obtain ⟨x1, e1⟩ : ∃ x, W.setCell ⟨H, 0, none⟩ v0 = x := ⟨_, rfl⟩
  rw [e1] at h1 b0 o0
  have h2 : (x1.setCell ⟨H, 1, none⟩ v1).heap[H]? = some (.cells #[v0, v1, p2, p3, p4, p5, p6, p7, p8] 39 (0, 0)) := heap_setCell_same _ H 1 _ 39 v1 h1
  have c1 : x1.cell? ⟨H, 1, none⟩ = some p1 := cell_of h1 rfl
  have f1 : x1.frozen? ⟨H, 1, none⟩ = false := by unfold World.frozen?; rw [h1]; rfl
  have b1 : Below B w (x1.setCell ⟨H, 1, none⟩ v1) := b0.setCell (p := ⟨H, 1, none⟩) hB v1
  have o1 : ∀ k, k ≠ H → (x1.setCell ⟨H, 1, none⟩ v1).heap[k]? = W.heap[k]? := fun k hk => (heap_setCell_other _ _ _ _ (by exact hk)).trans (o0 k hk)
  obtain ⟨x2, e2⟩ : ∃ x, x1.setCell ⟨H, 1, none⟩ v1 = x := ⟨_, rfl⟩
  rw [e2] at h2 b1 o1
  have h3 : (x2.setCell ⟨H, 2, none⟩ v2).heap[H]? = some (.cells #[v0, v1, v2, p3, p4, p5, p6, p7, p8] 39 (0, 0)) := heap_setCell_same _ H 2 _ 39 v2 h2
  have c2 : x2.cell? ⟨H, 2, none⟩ = some p2 := cell_of h2 rfl
  have f2 : x2.frozen? ⟨H, 2, none⟩ = false := by unfold World.frozen?; rw [h2]; rfl
  have b2 : Below B w (x2.setCell ⟨H, 2, none⟩ v2) := b1.setCell (p := ⟨H, 2, none⟩) hB v2
  have o2 : ∀ k, k ≠ H → (x2.setCell ⟨H, 2, none⟩ v2).heap[k]? = W.heap[k]? := fun k hk => (heap_setCell_other _ _ _ _ (by exact hk)).trans (o1 k hk)
  obtain ⟨x3, e3⟩ : ∃ x, x2.setCell ⟨H, 2, none⟩ v2 = x := ⟨_, rfl⟩
  rw [e3] at h3 b2 o2
  have h4 : (x3.setCell ⟨H, 3, none⟩ v3).heap[H]? = some (.cells #[v0, v1, v2, v3, p4, p5, p6, p7, p8] 39 (0, 0)) := heap_setCell_same _ H 3 _ 39 v3 h3
  have c3 : x3.cell? ⟨H, 3, none⟩ = some p3 := cell_of h3 rfl
  have f3 : x3.frozen? ⟨H, 3, none⟩ = false := by unfold World.frozen?; rw [h3]; rfl
  have b3 : Below B w (x3.setCell ⟨H, 3, none⟩ v3) := b2.setCell (p := ⟨H, 3, none⟩) hB v3
  have o3 : ∀ k, k ≠ H → (x3.setCell ⟨H, 3, none⟩ v3).heap[k]? = W.heap[k]? := fun k hk => (heap_setCell_other _ _ _ _ (by exact hk)).trans (o2 k hk)
  obtain ⟨x4, e4⟩ : ∃ x, x3.setCell ⟨H, 3, none⟩ v3 = x := ⟨_, rfl⟩
  rw [e4] at h4 b3 o3
  have h5 : (x4.setCell ⟨H, 4, none⟩ v4).heap[H]? = some (.cells #[v0, v1, v2, v3, v4, p5, p6, p7, p8] 39 (0, 0)) := heap_setCell_same _ H 4 _ 39 v4 h4
  have c4 : x4.cell? ⟨H, 4, none⟩ = some p4 := cell_of h4 rfl
  have f4 : x4.frozen? ⟨H, 4, none⟩ = false := by unfold World.frozen?; rw [h4]; rfl
  have b4 : Below B w (x4.setCell ⟨H, 4, none⟩ v4) := b3.setCell (p := ⟨H, 4, none⟩) hB v4
  have o4 : ∀ k, k ≠ H → (x4.setCell ⟨H, 4, none⟩ v4).heap[k]? = W.heap[k]? := fun k hk => (heap_setCell_other _ _ _ _ (by exact hk)).trans (o3 k hk)
  obtain ⟨x5, e5⟩ : ∃ x, x4.setCell ⟨H, 4, none⟩ v4 = x := ⟨_, rfl⟩
  rw [e5] at h5 b4 o4
  have h6 : (x5.setCell ⟨H, 5, none⟩ v5).heap[H]? = some (.cells #[v0, v1, v2, v3, v4, v5, p6, p7, p8] 39 (0, 0)) := heap_setCell_same _ H 5 _ 39 v5 h5
  have c5 : x5.cell? ⟨H, 5, none⟩ = some p5 := cell_of h5 rfl
  have f5 : x5.frozen? ⟨H, 5, none⟩ = false := by unfold World.frozen?; rw [h5]; rfl
  have b5 : Below B w (x5.setCell ⟨H, 5, none⟩ v5) := b4.setCell (p := ⟨H, 5, none⟩) hB v5
  have o5 : ∀ k, k ≠ H → (x5.setCell ⟨H, 5, none⟩ v5).heap[k]? = W.heap[k]? := fun k hk => (heap_setCell_other _ _ _ _ (by exact hk)).trans (o4 k hk)
  obtain ⟨x6, e6⟩ : ∃ x, x5.setCell ⟨H, 5, none⟩ v5 = x := ⟨_, rfl⟩
  rw [e6] at h6 b5 o5
  have h7 : (x6.setCell ⟨H, 6, none⟩ v6).heap[H]? = some (.cells #[v0, v1, v2, v3, v4, v5, v6, p7, p8] 39 (0, 0)) := heap_setCell_same _ H 6 _ 39 v6 h6
  have c6 : x6.cell? ⟨H, 6, none⟩ = some p6 := cell_of h6 rfl
  have f6 : x6.frozen? ⟨H, 6, none⟩ = false := by unfold World.frozen?; rw [h6]; rfl
  have b6 : Below B w (x6.setCell ⟨H, 6, none⟩ v6) := b5.setCell (p := ⟨H, 6, none⟩) hB v6
  have o6 : ∀ k, k ≠ H → (x6.setCell ⟨H, 6, none⟩ v6).heap[k]? = W.heap[k]? := fun k hk => (heap_setCell_other _ _ _ _ (by exact hk)).trans (o5 k hk)
  obtain ⟨x7, e7⟩ : ∃ x, x6.setCell ⟨H, 6, none⟩ v6 = x := ⟨_, rfl⟩
  rw [e7] at h7 b6 o6
  have h8 : (x7.setCell ⟨H, 7, none⟩ v7).heap[H]? = some (.cells #[v0, v1, v2, v3, v4, v5, v6, v7, p8] 39 (0, 0)) := heap_setCell_same _ H 7 _ 39 v7 h7
  have c7 : x7.cell? ⟨H, 7, none⟩ = some p7 := cell_of h7 rfl
  have f7 : x7.frozen? ⟨H, 7, none⟩ = false := by unfold World.frozen?; rw [h7]; rfl
  have b7 : Below B w (x7.setCell ⟨H, 7, none⟩ v7) := b6.setCell (p := ⟨H, 7, none⟩) hB v7
  have o7 : ∀ k, k ≠ H → (x7.setCell ⟨H, 7, none⟩ v7).heap[k]? = W.heap[k]? := fun k hk => (heap_setCell_other _ _ _ _ (by exact hk)).trans (o6 k hk)
  obtain ⟨x8, e8⟩ : ∃ x, x7.setCell ⟨H, 7, none⟩ v7 = x := ⟨_, rfl⟩
  rw [e8] at h8 b7 o7
  have h9 : (x8.setCell ⟨H, 8, none⟩ v8).heap[H]? = some (.cells #[v0, v1, v2, v3, v4, v5, v6, v7, v8] 39 (0, 0)) := heap_setCell_same _ H 8 _ 39 v8 h8
  have c8 : x8.cell? ⟨H, 8, none⟩ = some p8 := cell_of h8 rfl
  have f8 : x8.frozen? ⟨H, 8, none⟩ = false := by unfold World.frozen?; rw [h8]; rfl
  have b8 : Below B w (x8.setCell ⟨H, 8, none⟩ v8) := b7.setCell (p := ⟨H, 8, none⟩) hB v8
  have o8 : ∀ k, k ≠ H → (x8.setCell ⟨H, 8, none⟩ v8).heap[k]? = W.heap[k]? := fun k hk => (heap_setCell_other _ _ _ _ (by exact hk)).trans (o7 k hk)
  obtain ⟨x9, e9⟩ : ∃ x, x8.setCell ⟨H, 8, none⟩ v8 = x := ⟨_, rfl⟩
  rw [e9] at h9 b8 o8
  exact ⟨x1, x2, x3, x4, x5, x6, x7, x8, x9, ⟨c0, f0, e1⟩, ⟨c1, f1, e2⟩, ⟨c2, f2, e3⟩, ⟨c3, f3, e4⟩, ⟨c4, f4, e5⟩, ⟨c5, f5, e6⟩, ⟨c6, f6, e7⟩, ⟨c7, f7, e8⟩, ⟨c8, f8, e9⟩, b8, h9, o8⟩
set_option maxRecDepth 100000 in
set_option maxHeartbeats 8000000 in
theorem refFront8_alone (a : Option Addr) (l : List Tok) (n cap i f : Nat) (w : World) (hn : l.length = n) (hm : n ≤ 400000) (hi : i < l.length) (hT : Tks w a l) (hf : calledS l[i].text = f) (hf1 : 1 ≤ f) (hk : skipN l (i + 1) = n) :
    Calls Try.prog 95 #[.slice a n cap, .int .i64 (i : Int)] w fun e w' => e = .returned (.tuple #[.agg #[.int .i64 4, .int .i64 0, .int .i64 (f : Int), .int .i64 0, .int .i64 0, .int .i64 0, .int .i64 0, .int .i64 0, .int .i64 0], .bool true]) ∧ Below w.heap.size w w' := by
  have hb0 : Below w.heap.size w (w.alloc (.cells #[.int .i64 0, .int .i64 0, .int .i64 0, .int .i64 0, .int .i64 0, .int .i64 0, .int .i64 0, .int .i64 0, .int .i64 0] 39)) := below_oneQ w _
  have hx := heap_alloc_new w (.cells #[.int .i64 0, .int .i64 0, .int .i64 0, .int .i64 0, .int .i64 0, .int .i64 0, .int .i64 0, .int .i64 0, .int .i64 0] 39)
  have hsz : w.heap.size < (w.alloc (.cells #[.int .i64 0, .int .i64 0, .int .i64 0, .int .i64 0, .int .i64 0, .int .i64 0, .int .i64 0, .int .i64 0, .int .i64 0] 39)).heap.size := by simp
  generalize hW0 : w.alloc (.cells #[.int .i64 0, .int .i64 0, .int .i64 0, .int .i64 0, .int .i64 0, .int .i64 0, .int .i64 0, .int .i64 0, .int .i64 0] 39) = W0 at *
  have C := fun W => refCalled8_any l[i].text W
  rw [hf] at C
  have HC := Lib.hid C
  have S := fun W (hW : Below w.heap.size w W) => refSyn8_any a l n cap (i + 1) W hn (by omega) (by omega) (hT.below hW)
  rw [hk, show ((i + 1 : Nat) : Int) = (i : Int) + 1 by omega] at S
  have HS := Lib.hid S
  have I := fun W (hW : Below w.heap.size w W) => refIs7_any a l n cap n 10 W hn (by omega) (by omega) (hT.below hW)
  rw [isP_ge (by omega)] at I
  have HI := Lib.hid I
  have E := fun W (hW : Below w.heap.size w W) => refEnds8_any a l n cap n W hn (by omega) (by omega) (hT.below hW)
  have hsn : skipN l n = n := skipN_no (isP_ge (by omega) _)
  rw [hsn, decide_eq_true rfl] at E
  have HE := Lib.hid E
  obtain ⟨b, o, rfl, hbw, ht⟩ := (hT.below hb0).get (i := i) hi
  have d1 : W0.cell? ⟨b, o + i * 3 + 1, none⟩ = some (.string ⟨l[i].text.toArray⟩) := ht.text
  have hz : (i : Int) < (n : Int) := by omega
  have hz0 : (0 : Int) ≤ (i : Int) := by omega
  have hzb : (i : Int) ≤ 400000 := by omega
  have zf : ((f : Int) == 0) = false := by rw [beq_eq_false_iff_ne]; omega
  generalize l[i].text = tx at *
  have HB := Lib.hid hb0
  have HX := Lib.hid hx
  have HZ := Lib.hid hsz
  clear C S I E hT hn hb0 hx ht hk hf hi hf1 hm hsz hsn
  go_enter Try.func95, Try.ntmps95
  go_wp2_with fail
  refine (HC.out _).mono ?_
  rintro e w1 ⟨rfl, hb⟩
  have hB1 := HB.out.trans (hb.mono HB.out.size)
  have hx1 := (hb.block _ HZ.out).trans HX.out
  have hs1 : w.heap.size < w1.heap.size := Nat.lt_of_lt_of_le HZ.out hb.size
  go_upto_region 12 with (fail)
  have bb := below_oneQ w1 (.cells #[.int .i64 4, .int .i64 0, .int .i64 (f : Int), .int .i64 0, .int .i64 0, .int .i64 0, .int .i64 0, .int .i64 0, .int .i64 0] 39)
  have hy := heap_alloc_new w1 (.cells #[.int .i64 4, .int .i64 0, .int .i64 (f : Int), .int .i64 0, .int .i64 0, .int .i64 0, .int .i64 0, .int .i64 0, .int .i64 0] 39)
  have hB2 := hB1.trans (bb.mono hB1.size)
  have hx2 := (bb.block _ hs1).trans hx1
  generalize hW2 : w1.alloc (.cells #[.int .i64 4, .int .i64 0, .int .i64 (f : Int), .int .i64 0, .int .i64 0, .int .i64 0, .int .i64 0, .int .i64 0, .int .i64 0] 39) = W2 at *
  obtain ⟨y0, y1, y2, y3, y4, y5, y6, y7, y8⟩ := qn_cells hy
  obtain ⟨x1, x2, x3, x4, x5, x6, x7, x8, x9, ⟨s1, t1, r1⟩, ⟨s2, t2, r2⟩, ⟨s3, t3, r3⟩, ⟨s4, t4, r4⟩, ⟨s5, t5, r5⟩, ⟨s6, t6, r6⟩, ⟨s7, t7, r7⟩, ⟨s8, t8, r8⟩, ⟨s9, t9, r9⟩, sb, sx, so⟩ := qn_store hB2 (Nat.le_refl _) hx2 (.int .i64 4) (.int .i64 0) (.int .i64 (f : Int)) (.int .i64 0) (.int .i64 0) (.int .i64 0) (.int .i64 0) (.int .i64 0) (.int .i64 0)
  have SB := Lib.hid sb
  have SX := Lib.hid sx
  have HB2 := Lib.hid hB2
  clear sb sx so hb hB1 hx1 bb hy hx2 hB2 hs1
  go_wp2_with fail
  refine (HS.out _ HB2.out).mono ?_
  rintro e W2 ⟨rfl, rfl⟩
  go_wp2_with fail
  refine (HI.out _ HB2.out).mono ?_
  rintro e W2 ⟨rfl, rfl⟩
  go_wp2_with fail
  refine (HE.out _ HB2.out).mono ?_
  rintro e W2 ⟨rfl, rfl⟩
  go_wp2_with fail
  refine bodyPost_ret_by (results_front8 _ _ w.heap.size (.int .i64 4) (.int .i64 0) (.int .i64 (f : Int)) (.int .i64 0) (.int .i64 0) (.int .i64 0) (.int .i64 0) (.int .i64 0) (.int .i64 0) (.bool true) rfl rfl SX.out) rfl ⟨rfl, SB.out⟩
end Go.Proofs.Ytoaenlbbochjhaa

namespace Go.Proofs.Ytoaenlbbochjhaa
open Go.RowKit TreN LexP FixP SynP ValP FixM QryP
set_option linter.unusedVariables false

/-- three stores into a node's second bound -/
theorem hi_store {w W : World} {H B : Nat} {p0 p1 p2 p3 p4 p5 p6 p7 p8 : Value} (hb : Below B w W) (hB : B ≤ H) (hx : W.heap[H]? = some (.cells #[p0, p1, p2, p3, p4, p5, p6, p7, p8] 39 (0, 0))) (v0 v1 v2 : Value) :
    ∃ x1 x2 x3, (W.cell? ⟨H, 6, none⟩ = some p6 ∧ W.frozen? ⟨H, 6, none⟩ = false ∧ W.setCell ⟨H, 6, none⟩ v0 = x1) ∧ (x1.cell? ⟨H, 7, none⟩ = some p7 ∧ x1.frozen? ⟨H, 7, none⟩ = false ∧ x1.setCell ⟨H, 7, none⟩ v1 = x2) ∧
      (x2.cell? ⟨H, 8, none⟩ = some p8 ∧ x2.frozen? ⟨H, 8, none⟩ = false ∧ x2.setCell ⟨H, 8, none⟩ v2 = x3) ∧ Below B w x3 ∧ x3.heap[H]? = some (.cells #[p0, p1, p2, p3, p4, p5, v0, v1, v2] 39 (0, 0)) ∧ ∀ k, k ≠ H → x3.heap[k]? = W.heap[k]? := by
  have h1 : (W.setCell ⟨H, 6, none⟩ v0).heap[H]? = some (.cells #[p0, p1, p2, p3, p4, p5, v0, p7, p8] 39 (0, 0)) := heap_setCell_same W H 6 _ 39 v0 hx
  have h2 : ((W.setCell ⟨H, 6, none⟩ v0).setCell ⟨H, 7, none⟩ v1).heap[H]? = some (.cells #[p0, p1, p2, p3, p4, p5, v0, v1, p8] 39 (0, 0)) := heap_setCell_same _ H 7 _ 39 v1 h1
  have h3 : (((W.setCell ⟨H, 6, none⟩ v0).setCell ⟨H, 7, none⟩ v1).setCell ⟨H, 8, none⟩ v2).heap[H]? = some (.cells #[p0, p1, p2, p3, p4, p5, v0, v1, v2] 39 (0, 0)) := heap_setCell_same _ H 8 _ 39 v2 h2
  refine ⟨_, _, _, ⟨cell_of hx rfl, ?_, rfl⟩, ⟨cell_of h1 rfl, ?_, rfl⟩, ⟨cell_of h2 rfl, ?_, rfl⟩, ((hb.setCell (p := ⟨H, 6, none⟩) hB v0).setCell (p := ⟨H, 7, none⟩) hB v1).setCell (p := ⟨H, 8, none⟩) hB v2, h3, fun k hk => ?_⟩
  · unfold World.frozen?; rw [hx]; rfl
  · unfold World.frozen?; rw [h1]; rfl
  · unfold World.frozen?; rw [h2]; rfl
  · rw [heap_setCell_other _ _ _ _ (by exact hk), heap_setCell_other _ _ _ _ (by exact hk), heap_setCell_other _ _ _ _ (by exact hk)]
set_option maxRecDepth 100000 in
set_option maxHeartbeats 16000000 in
theorem refFront8_op (a : Option Addr) (l : List Tok) (n cap i f k nx kk : Nat) (op v1 v2 : Int) (w : World) (hn : l.length = n) (hm : n ≤ 400000) (hi : i < l.length) (hT : Tks w a l) (hf : calledS l[i].text = f) (hf1 : 1 ≤ f) (hf6 : f ≤ 6) (hk : skipN l (i + 1) = k) (hkn : k < n) (hcol : isP l k 10 = false) (hne : ¬ skipN l k = n) (hop : opS l k = (op, nx)) (hop0 : op ≠ 0) (hf5 : f ≠ 6)
    (hkk : kk ≤ n) (hend : skipN l kk = n) (hval : ∀ W : World, Below w.heap.size w W → Calls Try.prog 100 #[.slice a n cap, .int .i64 (nx : Int), .int .i64 (f : Int)] W fun e w' => e = .returned (.tuple #[.agg #[.int .i64 0, .int .i64 v1, .int .i64 v2], .int .i64 (kk : Int), .bool true]) ∧ Below W.heap.size W w') :
    Calls Try.prog 95 #[.slice a n cap, .int .i64 (i : Int)] w fun e w' => e = .returned (.tuple #[.agg #[.int .i64 4, .int .i64 0, .int .i64 (f : Int), .int .i64 0, .int .i64 0, .int .i64 0, .int .i64 op, .int .i64 v1, .int .i64 v2], .bool true]) ∧ Below w.heap.size w w' := by
  have hb0 : Below w.heap.size w (w.alloc (.cells #[.int .i64 0, .int .i64 0, .int .i64 0, .int .i64 0, .int .i64 0, .int .i64 0, .int .i64 0, .int .i64 0, .int .i64 0] 39)) := below_oneQ w _
  have hx := heap_alloc_new w (.cells #[.int .i64 0, .int .i64 0, .int .i64 0, .int .i64 0, .int .i64 0, .int .i64 0, .int .i64 0, .int .i64 0, .int .i64 0] 39)
  have hsz : w.heap.size < (w.alloc (.cells #[.int .i64 0, .int .i64 0, .int .i64 0, .int .i64 0, .int .i64 0, .int .i64 0, .int .i64 0, .int .i64 0, .int .i64 0] 39)).heap.size := by simp
  generalize hW0 : w.alloc (.cells #[.int .i64 0, .int .i64 0, .int .i64 0, .int .i64 0, .int .i64 0, .int .i64 0, .int .i64 0, .int .i64 0, .int .i64 0] 39) = W0 at *
  have C := fun W => refCalled8_any l[i].text W
  rw [hf] at C
  have HC := Lib.hid C
  have S := fun W (hW : Below w.heap.size w W) => refSyn8_any a l n cap (i + 1) W hn (by omega) (by omega) (hT.below hW)
  rw [hk, show ((i + 1 : Nat) : Int) = (i : Int) + 1 by omega] at S
  have HS := Lib.hid S
  have I := fun W (hW : Below w.heap.size w W) => refIs7_any a l n cap k 10 W hn (by omega) (by omega) (hT.below hW)
  rw [hcol] at I
  have HI := Lib.hid I
  have E0 := fun W (hW : Below w.heap.size w W) => refEnds8_any a l n cap k W hn (by omega) (by omega) (hT.below hW)
  rw [decide_eq_false hne] at E0
  have HE0 := Lib.hid E0
  have O := fun W (hW : Below w.heap.size w W) => refOp8_any a l n cap k W hn (by omega) (by omega) (hT.below hW)
  rw [hop] at O
  have HO := Lib.hid O
  have zo : (op == 0) = false := by rw [beq_eq_false_iff_ne]; exact hop0
  have z6 : ((f : Int) == 6) = false := by rw [beq_eq_false_iff_ne]; omega
  have E := fun W (hW : Below w.heap.size w W) => refEnds8_any a l n cap kk W hn (by omega) (by omega) (hT.below hW)
  rw [hend, decide_eq_true rfl] at E
  have HE := Lib.hid E
  have HV := Lib.hid hval
  obtain ⟨b, o, rfl, hbw, ht⟩ := (hT.below hb0).get (i := i) hi
  have d1 : W0.cell? ⟨b, o + i * 3 + 1, none⟩ = some (.string ⟨l[i].text.toArray⟩) := ht.text
  have hz : (i : Int) < (n : Int) := by omega
  have hz0 : (0 : Int) ≤ (i : Int) := by omega
  have hzb : (i : Int) ≤ 400000 := by omega
  have zf : ((f : Int) == 0) = false := by rw [beq_eq_false_iff_ne]; omega
  generalize l[i].text = tx at *
  have HB := Lib.hid hb0
  have HX := Lib.hid hx
  have HZ := Lib.hid hsz
  clear C S E hT hn hb0 hx ht hk hf hi hf1 hm hsz hend hval I E0 O hcol hne hop hop0 hf5 hf6
  go_enter Try.func95, Try.ntmps95
  go_wp2_with fail
  refine (HC.out _).mono ?_
  rintro e w1 ⟨rfl, hb⟩
  have hB1 := HB.out.trans (hb.mono HB.out.size)
  have hx1 := (hb.block _ HZ.out).trans HX.out
  have hs1 : w.heap.size < w1.heap.size := Nat.lt_of_lt_of_le HZ.out hb.size
  go_upto_region 12 with (fail)
  have bb := below_oneQ w1 (.cells #[.int .i64 4, .int .i64 0, .int .i64 (f : Int), .int .i64 0, .int .i64 0, .int .i64 0, .int .i64 0, .int .i64 0, .int .i64 0] 39)
  have hy := heap_alloc_new w1 (.cells #[.int .i64 4, .int .i64 0, .int .i64 (f : Int), .int .i64 0, .int .i64 0, .int .i64 0, .int .i64 0, .int .i64 0, .int .i64 0] 39)
  have hB2 := hB1.trans (bb.mono hB1.size)
  have hx2 := (bb.block _ hs1).trans hx1
  have hs2 : w1.heap.size < (w1.alloc (.cells #[.int .i64 4, .int .i64 0, .int .i64 (f : Int), .int .i64 0, .int .i64 0, .int .i64 0, .int .i64 0, .int .i64 0, .int .i64 0] 39)).heap.size := by simp
  generalize hW2 : w1.alloc (.cells #[.int .i64 4, .int .i64 0, .int .i64 (f : Int), .int .i64 0, .int .i64 0, .int .i64 0, .int .i64 0, .int .i64 0, .int .i64 0] 39) = W2 at *
  have HB2 := Lib.hid hB2
  have HX2 := Lib.hid hx2
  have HY2 := Lib.hid hy
  have HS2 := Lib.hid hs2
  have HS1 := Lib.hid hs1
  clear hb hB1 hx1 bb hy hx2 hB2 hs1 hs2
  go_wp2_with fail
  refine (HS.out _ HB2.out).mono ?_
  rintro e W2 ⟨rfl, rfl⟩
  go_wp2_with fail
  refine (HI.out _ HB2.out).mono ?_
  rintro e W2 ⟨rfl, rfl⟩
  go_wp2_with fail
  refine (HE0.out _ HB2.out).mono ?_
  rintro e W2 ⟨rfl, rfl⟩
  go_wp2_with fail
  refine (HO.out _ HB2.out).mono ?_
  rintro e W2 ⟨rfl, rfl⟩
  go_wp2_with fail
  refine (HV.out _ HB2.out).mono ?_
  rintro e w3 ⟨rfl, hb⟩
  have hB3 := HB2.out.trans (hb.mono HB2.out.size)
  have hx3 := (hb.block _ (Nat.lt_trans HS1.out HS2.out)).trans HX2.out
  have hy3 := (hb.block _ HS2.out).trans HY2.out
  have hs3 : w1.heap.size < w3.heap.size := Nat.lt_of_lt_of_le HS2.out hb.size
  go_upto_region 28 with (fail)
  have bb := below_oneQ w3 (.cells #[.int .i64 0, .int .i64 v1, .int .i64 v2] 37)
  have hz4 := heap_alloc_new w3 (.cells #[.int .i64 0, .int .i64 v1, .int .i64 v2] 37)
  have hB4 := hB3.trans (bb.mono hB3.size)
  have hx4 := (bb.block _ (Nat.lt_trans HS1.out hs3)).trans hx3
  have hy4 := (bb.block _ hs3).trans hy3
  generalize hW4 : w3.alloc (.cells #[.int .i64 0, .int .i64 v1, .int .i64 v2] 37) = W4 at *
  have p0 : W4.cell? ⟨w3.heap.size, 0, none⟩ = some (.int .i64 0) := cell_of hz4 rfl
  have p1 : W4.frozen? ⟨w3.heap.size, 0, none⟩ = false := by unfold World.frozen?; rw [hz4]; rfl
  have hz5 := heap_setCell_same W4 w3.heap.size 0 _ 37 (.int .i64 op) hz4
  have hy5 := (heap_setCell_other W4 ⟨w3.heap.size, 0, none⟩ w1.heap.size (.int .i64 op) (by show w1.heap.size ≠ w3.heap.size; omega)).trans hy4
  have hx5 := (heap_setCell_other W4 ⟨w3.heap.size, 0, none⟩ w.heap.size (.int .i64 op) (by show w.heap.size ≠ w3.heap.size; have := HS1.out; omega)).trans hx4
  have hB5 := hB4.setCell (p := ⟨w3.heap.size, 0, none⟩) (by show w.heap.size ≤ w3.heap.size; have := HS1.out; omega) (.int .i64 op)
  generalize hW5 : W4.setCell ⟨w3.heap.size, 0, none⟩ (.int .i64 op) = W5 at *
  have q0 : W5.cell? ⟨w3.heap.size, 0, none⟩ = some (.int .i64 op) := cell_of hz5 rfl
  have q1 : W5.cell? ⟨w3.heap.size, 1, none⟩ = some (.int .i64 v1) := cell_of hz5 rfl
  have q2 : W5.cell? ⟨w3.heap.size, 2, none⟩ = some (.int .i64 v2) := cell_of hz5 rfl
  obtain ⟨x1, x2, x3, ⟨s1, s2, s3⟩, ⟨s4, s5, s6⟩, ⟨s7, s8, s9⟩, hB6, hy6, ho6⟩ := hi_store hB5 (Nat.le_of_lt HS1.out) hy5 (.int .i64 op) (.int .i64 v1) (.int .i64 v2)
  have hx6 := (ho6 w.heap.size (Nat.ne_of_lt HS1.out)).trans hx5
  have HB6 := Lib.hid hB6
  have HX6 := Lib.hid hx6
  have HY6 := Lib.hid hy6
  clear hb hB3 hx3 hy3 hs3 bb hz4 hB4 hx4 hy4 hz5 hy5 hx5 hB5 hB6 hy6 ho6 hx6
  go_upto_region 30 with (fail)
  obtain ⟨y0, y1, y2, y3, y4, y5, y6, y7, y8⟩ := qn_cells HY6.out
  obtain ⟨z1, z2, z3, z4, z5, z6, z7, z8, z9, ⟨l1, t1, r1⟩, ⟨l2, t2, r2⟩, ⟨l3, t3, r3⟩, ⟨l4, t4, r4⟩, ⟨l5, t5, r5⟩, ⟨l6, t6, r6⟩, ⟨l7, t7, r7⟩, ⟨l8, t8, r8⟩, ⟨l9, t9, r9⟩, sb, sx, so⟩ := qn_store HB6.out (Nat.le_refl _) HX6.out (.int .i64 4) (.int .i64 0) (.int .i64 (f : Int)) (.int .i64 0) (.int .i64 0) (.int .i64 0) (.int .i64 op) (.int .i64 v1) (.int .i64 v2)
  have SB := Lib.hid sb
  have SX := Lib.hid sx
  clear sb sx so
  go_region_with (go_at_call 63; refine (HE.out _ HB6.out.drew).mono ?_; rintro e wq ⟨rfl, rfl⟩)
  all_goals go_wp2_with fail
  all_goals refine bodyPost_ret_by (results_front8 _ _ w.heap.size (.int .i64 4) (.int .i64 0) (.int .i64 (f : Int)) (.int .i64 0) (.int .i64 0) (.int .i64 0) (.int .i64 op) (.int .i64 v1) (.int .i64 v2) (.bool true) rfl rfl SX.out) rfl ⟨rfl, SB.out.drew⟩
set_option maxRecDepth 100000 in
set_option maxHeartbeats 16000000 in
theorem refFront8_colon (a : Option Addr) (l : List Tok) (n cap i f k nx kk : Nat) (v1 v2 : Int) (w : World) (hn : l.length = n) (hm : n ≤ 400000) (hi : i < l.length) (hT : Tks w a l) (hf : calledS l[i].text = f) (hf1 : 1 ≤ f) (hf6 : f ≤ 6) (hk : skipN l (i + 1) = k) (hkn : k < n) (hcol : isP l k 10 = true) (hnx : nx = k + 1)
    (hkk : kk ≤ n) (hend : skipN l kk = n) (hval : ∀ W : World, Below w.heap.size w W → Calls Try.prog 100 #[.slice a n cap, .int .i64 (nx : Int), .int .i64 (f : Int)] W fun e w' => e = .returned (.tuple #[.agg #[.int .i64 0, .int .i64 v1, .int .i64 v2], .int .i64 (kk : Int), .bool true]) ∧ Below W.heap.size W w') :
    Calls Try.prog 95 #[.slice a n cap, .int .i64 (i : Int)] w fun e w' => e = .returned (.tuple #[.agg #[.int .i64 4, .int .i64 0, .int .i64 (f : Int), .int .i64 0, .int .i64 0, .int .i64 0, .int .i64 3, .int .i64 v1, .int .i64 v2], .bool true]) ∧ Below w.heap.size w w' := by
  have hb0 : Below w.heap.size w (w.alloc (.cells #[.int .i64 0, .int .i64 0, .int .i64 0, .int .i64 0, .int .i64 0, .int .i64 0, .int .i64 0, .int .i64 0, .int .i64 0] 39)) := below_oneQ w _
  have hx := heap_alloc_new w (.cells #[.int .i64 0, .int .i64 0, .int .i64 0, .int .i64 0, .int .i64 0, .int .i64 0, .int .i64 0, .int .i64 0, .int .i64 0] 39)
  have hsz : w.heap.size < (w.alloc (.cells #[.int .i64 0, .int .i64 0, .int .i64 0, .int .i64 0, .int .i64 0, .int .i64 0, .int .i64 0, .int .i64 0, .int .i64 0] 39)).heap.size := by simp
  generalize hW0 : w.alloc (.cells #[.int .i64 0, .int .i64 0, .int .i64 0, .int .i64 0, .int .i64 0, .int .i64 0, .int .i64 0, .int .i64 0, .int .i64 0] 39) = W0 at *
  have C := fun W => refCalled8_any l[i].text W
  rw [hf] at C
  have HC := Lib.hid C
  have S := fun W (hW : Below w.heap.size w W) => refSyn8_any a l n cap (i + 1) W hn (by omega) (by omega) (hT.below hW)
  rw [hk, show ((i + 1 : Nat) : Int) = (i : Int) + 1 by omega] at S
  have HS := Lib.hid S
  have I := fun W (hW : Below w.heap.size w W) => refIs7_any a l n cap k 10 W hn (by omega) (by omega) (hT.below hW)
  rw [hcol] at I
  have HI := Lib.hid I
  have HNX : Hid ((k : Int) + 1 = (nx : Int)) := Lib.hid (by omega)
  have hkb : (k : Int) ≤ 400000 := by omega
  have hk0 : (0 : Int) ≤ (k : Int) := by omega
  have E := fun W (hW : Below w.heap.size w W) => refEnds8_any a l n cap kk W hn (by omega) (by omega) (hT.below hW)
  rw [hend, decide_eq_true rfl] at E
  have HE := Lib.hid E
  have HV := Lib.hid hval
  obtain ⟨b, o, rfl, hbw, ht⟩ := (hT.below hb0).get (i := i) hi
  have d1 : W0.cell? ⟨b, o + i * 3 + 1, none⟩ = some (.string ⟨l[i].text.toArray⟩) := ht.text
  have hz : (i : Int) < (n : Int) := by omega
  have hz0 : (0 : Int) ≤ (i : Int) := by omega
  have hzb : (i : Int) ≤ 400000 := by omega
  have zf : ((f : Int) == 0) = false := by rw [beq_eq_false_iff_ne]; omega
  generalize l[i].text = tx at *
  have HB := Lib.hid hb0
  have HX := Lib.hid hx
  have HZ := Lib.hid hsz
  clear C S E hT hn hb0 hx ht hk hf hi hf1 hm hsz hend hval I hcol hnx hf6
  go_enter Try.func95, Try.ntmps95
  go_wp2_with fail
  refine (HC.out _).mono ?_
  rintro e w1 ⟨rfl, hb⟩
  have hB1 := HB.out.trans (hb.mono HB.out.size)
  have hx1 := (hb.block _ HZ.out).trans HX.out
  have hs1 : w.heap.size < w1.heap.size := Nat.lt_of_lt_of_le HZ.out hb.size
  go_upto_region 12 with (fail)
  have bb := below_oneQ w1 (.cells #[.int .i64 4, .int .i64 0, .int .i64 (f : Int), .int .i64 0, .int .i64 0, .int .i64 0, .int .i64 0, .int .i64 0, .int .i64 0] 39)
  have hy := heap_alloc_new w1 (.cells #[.int .i64 4, .int .i64 0, .int .i64 (f : Int), .int .i64 0, .int .i64 0, .int .i64 0, .int .i64 0, .int .i64 0, .int .i64 0] 39)
  have hB2 := hB1.trans (bb.mono hB1.size)
  have hx2 := (bb.block _ hs1).trans hx1
  have hs2 : w1.heap.size < (w1.alloc (.cells #[.int .i64 4, .int .i64 0, .int .i64 (f : Int), .int .i64 0, .int .i64 0, .int .i64 0, .int .i64 0, .int .i64 0, .int .i64 0] 39)).heap.size := by simp
  generalize hW2 : w1.alloc (.cells #[.int .i64 4, .int .i64 0, .int .i64 (f : Int), .int .i64 0, .int .i64 0, .int .i64 0, .int .i64 0, .int .i64 0, .int .i64 0] 39) = W2 at *
  have HB2 := Lib.hid hB2
  have HX2 := Lib.hid hx2
  have HY2 := Lib.hid hy
  have HS2 := Lib.hid hs2
  have HS1 := Lib.hid hs1
  clear hb hB1 hx1 bb hy hx2 hB2 hs1 hs2
  go_wp2_with fail
  refine (HS.out _ HB2.out).mono ?_
  rintro e W2 ⟨rfl, rfl⟩
  go_wp2_with fail
  refine (HI.out _ HB2.out).mono ?_
  rintro e W2 ⟨rfl, rfl⟩
  go_wp2_with fail
  rw [HNX.out]
  refine (HV.out _ HB2.out).mono ?_
  rintro e w3 ⟨rfl, hb⟩
  have hB3 := HB2.out.trans (hb.mono HB2.out.size)
  have hx3 := (hb.block _ (Nat.lt_trans HS1.out HS2.out)).trans HX2.out
  have hy3 := (hb.block _ HS2.out).trans HY2.out
  have hs3 : w1.heap.size < w3.heap.size := Nat.lt_of_lt_of_le HS2.out hb.size
  go_upto_region 17 with (fail)
  have bb := below_oneQ w3 (.cells #[.int .i64 0, .int .i64 v1, .int .i64 v2] 37)
  have hz4 := heap_alloc_new w3 (.cells #[.int .i64 0, .int .i64 v1, .int .i64 v2] 37)
  have hB4 := hB3.trans (bb.mono hB3.size)
  have hx4 := (bb.block _ (Nat.lt_trans HS1.out hs3)).trans hx3
  have hy4 := (bb.block _ hs3).trans hy3
  generalize hW4 : w3.alloc (.cells #[.int .i64 0, .int .i64 v1, .int .i64 v2] 37) = W4 at *
  have p0 : W4.cell? ⟨w3.heap.size, 0, none⟩ = some (.int .i64 0) := cell_of hz4 rfl
  have p1 : W4.frozen? ⟨w3.heap.size, 0, none⟩ = false := by unfold World.frozen?; rw [hz4]; rfl
  have hz5 := heap_setCell_same W4 w3.heap.size 0 _ 37 (.int .i64 3) hz4
  have hy5 := (heap_setCell_other W4 ⟨w3.heap.size, 0, none⟩ w1.heap.size (.int .i64 3) (by show w1.heap.size ≠ w3.heap.size; omega)).trans hy4
  have hx5 := (heap_setCell_other W4 ⟨w3.heap.size, 0, none⟩ w.heap.size (.int .i64 3) (by show w.heap.size ≠ w3.heap.size; have := HS1.out; omega)).trans hx4
  have hB5 := hB4.setCell (p := ⟨w3.heap.size, 0, none⟩) (by show w.heap.size ≤ w3.heap.size; have := HS1.out; omega) (.int .i64 3)
  generalize hW5 : W4.setCell ⟨w3.heap.size, 0, none⟩ (.int .i64 3) = W5 at *
  have q0 : W5.cell? ⟨w3.heap.size, 0, none⟩ = some (.int .i64 3) := cell_of hz5 rfl
  have q1 : W5.cell? ⟨w3.heap.size, 1, none⟩ = some (.int .i64 v1) := cell_of hz5 rfl
  have q2 : W5.cell? ⟨w3.heap.size, 2, none⟩ = some (.int .i64 v2) := cell_of hz5 rfl
  obtain ⟨x1, x2, x3, ⟨s1, s2, s3⟩, ⟨s4, s5, s6⟩, ⟨s7, s8, s9⟩, hB6, hy6, ho6⟩ := hi_store hB5 (Nat.le_of_lt HS1.out) hy5 (.int .i64 3) (.int .i64 v1) (.int .i64 v2)
  have hx6 := (ho6 w.heap.size (Nat.ne_of_lt HS1.out)).trans hx5
  have HB6 := Lib.hid hB6
  have HX6 := Lib.hid hx6
  have HY6 := Lib.hid hy6
  clear hb hB3 hx3 hy3 hs3 bb hz4 hB4 hx4 hy4 hz5 hy5 hx5 hB5 hB6 hy6 ho6 hx6
  go_upto_region 19 with (fail)
  obtain ⟨y0, y1, y2, y3, y4, y5, y6, y7, y8⟩ := qn_cells HY6.out
  obtain ⟨z1, z2, z3, z4, z5, z6, z7, z8, z9, ⟨l1, t1, r1⟩, ⟨l2, t2, r2⟩, ⟨l3, t3, r3⟩, ⟨l4, t4, r4⟩, ⟨l5, t5, r5⟩, ⟨l6, t6, r6⟩, ⟨l7, t7, r7⟩, ⟨l8, t8, r8⟩, ⟨l9, t9, r9⟩, sb, sx, so⟩ := qn_store HB6.out (Nat.le_refl _) HX6.out (.int .i64 4) (.int .i64 0) (.int .i64 (f : Int)) (.int .i64 0) (.int .i64 0) (.int .i64 0) (.int .i64 3) (.int .i64 v1) (.int .i64 v2)
  have SB := Lib.hid sb
  have SX := Lib.hid sx
  clear sb sx so
  go_region_with (go_at_call 63; refine (HE.out _ HB6.out.drew).mono ?_; rintro e wq ⟨rfl, rfl⟩)
  all_goals go_wp2_with fail
  all_goals refine bodyPost_ret_by (results_front8 _ _ w.heap.size (.int .i64 4) (.int .i64 0) (.int .i64 (f : Int)) (.int .i64 0) (.int .i64 0) (.int .i64 0) (.int .i64 3) (.int .i64 v1) (.int .i64 v2) (.bool true) rfl rfl SX.out) rfl ⟨rfl, SB.out.drew⟩
end Go.Proofs.Ytoaenlbbochjhaa

namespace Go.Proofs.Ytoaenlbbochjhaa
open Go.RowKit TreN LexP FixP SynP ValP FixM QryP
set_option linter.unusedVariables false

theorem results_feat8 (tmps : Array Value) (w : World) (H : Nat) (x0 x1 x2 x3 x4 x5 x6 x7 x8 u : Value) (hp : tmps.getD 2 undef = .pointer (some ⟨H, 0, none⟩)) (hu : tmps.getD 3 undef = u) (hg : w.heap[H]? = some (.cells #[x0, x1, x2, x3, x4, x5, x6, x7, x8] 39 (0, 0))) :
    (results Try.f85 tmps).run Try.prog w = .ok (.tuple #[.agg #[x0, x1, x2, x3, x4, x5, x6, x7, x8], u]) w := by
  obtain ⟨d, hd1, hd2⟩ := qn_und
  rw [results_cell_tmp (p := 2) (ty := 39) (u := 3) rfl, hp, hu]
  simp only [asAddr, Sem.run_pure, Result.andThen_ok, run_loadVar_row w H 39 39 _ (0, 0) d hg hd1 (by cases d <;> first | rfl | cases hd2) (by kernel_rfl)]
set_option maxRecDepth 100000 in
set_option maxHeartbeats 8000000 in
theorem refFeature8_front (a : Option Addr) (l : List Tok) (n cap k : Nat) (f op v1 v2 : Int) (w : World) (hn : l.length = n) (hm : n ≤ 400000) (hT : Tks w a l) (hk : skipN l 0 = k) (hid : isP l k 1 = true)
    (hfr : ∀ W : World, Below w.heap.size w W → Calls Try.prog 95 #[.slice a n cap, .int .i64 (k : Int)] W fun e w' => e = .returned (.tuple #[.agg #[.int .i64 4, .int .i64 0, .int .i64 f, .int .i64 0, .int .i64 0, .int .i64 0, .int .i64 op, .int .i64 v1, .int .i64 v2], .bool true]) ∧ Below W.heap.size W w') :
    Calls Try.prog 85 #[.slice a n cap] w fun e w' => e = .returned (.tuple #[.agg #[.int .i64 4, .int .i64 0, .int .i64 f, .int .i64 0, .int .i64 0, .int .i64 0, .int .i64 op, .int .i64 v1, .int .i64 v2], .bool true]) ∧ Below w.heap.size w w' := by
  have hb0 : Below w.heap.size w (w.alloc (.cells #[.int .i64 0, .int .i64 0, .int .i64 0, .int .i64 0, .int .i64 0, .int .i64 0, .int .i64 0, .int .i64 0, .int .i64 0] 39)) := below_oneQ w _
  have hx := heap_alloc_new w (.cells #[.int .i64 0, .int .i64 0, .int .i64 0, .int .i64 0, .int .i64 0, .int .i64 0, .int .i64 0, .int .i64 0, .int .i64 0] 39)
  have hsz : w.heap.size < (w.alloc (.cells #[.int .i64 0, .int .i64 0, .int .i64 0, .int .i64 0, .int .i64 0, .int .i64 0, .int .i64 0, .int .i64 0, .int .i64 0] 39)).heap.size := by simp
  generalize hW0 : w.alloc (.cells #[.int .i64 0, .int .i64 0, .int .i64 0, .int .i64 0, .int .i64 0, .int .i64 0, .int .i64 0, .int .i64 0, .int .i64 0] 39) = W0 at *
  have hkb := skipN_bd l 0
  rw [hk] at hkb
  have S : ∀ W : World, Below w.heap.size w W → Calls Try.prog 62 #[.slice a n cap, .int .i64 0] W fun e w' => e = .returned (.int .i64 (k : Nat)) ∧ w' = W := fun W hW => by
    have h := refSyn8_any a l n cap 0 W hn (by omega) (by omega) (hT.below hW)
    rw [hk] at h; exact h
  have HS := Lib.hid S
  have I := fun W (hW : Below w.heap.size w W) => refIs7_any a l n cap k 1 W hn (by omega) (by omega) (hT.below hW)
  rw [hid] at I
  have HI := Lib.hid I
  have HF := Lib.hid hfr
  have HB := Lib.hid hb0
  have HX := Lib.hid hx
  have HZ := Lib.hid hsz
  clear S I hT hn hb0 hx hk hid hm hsz hfr hkb
  go_enter Try.func85, Try.ntmps85
  go_wp2_with fail
  refine (HS.out _ HB.out).mono ?_
  rintro e W0 ⟨rfl, rfl⟩
  go_wp2_with fail
  refine (HI.out _ HB.out).mono ?_
  rintro e W0 ⟨rfl, rfl⟩
  go_wp2_with fail
  refine (HF.out _ HB.out).mono ?_
  rintro e w1 ⟨rfl, hb⟩
  have hB1 := HB.out.trans (hb.mono HB.out.size)
  have hx1 := (hb.block _ HZ.out).trans HX.out
  obtain ⟨z1, z2, z3, z4, z5, z6, z7, z8, z9, ⟨l1, t1, r1⟩, ⟨l2, t2, r2⟩, ⟨l3, t3, r3⟩, ⟨l4, t4, r4⟩, ⟨l5, t5, r5⟩, ⟨l6, t6, r6⟩, ⟨l7, t7, r7⟩, ⟨l8, t8, r8⟩, ⟨l9, t9, r9⟩, sb, sx, so⟩ := qn_store hB1 (Nat.le_refl _) hx1 (.int .i64 4) (.int .i64 0) (.int .i64 f) (.int .i64 0) (.int .i64 0) (.int .i64 0) (.int .i64 op) (.int .i64 v1) (.int .i64 v2)
  have SB := Lib.hid sb
  have SX := Lib.hid sx
  clear sb sx so hb hB1 hx1
  go_wp2_with fail
  refine bodyPost_ret_by (results_feat8 _ _ w.heap.size (.int .i64 4) (.int .i64 0) (.int .i64 f) (.int .i64 0) (.int .i64 0) (.int .i64 0) (.int .i64 op) (.int .i64 v1) (.int .i64 v2) (.bool true) rfl rfl SX.out) rfl ⟨rfl, SB.out⟩
end Go.Proofs.Ytoaenlbbochjhaa

namespace Go.Proofs.Ytoaenlbbochjhaa
open Go.RowKit TreN LexP FixP SynP ValP FixM QryP
set_option linter.unusedVariables false

set_option maxRecDepth 100000 in
set_option maxHeartbeats 8000000 in
theorem refTerm8_ok (a : Option Addr) (l : List Tok) (n cap i k m : Nat) (f op v1 v2 : Int) (w : World) (hn : l.length = n) (h1 : n ≤ cap) (h2 : cap ≤ maxLen) (hm : n ≤ 100000) (hi : i ≤ 100000) (hT : Tks w a l) (hk : skipN l i = k) (hop : isP l k 13 = true) (hmt : matchS l (k : Int) = (m : Int)) (hkm : k + 1 ≤ m) (hmn : m < n)
    (hft : ∀ (a2 : Option Addr) (c2 : Nat) (W : World), Below w.heap.size w W → Tks W a2 ((l.take m).drop (k + 1)) → Calls Try.prog 85 #[.slice a2 (m - (k + 1)) c2] W fun e w' => e = .returned (.tuple #[.agg #[.int .i64 4, .int .i64 0, .int .i64 f, .int .i64 0, .int .i64 0, .int .i64 0, .int .i64 op, .int .i64 v1, .int .i64 v2], .bool true]) ∧ Below W.heap.size W w') :
    Calls Try.prog 61 #[.slice a n cap, .int .i64 (i : Int)] w fun e w' => ∃ g, e = .returned (.tuple #[.slice (some ⟨g, 0, none⟩) 1 1, .int .i64 ((m + 1 : Nat) : Int), .bool true]) ∧ w.heap.size ≤ g ∧ w'.heap.size = g + 1 ∧ w'.heap[g]? = some (.cells #[.int .i64 4, .int .i64 0, .int .i64 f, .int .i64 0, .int .i64 0, .int .i64 0, .int .i64 op, .int .i64 v1, .int .i64 v2] 39 (0, 0)) ∧ Below w.heap.size w w' := by
  obtain ⟨a2, s1, s2, s3, s4, s5⟩ := sl_mid a l cap n (k + 1) m hn ((k : Int) + 1) (m : Int) (by omega) rfl hkm (Nat.le_of_lt hmn) h1 h2
  have S := fun W (hW : Below w.heap.size w W) => refSyn8_any a l n cap i W hn (by omega) (by omega) (hT.below hW)
  rw [hk] at S
  have HS := Lib.hid S
  have I := fun W (hW : Below w.heap.size w W) => refIs7_any a l n cap k 13 W hn (by omega) (by omega) (hT.below hW)
  rw [hop] at I
  have HI := Lib.hid I
  have M : ∀ W, Below w.heap.size w W → Calls Try.prog 84 #[.slice a n cap, .int .i64 (k : Int)] W fun e w' => e = .returned (.int .i64 (m : Int)) ∧ Below W.heap.size W w' := fun W hW => by
    have h := refMatch_any a l cap (k : Int) W (by omega) (hT.below hW)
    rw [hn, hmt] at h
    exact h.mono fun e w' hh => ⟨hh.1, by obtain ⟨q, rfl⟩ := hh.2; exact below_drewQ (Below.refl _ _) _⟩
  have HM := Lib.hid M
  have HF := Lib.hid (fun c2 W (hW : Below w.heap.size w W) => hft a2 c2 W hW (s5 W (hT.below hW)))
  have hz1 : (k : Int) + 1 ≤ (m : Int) := by omega
  have hz2 : (m : Int) < (n : Int) := by omega
  have hz3 : (k : Int) ≤ 100000 := by omega
  have hz4 : (m : Int) ≤ 100000 := by omega
  have hz5 : (0 : Int) ≤ (k : Int) := by omega
  have hz6 : (0 : Int) ≤ (m : Int) := by omega
  clear S I M hT hn hop hmt hkm hmn hft hm hi hk h1 h2 s2 s3 s4 s5
  go_enter Try.func61, Try.ntmps61
  go_wp2_with fail
  refine (HS.out _ (Below.refl _ _)).mono ?_
  rintro e w' ⟨rfl, rfl⟩
  go_wp2_with fail
  refine (HM.out _ (Below.refl _ _)).mono ?_
  rintro e w1 ⟨rfl, hb⟩
  have HB1 := Lib.hid hb
  clear hb
  go_wp2_with fail
  refine (HI.out _ HB1.out).mono ?_
  rintro e w1 ⟨rfl, rfl⟩
  go_wp2_with fail
  refine (HF.out _ _ HB1.out).mono ?_
  rintro e w2 ⟨rfl, hb⟩
  have hB2 := HB1.out.trans (hb.mono HB1.out.size)
  have bb := below_oneQ w2 (.cells #[.int .i64 4, .int .i64 0, .int .i64 f, .int .i64 0, .int .i64 0, .int .i64 0, .int .i64 op, .int .i64 v1, .int .i64 v2] 39)
  have hy := heap_alloc_new w2 (.cells #[.int .i64 4, .int .i64 0, .int .i64 f, .int .i64 0, .int .i64 0, .int .i64 0, .int .i64 op, .int .i64 v1, .int .i64 v2] 39)
  have hB3 := hB2.trans (bb.mono hB2.size)
  generalize hW3 : w2.alloc (.cells #[.int .i64 4, .int .i64 0, .int .i64 f, .int .i64 0, .int .i64 0, .int .i64 0, .int .i64 op, .int .i64 v1, .int .i64 v2] 39) = W3 at *
  obtain ⟨y0, y1, y2, y3, y4, y5, y6, y7, y8⟩ := qn_cells hy
  have cc := below_oneQ W3 (.cells #[.int .i64 4, .int .i64 0, .int .i64 f, .int .i64 0, .int .i64 0, .int .i64 0, .int .i64 op, .int .i64 v1, .int .i64 v2] 39)
  have hu := heap_alloc_new W3 (.cells #[.int .i64 4, .int .i64 0, .int .i64 f, .int .i64 0, .int .i64 0, .int .i64 0, .int .i64 op, .int .i64 v1, .int .i64 v2] 39)
  have hsz : (W3.alloc (.cells #[.int .i64 4, .int .i64 0, .int .i64 f, .int .i64 0, .int .i64 0, .int .i64 0, .int .i64 op, .int .i64 v1, .int .i64 v2] 39)).heap.size = W3.heap.size + 1 := by simp
  have hB4 := hB3.trans (cc.mono hB3.size)
  have HB3 := Lib.hid hB3
  generalize hW4 : W3.alloc (.cells #[.int .i64 4, .int .i64 0, .int .i64 f, .int .i64 0, .int .i64 0, .int .i64 0, .int .i64 op, .int .i64 v1, .int .i64 v2] 39) = W4 at *
  have HB4 := Lib.hid hB4
  have HU := Lib.hid hu
  have HSZ := Lib.hid hsz
  clear hb hB2 bb hy hB3 cc hu hsz hB4
  go_wp2_with fail
  go_ret3
  exact ⟨W3.heap.size, by first | rfl | (congr 3; omega), HB3.out.size, HSZ.out, HU.out, HB4.out⟩
end Go.Proofs.Ytoaenlbbochjhaa
