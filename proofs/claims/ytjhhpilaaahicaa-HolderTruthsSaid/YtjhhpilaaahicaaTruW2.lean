/- Layer 14: a feature's bounds; what a feature says. -/
import Derived.Test.YtjhhpilaaahicaaTruW1
import Derived.Test.YtjhhpilaaahicaaQryW1
import Derived.Test.YtjhhpilaaahicaaFixWa
import Derived.Deep.QuietTactic
import Derived.BigQuiet
namespace Go.Proofs.Ytjhhpilaaahicaa
open Go.RowKit FixM FixP TreN QryP TruP
set_option linter.unusedVariables false

theorem ex_cells {w : World} {b : Nat} {T : TypeId} {c0 c1 c2 c3 : Value} (h : w.heap[b]? = some (.cells #[c0, c1, c2, c3] T (0, 0))) : w.cell? ⟨b, 0, none⟩ = some c0 ∧ w.cell? ⟨b, 1, none⟩ = some c1 ∧ w.cell? ⟨b, 2, none⟩ = some c2 ∧ w.cell? ⟨b, 3, none⟩ = some c3 := ⟨cell_of h rfl, cell_of h rfl, cell_of h rfl, cell_of h rfl⟩
theorem bd_cells {w : World} {b : Nat} {T : TypeId} {c0 c1 c2 : Value} (h : w.heap[b]? = some (.cells #[c0, c1, c2] T (0, 0))) : w.cell? ⟨b, 0, none⟩ = some c0 ∧ w.cell? ⟨b, 1, none⟩ = some c1 ∧ w.cell? ⟨b, 2, none⟩ = some c2 := ⟨cell_of h rfl, cell_of h rfl, cell_of h rfl⟩
theorem ret_pairT {a b c d : Int} (h1 : a = c) (h2 : b = d) : Ending.returned (.tuple #[.int .i64 a, .int .i64 b]) = .returned (.tuple #[.int .i64 c, .int .i64 d]) := by rw [h1, h2]
set_option maxRecDepth 100000 in
set_option maxHeartbeats 4000000 in
theorem some14_any (f t : Int) (nm : ByteArray) (ww hh : Int) (w : World) : Calls Try.prog 154 #[.int .i64 f, .agg #[.int .i64 t, .string nm, .int .i64 ww, .int .i64 hh]] w fun e w' => e = .returned (.bool (smT f ww hh)) ∧ Below w.heap.size w w' := by
  have HB := Lib.hid (below_oneT w (.cells #[.int .i64 t, .string nm, .int .i64 ww, .int .i64 hh] 44))
  have hx := heap_alloc_new w (.cells #[.int .i64 t, .string nm, .int .i64 ww, .int .i64 hh] 44)
  generalize hW : w.alloc (.cells #[.int .i64 t, .string nm, .int .i64 ww, .int .i64 hh] 44) = W at *
  obtain ⟨d0, d1, d2, d3⟩ := ex_cells hx
  clear hx
  unfold smT
  rcases (by omega : f = 1 ∨ f = 3 ∨ f = 2 ∨ f = 4 ∨ f = 5 ∨ (f ≠ 1 ∧ f ≠ 3 ∧ f ≠ 2 ∧ f ≠ 4 ∧ f ≠ 5)) with rfl | rfl | rfl | rfl | rfl | ⟨f1, f3, f2, f4, f5⟩
  · rw [if_pos (by decide)]
    go_enter Try.func154, Try.ntmps154
    go_wp2_with fail
    all_goals go_ret
    all_goals exact ⟨ret_bool (by first | rfl | (simp; done) | (simp_all; done)), HB.out⟩
  · rw [if_pos (by decide)]
    go_enter Try.func154, Try.ntmps154
    go_wp2_with fail
    all_goals go_ret
    all_goals exact ⟨ret_bool (by first | rfl | (simp; done) | (simp_all; done)), HB.out⟩
  · rw [if_neg (by decide), if_pos (by decide)]
    go_enter Try.func154, Try.ntmps154
    go_wp2_with fail
    all_goals go_ret
    all_goals exact ⟨ret_bool (by first | rfl | (simp; done) | (simp_all; done)), HB.out⟩
  · rw [if_neg (by decide), if_pos (by decide)]
    go_enter Try.func154, Try.ntmps154
    go_wp2_with fail
    all_goals go_ret
    all_goals exact ⟨ret_bool (by first | rfl | (simp; done) | (simp_all; done)), HB.out⟩
  · rw [if_neg (by decide), if_neg (by decide), if_pos rfl]
    rcases Decidable.em (ww = 0) with w0 | w0
    · subst w0
      go_enter Try.func154, Try.ntmps154
      go_wp2_with fail
      all_goals go_ret
      all_goals exact ⟨ret_bool (by first | rfl | (simp; done) | (simp_all; done)), HB.out⟩
    · have bw := neq_beq w0
      have bw2 : (ww != 0) = true := by rw [bne, bw]; rfl
      rw [bw2, Bool.true_and]
      go_enter Try.func154, Try.ntmps154
      go_wp2_with fail
      all_goals go_ret
      all_goals exact ⟨ret_bool (by first | rfl | (simp; done) | (simp_all; done)), HB.out⟩
  · rw [if_neg (by omega), if_neg (by omega), if_neg f5]
    have b1 := neq_beq f1
    have b3 := neq_beq f3
    have b2 := neq_beq f2
    have b4 := neq_beq f4
    have b5 := neq_beq f5
    clear f1 f3 f2 f4 f5
    go_enter Try.func154, Try.ntmps154
    go_wp2_with fail
    all_goals go_ret
    all_goals exact ⟨ret_bool (by first | rfl | (simp; done) | (simp_all; done)), HB.out⟩

set_option maxRecDepth 100000 in
set_option maxHeartbeats 1000000 in
theorem there14_any (a1 a2 a3 : Int) (w : World) : Calls Try.prog 153 #[.agg #[.int .i64 a1, .int .i64 a2, .int .i64 a3]] w fun e w' => e = .returned (.bool (thrB ⟨a1, a2, a3⟩)) ∧ Below w.heap.size w w' := by
  have HB := Lib.hid (below_oneQ w (.cells #[.int .i64 a1, .int .i64 a2, .int .i64 a3] 50))
  have EQ := fun W => bd_neq a1 a2 a3 W
  obtain ⟨t, ht⟩ : ∃ t, thrB ⟨a1, a2, a3⟩ = t := ⟨_, rfl⟩
  rw [ht] at EQ ⊢
  clear ht
  go_enter Try.func153, Try.ntmps153
  go_wp2_with fail
  go_ret
  exact ⟨rfl, HB.out⟩
theorem prodT {a b : Int} (ha : -1073741824 ≤ a ∧ a ≤ 1073741824) (hb : -1073741824 ≤ b ∧ b ≤ 1073741824) : -1152921504606846976 ≤ a * b ∧ a * b ≤ 1152921504606846976 := by
  have h := Nat.mul_le_mul (show a.natAbs ≤ 1073741824 by omega) (show b.natAbs ≤ 1073741824 by omega)
  rw [← Int.natAbs_mul] at h
  omega
set_option maxRecDepth 100000 in
set_option maxHeartbeats 4000000 in
theorem sides14_any (f op n d t : Int) (nm : ByteArray) (ww hh : Int) (w : World) (hw : -1073741824 ≤ ww ∧ ww ≤ 1073741824) (hh' : -1073741824 ≤ hh ∧ hh ≤ 1073741824) (hp : f = 5 → (-1073741824 ≤ n ∧ n ≤ 1073741824) ∧ (-1073741824 ≤ d ∧ d ≤ 1073741824)) :
    Calls Try.prog 155 #[.int .i64 f, .agg #[.int .i64 op, .int .i64 n, .int .i64 d], .agg #[.int .i64 t, .string nm, .int .i64 ww, .int .i64 hh]] w fun e w' => e = .returned (.tuple #[.int .i64 (sdA f ⟨op, n, d⟩ ww hh), .int .i64 (sdB f ⟨op, n, d⟩ ww hh)]) ∧ Below w.heap.size w w' := by
  have HB1 := below_oneT w (.cells #[.int .i64 op, .int .i64 n, .int .i64 d] 50)
  have hx1 := heap_alloc_new w (.cells #[.int .i64 op, .int .i64 n, .int .i64 d] 50)
  generalize hW1 : w.alloc (.cells #[.int .i64 op, .int .i64 n, .int .i64 d] 50) = W1 at *
  have HB2 := below_oneT W1 (.cells #[.int .i64 t, .string nm, .int .i64 ww, .int .i64 hh] 44)
  have hx2 := heap_alloc_new W1 (.cells #[.int .i64 t, .string nm, .int .i64 ww, .int .i64 hh] 44)
  have hb := (HB2.block _ (blk_ltQ hx1)).trans hx1
  have HB := Lib.hid (HB1.trans (HB2.mono HB1.size))
  generalize hW : W1.alloc (.cells #[.int .i64 t, .string nm, .int .i64 ww, .int .i64 hh] 44) = W at *
  obtain ⟨d0, d1, d2, d3⟩ := ex_cells hx2
  obtain ⟨g0, g1, g2⟩ := bd_cells hb
  clear hx1 hx2 hb HB1 HB2
  have PX0 := fun W => Px_any n W
  obtain ⟨px, hpx⟩ : ∃ px, PT n 64 1000 = px := ⟨_, rfl⟩
  rw [hpx] at PX0
  have PX := Lib.hid PX0
  clear PX0
  go_enter Try.func155, Try.ntmps155
  go_wp2_with fail
  go_quiet (fail)
  rcases (by omega : f = 1 ∨ f = 3 ∨ f = 2 ∨ f = 4 ∨ f = 5 ∨ (f ≠ 1 ∧ f ≠ 3 ∧ f ≠ 2 ∧ f ≠ 4 ∧ f ≠ 5)) with rfl | rfl | rfl | rfl | rfl | ⟨f1, f3, f2, f4, f5⟩
  · clear hp
    have eA : sdA 1 ⟨op, n, d⟩ ww hh = ww := by unfold sdA; rw [if_pos (by decide)]
    have eB : sdB 1 ⟨op, n, d⟩ ww hh = PT n 64 1000 := by unfold sdB; rw [if_pos (by decide)]
    rw [hpx] at eB
    go_wp2_with (go_at_call 99; refine (PX.out _).mono ?_; rintro e w' ⟨rfl, rfl⟩)
    all_goals go_ret2
    all_goals exact ⟨ret_pairT (by first | exact eA.symm | rfl) (by first | exact eB.symm | rfl), HB.out.trans (below_drewQ (Below.refl _ _) _)⟩
  · clear hp
    have eA : sdA 3 ⟨op, n, d⟩ ww hh = ww := by unfold sdA; rw [if_pos (by decide)]
    have eB : sdB 3 ⟨op, n, d⟩ ww hh = PT n 64 1000 := by unfold sdB; rw [if_pos (by decide)]
    rw [hpx] at eB
    go_wp2_with (go_at_call 99; refine (PX.out _).mono ?_; rintro e w' ⟨rfl, rfl⟩)
    all_goals go_ret2
    all_goals exact ⟨ret_pairT (by first | exact eA.symm | rfl) (by first | exact eB.symm | rfl), HB.out.trans (below_drewQ (Below.refl _ _) _)⟩
  · clear hp
    have eA : sdA 2 ⟨op, n, d⟩ ww hh = hh := by unfold sdA; rw [if_neg (by decide), if_pos (by decide)]
    have eB : sdB 2 ⟨op, n, d⟩ ww hh = PT n 64 1000 := by unfold sdB; rw [if_neg (by decide), if_pos (by decide)]
    rw [hpx] at eB
    go_wp2_with (go_at_call 99; refine (PX.out _).mono ?_; rintro e w' ⟨rfl, rfl⟩)
    all_goals go_ret2
    all_goals exact ⟨ret_pairT (by first | exact eA.symm | rfl) (by first | exact eB.symm | rfl), HB.out.trans (below_drewQ (Below.refl _ _) _)⟩
  · clear hp
    have eA : sdA 4 ⟨op, n, d⟩ ww hh = hh := by unfold sdA; rw [if_neg (by decide), if_pos (by decide)]
    have eB : sdB 4 ⟨op, n, d⟩ ww hh = PT n 64 1000 := by unfold sdB; rw [if_neg (by decide), if_pos (by decide)]
    rw [hpx] at eB
    go_wp2_with (go_at_call 99; refine (PX.out _).mono ?_; rintro e w' ⟨rfl, rfl⟩)
    all_goals go_ret2
    all_goals exact ⟨ret_pairT (by first | exact eA.symm | rfl) (by first | exact eB.symm | rfl), HB.out.trans (below_drewQ (Below.refl _ _) _)⟩
  · obtain ⟨hn, hd⟩ := hp rfl
    have p1 := prodT hw hd
    have p2 := prodT hn hh'
    have eA : sdA 5 ⟨op, n, d⟩ ww hh = ww * d := by unfold sdA; rw [if_neg (by decide), if_neg (by decide), if_pos rfl]
    have eB : sdB 5 ⟨op, n, d⟩ ww hh = n * hh := by unfold sdB; rw [if_neg (by decide), if_neg (by decide), if_pos rfl]
    clear hp
    go_wp2_with (go_at_call 99; refine (PX.out _).mono ?_; rintro e w' ⟨rfl, rfl⟩)
    all_goals go_ret2
    all_goals exact ⟨ret_pairT (by first | exact eA.symm | rfl) (by first | exact eB.symm | rfl), HB.out.trans (below_drewQ (Below.refl _ _) _)⟩
  · have eA : sdA f ⟨op, n, d⟩ ww hh = if ww ≤ hh then 1 else 2 := by unfold sdA; rw [if_neg (by omega), if_neg (by omega), if_neg f5]
    have eB : sdB f ⟨op, n, d⟩ ww hh = n := by unfold sdB; rw [if_neg (by omega), if_neg (by omega), if_neg f5]
    have b1 := neq_beq f1
    have b3 := neq_beq f3
    have b2 := neq_beq f2
    have b4 := neq_beq f4
    have b5 := neq_beq f5
    clear f1 f3 f2 f4 f5 hp
    by_cases hc : ww ≤ hh
    · rw [if_pos hc] at eA
      go_wp2_with (go_at_call 99; refine (PX.out _).mono ?_; rintro e w' ⟨rfl, rfl⟩)
      all_goals go_ret2
      all_goals exact ⟨ret_pairT (by first | exact eA.symm | rfl) (by first | exact eB.symm | rfl), HB.out.trans (below_drewQ (Below.refl _ _) _)⟩
    · rw [if_neg hc] at eA
      go_wp2_with (go_at_call 99; refine (PX.out _).mono ?_; rintro e w' ⟨rfl, rfl⟩)
      all_goals go_ret2
      all_goals exact ⟨ret_pairT (by first | exact eA.symm | rfl) (by first | exact eB.symm | rfl), HB.out.trans (below_drewQ (Below.refl _ _) _)⟩
set_option maxRecDepth 100000 in
set_option maxHeartbeats 8000000 in
theorem bounded14_any (k c f a1 a2 a3 b1 b2 b3 t : Int) (nm : ByteArray) (ww hh : Int) (w : World) (hw : -1073741824 ≤ ww ∧ ww ≤ 1073741824) (hh' : -1073741824 ≤ hh ∧ hh ≤ 1073741824)
    (hpl : f = 5 → (-1073741824 ≤ a2 ∧ a2 ≤ 1073741824) ∧ (-1073741824 ≤ a3 ∧ a3 ≤ 1073741824)) (hph : f = 5 → (-1073741824 ≤ b2 ∧ b2 ≤ 1073741824) ∧ (-1073741824 ≤ b3 ∧ b3 ≤ 1073741824)) :
    Calls Try.prog 127 #[.agg #[.int .i64 k, .int .i64 c, .int .i64 f, .int .i64 a1, .int .i64 a2, .int .i64 a3, .int .i64 b1, .int .i64 b2, .int .i64 b3], .agg #[.int .i64 t, .string nm, .int .i64 ww, .int .i64 hh]] w fun e w' => e = .returned (.bool (bnT ⟨k, c, f, ⟨a1, a2, a3⟩, ⟨b1, b2, b3⟩⟩ ww hh)) ∧ Below w.heap.size w w' := by
  have HB1 := below_oneT w (.cells #[.int .i64 k, .int .i64 c, .int .i64 f, .int .i64 a1, .int .i64 a2, .int .i64 a3, .int .i64 b1, .int .i64 b2, .int .i64 b3] 52)
  have hx1 := heap_alloc_new w (.cells #[.int .i64 k, .int .i64 c, .int .i64 f, .int .i64 a1, .int .i64 a2, .int .i64 a3, .int .i64 b1, .int .i64 b2, .int .i64 b3] 52)
  generalize hW1 : w.alloc (.cells #[.int .i64 k, .int .i64 c, .int .i64 f, .int .i64 a1, .int .i64 a2, .int .i64 a3, .int .i64 b1, .int .i64 b2, .int .i64 b3] 52) = W1 at *
  have HB2 := below_oneT W1 (.cells #[.int .i64 t, .string nm, .int .i64 ww, .int .i64 hh] 44)
  have hx2 := heap_alloc_new W1 (.cells #[.int .i64 t, .string nm, .int .i64 ww, .int .i64 hh] 44)
  have hx1' := (HB2.block _ (blk_ltQ hx1)).trans hx1
  have HB0 := Lib.hid (HB1.trans (HB2.mono HB1.size))
  generalize hW : W1.alloc (.cells #[.int .i64 t, .string nm, .int .i64 ww, .int .i64 hh] 44) = W at *
  have HX0 := Lib.hid hx1'
  have HY0 := Lib.hid hx2
  obtain ⟨e0, e1, e2, e3⟩ := ex_cells hx2
  obtain ⟨d0, d1, d2, d3, d4, d5, d6, d7, d8⟩ := qn_cells hx1'
  clear hx1 hx2 hx1' HB1 HB2
  have TH := Lib.hid (fun W => there14_any b1 b2 b3 W)
  have TL := Lib.hid (fun W => there14_any a1 a2 a3 W)
  have SM := Lib.hid (fun W => some14_any f t nm ww hh W)
  have SH := fun W => sides14_any f b1 b2 b3 t nm ww hh W hw hh' hph
  have SL := fun W => sides14_any f a1 a2 a3 t nm ww hh W hw hh' hpl
  have CH := fun W => compares14_any (sdA f ⟨b1, b2, b3⟩ ww hh) b1 (sdB f ⟨b1, b2, b3⟩ ww hh) W
  have CL := fun W => compares14_any (sdB f ⟨a1, a2, a3⟩ ww hh) a1 (sdA f ⟨a1, a2, a3⟩ ww hh) W
  unfold bnT
  simp only []
  generalize cmT (sdA f ⟨b1, b2, b3⟩ ww hh) b1 (sdB f ⟨b1, b2, b3⟩ ww hh) = ch at *
  generalize cmT (sdB f ⟨a1, a2, a3⟩ ww hh) a1 (sdA f ⟨a1, a2, a3⟩ ww hh) = cl at *
  generalize sdA f ⟨b1, b2, b3⟩ ww hh = xa at *
  generalize sdB f ⟨b1, b2, b3⟩ ww hh = xb at *
  generalize sdA f ⟨a1, a2, a3⟩ ww hh = ya at *
  generalize sdB f ⟨a1, a2, a3⟩ ww hh = yb at *
  generalize smT f ww hh = sm at *
  generalize thrB ⟨b1, b2, b3⟩ = th at *
  generalize thrB ⟨a1, a2, a3⟩ = tl at *
  have SHH := Lib.hid SH
  have SLL := Lib.hid SL
  have CHH := Lib.hid CH
  have CLL := Lib.hid CL
  clear SH SL CH CL hpl hph hw hh'
  cases th
  · rw [if_neg (by decide)]
    go_enter Try.func127, Try.ntmps127
    go_wp2_with fail
    refine (TH.out _).mono ?_
    rintro e w1 ⟨rfl, hb⟩
    have hx := (hb.block _ (blk_ltQ HX0.out)).trans HX0.out
    have hy := (hb.block _ (blk_ltQ HY0.out)).trans HY0.out
    have HB1 := Lib.hid (HB0.out.trans (hb.mono HB0.out.size))
    have HX1 := Lib.hid hx
    have HY1 := Lib.hid hy
    obtain ⟨e0, e1, e2, e3⟩ := ex_cells hy
    obtain ⟨d0, d1, d2, d3, d4, d5, d6, d7, d8⟩ := qn_cells hx
    clear hb hx hy
    go_wp2_with fail
    refine (SM.out _).mono ?_
    rintro e w2 ⟨rfl, hb⟩
    have hx := (hb.block _ (blk_ltQ HX1.out)).trans HX1.out
    have hy := (hb.block _ (blk_ltQ HY1.out)).trans HY1.out
    have HB2 := Lib.hid (HB1.out.trans (hb.mono HB1.out.size))
    have HX2 := Lib.hid hx
    have HY2 := Lib.hid hy
    obtain ⟨e0, e1, e2, e3⟩ := ex_cells hy
    obtain ⟨d0, d1, d2, d3, d4, d5, d6, d7, d8⟩ := qn_cells hx
    clear hb hx hy
    go_wp2_with fail
    go_ret
    refine ⟨ret_bool ?_, HB2.out⟩
    first | rfl | (simp; done)
  · rw [if_pos rfl]
    cases tl
    · rw [Bool.not_false, Bool.true_or, Bool.and_true]
      go_enter Try.func127, Try.ntmps127
      go_wp2_with fail
      refine (TH.out _).mono ?_
      rintro e w1 ⟨rfl, hb⟩
      have hx := (hb.block _ (blk_ltQ HX0.out)).trans HX0.out
      have hy := (hb.block _ (blk_ltQ HY0.out)).trans HY0.out
      have HB1 := Lib.hid (HB0.out.trans (hb.mono HB0.out.size))
      have HX1 := Lib.hid hx
      have HY1 := Lib.hid hy
      obtain ⟨e0, e1, e2, e3⟩ := ex_cells hy
      obtain ⟨d0, d1, d2, d3, d4, d5, d6, d7, d8⟩ := qn_cells hx
      clear hb hx hy
      go_wp2_with fail
      refine (SHH.out _).mono ?_
      rintro e w2 ⟨rfl, hb⟩
      have hx := (hb.block _ (blk_ltQ HX1.out)).trans HX1.out
      have hy := (hb.block _ (blk_ltQ HY1.out)).trans HY1.out
      have HB2 := Lib.hid (HB1.out.trans (hb.mono HB1.out.size))
      have HX2 := Lib.hid hx
      have HY2 := Lib.hid hy
      obtain ⟨e0, e1, e2, e3⟩ := ex_cells hy
      obtain ⟨d0, d1, d2, d3, d4, d5, d6, d7, d8⟩ := qn_cells hx
      clear hb hx hy
      go_wp2_with fail
      refine (CHH.out _).mono ?_
      rintro e wq ⟨rfl, rfl⟩
      go_wp2_with fail
      refine (TL.out _).mono ?_
      rintro e w3 ⟨rfl, hb⟩
      have hx := (hb.block _ (blk_ltQ HX2.out)).trans HX2.out
      have hy := (hb.block _ (blk_ltQ HY2.out)).trans HY2.out
      have HB3 := Lib.hid (HB2.out.trans (hb.mono HB2.out.size))
      have HX3 := Lib.hid hx
      have HY3 := Lib.hid hy
      obtain ⟨e0, e1, e2, e3⟩ := ex_cells hy
      obtain ⟨d0, d1, d2, d3, d4, d5, d6, d7, d8⟩ := qn_cells hx
      clear hb hx hy
      go_wp2_with fail
      go_ret
      refine ⟨ret_bool ?_, HB3.out⟩
      first | rfl | (simp; done)
    · rw [Bool.not_true, Bool.false_or]
      cases ch
      · rw [Bool.false_and]
        go_enter Try.func127, Try.ntmps127
        go_wp2_with fail
        refine (TH.out _).mono ?_
        rintro e w1 ⟨rfl, hb⟩
        have hx := (hb.block _ (blk_ltQ HX0.out)).trans HX0.out
        have hy := (hb.block _ (blk_ltQ HY0.out)).trans HY0.out
        have HB1 := Lib.hid (HB0.out.trans (hb.mono HB0.out.size))
        have HX1 := Lib.hid hx
        have HY1 := Lib.hid hy
        obtain ⟨e0, e1, e2, e3⟩ := ex_cells hy
        obtain ⟨d0, d1, d2, d3, d4, d5, d6, d7, d8⟩ := qn_cells hx
        clear hb hx hy
        go_wp2_with fail
        refine (SHH.out _).mono ?_
        rintro e w2 ⟨rfl, hb⟩
        have hx := (hb.block _ (blk_ltQ HX1.out)).trans HX1.out
        have hy := (hb.block _ (blk_ltQ HY1.out)).trans HY1.out
        have HB2 := Lib.hid (HB1.out.trans (hb.mono HB1.out.size))
        have HX2 := Lib.hid hx
        have HY2 := Lib.hid hy
        obtain ⟨e0, e1, e2, e3⟩ := ex_cells hy
        obtain ⟨d0, d1, d2, d3, d4, d5, d6, d7, d8⟩ := qn_cells hx
        clear hb hx hy
        go_wp2_with fail
        refine (CHH.out _).mono ?_
        rintro e wq ⟨rfl, rfl⟩
        go_wp2_with fail
        refine (TL.out _).mono ?_
        rintro e w3 ⟨rfl, hb⟩
        have hx := (hb.block _ (blk_ltQ HX2.out)).trans HX2.out
        have hy := (hb.block _ (blk_ltQ HY2.out)).trans HY2.out
        have HB3 := Lib.hid (HB2.out.trans (hb.mono HB2.out.size))
        have HX3 := Lib.hid hx
        have HY3 := Lib.hid hy
        obtain ⟨e0, e1, e2, e3⟩ := ex_cells hy
        obtain ⟨d0, d1, d2, d3, d4, d5, d6, d7, d8⟩ := qn_cells hx
        clear hb hx hy
        go_wp2_with fail
        refine (SLL.out _).mono ?_
        rintro e w4 ⟨rfl, hb⟩
        have hx := (hb.block _ (blk_ltQ HX3.out)).trans HX3.out
        have hy := (hb.block _ (blk_ltQ HY3.out)).trans HY3.out
        have HB4 := Lib.hid (HB3.out.trans (hb.mono HB3.out.size))
        have HX4 := Lib.hid hx
        have HY4 := Lib.hid hy
        obtain ⟨e0, e1, e2, e3⟩ := ex_cells hy
        obtain ⟨d0, d1, d2, d3, d4, d5, d6, d7, d8⟩ := qn_cells hx
        clear hb hx hy
        go_wp2_with fail
        go_ret
        refine ⟨ret_bool ?_, HB4.out⟩
        first | rfl | (simp; done)
      · rw [Bool.true_and]
        go_enter Try.func127, Try.ntmps127
        go_wp2_with fail
        refine (TH.out _).mono ?_
        rintro e w1 ⟨rfl, hb⟩
        have hx := (hb.block _ (blk_ltQ HX0.out)).trans HX0.out
        have hy := (hb.block _ (blk_ltQ HY0.out)).trans HY0.out
        have HB1 := Lib.hid (HB0.out.trans (hb.mono HB0.out.size))
        have HX1 := Lib.hid hx
        have HY1 := Lib.hid hy
        obtain ⟨e0, e1, e2, e3⟩ := ex_cells hy
        obtain ⟨d0, d1, d2, d3, d4, d5, d6, d7, d8⟩ := qn_cells hx
        clear hb hx hy
        go_wp2_with fail
        refine (SHH.out _).mono ?_
        rintro e w2 ⟨rfl, hb⟩
        have hx := (hb.block _ (blk_ltQ HX1.out)).trans HX1.out
        have hy := (hb.block _ (blk_ltQ HY1.out)).trans HY1.out
        have HB2 := Lib.hid (HB1.out.trans (hb.mono HB1.out.size))
        have HX2 := Lib.hid hx
        have HY2 := Lib.hid hy
        obtain ⟨e0, e1, e2, e3⟩ := ex_cells hy
        obtain ⟨d0, d1, d2, d3, d4, d5, d6, d7, d8⟩ := qn_cells hx
        clear hb hx hy
        go_wp2_with fail
        refine (CHH.out _).mono ?_
        rintro e wq ⟨rfl, rfl⟩
        go_wp2_with fail
        refine (TL.out _).mono ?_
        rintro e w3 ⟨rfl, hb⟩
        have hx := (hb.block _ (blk_ltQ HX2.out)).trans HX2.out
        have hy := (hb.block _ (blk_ltQ HY2.out)).trans HY2.out
        have HB3 := Lib.hid (HB2.out.trans (hb.mono HB2.out.size))
        have HX3 := Lib.hid hx
        have HY3 := Lib.hid hy
        obtain ⟨e0, e1, e2, e3⟩ := ex_cells hy
        obtain ⟨d0, d1, d2, d3, d4, d5, d6, d7, d8⟩ := qn_cells hx
        clear hb hx hy
        go_wp2_with fail
        refine (SLL.out _).mono ?_
        rintro e w4 ⟨rfl, hb⟩
        have hx := (hb.block _ (blk_ltQ HX3.out)).trans HX3.out
        have hy := (hb.block _ (blk_ltQ HY3.out)).trans HY3.out
        have HB4 := Lib.hid (HB3.out.trans (hb.mono HB3.out.size))
        have HX4 := Lib.hid hx
        have HY4 := Lib.hid hy
        obtain ⟨e0, e1, e2, e3⟩ := ex_cells hy
        obtain ⟨d0, d1, d2, d3, d4, d5, d6, d7, d8⟩ := qn_cells hx
        clear hb hx hy
        go_wp2_with fail
        refine (CLL.out _).mono ?_
        rintro e wq ⟨rfl, rfl⟩
        go_wp2_with fail
        go_ret
        refine ⟨ret_bool ?_, HB4.out⟩
        first | rfl | (simp; done)
set_option maxRecDepth 100000 in
set_option maxHeartbeats 8000000 in
theorem feature14_any (k c f a1 a2 a3 b1 b2 b3 t : Int) (nm : ByteArray) (ww hh : Int) (w : World) (hw : -1073741824 ≤ ww ∧ ww ≤ 1073741824) (hh' : -1073741824 ≤ hh ∧ hh ≤ 1073741824)
    (hpl : f = 5 → (-1073741824 ≤ a2 ∧ a2 ≤ 1073741824) ∧ (-1073741824 ≤ a3 ∧ a3 ≤ 1073741824)) (hph : f = 5 → (-1073741824 ≤ b2 ∧ b2 ≤ 1073741824) ∧ (-1073741824 ≤ b3 ∧ b3 ≤ 1073741824)) :
    Calls Try.prog 92 #[.agg #[.int .i64 k, .int .i64 c, .int .i64 f, .int .i64 a1, .int .i64 a2, .int .i64 a3, .int .i64 b1, .int .i64 b2, .int .i64 b3], .agg #[.int .i64 t, .string nm, .int .i64 ww, .int .i64 hh]] w fun e w' => e = .returned (.int .i64 (ftT t ww hh ⟨k, c, f, ⟨a1, a2, a3⟩, ⟨b1, b2, b3⟩⟩)) ∧ Below w.heap.size w w' := by
  have HB1 := below_oneT w (.cells #[.int .i64 k, .int .i64 c, .int .i64 f, .int .i64 a1, .int .i64 a2, .int .i64 a3, .int .i64 b1, .int .i64 b2, .int .i64 b3] 52)
  have hx1 := heap_alloc_new w (.cells #[.int .i64 k, .int .i64 c, .int .i64 f, .int .i64 a1, .int .i64 a2, .int .i64 a3, .int .i64 b1, .int .i64 b2, .int .i64 b3] 52)
  generalize hW1 : w.alloc (.cells #[.int .i64 k, .int .i64 c, .int .i64 f, .int .i64 a1, .int .i64 a2, .int .i64 a3, .int .i64 b1, .int .i64 b2, .int .i64 b3] 52) = W1 at *
  have HB2 := below_oneT W1 (.cells #[.int .i64 t, .string nm, .int .i64 ww, .int .i64 hh] 44)
  have hx2 := heap_alloc_new W1 (.cells #[.int .i64 t, .string nm, .int .i64 ww, .int .i64 hh] 44)
  have hx1' := (HB2.block _ (blk_ltQ hx1)).trans hx1
  have HB0 := Lib.hid (HB1.trans (HB2.mono HB1.size))
  generalize hW : W1.alloc (.cells #[.int .i64 t, .string nm, .int .i64 ww, .int .i64 hh] 44) = W at *
  have HX0 := Lib.hid hx1'
  have HY0 := Lib.hid hx2
  obtain ⟨e0, e1, e2, e3⟩ := ex_cells hx2
  obtain ⟨d0, d1, d2, d3, d4, d5, d6, d7, d8⟩ := qn_cells hx1'
  clear hx1 hx2 hx1' HB1 HB2
  have KN := Lib.hid (fun W => known14_any f t W)
  have BN := Lib.hid (fun W => bounded14_any k c f a1 a2 a3 b1 b2 b3 t nm ww hh W hw hh' hpl hph)
  unfold ftT
  simp only []
  generalize knT f t = kn at *
  generalize bnT ⟨k, c, f, ⟨a1, a2, a3⟩, ⟨b1, b2, b3⟩⟩ ww hh = bn at *
  clear hpl hph hw hh'
  cases kn
  · rw [if_neg (by decide)]
    go_enter Try.func92, Try.ntmps92
    go_wp2_with fail
    refine (KN.out _).mono ?_
    rintro e wq ⟨rfl, rfl⟩
    go_wp2_with fail
    go_ret
    refine ⟨ret_intF ?_, HB0.out⟩
    first | rfl | (simp; done)
  · rw [if_pos rfl]
    cases bn
    · rw [if_neg (by decide)]
      go_enter Try.func92, Try.ntmps92
      go_wp2_with fail
      refine (KN.out _).mono ?_
      rintro e wq ⟨rfl, rfl⟩
      go_wp2_with fail
      refine (BN.out _).mono ?_
      rintro e w1 ⟨rfl, hb⟩
      have hx := (hb.block _ (blk_ltQ HX0.out)).trans HX0.out
      have hy := (hb.block _ (blk_ltQ HY0.out)).trans HY0.out
      have HB1 := Lib.hid (HB0.out.trans (hb.mono HB0.out.size))
      have HX1 := Lib.hid hx
      have HY1 := Lib.hid hy
      obtain ⟨e0, e1, e2, e3⟩ := ex_cells hy
      obtain ⟨d0, d1, d2, d3, d4, d5, d6, d7, d8⟩ := qn_cells hx
      clear hb hx hy
      go_wp2_with fail
      go_ret
      refine ⟨ret_intF ?_, HB1.out⟩
      first | rfl | (simp; done)
    · rw [if_pos rfl]
      go_enter Try.func92, Try.ntmps92
      go_wp2_with fail
      refine (KN.out _).mono ?_
      rintro e wq ⟨rfl, rfl⟩
      go_wp2_with fail
      refine (BN.out _).mono ?_
      rintro e w1 ⟨rfl, hb⟩
      have hx := (hb.block _ (blk_ltQ HX0.out)).trans HX0.out
      have hy := (hb.block _ (blk_ltQ HY0.out)).trans HY0.out
      have HB1 := Lib.hid (HB0.out.trans (hb.mono HB0.out.size))
      have HX1 := Lib.hid hx
      have HY1 := Lib.hid hy
      obtain ⟨e0, e1, e2, e3⟩ := ex_cells hy
      obtain ⟨d0, d1, d2, d3, d4, d5, d6, d7, d8⟩ := qn_cells hx
      clear hb hx hy
      go_wp2_with fail
      go_ret
      refine ⟨ret_intF ?_, HB1.out⟩
      first | rfl | (simp; done)
end Go.Proofs.Ytjhhpilaaahicaa
