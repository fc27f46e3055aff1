/- Layer 14's other text: truths, features. -/
import Derived.Test.YtoaenlbbochjhaaTruWa
namespace Go.Proofs.Ytoaenlbbochjhaa
open Go.RowKit FixM FixP TreN QryP TruP
set_option linter.unusedVariables false

theorem refKnown14_any (a : Int) (w : World) : Calls Try.prog 19 #[.int .i64 a] w fun e w' => e = .returned (.bool (decide (a = 0 ∨ a = 1))) ∧ w = w' := by
  rcases (by omega : a = 0 ∨ a = 1 ∨ (a ≠ 0 ∧ a ≠ 1)) with rfl | rfl | ⟨h0, h1⟩
  · go_enter Try.func19, Try.ntmps19
    go_wp2_with fail
    go_ret
    exact ⟨rfl, rfl⟩
  · go_enter Try.func19, Try.ntmps19
    go_wp2_with fail
    go_ret
    exact ⟨rfl, rfl⟩
  · have b0 := neq_beq h0
    have b1 := neq_beq h1
    rw [decide_eq_false (show ¬ (a = 0 ∨ a = 1) by omega)]
    clear h0 h1
    go_enter Try.func19, Try.ntmps19
    go_wp2_with fail
    go_ret
    exact ⟨ret_bool (by first | rfl | (simp [b0, b1]; done)), rfl⟩
theorem refNot14_any (a : Int) (w : World) : Calls Try.prog 10 #[.int .i64 a] w fun e w' => e = .returned (.int .i64 (notT a)) ∧ w = w' := by
  have K := Lib.hid (fun W => refKnown14_any a W)
  unfold notT
  rcases (by omega : a = 0 ∨ a = 1 ∨ (a ≠ 0 ∧ a ≠ 1)) with rfl | rfl | ⟨h0, h1⟩
  · go_enter Try.func10, Try.ntmps10
    go_wp2_with (go_at_call 19; refine (K.out _).mono ?_; rintro e w' ⟨rfl, rfl⟩)
    all_goals go_ret
    all_goals exact ⟨rfl, rfl⟩
  · go_enter Try.func10, Try.ntmps10
    go_wp2_with (go_at_call 19; refine (K.out _).mono ?_; rintro e w' ⟨rfl, rfl⟩)
    all_goals go_ret
    all_goals exact ⟨rfl, rfl⟩
  · rw [if_neg h0, if_neg h1]
    have KK := K.out
    rw [decide_eq_false (show ¬ (a = 0 ∨ a = 1) by omega)] at KK
    have K2 := Lib.hid KK
    clear KK K h0 h1
    go_enter Try.func10, Try.ntmps10
    go_wp2_with (go_at_call 19; refine (K2.out _).mono ?_; rintro e w' ⟨rfl, rfl⟩)
    all_goals go_ret
    all_goals exact ⟨rfl, rfl⟩
theorem refAnd14_any (a b : Int) (w : World) : Calls Try.prog 12 #[.int .i64 a, .int .i64 b] w fun e w' => e = .returned (.int .i64 (andT a b)) ∧ w = w' := by
  unfold andT
  go_enter Try.func12, Try.ntmps12
  go_wp2
  all_goals go_ret
  all_goals (refine ⟨ret_intF ?_, rfl⟩; (repeat' split) <;> first | rfl | omega | (simp_all; done) | (simp_all; omega))
theorem refOr14_any (a b : Int) (w : World) : Calls Try.prog 14 #[.int .i64 a, .int .i64 b] w fun e w' => e = .returned (.int .i64 (orT a b)) ∧ w = w' := by
  rw [← orT_eq]
  have N := Lib.hid (fun a W => refNot14_any a W)
  have A := Lib.hid (fun a b W => refAnd14_any a b W)
  go_enter Try.func14, Try.ntmps14
  go_wp2_with (first
    | (go_at_call 10; refine (N.out _ _).mono ?_; rintro e w' ⟨rfl, rfl⟩)
    | (go_at_call 12; refine (A.out _ _ _).mono ?_; rintro e w' ⟨rfl, rfl⟩))
  go_ret
  exact ⟨rfl, rfl⟩
set_option maxRecDepth 100000 in
set_option maxHeartbeats 4000000 in
theorem refHolds14_any (a op b : Int) (w : World) (h1 : 1 ≤ op) (h5 : op ≤ 5) : Calls Try.prog 56 #[.int .i64 a, .int .i64 op, .int .i64 b] w fun e w' => e = .returned (.bool (cmT a op b)) ∧ w = w' := by
  unfold cmT
  rcases (by omega : op = 1 ∨ op = 2 ∨ op = 3 ∨ op = 4 ∨ op = 5) with rfl | rfl | rfl | rfl | rfl
  · rw [if_neg (by decide), if_pos rfl]
    clear h1 h5
    go_enter Try.func56, Try.ntmps56
    go_wp2_with fail
    all_goals go_ret
    all_goals exact ⟨ret_bool (by first | rfl | (simp; done) | (simp; omega)), rfl⟩
  · rw [if_neg (by decide), if_neg (by decide), if_neg (by decide), if_pos rfl]
    clear h1 h5
    go_enter Try.func56, Try.ntmps56
    go_wp2_with fail
    all_goals go_ret
    all_goals exact ⟨ret_bool (by first | rfl | (simp; done) | (simp; omega)), rfl⟩
  · rw [if_neg (by decide), if_neg (by decide), if_neg (by decide), if_neg (by decide)]
    clear h1 h5
    go_enter Try.func56, Try.ntmps56
    go_wp2_with fail
    all_goals go_ret
    all_goals exact ⟨ret_bool (by first | rfl | (simp; done) | (simp; omega)), rfl⟩
  · rw [if_neg (by decide), if_neg (by decide), if_pos rfl]
    clear h1 h5
    go_enter Try.func56, Try.ntmps56
    go_wp2_with fail
    all_goals go_ret
    all_goals exact ⟨ret_bool (by first | rfl | (simp; done) | (simp; omega)), rfl⟩
  · rw [if_pos rfl]
    clear h1 h5
    go_enter Try.func56, Try.ntmps56
    go_wp2_with fail
    all_goals go_ret
    all_goals exact ⟨ret_bool (by first | rfl | (simp; done) | (simp; omega)), rfl⟩
set_option maxRecDepth 100000 in
set_option maxHeartbeats 4000000 in
theorem refPlain14_any (f t : Int) (nm : ByteArray) (ww hh : Int) (w : World) : Calls Try.prog 54 #[.int .i64 f, .agg #[.int .i64 t, .string nm, .int .i64 ww, .int .i64 hh]] w fun e w' => e = .returned (.bool (smT f (H ww) (H hh))) ∧ Below w.heap.size w w' := by
  have HB := Lib.hid (below_oneT w (.cells #[.int .i64 t, .string nm, .int .i64 ww, .int .i64 hh] 31))
  have hx := heap_alloc_new w (.cells #[.int .i64 t, .string nm, .int .i64 ww, .int .i64 hh] 31)
  generalize hW : w.alloc (.cells #[.int .i64 t, .string nm, .int .i64 ww, .int .i64 hh] 31) = W at *
  obtain ⟨d0, d1, d2, d3⟩ := ex_cells hx
  clear hx
  have HO := Lib.hid (fun x W => refHold_any x W)
  unfold smT
  generalize hw2 : H ww = xw at *
  generalize hh2 : H hh = xh at *
  have HOw := fun W => flip_worldQ (refHold_any ww W)
  have HOh := fun W => flip_worldQ (refHold_any hh W)
  rw [hw2] at HOw
  rw [hh2] at HOh
  have HW := Lib.hid HOw
  have HH := Lib.hid HOh
  clear HOw HOh hw2 hh2 HO
  rcases (by omega : f = 1 ∨ f = 3 ∨ f = 2 ∨ f = 4 ∨ f = 5 ∨ (f ≠ 1 ∧ f ≠ 3 ∧ f ≠ 2 ∧ f ≠ 4 ∧ f ≠ 5)) with rfl | rfl | rfl | rfl | rfl | ⟨f1, f3, f2, f4, f5⟩
  · rw [if_pos (by decide)]
    go_enter Try.func54, Try.ntmps54
    go_wp2_with fail
    go_quiet ((go_at_call 82; first | exact Calls.quiet_of_same (HW.out _) | exact Calls.quiet_of_same (HH.out _)))
    go_wp2_with fail
    all_goals go_ret
    all_goals exact ⟨ret_bool (by first | rfl | (simp; done) | (simp_all; done)), HB.out.trans (below_drewQ (Below.refl _ _) _)⟩
  · rw [if_pos (by decide)]
    go_enter Try.func54, Try.ntmps54
    go_wp2_with fail
    go_quiet ((go_at_call 82; first | exact Calls.quiet_of_same (HW.out _) | exact Calls.quiet_of_same (HH.out _)))
    go_wp2_with fail
    all_goals go_ret
    all_goals exact ⟨ret_bool (by first | rfl | (simp; done) | (simp_all; done)), HB.out.trans (below_drewQ (Below.refl _ _) _)⟩
  · rw [if_neg (by decide), if_pos (by decide)]
    go_enter Try.func54, Try.ntmps54
    go_wp2_with fail
    go_quiet ((go_at_call 82; first | exact Calls.quiet_of_same (HW.out _) | exact Calls.quiet_of_same (HH.out _)))
    go_wp2_with fail
    all_goals go_ret
    all_goals exact ⟨ret_bool (by first | rfl | (simp; done) | (simp_all; done)), HB.out.trans (below_drewQ (Below.refl _ _) _)⟩
  · rw [if_neg (by decide), if_pos (by decide)]
    go_enter Try.func54, Try.ntmps54
    go_wp2_with fail
    go_quiet ((go_at_call 82; first | exact Calls.quiet_of_same (HW.out _) | exact Calls.quiet_of_same (HH.out _)))
    go_wp2_with fail
    all_goals go_ret
    all_goals exact ⟨ret_bool (by first | rfl | (simp; done) | (simp_all; done)), HB.out.trans (below_drewQ (Below.refl _ _) _)⟩
  · rw [if_neg (by decide), if_neg (by decide), if_pos rfl]
    rcases Decidable.em (xw = 0) with w0 | w0
    · subst w0
      go_enter Try.func54, Try.ntmps54
      go_wp2_with fail
      go_quiet ((go_at_call 82; first | exact Calls.quiet_of_same (HW.out _) | exact Calls.quiet_of_same (HH.out _)))
      go_wp2_with fail
      all_goals go_ret
      all_goals exact ⟨ret_bool (by first | rfl | (simp; done) | (simp_all; done)), HB.out.trans (below_drewQ (Below.refl _ _) _)⟩
    · have bw := neq_beq w0
      have bw2 : (xw != 0) = true := by rw [bne, bw]; rfl
      rw [bw2, Bool.true_and]
      go_enter Try.func54, Try.ntmps54
      go_wp2_with fail
      go_quiet ((go_at_call 82; first | exact Calls.quiet_of_same (HW.out _) | exact Calls.quiet_of_same (HH.out _)))
      go_wp2_with fail
      all_goals go_ret
      all_goals exact ⟨ret_bool (by first | rfl | (simp; done) | (simp_all; done)), HB.out.trans (below_drewQ (Below.refl _ _) _)⟩
  · rw [if_neg (by omega), if_neg (by omega), if_neg f5]
    have b1 := neq_beq f1
    have b3 := neq_beq f3
    have b2 := neq_beq f2
    have b4 := neq_beq f4
    have b5 := neq_beq f5
    clear f1 f3 f2 f4 f5
    go_enter Try.func54, Try.ntmps54
    go_wp2_with fail
    go_quiet ((go_at_call 82; first | exact Calls.quiet_of_same (HW.out _) | exact Calls.quiet_of_same (HH.out _)))
    go_wp2_with fail
    all_goals go_ret
    all_goals exact ⟨ret_bool (by first | rfl | (simp; done) | (simp_all; done)), HB.out.trans (below_drewQ (Below.refl _ _) _)⟩
set_option maxRecDepth 100000 in
set_option maxHeartbeats 4000000 in
theorem refSides14_any (f op n d t : Int) (nm : ByteArray) (ww hh : Int) (w : World) (hf1 : 1 ≤ f) (hf6 : f ≤ 6) (hp : f = 5 → (-1073741824 ≤ n ∧ n ≤ 1073741824) ∧ (-1073741824 ≤ d ∧ d ≤ 1073741824)) :
    Calls Try.prog 55 #[.int .i64 f, .agg #[.int .i64 op, .int .i64 n, .int .i64 d], .agg #[.int .i64 t, .string nm, .int .i64 ww, .int .i64 hh]] w fun e w' => e = .returned (.tuple #[.int .i64 (sdA f ⟨op, n, d⟩ (H ww) (H hh)), .int .i64 (sdB f ⟨op, n, d⟩ (H ww) (H hh))]) ∧ Below w.heap.size w w' := by
  have HB1 := below_oneT w (.cells #[.int .i64 op, .int .i64 n, .int .i64 d] 37)
  have hx1 := heap_alloc_new w (.cells #[.int .i64 op, .int .i64 n, .int .i64 d] 37)
  generalize hW1 : w.alloc (.cells #[.int .i64 op, .int .i64 n, .int .i64 d] 37) = W1 at *
  have HB2 := below_oneT W1 (.cells #[.int .i64 t, .string nm, .int .i64 ww, .int .i64 hh] 31)
  have hx2 := heap_alloc_new W1 (.cells #[.int .i64 t, .string nm, .int .i64 ww, .int .i64 hh] 31)
  have hb := (HB2.block _ (blk_ltQ hx1)).trans hx1
  have HB := Lib.hid (HB1.trans (HB2.mono HB1.size))
  generalize hW : W1.alloc (.cells #[.int .i64 t, .string nm, .int .i64 ww, .int .i64 hh] 31) = W at *
  obtain ⟨d0, d1, d2, d3⟩ := ex_cells hx2
  obtain ⟨g0, g1, g2⟩ := bd_cells hb
  clear hx1 hx2 hb HB1 HB2
  have PX0 := fun W => refPart_any n 64 1000 W
  obtain ⟨px, hpx⟩ : ∃ px, PT n 64 1000 = px := ⟨_, rfl⟩
  rw [hpx] at PX0
  have PX := Lib.hid PX0
  clear PX0
  have hwb := H_bd ww
  have hhb := H_bd hh
  generalize hw2 : H ww = xw at *
  generalize hh2 : H hh = xh at *
  have HOw := fun W => flip_worldQ (refHold_any ww W)
  have HOh := fun W => flip_worldQ (refHold_any hh W)
  rw [hw2] at HOw
  rw [hh2] at HOh
  have HW := Lib.hid HOw
  have HH := Lib.hid HOh
  clear HOw HOh hw2 hh2
  rcases (by omega : f = 1 ∨ f = 3 ∨ f = 2 ∨ f = 4 ∨ f = 5 ∨ f = 6) with rfl | rfl | rfl | rfl | rfl | rfl
  · clear hp hf1 hf6
    have eA : sdA 1 ⟨op, n, d⟩ xw xh = xw := by unfold sdA; rw [if_pos (by decide)]
    have eB : sdB 1 ⟨op, n, d⟩ xw xh = PT n 64 1000 := by unfold sdB; rw [if_pos (by decide)]
    rw [hpx] at eB
    clear hpx
    go_enter Try.func55, Try.ntmps55
    go_wp2_with fail
    go_quiet ((go_at_call 82; first | exact Calls.quiet_of_same (HW.out _) | exact Calls.quiet_of_same (HH.out _)))
    go_wp2_with (go_at_call 83; refine (PX.out _).mono ?_; rintro e w' ⟨rfl, rfl⟩)
    all_goals go_ret2
    all_goals exact ⟨ret_pairT (by first | exact eA.symm | rfl) (by first | exact eB.symm | rfl), HB.out.trans (below_drewQ (Below.refl _ _) _)⟩
  · clear hp hf1 hf6
    have eA : sdA 3 ⟨op, n, d⟩ xw xh = xw := by unfold sdA; rw [if_pos (by decide)]
    have eB : sdB 3 ⟨op, n, d⟩ xw xh = PT n 64 1000 := by unfold sdB; rw [if_pos (by decide)]
    rw [hpx] at eB
    clear hpx
    go_enter Try.func55, Try.ntmps55
    go_wp2_with fail
    go_quiet ((go_at_call 82; first | exact Calls.quiet_of_same (HW.out _) | exact Calls.quiet_of_same (HH.out _)))
    go_wp2_with (go_at_call 83; refine (PX.out _).mono ?_; rintro e w' ⟨rfl, rfl⟩)
    all_goals go_ret2
    all_goals exact ⟨ret_pairT (by first | exact eA.symm | rfl) (by first | exact eB.symm | rfl), HB.out.trans (below_drewQ (Below.refl _ _) _)⟩
  · clear hp hf1 hf6
    have eA : sdA 2 ⟨op, n, d⟩ xw xh = xh := by unfold sdA; rw [if_neg (by decide), if_pos (by decide)]
    have eB : sdB 2 ⟨op, n, d⟩ xw xh = PT n 64 1000 := by unfold sdB; rw [if_neg (by decide), if_pos (by decide)]
    rw [hpx] at eB
    clear hpx
    go_enter Try.func55, Try.ntmps55
    go_wp2_with fail
    go_quiet ((go_at_call 82; first | exact Calls.quiet_of_same (HW.out _) | exact Calls.quiet_of_same (HH.out _)))
    go_wp2_with (go_at_call 83; refine (PX.out _).mono ?_; rintro e w' ⟨rfl, rfl⟩)
    all_goals go_ret2
    all_goals exact ⟨ret_pairT (by first | exact eA.symm | rfl) (by first | exact eB.symm | rfl), HB.out.trans (below_drewQ (Below.refl _ _) _)⟩
  · clear hp hf1 hf6
    have eA : sdA 4 ⟨op, n, d⟩ xw xh = xh := by unfold sdA; rw [if_neg (by decide), if_pos (by decide)]
    have eB : sdB 4 ⟨op, n, d⟩ xw xh = PT n 64 1000 := by unfold sdB; rw [if_neg (by decide), if_pos (by decide)]
    rw [hpx] at eB
    clear hpx
    go_enter Try.func55, Try.ntmps55
    go_wp2_with fail
    go_quiet ((go_at_call 82; first | exact Calls.quiet_of_same (HW.out _) | exact Calls.quiet_of_same (HH.out _)))
    go_wp2_with (go_at_call 83; refine (PX.out _).mono ?_; rintro e w' ⟨rfl, rfl⟩)
    all_goals go_ret2
    all_goals exact ⟨ret_pairT (by first | exact eA.symm | rfl) (by first | exact eB.symm | rfl), HB.out.trans (below_drewQ (Below.refl _ _) _)⟩
  · obtain ⟨hn, hd⟩ := hp rfl
    have p1 := prodT hwb hd
    have p2 := prodT hn hhb
    have eA : sdA 5 ⟨op, n, d⟩ xw xh = xw * d := by unfold sdA; rw [if_neg (by decide), if_neg (by decide), if_pos rfl]
    have eB : sdB 5 ⟨op, n, d⟩ xw xh = n * xh := by unfold sdB; rw [if_neg (by decide), if_neg (by decide), if_pos rfl]
    clear hp hf1 hf6 hpx
    go_enter Try.func55, Try.ntmps55
    go_wp2_with fail
    go_quiet ((go_at_call 82; first | exact Calls.quiet_of_same (HW.out _) | exact Calls.quiet_of_same (HH.out _)))
    go_wp2_with (go_at_call 83; refine (PX.out _).mono ?_; rintro e w' ⟨rfl, rfl⟩)
    go_quiet (fail)
    go_wp2_with fail
    all_goals go_ret2
    all_goals exact ⟨ret_pairT (by first | exact eA.symm | rfl) (by first | exact eB.symm | rfl), HB.out.trans ((below_drewQ (Below.refl _ _) _).trans (below_drewQ (Below.refl _ _) _))⟩
  · have eA : sdA 6 ⟨op, n, d⟩ xw xh = if xw ≤ xh then 1 else 2 := by unfold sdA; rw [if_neg (by decide), if_neg (by decide), if_neg (by decide)]
    have eB : sdB 6 ⟨op, n, d⟩ xw xh = n := by unfold sdB; rw [if_neg (by decide), if_neg (by decide), if_neg (by decide)]
    clear hp hf1 hf6 hpx
    by_cases hc : xw ≤ xh
    · rw [if_pos hc] at eA
      go_enter Try.func55, Try.ntmps55
      go_wp2_with fail
      go_quiet ((go_at_call 82; first | exact Calls.quiet_of_same (HW.out _) | exact Calls.quiet_of_same (HH.out _)))
      go_wp2_with (go_at_call 83; refine (PX.out _).mono ?_; rintro e w' ⟨rfl, rfl⟩)
      go_quiet (fail)
      go_wp2_with fail
      all_goals go_ret2
      all_goals exact ⟨ret_pairT (by first | exact eA.symm | rfl) (by first | exact eB.symm | rfl), HB.out.trans ((below_drewQ (Below.refl _ _) _).trans (below_drewQ (Below.refl _ _) _))⟩
    · rw [if_neg hc] at eA
      go_enter Try.func55, Try.ntmps55
      go_wp2_with fail
      go_quiet ((go_at_call 82; first | exact Calls.quiet_of_same (HW.out _) | exact Calls.quiet_of_same (HH.out _)))
      go_wp2_with (go_at_call 83; refine (PX.out _).mono ?_; rintro e w' ⟨rfl, rfl⟩)
      go_quiet (fail)
      go_wp2_with fail
      all_goals go_ret2
      all_goals exact ⟨ret_pairT (by first | exact eA.symm | rfl) (by first | exact eB.symm | rfl), HB.out.trans ((below_drewQ (Below.refl _ _) _).trans (below_drewQ (Below.refl _ _) _))⟩
end Go.Proofs.Ytoaenlbbochjhaa
