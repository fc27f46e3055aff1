/- Layer 8's other text: may a bound, a feature, a node be? -/
import Derived.Test.YtjhhpilaaahicaaQryW3
import Derived.Lib.QuietBelow
namespace Go.Proofs.Ytjhhpilaaahicaa
open Go.RowKit FixM FixP TreN QryP
set_option linter.unusedVariables false

set_option maxRecDepth 100000 in
set_option maxHeartbeats 8000000 in
theorem refBound_any (f o n d : Int) (w : World) : Calls Try.prog 131 #[.int .i64 f, .agg #[.int .i64 o, .int .i64 n, .int .i64 d]] w fun e w' => e = .returned (.bool (bdR f ⟨o, n, d⟩)) ∧ Below w.heap.size w w' := by
  have HB0 := Lib.hid (below_oneQ w (.cells #[.int .i64 o, .int .i64 n, .int .i64 d] 50))
  have hx := heap_alloc_new w (.cells #[.int .i64 o, .int .i64 n, .int .i64 d] 50)
  generalize hW : w.alloc (.cells #[.int .i64 o, .int .i64 n, .int .i64 d] 50) = W at *
  have d0 : W.cell? ⟨w.heap.size, 0, none⟩ = some (.int .i64 o) := cell_of hx rfl
  have d1 : W.cell? ⟨w.heap.size, 1, none⟩ = some (.int .i64 n) := cell_of hx rfl
  have d2 : W.cell? ⟨w.heap.size, 2, none⟩ = some (.int .i64 d) := cell_of hx rfl
  clear hx
  unfold bdR
  simp only []
  rcases (by omega : o < 1 ∨ (¬ o < 1 ∧ 5 < o) ∨ (¬ o < 1 ∧ ¬ 5 < o)) with h1 | ⟨h1, h2⟩ | ⟨h1, h2⟩
  · rw [decide_eq_false (by omega), Bool.false_and]
    go_enter Try.func131, Try.ntmps131
    go_wp2_with fail
    go_ret
    refine ⟨ret_bool ?_, HB0.out⟩
    first | rfl | (simp; done) | (simp; omega)
  · rw [decide_eq_false (by omega), Bool.false_and]
    go_enter Try.func131, Try.ntmps131
    go_wp2_with fail
    go_ret
    refine ⟨ret_bool ?_, HB0.out⟩
    first | rfl | (simp; done) | (simp; omega)
  · rw [decide_eq_true (by omega), Bool.true_and]
    by_cases h6 : f = 6
    · have z6 : (f == 6) = true := by rw [h6]; rfl
      rw [if_pos h6]
      clear h6
      by_cases h3 : o = 3
      · have z3 : (o == 3) = true := by rw [h3]; rfl
        by_cases hd : d = 0
        · have zd : (d == 0) = true := by rw [hd]; rfl
          by_cases n1 : n = 1
          · have zn : (n == 1) = true := by rw [n1]; rfl
            rw [decide_eq_true ⟨h3, hd, Or.inl n1⟩]
            clear h3 hd n1
            go_enter Try.func131, Try.ntmps131
            go_wp2_with fail
            go_ret
            refine ⟨ret_bool ?_, HB0.out⟩
            first | rfl | (simp; done) | (simp; omega)
          · have zn : (n == 1) = false := by rw [beq_eq_false_iff_ne]; exact n1
            by_cases n2 : n = 2
            · have zm : (n == 2) = true := by rw [n2]; rfl
              rw [decide_eq_true ⟨h3, hd, Or.inr n2⟩]
              clear h3 hd n1 n2
              go_enter Try.func131, Try.ntmps131
              go_wp2_with fail
              go_ret
              refine ⟨ret_bool ?_, HB0.out⟩
              first | rfl | (simp; done) | (simp; omega)
            · have zm : (n == 2) = false := by rw [beq_eq_false_iff_ne]; exact n2
              rw [decide_eq_false (by omega)]
              clear h3 hd n1 n2
              go_enter Try.func131, Try.ntmps131
              go_wp2_with fail
              go_ret
              refine ⟨ret_bool ?_, HB0.out⟩
              first | rfl | (simp; done) | (simp; omega)
        · have zd : (d == 0) = false := by rw [beq_eq_false_iff_ne]; exact hd
          rw [decide_eq_false (by omega)]
          clear h3 hd
          go_enter Try.func131, Try.ntmps131
          go_wp2_with fail
          go_ret
          refine ⟨ret_bool ?_, HB0.out⟩
          first | rfl | (simp; done) | (simp; omega)
      · have z3 : (o == 3) = false := by rw [beq_eq_false_iff_ne]; exact h3
        rw [decide_eq_false (by omega)]
        clear h3
        go_enter Try.func131, Try.ntmps131
        go_wp2_with fail
        go_ret
        refine ⟨ret_bool ?_, HB0.out⟩
        first | rfl | (simp; done) | (simp; omega)
    · have z6 : (f == 6) = false := by rw [beq_eq_false_iff_ne]; exact h6
      rw [if_neg h6]
      by_cases h5 : f = 5
      · have z5 : (f == 5) = true := by rw [h5]; rfl
        rw [if_pos h5]
        clear h6 h5
        rcases (by omega : ¬ 1 ≤ n ∨ (1 ≤ n ∧ ¬ 1 ≤ d) ∨ (1 ≤ n ∧ 1 ≤ d ∧ ¬ n ≤ 1073741824) ∨ (1 ≤ n ∧ 1 ≤ d ∧ n ≤ 1073741824 ∧ ¬ d ≤ 1073741824) ∨ (1 ≤ n ∧ 1 ≤ d ∧ n ≤ 1073741824 ∧ d ≤ 1073741824)) with g1 | ⟨g1, g2⟩ | ⟨g1, g2, g3⟩ | ⟨g1, g2, g3, g4⟩ | ⟨g1, g2, g3, g4⟩
        · rw [decide_eq_false (by omega)]
          go_enter Try.func131, Try.ntmps131
          go_wp2_with fail
          go_ret
          refine ⟨ret_bool ?_, HB0.out⟩
          first | rfl | (simp; done) | (simp; omega)
        · rw [decide_eq_false (by omega)]
          go_enter Try.func131, Try.ntmps131
          go_wp2_with fail
          go_ret
          refine ⟨ret_bool ?_, HB0.out⟩
          first | rfl | (simp; done) | (simp; omega)
        · rw [decide_eq_false (by omega)]
          go_enter Try.func131, Try.ntmps131
          go_wp2_with fail
          go_ret
          refine ⟨ret_bool ?_, HB0.out⟩
          first | rfl | (simp; done) | (simp; omega)
        · rw [decide_eq_false (by omega)]
          go_enter Try.func131, Try.ntmps131
          go_wp2_with fail
          go_ret
          refine ⟨ret_bool ?_, HB0.out⟩
          first | rfl | (simp; done) | (simp; omega)
        · rw [decide_eq_true ⟨g1, g2, g3, g4⟩]
          go_enter Try.func131, Try.ntmps131
          go_wp2_with fail
          go_ret
          refine ⟨ret_bool ?_, HB0.out⟩
          first | rfl | (simp; done) | (simp; omega)
      · have z5 : (f == 5) = false := by rw [beq_eq_false_iff_ne]; exact h5
        rw [if_neg h5]
        have hH := H_self n
        have C := fun W => flip_worldQ (refHold_any n W)
        obtain ⟨hn, hhn⟩ : ∃ x, H n = x := ⟨_, rfl⟩
        rw [hhn] at C hH
        have CC := Lib.hid C
        clear C hhn h5 h6
        by_cases hd : d = 0
        · have zd : (d == 0) = true := by rw [hd]; rfl
          by_cases h7 : n = hn
          · have z7 : (hn == n) = true := by rw [h7]; simp
            rw [decide_eq_true ⟨hd, hH.1 h7⟩]
            clear hd h7 hH
            go_enter Try.func131, Try.ntmps131
            go_wp2_with fail
            go_quiet ((go_at_call 121; exact Calls.quiet_of_same (CC.out _)))
            go_wp2_with fail
            go_ret
            refine ⟨ret_bool ?_, HB0.out.trans (below_drewQ (Below.refl _ _) _)⟩
            first | rfl | (simp; done) | (simp; omega)
          · have z7 : (hn == n) = false := by rw [beq_eq_false_iff_ne]; exact fun e => h7 e.symm
            rw [decide_eq_false (fun g => h7 (hH.2 g.2))]
            clear hd h7 hH
            go_enter Try.func131, Try.ntmps131
            go_wp2_with fail
            go_quiet ((go_at_call 121; exact Calls.quiet_of_same (CC.out _)))
            go_wp2_with fail
            go_ret
            refine ⟨ret_bool ?_, HB0.out.trans (below_drewQ (Below.refl _ _) _)⟩
            first | rfl | (simp; done) | (simp; omega)
        · have zd : (d == 0) = false := by rw [beq_eq_false_iff_ne]; exact hd
          rw [decide_eq_false (fun g => hd g.1)]
          clear hd hH
          go_enter Try.func131, Try.ntmps131
          go_wp2_with fail
          go_quiet ((go_at_call 121; exact Calls.quiet_of_same (CC.out _)))
          go_wp2_with fail
          go_ret
          refine ⟨ret_bool ?_, HB0.out.trans (below_drewQ (Below.refl _ _) _)⟩
          first | rfl | (simp; done) | (simp; omega)

set_option maxRecDepth 100000 in
set_option maxHeartbeats 8000000 in
theorem refFeature_any (k c f a1 a2 a3 b1 b2 b3 : Int) (w : World) : Calls Try.prog 94 #[.agg #[.int .i64 k, .int .i64 c, .int .i64 f, .int .i64 a1, .int .i64 a2, .int .i64 a3, .int .i64 b1, .int .i64 b2, .int .i64 b3]] w fun e w' => e = .returned (.bool (ftR ⟨k, c, f, ⟨a1, a2, a3⟩, ⟨b1, b2, b3⟩⟩)) ∧ Below w.heap.size w w' := by
  have HBa := Lib.hid (below_oneQ w (.cells #[.int .i64 k, .int .i64 c, .int .i64 f, .int .i64 a1, .int .i64 a2, .int .i64 a3, .int .i64 b1, .int .i64 b2, .int .i64 b3] 52))
  have hx := heap_alloc_new w (.cells #[.int .i64 k, .int .i64 c, .int .i64 f, .int .i64 a1, .int .i64 a2, .int .i64 a3, .int .i64 b1, .int .i64 b2, .int .i64 b3] 52)
  generalize hW : w.alloc (.cells #[.int .i64 k, .int .i64 c, .int .i64 f, .int .i64 a1, .int .i64 a2, .int .i64 a3, .int .i64 b1, .int .i64 b2, .int .i64 b3] 52) = W at *
  have hlt := blk_ltQ hx
  obtain ⟨d0, d1, d2, d3, d4, d5, d6, d7, d8⟩ := qn_cells hx
  have HX0 : Hid ((W.alloc (.cells #[.int .i64 0, .int .i64 0, .int .i64 0] 50)).heap[w.heap.size]? = some (.cells #[.int .i64 k, .int .i64 c, .int .i64 f, .int .i64 a1, .int .i64 a2, .int .i64 a3, .int .i64 b1, .int .i64 b2, .int .i64 b3] 52 (0, 0))) := Lib.hid ((Below.heap_alloc _ _ _ hlt).trans hx)
  have HZ0 := Lib.hid (heap_alloc_new W (.cells #[.int .i64 0, .int .i64 0, .int .i64 0] 50))
  have HB0 : Hid (Below w.heap.size w (W.alloc (.cells #[.int .i64 0, .int .i64 0, .int .i64 0] 50))) := Lib.hid (HBa.out.alloc HBa.out.size _)
  have EH := fun W => bd_eql b1 b2 b3 W
  have EL := fun W => bd_eql a1 a2 a3 W
  have BH := Lib.hid (fun W => refBound_any f b1 b2 b3 W)
  have BL := Lib.hid (fun W => refBound_any f a1 a2 a3 W)
  unfold ftR
  simp only []
  generalize thrB ⟨b1, b2, b3⟩ = th at *
  generalize thrB ⟨a1, a2, a3⟩ = tl at *
  generalize bdR f ⟨b1, b2, b3⟩ = vh at *
  generalize bdR f ⟨a1, a2, a3⟩ = vl at *
  clear hx
  rcases (by omega : ¬ c = 0 ∨ (c = 0 ∧ f < 1) ∨ (c = 0 ∧ ¬ f < 1 ∧ 6 < f) ∨ (c = 0 ∧ ¬ f < 1 ∧ ¬ 6 < f)) with h0 | ⟨h0, h1⟩ | ⟨h0, h1, h2⟩ | ⟨h0, h1, h2⟩
  · have z0 : (c != 0) = true := by simp [h0]
    rw [decide_eq_false (fun g => h0 g.1), Bool.false_and]
    clear h0
    go_enter Try.func94, Try.ntmps94
    go_wp2_with fail
    go_ret
    refine ⟨ret_bool ?_, HBa.out⟩
    first | rfl | (simp; done) | (simp; omega)
  · have z0 : (c != 0) = false := by simp [h0]
    rw [decide_eq_false (by omega), Bool.false_and]
    clear h0
    go_enter Try.func94, Try.ntmps94
    go_wp2_with fail
    go_ret
    refine ⟨ret_bool ?_, HBa.out⟩
    first | rfl | (simp; done) | (simp; omega)
  · have z0 : (c != 0) = false := by simp [h0]
    rw [decide_eq_false (by omega), Bool.false_and]
    clear h0
    go_enter Try.func94, Try.ntmps94
    go_wp2_with fail
    go_ret
    refine ⟨ret_bool ?_, HBa.out⟩
    first | rfl | (simp; done) | (simp; omega)
  · have z0 : (c != 0) = false := by simp [h0]
    rw [decide_eq_true (by omega), Bool.true_and]
    clear h0
    cases th
    · rw [if_pos rfl]
      go_enter Try.func94, Try.ntmps94
      go_wp2_with fail
      go_ret
      refine ⟨ret_bool ?_, HB0.out⟩
      first | rfl | (simp; done) | (simp; omega)
    · rw [if_neg (show ¬ (true = false) by decide)]
      cases vh
      · skip
        go_enter Try.func94, Try.ntmps94
        go_wp2_with fail
        refine (BH.out _).mono ?_
        rintro e w1 ⟨rfl, hb⟩
        have hx := (hb.block _ (blk_ltQ HX0.out)).trans HX0.out
        have hz := (hb.block _ (blk_ltQ HZ0.out)).trans HZ0.out
        have HB1 := Lib.hid (HB0.out.trans (hb.mono HB0.out.size))
        have HX1 := Lib.hid hx
        have HZ1 := Lib.hid hz
        obtain ⟨d0, d1, d2, d3, d4, d5, d6, d7, d8⟩ := qn_cells hx
        have e0 : w1.cell? ⟨W.heap.size, 0, none⟩ = some (.int .i64 0) := cell_of hz rfl
        have e1 : w1.cell? ⟨W.heap.size, 1, none⟩ = some (.int .i64 0) := cell_of hz rfl
        have e2 : w1.cell? ⟨W.heap.size, 2, none⟩ = some (.int .i64 0) := cell_of hz rfl
        clear hb hx hz
        go_wp2_with fail
        go_ret
        refine ⟨ret_bool ?_, HB1.out⟩
        first | rfl | (simp; done) | (simp; omega)
      · rw [Bool.true_and]
        cases tl
        · skip
          go_enter Try.func94, Try.ntmps94
          go_wp2_with fail
          refine (BH.out _).mono ?_
          rintro e w1 ⟨rfl, hb⟩
          have hx := (hb.block _ (blk_ltQ HX0.out)).trans HX0.out
          have hz := (hb.block _ (blk_ltQ HZ0.out)).trans HZ0.out
          have HB1 := Lib.hid (HB0.out.trans (hb.mono HB0.out.size))
          have HX1 := Lib.hid hx
          have HZ1 := Lib.hid hz
          obtain ⟨d0, d1, d2, d3, d4, d5, d6, d7, d8⟩ := qn_cells hx
          have e0 : w1.cell? ⟨W.heap.size, 0, none⟩ = some (.int .i64 0) := cell_of hz rfl
          have e1 : w1.cell? ⟨W.heap.size, 1, none⟩ = some (.int .i64 0) := cell_of hz rfl
          have e2 : w1.cell? ⟨W.heap.size, 2, none⟩ = some (.int .i64 0) := cell_of hz rfl
          clear hb hx hz
          go_wp2_with fail
          go_ret
          refine ⟨ret_bool ?_, HB1.out⟩
          first | rfl | (simp; done) | (simp; omega)
        · by_cases h6 : f = 6
          · have z6 : (f == 6) = true := by rw [h6]; rfl
            have hn : decide (f ≠ 6) = false := decide_eq_false (by simp [h6])
            rw [hn]
            clear h6 hn
            go_enter Try.func94, Try.ntmps94
            go_wp2_with fail
            refine (BH.out _).mono ?_
            rintro e w1 ⟨rfl, hb⟩
            have hx := (hb.block _ (blk_ltQ HX0.out)).trans HX0.out
            have hz := (hb.block _ (blk_ltQ HZ0.out)).trans HZ0.out
            have HB1 := Lib.hid (HB0.out.trans (hb.mono HB0.out.size))
            have HX1 := Lib.hid hx
            have HZ1 := Lib.hid hz
            obtain ⟨d0, d1, d2, d3, d4, d5, d6, d7, d8⟩ := qn_cells hx
            have e0 : w1.cell? ⟨W.heap.size, 0, none⟩ = some (.int .i64 0) := cell_of hz rfl
            have e1 : w1.cell? ⟨W.heap.size, 1, none⟩ = some (.int .i64 0) := cell_of hz rfl
            have e2 : w1.cell? ⟨W.heap.size, 2, none⟩ = some (.int .i64 0) := cell_of hz rfl
            clear hb hx hz
            go_wp2_with fail
            go_ret
            refine ⟨ret_bool ?_, HB1.out⟩
            first | rfl | (simp; done) | (simp; omega)
          · have z6 : (f == 6) = false := by rw [beq_eq_false_iff_ne]; exact h6
            have hn : decide (f ≠ 6) = true := decide_eq_true h6
            rw [hn, Bool.true_and]
            clear h6 hn
            cases vl
            · skip
              go_enter Try.func94, Try.ntmps94
              go_wp2_with fail
              refine (BH.out _).mono ?_
              rintro e w1 ⟨rfl, hb⟩
              have hx := (hb.block _ (blk_ltQ HX0.out)).trans HX0.out
              have hz := (hb.block _ (blk_ltQ HZ0.out)).trans HZ0.out
              have HB1 := Lib.hid (HB0.out.trans (hb.mono HB0.out.size))
              have HX1 := Lib.hid hx
              have HZ1 := Lib.hid hz
              obtain ⟨d0, d1, d2, d3, d4, d5, d6, d7, d8⟩ := qn_cells hx
              have e0 : w1.cell? ⟨W.heap.size, 0, none⟩ = some (.int .i64 0) := cell_of hz rfl
              have e1 : w1.cell? ⟨W.heap.size, 1, none⟩ = some (.int .i64 0) := cell_of hz rfl
              have e2 : w1.cell? ⟨W.heap.size, 2, none⟩ = some (.int .i64 0) := cell_of hz rfl
              clear hb hx hz
              go_wp2_with fail
              refine (BL.out _).mono ?_
              rintro e w2 ⟨rfl, hb⟩
              have hx := (hb.block _ (blk_ltQ HX1.out)).trans HX1.out
              have hz := (hb.block _ (blk_ltQ HZ1.out)).trans HZ1.out
              have HB2 := Lib.hid (HB1.out.trans (hb.mono HB1.out.size))
              have HX2 := Lib.hid hx
              have HZ2 := Lib.hid hz
              obtain ⟨d0, d1, d2, d3, d4, d5, d6, d7, d8⟩ := qn_cells hx
              have e0 : w2.cell? ⟨W.heap.size, 0, none⟩ = some (.int .i64 0) := cell_of hz rfl
              have e1 : w2.cell? ⟨W.heap.size, 1, none⟩ = some (.int .i64 0) := cell_of hz rfl
              have e2 : w2.cell? ⟨W.heap.size, 2, none⟩ = some (.int .i64 0) := cell_of hz rfl
              clear hb hx hz
              go_wp2_with fail
              go_ret
              refine ⟨ret_bool ?_, HB2.out⟩
              first | rfl | (simp; done) | (simp; omega)
            · rw [Bool.true_and]
              rcases (by omega : (a1 ≤ 2 ∧ b1 ≤ 2) ∨ (a1 ≤ 2 ∧ ¬ b1 ≤ 2 ∧ ¬ 4 ≤ a1) ∨ (¬ a1 ≤ 2 ∧ ¬ 4 ≤ a1) ∨ (¬ a1 ≤ 2 ∧ 4 ≤ a1 ∧ 4 ≤ b1) ∨ (¬ a1 ≤ 2 ∧ 4 ≤ a1 ∧ ¬ 4 ≤ b1)) with ⟨g1, g2⟩ | ⟨g1, g2, g3⟩ | ⟨g1, g2⟩ | ⟨g1, g2, g3⟩ | ⟨g1, g2, g3⟩
              · rw [decide_eq_true (Or.inl ⟨g1, g2⟩)]
                go_enter Try.func94, Try.ntmps94
                go_wp2_with fail
                refine (BH.out _).mono ?_
                rintro e w1 ⟨rfl, hb⟩
                have hx := (hb.block _ (blk_ltQ HX0.out)).trans HX0.out
                have hz := (hb.block _ (blk_ltQ HZ0.out)).trans HZ0.out
                have HB1 := Lib.hid (HB0.out.trans (hb.mono HB0.out.size))
                have HX1 := Lib.hid hx
                have HZ1 := Lib.hid hz
                obtain ⟨d0, d1, d2, d3, d4, d5, d6, d7, d8⟩ := qn_cells hx
                have e0 : w1.cell? ⟨W.heap.size, 0, none⟩ = some (.int .i64 0) := cell_of hz rfl
                have e1 : w1.cell? ⟨W.heap.size, 1, none⟩ = some (.int .i64 0) := cell_of hz rfl
                have e2 : w1.cell? ⟨W.heap.size, 2, none⟩ = some (.int .i64 0) := cell_of hz rfl
                clear hb hx hz
                go_wp2_with fail
                refine (BL.out _).mono ?_
                rintro e w2 ⟨rfl, hb⟩
                have hx := (hb.block _ (blk_ltQ HX1.out)).trans HX1.out
                have hz := (hb.block _ (blk_ltQ HZ1.out)).trans HZ1.out
                have HB2 := Lib.hid (HB1.out.trans (hb.mono HB1.out.size))
                have HX2 := Lib.hid hx
                have HZ2 := Lib.hid hz
                obtain ⟨d0, d1, d2, d3, d4, d5, d6, d7, d8⟩ := qn_cells hx
                have e0 : w2.cell? ⟨W.heap.size, 0, none⟩ = some (.int .i64 0) := cell_of hz rfl
                have e1 : w2.cell? ⟨W.heap.size, 1, none⟩ = some (.int .i64 0) := cell_of hz rfl
                have e2 : w2.cell? ⟨W.heap.size, 2, none⟩ = some (.int .i64 0) := cell_of hz rfl
                clear hb hx hz
                go_wp2_with fail
                go_ret
                refine ⟨ret_bool ?_, HB2.out⟩
                first | rfl | (simp; done) | (simp; omega)
              · rw [decide_eq_false (by omega)]
                go_enter Try.func94, Try.ntmps94
                go_wp2_with fail
                refine (BH.out _).mono ?_
                rintro e w1 ⟨rfl, hb⟩
                have hx := (hb.block _ (blk_ltQ HX0.out)).trans HX0.out
                have hz := (hb.block _ (blk_ltQ HZ0.out)).trans HZ0.out
                have HB1 := Lib.hid (HB0.out.trans (hb.mono HB0.out.size))
                have HX1 := Lib.hid hx
                have HZ1 := Lib.hid hz
                obtain ⟨d0, d1, d2, d3, d4, d5, d6, d7, d8⟩ := qn_cells hx
                have e0 : w1.cell? ⟨W.heap.size, 0, none⟩ = some (.int .i64 0) := cell_of hz rfl
                have e1 : w1.cell? ⟨W.heap.size, 1, none⟩ = some (.int .i64 0) := cell_of hz rfl
                have e2 : w1.cell? ⟨W.heap.size, 2, none⟩ = some (.int .i64 0) := cell_of hz rfl
                clear hb hx hz
                go_wp2_with fail
                refine (BL.out _).mono ?_
                rintro e w2 ⟨rfl, hb⟩
                have hx := (hb.block _ (blk_ltQ HX1.out)).trans HX1.out
                have hz := (hb.block _ (blk_ltQ HZ1.out)).trans HZ1.out
                have HB2 := Lib.hid (HB1.out.trans (hb.mono HB1.out.size))
                have HX2 := Lib.hid hx
                have HZ2 := Lib.hid hz
                obtain ⟨d0, d1, d2, d3, d4, d5, d6, d7, d8⟩ := qn_cells hx
                have e0 : w2.cell? ⟨W.heap.size, 0, none⟩ = some (.int .i64 0) := cell_of hz rfl
                have e1 : w2.cell? ⟨W.heap.size, 1, none⟩ = some (.int .i64 0) := cell_of hz rfl
                have e2 : w2.cell? ⟨W.heap.size, 2, none⟩ = some (.int .i64 0) := cell_of hz rfl
                clear hb hx hz
                go_wp2_with fail
                go_ret
                refine ⟨ret_bool ?_, HB2.out⟩
                first | rfl | (simp; done) | (simp; omega)
              · rw [decide_eq_false (by omega)]
                go_enter Try.func94, Try.ntmps94
                go_wp2_with fail
                refine (BH.out _).mono ?_
                rintro e w1 ⟨rfl, hb⟩
                have hx := (hb.block _ (blk_ltQ HX0.out)).trans HX0.out
                have hz := (hb.block _ (blk_ltQ HZ0.out)).trans HZ0.out
                have HB1 := Lib.hid (HB0.out.trans (hb.mono HB0.out.size))
                have HX1 := Lib.hid hx
                have HZ1 := Lib.hid hz
                obtain ⟨d0, d1, d2, d3, d4, d5, d6, d7, d8⟩ := qn_cells hx
                have e0 : w1.cell? ⟨W.heap.size, 0, none⟩ = some (.int .i64 0) := cell_of hz rfl
                have e1 : w1.cell? ⟨W.heap.size, 1, none⟩ = some (.int .i64 0) := cell_of hz rfl
                have e2 : w1.cell? ⟨W.heap.size, 2, none⟩ = some (.int .i64 0) := cell_of hz rfl
                clear hb hx hz
                go_wp2_with fail
                refine (BL.out _).mono ?_
                rintro e w2 ⟨rfl, hb⟩
                have hx := (hb.block _ (blk_ltQ HX1.out)).trans HX1.out
                have hz := (hb.block _ (blk_ltQ HZ1.out)).trans HZ1.out
                have HB2 := Lib.hid (HB1.out.trans (hb.mono HB1.out.size))
                have HX2 := Lib.hid hx
                have HZ2 := Lib.hid hz
                obtain ⟨d0, d1, d2, d3, d4, d5, d6, d7, d8⟩ := qn_cells hx
                have e0 : w2.cell? ⟨W.heap.size, 0, none⟩ = some (.int .i64 0) := cell_of hz rfl
                have e1 : w2.cell? ⟨W.heap.size, 1, none⟩ = some (.int .i64 0) := cell_of hz rfl
                have e2 : w2.cell? ⟨W.heap.size, 2, none⟩ = some (.int .i64 0) := cell_of hz rfl
                clear hb hx hz
                go_wp2_with fail
                go_ret
                refine ⟨ret_bool ?_, HB2.out⟩
                first | rfl | (simp; done) | (simp; omega)
              · rw [decide_eq_true (Or.inr ⟨g2, g3⟩)]
                go_enter Try.func94, Try.ntmps94
                go_wp2_with fail
                refine (BH.out _).mono ?_
                rintro e w1 ⟨rfl, hb⟩
                have hx := (hb.block _ (blk_ltQ HX0.out)).trans HX0.out
                have hz := (hb.block _ (blk_ltQ HZ0.out)).trans HZ0.out
                have HB1 := Lib.hid (HB0.out.trans (hb.mono HB0.out.size))
                have HX1 := Lib.hid hx
                have HZ1 := Lib.hid hz
                obtain ⟨d0, d1, d2, d3, d4, d5, d6, d7, d8⟩ := qn_cells hx
                have e0 : w1.cell? ⟨W.heap.size, 0, none⟩ = some (.int .i64 0) := cell_of hz rfl
                have e1 : w1.cell? ⟨W.heap.size, 1, none⟩ = some (.int .i64 0) := cell_of hz rfl
                have e2 : w1.cell? ⟨W.heap.size, 2, none⟩ = some (.int .i64 0) := cell_of hz rfl
                clear hb hx hz
                go_wp2_with fail
                refine (BL.out _).mono ?_
                rintro e w2 ⟨rfl, hb⟩
                have hx := (hb.block _ (blk_ltQ HX1.out)).trans HX1.out
                have hz := (hb.block _ (blk_ltQ HZ1.out)).trans HZ1.out
                have HB2 := Lib.hid (HB1.out.trans (hb.mono HB1.out.size))
                have HX2 := Lib.hid hx
                have HZ2 := Lib.hid hz
                obtain ⟨d0, d1, d2, d3, d4, d5, d6, d7, d8⟩ := qn_cells hx
                have e0 : w2.cell? ⟨W.heap.size, 0, none⟩ = some (.int .i64 0) := cell_of hz rfl
                have e1 : w2.cell? ⟨W.heap.size, 1, none⟩ = some (.int .i64 0) := cell_of hz rfl
                have e2 : w2.cell? ⟨W.heap.size, 2, none⟩ = some (.int .i64 0) := cell_of hz rfl
                clear hb hx hz
                go_wp2_with fail
                go_ret
                refine ⟨ret_bool ?_, HB2.out⟩
                first | rfl | (simp; done) | (simp; omega)
              · rw [decide_eq_false (by omega)]
                go_enter Try.func94, Try.ntmps94
                go_wp2_with fail
                refine (BH.out _).mono ?_
                rintro e w1 ⟨rfl, hb⟩
                have hx := (hb.block _ (blk_ltQ HX0.out)).trans HX0.out
                have hz := (hb.block _ (blk_ltQ HZ0.out)).trans HZ0.out
                have HB1 := Lib.hid (HB0.out.trans (hb.mono HB0.out.size))
                have HX1 := Lib.hid hx
                have HZ1 := Lib.hid hz
                obtain ⟨d0, d1, d2, d3, d4, d5, d6, d7, d8⟩ := qn_cells hx
                have e0 : w1.cell? ⟨W.heap.size, 0, none⟩ = some (.int .i64 0) := cell_of hz rfl
                have e1 : w1.cell? ⟨W.heap.size, 1, none⟩ = some (.int .i64 0) := cell_of hz rfl
                have e2 : w1.cell? ⟨W.heap.size, 2, none⟩ = some (.int .i64 0) := cell_of hz rfl
                clear hb hx hz
                go_wp2_with fail
                refine (BL.out _).mono ?_
                rintro e w2 ⟨rfl, hb⟩
                have hx := (hb.block _ (blk_ltQ HX1.out)).trans HX1.out
                have hz := (hb.block _ (blk_ltQ HZ1.out)).trans HZ1.out
                have HB2 := Lib.hid (HB1.out.trans (hb.mono HB1.out.size))
                have HX2 := Lib.hid hx
                have HZ2 := Lib.hid hz
                obtain ⟨d0, d1, d2, d3, d4, d5, d6, d7, d8⟩ := qn_cells hx
                have e0 : w2.cell? ⟨W.heap.size, 0, none⟩ = some (.int .i64 0) := cell_of hz rfl
                have e1 : w2.cell? ⟨W.heap.size, 1, none⟩ = some (.int .i64 0) := cell_of hz rfl
                have e2 : w2.cell? ⟨W.heap.size, 2, none⟩ = some (.int .i64 0) := cell_of hz rfl
                clear hb hx hz
                go_wp2_with fail
                go_ret
                refine ⟨ret_bool ?_, HB2.out⟩
                first | rfl | (simp; done) | (simp; omega)
end Go.Proofs.Ytjhhpilaaahicaa
