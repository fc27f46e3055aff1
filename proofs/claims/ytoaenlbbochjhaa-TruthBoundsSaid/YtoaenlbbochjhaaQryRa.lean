/- Joined texts: QryR1 QryR2 QryR3. -/
import Derived.Test.YtoaenlbbochjhaaQryWb
import Derived.Lib.QuietBelow
import Derived.Deep.CutBlock
import Derived.BigQuiet
import Derived.Deep.QuietTactic
namespace Go.Proofs.Ytoaenlbbochjhaa
open Go.RowKit FixM FixP TreN QryP
set_option linter.unusedVariables false

set_option maxRecDepth 100000 in
set_option maxHeartbeats 8000000 in
theorem refBound_any (f o n d : Int) (w : World) : Calls Try.prog 59 #[.int .i64 f, .agg #[.int .i64 o, .int .i64 n, .int .i64 d]] w fun e w' => e = .returned (.bool (bdR f ⟨o, n, d⟩)) ∧ Below w.heap.size w w' := by
  have HB0 := Lib.hid (below_oneQ w (.cells #[.int .i64 o, .int .i64 n, .int .i64 d] 37))
  have hx := heap_alloc_new w (.cells #[.int .i64 o, .int .i64 n, .int .i64 d] 37)
  generalize hW : w.alloc (.cells #[.int .i64 o, .int .i64 n, .int .i64 d] 37) = W at *
  have d0 : W.cell? ⟨w.heap.size, 0, none⟩ = some (.int .i64 o) := cell_of hx rfl
  have d1 : W.cell? ⟨w.heap.size, 1, none⟩ = some (.int .i64 n) := cell_of hx rfl
  have d2 : W.cell? ⟨w.heap.size, 2, none⟩ = some (.int .i64 d) := cell_of hx rfl
  clear hx
  unfold bdR
  simp only []
  rcases (by omega : o < 1 ∨ (¬ o < 1 ∧ 5 < o) ∨ (¬ o < 1 ∧ ¬ 5 < o)) with h1 | ⟨h1, h2⟩ | ⟨h1, h2⟩
  · rw [decide_eq_false (by omega), Bool.false_and]
    go_enter Try.func59, Try.ntmps59
    go_wp2_with fail
    go_ret
    refine ⟨ret_bool ?_, HB0.out⟩
    first | rfl | (simp; done) | (simp; omega)
  · rw [decide_eq_false (by omega), Bool.false_and]
    go_enter Try.func59, Try.ntmps59
    go_wp2_with fail
    go_ret
    refine ⟨ret_bool ?_, HB0.out⟩
    first | rfl | (simp; done) | (simp; omega)
  · rw [decide_eq_true (by omega), Bool.true_and]
    by_cases h6 : f = 6
    · have z6 : (f == 6) = true := by rw [h6]; rfl
      rw [if_pos h6]
      clear h6
      by_cases h3 : o = 3
      · have z3 : (o == 3) = true := by rw [h3]; rfl
        by_cases hd : d = 0
        · have zd : (d == 0) = true := by rw [hd]; rfl
          by_cases n1 : n = 1
          · have zn : (n == 1) = true := by rw [n1]; rfl
            rw [decide_eq_true ⟨h3, hd, Or.inl n1⟩]
            clear h3 hd n1
            go_enter Try.func59, Try.ntmps59
            go_wp2_with fail
            go_ret
            refine ⟨ret_bool ?_, HB0.out⟩
            first | rfl | (simp; done) | (simp; omega)
          · have zn : (n == 1) = false := by rw [beq_eq_false_iff_ne]; exact n1
            by_cases n2 : n = 2
            · have zm : (n == 2) = true := by rw [n2]; rfl
              rw [decide_eq_true ⟨h3, hd, Or.inr n2⟩]
              clear h3 hd n1 n2
              go_enter Try.func59, Try.ntmps59
              go_wp2_with fail
              go_ret
              refine ⟨ret_bool ?_, HB0.out⟩
              first | rfl | (simp; done) | (simp; omega)
            · have zm : (n == 2) = false := by rw [beq_eq_false_iff_ne]; exact n2
              rw [decide_eq_false (by omega)]
              clear h3 hd n1 n2
              go_enter Try.func59, Try.ntmps59
              go_wp2_with fail
              go_ret
              refine ⟨ret_bool ?_, HB0.out⟩
              first | rfl | (simp; done) | (simp; omega)
        · have zd : (d == 0) = false := by rw [beq_eq_false_iff_ne]; exact hd
          rw [decide_eq_false (by omega)]
          clear h3 hd
          go_enter Try.func59, Try.ntmps59
          go_wp2_with fail
          go_ret
          refine ⟨ret_bool ?_, HB0.out⟩
          first | rfl | (simp; done) | (simp; omega)
      · have z3 : (o == 3) = false := by rw [beq_eq_false_iff_ne]; exact h3
        rw [decide_eq_false (by omega)]
        clear h3
        go_enter Try.func59, Try.ntmps59
        go_wp2_with fail
        go_ret
        refine ⟨ret_bool ?_, HB0.out⟩
        first | rfl | (simp; done) | (simp; omega)
    · have z6 : (f == 6) = false := by rw [beq_eq_false_iff_ne]; exact h6
      rw [if_neg h6]
      by_cases h5 : f = 5
      · have z5 : (f == 5) = true := by rw [h5]; rfl
        rw [if_pos h5]
        clear h6 h5
        rcases (by omega : ¬ 1 ≤ n ∨ (1 ≤ n ∧ ¬ 1 ≤ d) ∨ (1 ≤ n ∧ 1 ≤ d ∧ ¬ n ≤ 1073741824) ∨ (1 ≤ n ∧ 1 ≤ d ∧ n ≤ 1073741824 ∧ ¬ d ≤ 1073741824) ∨ (1 ≤ n ∧ 1 ≤ d ∧ n ≤ 1073741824 ∧ d ≤ 1073741824)) with g1 | ⟨g1, g2⟩ | ⟨g1, g2, g3⟩ | ⟨g1, g2, g3, g4⟩ | ⟨g1, g2, g3, g4⟩
        · rw [decide_eq_false (by omega)]
          go_enter Try.func59, Try.ntmps59
          go_wp2_with fail
          go_ret
          refine ⟨ret_bool ?_, HB0.out⟩
          first | rfl | (simp; done) | (simp; omega)
        · rw [decide_eq_false (by omega)]
          go_enter Try.func59, Try.ntmps59
          go_wp2_with fail
          go_ret
          refine ⟨ret_bool ?_, HB0.out⟩
          first | rfl | (simp; done) | (simp; omega)
        · rw [decide_eq_false (by omega)]
          go_enter Try.func59, Try.ntmps59
          go_wp2_with fail
          go_ret
          refine ⟨ret_bool ?_, HB0.out⟩
          first | rfl | (simp; done) | (simp; omega)
        · rw [decide_eq_false (by omega)]
          go_enter Try.func59, Try.ntmps59
          go_wp2_with fail
          go_ret
          refine ⟨ret_bool ?_, HB0.out⟩
          first | rfl | (simp; done) | (simp; omega)
        · rw [decide_eq_true ⟨g1, g2, g3, g4⟩]
          go_enter Try.func59, Try.ntmps59
          go_wp2_with fail
          go_ret
          refine ⟨ret_bool ?_, HB0.out⟩
          first | rfl | (simp; done) | (simp; omega)
      · have z5 : (f == 5) = false := by rw [beq_eq_false_iff_ne]; exact h5
        rw [if_neg h5]
        have hH := H_self n
        have C := fun W => flip_worldQ (refHold_any n W)
        obtain ⟨hn, hhn⟩ : ∃ x, H n = x := ⟨_, rfl⟩
        rw [hhn] at C hH
        have CC := Lib.hid C
        clear C hhn h5 h6
        by_cases hd : d = 0
        · have zd : (d == 0) = true := by rw [hd]; rfl
          by_cases h7 : n = hn
          · have z7 : (hn == n) = true := by rw [h7]; simp
            rw [decide_eq_true ⟨hd, hH.1 h7⟩]
            clear hd h7 hH
            go_enter Try.func59, Try.ntmps59
            go_wp2_with fail
            go_quiet ((go_at_call 82; exact Calls.quiet_of_same (CC.out _)))
            go_wp2_with fail
            go_ret
            refine ⟨ret_bool ?_, HB0.out.trans (below_drewQ (Below.refl _ _) _)⟩
            first | rfl | (simp; done) | (simp; omega)
          · have z7 : (hn == n) = false := by rw [beq_eq_false_iff_ne]; exact fun e => h7 e.symm
            rw [decide_eq_false (fun g => h7 (hH.2 g.2))]
            clear hd h7 hH
            go_enter Try.func59, Try.ntmps59
            go_wp2_with fail
            go_quiet ((go_at_call 82; exact Calls.quiet_of_same (CC.out _)))
            go_wp2_with fail
            go_ret
            refine ⟨ret_bool ?_, HB0.out.trans (below_drewQ (Below.refl _ _) _)⟩
            first | rfl | (simp; done) | (simp; omega)
        · have zd : (d == 0) = false := by rw [beq_eq_false_iff_ne]; exact hd
          rw [decide_eq_false (fun g => hd g.1)]
          clear hd hH
          go_enter Try.func59, Try.ntmps59
          go_wp2_with fail
          go_quiet ((go_at_call 82; exact Calls.quiet_of_same (CC.out _)))
          go_wp2_with fail
          go_ret
          refine ⟨ret_bool ?_, HB0.out.trans (below_drewQ (Below.refl _ _) _)⟩
          first | rfl | (simp; done) | (simp; omega)

set_option maxRecDepth 100000 in
set_option maxHeartbeats 8000000 in
theorem refFeature_any (k c f a1 a2 a3 b1 b2 b3 : Int) (w : World) : Calls Try.prog 42 #[.agg #[.int .i64 k, .int .i64 c, .int .i64 f, .int .i64 a1, .int .i64 a2, .int .i64 a3, .int .i64 b1, .int .i64 b2, .int .i64 b3]] w fun e w' => e = .returned (.bool (ftR ⟨k, c, f, ⟨a1, a2, a3⟩, ⟨b1, b2, b3⟩⟩)) ∧ Below w.heap.size w w' := by
  have HBa := Lib.hid (below_oneQ w (.cells #[.int .i64 k, .int .i64 c, .int .i64 f, .int .i64 a1, .int .i64 a2, .int .i64 a3, .int .i64 b1, .int .i64 b2, .int .i64 b3] 39))
  have hx := heap_alloc_new w (.cells #[.int .i64 k, .int .i64 c, .int .i64 f, .int .i64 a1, .int .i64 a2, .int .i64 a3, .int .i64 b1, .int .i64 b2, .int .i64 b3] 39)
  generalize hW : w.alloc (.cells #[.int .i64 k, .int .i64 c, .int .i64 f, .int .i64 a1, .int .i64 a2, .int .i64 a3, .int .i64 b1, .int .i64 b2, .int .i64 b3] 39) = W at *
  have hlt := blk_ltQ hx
  obtain ⟨d0, d1, d2, d3, d4, d5, d6, d7, d8⟩ := qn_cells hx
  have HX0 : Hid ((W.alloc (.cells #[.int .i64 0, .int .i64 0, .int .i64 0] 37)).heap[w.heap.size]? = some (.cells #[.int .i64 k, .int .i64 c, .int .i64 f, .int .i64 a1, .int .i64 a2, .int .i64 a3, .int .i64 b1, .int .i64 b2, .int .i64 b3] 39 (0, 0))) := Lib.hid ((Below.heap_alloc _ _ _ hlt).trans hx)
  have HZ0 := Lib.hid (heap_alloc_new W (.cells #[.int .i64 0, .int .i64 0, .int .i64 0] 37))
  have HB0 : Hid (Below w.heap.size w (W.alloc (.cells #[.int .i64 0, .int .i64 0, .int .i64 0] 37))) := Lib.hid (HBa.out.alloc HBa.out.size _)
  have EH := fun W => bd_eql b1 b2 b3 W
  have EL := fun W => bd_eql a1 a2 a3 W
  have BH := Lib.hid (fun W => refBound_any f b1 b2 b3 W)
  have BL := Lib.hid (fun W => refBound_any f a1 a2 a3 W)
  unfold ftR
  simp only []
  generalize thrB ⟨b1, b2, b3⟩ = th at *
  generalize thrB ⟨a1, a2, a3⟩ = tl at *
  generalize bdR f ⟨b1, b2, b3⟩ = vh at *
  generalize bdR f ⟨a1, a2, a3⟩ = vl at *
  clear hx
  rcases (by omega : ¬ c = 0 ∨ (c = 0 ∧ f < 1) ∨ (c = 0 ∧ ¬ f < 1 ∧ 6 < f) ∨ (c = 0 ∧ ¬ f < 1 ∧ ¬ 6 < f)) with h0 | ⟨h0, h1⟩ | ⟨h0, h1, h2⟩ | ⟨h0, h1, h2⟩
  · have z0 : (c != 0) = true := by simp [h0]
    rw [decide_eq_false (fun g => h0 g.1), Bool.false_and]
    clear h0
    go_enter Try.func42, Try.ntmps42
    go_wp2_with fail
    go_ret
    refine ⟨ret_bool ?_, HBa.out⟩
    first | rfl | (simp; done) | (simp; omega)
  · have z0 : (c != 0) = false := by simp [h0]
    rw [decide_eq_false (by omega), Bool.false_and]
    clear h0
    go_enter Try.func42, Try.ntmps42
    go_wp2_with fail
    go_ret
    refine ⟨ret_bool ?_, HBa.out⟩
    first | rfl | (simp; done) | (simp; omega)
  · have z0 : (c != 0) = false := by simp [h0]
    rw [decide_eq_false (by omega), Bool.false_and]
    clear h0
    go_enter Try.func42, Try.ntmps42
    go_wp2_with fail
    go_ret
    refine ⟨ret_bool ?_, HBa.out⟩
    first | rfl | (simp; done) | (simp; omega)
  · have z0 : (c != 0) = false := by simp [h0]
    rw [decide_eq_true (by omega), Bool.true_and]
    clear h0
    cases th
    · rw [if_pos rfl]
      go_enter Try.func42, Try.ntmps42
      go_wp2_with fail
      go_ret
      refine ⟨ret_bool ?_, HB0.out⟩
      first | rfl | (simp; done) | (simp; omega)
    · rw [if_neg (show ¬ (true = false) by decide)]
      cases vh
      · skip
        go_enter Try.func42, Try.ntmps42
        go_wp2_with fail
        refine (BH.out _).mono ?_
        rintro e w1 ⟨rfl, hb⟩
        have hx := (hb.block _ (blk_ltQ HX0.out)).trans HX0.out
        have hz := (hb.block _ (blk_ltQ HZ0.out)).trans HZ0.out
        have HB1 := Lib.hid (HB0.out.trans (hb.mono HB0.out.size))
        have HX1 := Lib.hid hx
        have HZ1 := Lib.hid hz
        obtain ⟨d0, d1, d2, d3, d4, d5, d6, d7, d8⟩ := qn_cells hx
        have e0 : w1.cell? ⟨W.heap.size, 0, none⟩ = some (.int .i64 0) := cell_of hz rfl
        have e1 : w1.cell? ⟨W.heap.size, 1, none⟩ = some (.int .i64 0) := cell_of hz rfl
        have e2 : w1.cell? ⟨W.heap.size, 2, none⟩ = some (.int .i64 0) := cell_of hz rfl
        clear hb hx hz
        go_wp2_with fail
        go_ret
        refine ⟨ret_bool ?_, HB1.out⟩
        first | rfl | (simp; done) | (simp; omega)
      · rw [Bool.true_and]
        cases tl
        · skip
          go_enter Try.func42, Try.ntmps42
          go_wp2_with fail
          refine (BH.out _).mono ?_
          rintro e w1 ⟨rfl, hb⟩
          have hx := (hb.block _ (blk_ltQ HX0.out)).trans HX0.out
          have hz := (hb.block _ (blk_ltQ HZ0.out)).trans HZ0.out
          have HB1 := Lib.hid (HB0.out.trans (hb.mono HB0.out.size))
          have HX1 := Lib.hid hx
          have HZ1 := Lib.hid hz
          obtain ⟨d0, d1, d2, d3, d4, d5, d6, d7, d8⟩ := qn_cells hx
          have e0 : w1.cell? ⟨W.heap.size, 0, none⟩ = some (.int .i64 0) := cell_of hz rfl
          have e1 : w1.cell? ⟨W.heap.size, 1, none⟩ = some (.int .i64 0) := cell_of hz rfl
          have e2 : w1.cell? ⟨W.heap.size, 2, none⟩ = some (.int .i64 0) := cell_of hz rfl
          clear hb hx hz
          go_wp2_with fail
          go_ret
          refine ⟨ret_bool ?_, HB1.out⟩
          first | rfl | (simp; done) | (simp; omega)
        · by_cases h6 : f = 6
          · have z6 : (f == 6) = true := by rw [h6]; rfl
            have hn : decide (f ≠ 6) = false := decide_eq_false (by simp [h6])
            rw [hn]
            clear h6 hn
            go_enter Try.func42, Try.ntmps42
            go_wp2_with fail
            refine (BH.out _).mono ?_
            rintro e w1 ⟨rfl, hb⟩
            have hx := (hb.block _ (blk_ltQ HX0.out)).trans HX0.out
            have hz := (hb.block _ (blk_ltQ HZ0.out)).trans HZ0.out
            have HB1 := Lib.hid (HB0.out.trans (hb.mono HB0.out.size))
            have HX1 := Lib.hid hx
            have HZ1 := Lib.hid hz
            obtain ⟨d0, d1, d2, d3, d4, d5, d6, d7, d8⟩ := qn_cells hx
            have e0 : w1.cell? ⟨W.heap.size, 0, none⟩ = some (.int .i64 0) := cell_of hz rfl
            have e1 : w1.cell? ⟨W.heap.size, 1, none⟩ = some (.int .i64 0) := cell_of hz rfl
            have e2 : w1.cell? ⟨W.heap.size, 2, none⟩ = some (.int .i64 0) := cell_of hz rfl
            clear hb hx hz
            go_wp2_with fail
            go_ret
            refine ⟨ret_bool ?_, HB1.out⟩
            first | rfl | (simp; done) | (simp; omega)
          · have z6 : (f == 6) = false := by rw [beq_eq_false_iff_ne]; exact h6
            have hn : decide (f ≠ 6) = true := decide_eq_true h6
            rw [hn, Bool.true_and]
            clear h6 hn
            cases vl
            · skip
              go_enter Try.func42, Try.ntmps42
              go_wp2_with fail
              refine (BH.out _).mono ?_
              rintro e w1 ⟨rfl, hb⟩
              have hx := (hb.block _ (blk_ltQ HX0.out)).trans HX0.out
              have hz := (hb.block _ (blk_ltQ HZ0.out)).trans HZ0.out
              have HB1 := Lib.hid (HB0.out.trans (hb.mono HB0.out.size))
              have HX1 := Lib.hid hx
              have HZ1 := Lib.hid hz
              obtain ⟨d0, d1, d2, d3, d4, d5, d6, d7, d8⟩ := qn_cells hx
              have e0 : w1.cell? ⟨W.heap.size, 0, none⟩ = some (.int .i64 0) := cell_of hz rfl
              have e1 : w1.cell? ⟨W.heap.size, 1, none⟩ = some (.int .i64 0) := cell_of hz rfl
              have e2 : w1.cell? ⟨W.heap.size, 2, none⟩ = some (.int .i64 0) := cell_of hz rfl
              clear hb hx hz
              go_wp2_with fail
              refine (BL.out _).mono ?_
              rintro e w2 ⟨rfl, hb⟩
              have hx := (hb.block _ (blk_ltQ HX1.out)).trans HX1.out
              have hz := (hb.block _ (blk_ltQ HZ1.out)).trans HZ1.out
              have HB2 := Lib.hid (HB1.out.trans (hb.mono HB1.out.size))
              have HX2 := Lib.hid hx
              have HZ2 := Lib.hid hz
              obtain ⟨d0, d1, d2, d3, d4, d5, d6, d7, d8⟩ := qn_cells hx
              have e0 : w2.cell? ⟨W.heap.size, 0, none⟩ = some (.int .i64 0) := cell_of hz rfl
              have e1 : w2.cell? ⟨W.heap.size, 1, none⟩ = some (.int .i64 0) := cell_of hz rfl
              have e2 : w2.cell? ⟨W.heap.size, 2, none⟩ = some (.int .i64 0) := cell_of hz rfl
              clear hb hx hz
              go_wp2_with fail
              go_ret
              refine ⟨ret_bool ?_, HB2.out⟩
              first | rfl | (simp; done) | (simp; omega)
            · rw [Bool.true_and]
              rcases (by omega : (a1 ≤ 2 ∧ b1 ≤ 2) ∨ (a1 ≤ 2 ∧ ¬ b1 ≤ 2 ∧ ¬ 4 ≤ a1) ∨ (¬ a1 ≤ 2 ∧ ¬ 4 ≤ a1) ∨ (¬ a1 ≤ 2 ∧ 4 ≤ a1 ∧ 4 ≤ b1) ∨ (¬ a1 ≤ 2 ∧ 4 ≤ a1 ∧ ¬ 4 ≤ b1)) with ⟨g1, g2⟩ | ⟨g1, g2, g3⟩ | ⟨g1, g2⟩ | ⟨g1, g2, g3⟩ | ⟨g1, g2, g3⟩
              · rw [decide_eq_true (Or.inl ⟨g1, g2⟩)]
                go_enter Try.func42, Try.ntmps42
                go_wp2_with fail
                refine (BH.out _).mono ?_
                rintro e w1 ⟨rfl, hb⟩
                have hx := (hb.block _ (blk_ltQ HX0.out)).trans HX0.out
                have hz := (hb.block _ (blk_ltQ HZ0.out)).trans HZ0.out
                have HB1 := Lib.hid (HB0.out.trans (hb.mono HB0.out.size))
                have HX1 := Lib.hid hx
                have HZ1 := Lib.hid hz
                obtain ⟨d0, d1, d2, d3, d4, d5, d6, d7, d8⟩ := qn_cells hx
                have e0 : w1.cell? ⟨W.heap.size, 0, none⟩ = some (.int .i64 0) := cell_of hz rfl
                have e1 : w1.cell? ⟨W.heap.size, 1, none⟩ = some (.int .i64 0) := cell_of hz rfl
                have e2 : w1.cell? ⟨W.heap.size, 2, none⟩ = some (.int .i64 0) := cell_of hz rfl
                clear hb hx hz
                go_wp2_with fail
                refine (BL.out _).mono ?_
                rintro e w2 ⟨rfl, hb⟩
                have hx := (hb.block _ (blk_ltQ HX1.out)).trans HX1.out
                have hz := (hb.block _ (blk_ltQ HZ1.out)).trans HZ1.out
                have HB2 := Lib.hid (HB1.out.trans (hb.mono HB1.out.size))
                have HX2 := Lib.hid hx
                have HZ2 := Lib.hid hz
                obtain ⟨d0, d1, d2, d3, d4, d5, d6, d7, d8⟩ := qn_cells hx
                have e0 : w2.cell? ⟨W.heap.size, 0, none⟩ = some (.int .i64 0) := cell_of hz rfl
                have e1 : w2.cell? ⟨W.heap.size, 1, none⟩ = some (.int .i64 0) := cell_of hz rfl
                have e2 : w2.cell? ⟨W.heap.size, 2, none⟩ = some (.int .i64 0) := cell_of hz rfl
                clear hb hx hz
                go_wp2_with fail
                go_ret
                refine ⟨ret_bool ?_, HB2.out⟩
                first | rfl | (simp; done) | (simp; omega)
              · rw [decide_eq_false (by omega)]
                go_enter Try.func42, Try.ntmps42
                go_wp2_with fail
                refine (BH.out _).mono ?_
                rintro e w1 ⟨rfl, hb⟩
                have hx := (hb.block _ (blk_ltQ HX0.out)).trans HX0.out
                have hz := (hb.block _ (blk_ltQ HZ0.out)).trans HZ0.out
                have HB1 := Lib.hid (HB0.out.trans (hb.mono HB0.out.size))
                have HX1 := Lib.hid hx
                have HZ1 := Lib.hid hz
                obtain ⟨d0, d1, d2, d3, d4, d5, d6, d7, d8⟩ := qn_cells hx
                have e0 : w1.cell? ⟨W.heap.size, 0, none⟩ = some (.int .i64 0) := cell_of hz rfl
                have e1 : w1.cell? ⟨W.heap.size, 1, none⟩ = some (.int .i64 0) := cell_of hz rfl
                have e2 : w1.cell? ⟨W.heap.size, 2, none⟩ = some (.int .i64 0) := cell_of hz rfl
                clear hb hx hz
                go_wp2_with fail
                refine (BL.out _).mono ?_
                rintro e w2 ⟨rfl, hb⟩
                have hx := (hb.block _ (blk_ltQ HX1.out)).trans HX1.out
                have hz := (hb.block _ (blk_ltQ HZ1.out)).trans HZ1.out
                have HB2 := Lib.hid (HB1.out.trans (hb.mono HB1.out.size))
                have HX2 := Lib.hid hx
                have HZ2 := Lib.hid hz
                obtain ⟨d0, d1, d2, d3, d4, d5, d6, d7, d8⟩ := qn_cells hx
                have e0 : w2.cell? ⟨W.heap.size, 0, none⟩ = some (.int .i64 0) := cell_of hz rfl
                have e1 : w2.cell? ⟨W.heap.size, 1, none⟩ = some (.int .i64 0) := cell_of hz rfl
                have e2 : w2.cell? ⟨W.heap.size, 2, none⟩ = some (.int .i64 0) := cell_of hz rfl
                clear hb hx hz
                go_wp2_with fail
                go_ret
                refine ⟨ret_bool ?_, HB2.out⟩
                first | rfl | (simp; done) | (simp; omega)
              · rw [decide_eq_false (by omega)]
                go_enter Try.func42, Try.ntmps42
                go_wp2_with fail
                refine (BH.out _).mono ?_
                rintro e w1 ⟨rfl, hb⟩
                have hx := (hb.block _ (blk_ltQ HX0.out)).trans HX0.out
                have hz := (hb.block _ (blk_ltQ HZ0.out)).trans HZ0.out
                have HB1 := Lib.hid (HB0.out.trans (hb.mono HB0.out.size))
                have HX1 := Lib.hid hx
                have HZ1 := Lib.hid hz
                obtain ⟨d0, d1, d2, d3, d4, d5, d6, d7, d8⟩ := qn_cells hx
                have e0 : w1.cell? ⟨W.heap.size, 0, none⟩ = some (.int .i64 0) := cell_of hz rfl
                have e1 : w1.cell? ⟨W.heap.size, 1, none⟩ = some (.int .i64 0) := cell_of hz rfl
                have e2 : w1.cell? ⟨W.heap.size, 2, none⟩ = some (.int .i64 0) := cell_of hz rfl
                clear hb hx hz
                go_wp2_with fail
                refine (BL.out _).mono ?_
                rintro e w2 ⟨rfl, hb⟩
                have hx := (hb.block _ (blk_ltQ HX1.out)).trans HX1.out
                have hz := (hb.block _ (blk_ltQ HZ1.out)).trans HZ1.out
                have HB2 := Lib.hid (HB1.out.trans (hb.mono HB1.out.size))
                have HX2 := Lib.hid hx
                have HZ2 := Lib.hid hz
                obtain ⟨d0, d1, d2, d3, d4, d5, d6, d7, d8⟩ := qn_cells hx
                have e0 : w2.cell? ⟨W.heap.size, 0, none⟩ = some (.int .i64 0) := cell_of hz rfl
                have e1 : w2.cell? ⟨W.heap.size, 1, none⟩ = some (.int .i64 0) := cell_of hz rfl
                have e2 : w2.cell? ⟨W.heap.size, 2, none⟩ = some (.int .i64 0) := cell_of hz rfl
                clear hb hx hz
                go_wp2_with fail
                go_ret
                refine ⟨ret_bool ?_, HB2.out⟩
                first | rfl | (simp; done) | (simp; omega)
              · rw [decide_eq_true (Or.inr ⟨g2, g3⟩)]
                go_enter Try.func42, Try.ntmps42
                go_wp2_with fail
                refine (BH.out _).mono ?_
                rintro e w1 ⟨rfl, hb⟩
                have hx := (hb.block _ (blk_ltQ HX0.out)).trans HX0.out
                have hz := (hb.block _ (blk_ltQ HZ0.out)).trans HZ0.out
                have HB1 := Lib.hid (HB0.out.trans (hb.mono HB0.out.size))
                have HX1 := Lib.hid hx
                have HZ1 := Lib.hid hz
                obtain ⟨d0, d1, d2, d3, d4, d5, d6, d7, d8⟩ := qn_cells hx
                have e0 : w1.cell? ⟨W.heap.size, 0, none⟩ = some (.int .i64 0) := cell_of hz rfl
                have e1 : w1.cell? ⟨W.heap.size, 1, none⟩ = some (.int .i64 0) := cell_of hz rfl
                have e2 : w1.cell? ⟨W.heap.size, 2, none⟩ = some (.int .i64 0) := cell_of hz rfl
                clear hb hx hz
                go_wp2_with fail
                refine (BL.out _).mono ?_
                rintro e w2 ⟨rfl, hb⟩
                have hx := (hb.block _ (blk_ltQ HX1.out)).trans HX1.out
                have hz := (hb.block _ (blk_ltQ HZ1.out)).trans HZ1.out
                have HB2 := Lib.hid (HB1.out.trans (hb.mono HB1.out.size))
                have HX2 := Lib.hid hx
                have HZ2 := Lib.hid hz
                obtain ⟨d0, d1, d2, d3, d4, d5, d6, d7, d8⟩ := qn_cells hx
                have e0 : w2.cell? ⟨W.heap.size, 0, none⟩ = some (.int .i64 0) := cell_of hz rfl
                have e1 : w2.cell? ⟨W.heap.size, 1, none⟩ = some (.int .i64 0) := cell_of hz rfl
                have e2 : w2.cell? ⟨W.heap.size, 2, none⟩ = some (.int .i64 0) := cell_of hz rfl
                clear hb hx hz
                go_wp2_with fail
                go_ret
                refine ⟨ret_bool ?_, HB2.out⟩
                first | rfl | (simp; done) | (simp; omega)
              · rw [decide_eq_false (by omega)]
                go_enter Try.func42, Try.ntmps42
                go_wp2_with fail
                refine (BH.out _).mono ?_
                rintro e w1 ⟨rfl, hb⟩
                have hx := (hb.block _ (blk_ltQ HX0.out)).trans HX0.out
                have hz := (hb.block _ (blk_ltQ HZ0.out)).trans HZ0.out
                have HB1 := Lib.hid (HB0.out.trans (hb.mono HB0.out.size))
                have HX1 := Lib.hid hx
                have HZ1 := Lib.hid hz
                obtain ⟨d0, d1, d2, d3, d4, d5, d6, d7, d8⟩ := qn_cells hx
                have e0 : w1.cell? ⟨W.heap.size, 0, none⟩ = some (.int .i64 0) := cell_of hz rfl
                have e1 : w1.cell? ⟨W.heap.size, 1, none⟩ = some (.int .i64 0) := cell_of hz rfl
                have e2 : w1.cell? ⟨W.heap.size, 2, none⟩ = some (.int .i64 0) := cell_of hz rfl
                clear hb hx hz
                go_wp2_with fail
                refine (BL.out _).mono ?_
                rintro e w2 ⟨rfl, hb⟩
                have hx := (hb.block _ (blk_ltQ HX1.out)).trans HX1.out
                have hz := (hb.block _ (blk_ltQ HZ1.out)).trans HZ1.out
                have HB2 := Lib.hid (HB1.out.trans (hb.mono HB1.out.size))
                have HX2 := Lib.hid hx
                have HZ2 := Lib.hid hz
                obtain ⟨d0, d1, d2, d3, d4, d5, d6, d7, d8⟩ := qn_cells hx
                have e0 : w2.cell? ⟨W.heap.size, 0, none⟩ = some (.int .i64 0) := cell_of hz rfl
                have e1 : w2.cell? ⟨W.heap.size, 1, none⟩ = some (.int .i64 0) := cell_of hz rfl
                have e2 : w2.cell? ⟨W.heap.size, 2, none⟩ = some (.int .i64 0) := cell_of hz rfl
                clear hb hx hz
                go_wp2_with fail
                go_ret
                refine ⟨ret_bool ?_, HB2.out⟩
                first | rfl | (simp; done) | (simp; omega)
end Go.Proofs.Ytoaenlbbochjhaa

namespace Go.Proofs.Ytoaenlbbochjhaa
open Go.RowKit FixM FixP TreN QryP
set_option linter.unusedVariables false

set_option maxRecDepth 100000 in
set_option maxHeartbeats 4000000 in
theorem qn_eqIn (k c f a1 a2 a3 b1 b2 b3 : Int) (w : World) : (Op.equalIn 10000 39 (.agg #[.int .i64 k, .int .i64 c, .int .i64 f, .int .i64 a1, .int .i64 a2, .int .i64 a3, .int .i64 b1, .int .i64 b2, .int .i64 b3]) (.agg #[.int .i64 k, .int .i64 c, .int .i64 0, .int .i64 0, .int .i64 0, .int .i64 0, .int .i64 0, .int .i64 0, .int .i64 0])).run Try.prog w = .ok (decide (f = 0) && (!thrB ⟨a1, a2, a3⟩ && !thrB ⟨b1, b2, b3⟩)) w := by
  rw [run_equalIn_agg w 9999 39 _ _ (by kernel_rfl) (by kernel_rfl)]
  have hf : Try.prog.fieldsOf 39 = (match Try.prog.underlying 39 with | some (.struct fs) => fs | _ => #[]) := rfl
  rw [hf, Try.underlying39]
  have p0 : ∀ (x0 x1 x2 x3 x4 x5 x6 x7 x8 : Int) (w : World), (part 3 #[.int .i64 x0, .int .i64 x1, .int .i64 x2, .int .i64 x3, .int .i64 x4, .int .i64 x5, .int .i64 x6, .int .i64 x7, .int .i64 x8] 0).run Try.prog w = .ok (.int .i64 x0) w := fun _ _ _ _ _ _ _ _ _ w => by kernel_rfl
  have p1 : ∀ (x0 x1 x2 x3 x4 x5 x6 x7 x8 : Int) (w : World), (part 3 #[.int .i64 x0, .int .i64 x1, .int .i64 x2, .int .i64 x3, .int .i64 x4, .int .i64 x5, .int .i64 x6, .int .i64 x7, .int .i64 x8] 1).run Try.prog w = .ok (.int .i64 x1) w := fun _ _ _ _ _ _ _ _ _ w => by kernel_rfl
  have p2 : ∀ (x0 x1 x2 x3 x4 x5 x6 x7 x8 : Int) (w : World), (part 3 #[.int .i64 x0, .int .i64 x1, .int .i64 x2, .int .i64 x3, .int .i64 x4, .int .i64 x5, .int .i64 x6, .int .i64 x7, .int .i64 x8] 2).run Try.prog w = .ok (.int .i64 x2) w := fun _ _ _ _ _ _ _ _ _ w => by kernel_rfl
  have p3 : ∀ (x0 x1 x2 x3 x4 x5 x6 x7 x8 : Int) (w : World), (part 37 #[.int .i64 x0, .int .i64 x1, .int .i64 x2, .int .i64 x3, .int .i64 x4, .int .i64 x5, .int .i64 x6, .int .i64 x7, .int .i64 x8] 3).run Try.prog w = .ok (.agg #[.int .i64 x3, .int .i64 x4, .int .i64 x5]) w := fun _ _ _ _ _ _ _ _ _ w => by kernel_rfl
  have p4 : ∀ (x0 x1 x2 x3 x4 x5 x6 x7 x8 : Int) (w : World), (part 37 #[.int .i64 x0, .int .i64 x1, .int .i64 x2, .int .i64 x3, .int .i64 x4, .int .i64 x5, .int .i64 x6, .int .i64 x7, .int .i64 x8] 6).run Try.prog w = .ok (.agg #[.int .i64 x6, .int .i64 x7, .int .i64 x8]) w := fun _ _ _ _ _ _ _ _ _ w => by kernel_rfl
  simp only [Op.eqFields, Sem.run_ite, Sem.run_bind, p0, p1, p2, p3, p4, Result.andThen_ok, run_equalIn_int w 9998 3 .i64 .i64 k k Try.underlying3, run_equalIn_int w 9998 3 .i64 .i64 c c Try.underlying3, run_equalIn_int w 9998 3 .i64 .i64 f 0 Try.underlying3, bd_eqIn 9997]
  unfold thrB
  rw [Bool.not_not, Bool.not_not]
  by_cases h1 : f = 0
  · subst h1
    by_cases h2 : (decide (a1 = 0) && (decide (a2 = 0) && decide (a3 = 0))) = true
    · by_cases h3 : (decide (b1 = 0) && (decide (b2 = 0) && decide (b3 = 0))) = true
      · rw [h2, h3]; simp
      · have h3 : (decide (b1 = 0) && (decide (b2 = 0) && decide (b3 = 0))) = false := by simpa only [Bool.not_eq_true] using h3
        rw [h2, h3]; simp
    · have h2 : (decide (a1 = 0) && (decide (a2 = 0) && decide (a3 = 0))) = false := by simpa only [Bool.not_eq_true] using h2
      rw [h2]; simp
  · have e1 : (f == 0) = false := by rw [beq_eq_false_iff_ne]; exact h1
    simp [h1, e1]
theorem qn_eql (k c f a1 a2 a3 b1 b2 b3 : Int) (w : World) : (binOp .eql 39 (.agg #[.int .i64 k, .int .i64 c, .int .i64 f, .int .i64 a1, .int .i64 a2, .int .i64 a3, .int .i64 b1, .int .i64 b2, .int .i64 b3]) (.agg #[.int .i64 k, .int .i64 c, .int .i64 0, .int .i64 0, .int .i64 0, .int .i64 0, .int .i64 0, .int .i64 0, .int .i64 0])).run Try.prog w = .ok (.bool (decide (f = 0) && (!thrB ⟨a1, a2, a3⟩ && !thrB ⟨b1, b2, b3⟩))) w := by
  rw [run_eql_struct, qn_eqIn]; rfl

set_option maxRecDepth 100000 in
set_option maxHeartbeats 8000000 in
theorem refNode8_any (k c f a1 a2 a3 b1 b2 b3 : Int) (w : World) : Calls Try.prog 27 #[.agg #[.int .i64 k, .int .i64 c, .int .i64 f, .int .i64 a1, .int .i64 a2, .int .i64 a3, .int .i64 b1, .int .i64 b2, .int .i64 b3]] w fun e w' => e = .returned (.bool (ndR ⟨k, c, f, ⟨a1, a2, a3⟩, ⟨b1, b2, b3⟩⟩)) ∧ Below w.heap.size w w' := by
  have HBa := Lib.hid (below_oneQ w (.cells #[.int .i64 k, .int .i64 c, .int .i64 f, .int .i64 a1, .int .i64 a2, .int .i64 a3, .int .i64 b1, .int .i64 b2, .int .i64 b3] 39))
  have hx := heap_alloc_new w (.cells #[.int .i64 k, .int .i64 c, .int .i64 f, .int .i64 a1, .int .i64 a2, .int .i64 a3, .int .i64 b1, .int .i64 b2, .int .i64 b3] 39)
  generalize hW : w.alloc (.cells #[.int .i64 k, .int .i64 c, .int .i64 f, .int .i64 a1, .int .i64 a2, .int .i64 a3, .int .i64 b1, .int .i64 b2, .int .i64 b3] 39) = W at *
  have hlt := blk_ltQ hx
  obtain ⟨d0, d1, d2, d3, d4, d5, d6, d7, d8⟩ := qn_cells hx
  have HB0 : Hid (Below w.heap.size w (W.alloc (.cells #[.int .i64 k, .int .i64 c, .int .i64 0, .int .i64 0, .int .i64 0, .int .i64 0, .int .i64 0, .int .i64 0, .int .i64 0] 39))) := Lib.hid (HBa.out.alloc HBa.out.size _)
  have EQ := fun W => qn_eql k c f a1 a2 a3 b1 b2 b3 W
  have FT := Lib.hid (fun W => refFeature_any k c f a1 a2 a3 b1 b2 b3 W)
  unfold ndR
  simp only []
  generalize (decide (f = 0) && (!thrB ⟨a1, a2, a3⟩ && !thrB ⟨b1, b2, b3⟩)) = eq at *
  generalize ftR ⟨k, c, f, ⟨a1, a2, a3⟩, ⟨b1, b2, b3⟩⟩ = ft at *
  clear hx
  by_cases h4 : k = 4
  · have z4 : (k == 4) = true := by rw [h4]; rfl
    rw [if_pos h4]
    clear h4
    go_enter Try.func27, Try.ntmps27
    go_wp2_with fail
    refine (FT.out _).mono ?_
    rintro e w1 ⟨rfl, hb⟩
    have HB1 := Lib.hid (HBa.out.trans (hb.mono HBa.out.size))
    clear hb
    go_wp2_with fail
    go_ret
    refine ⟨ret_bool ?_, HB1.out⟩
    first | rfl | (simp; done) | (simp; omega)
  · have z4 : (k == 4) = false := by rw [beq_eq_false_iff_ne]; exact h4
    rw [if_neg h4]
    clear h4
    cases eq
    · rw [Bool.false_and]
      go_enter Try.func27, Try.ntmps27
      go_wp2_with fail
      go_ret
      refine ⟨ret_bool ?_, HB0.out⟩
      first | rfl | (simp; done) | (simp; omega)
    · rw [Bool.true_and]
      by_cases h3 : k = 3
      · have z3 : (k == 3) = true := by rw [h3]; rfl
        have z1 : (k == 1) = false := by rw [h3]; rfl
        have z2 : (k == 2) = false := by rw [h3]; rfl
        by_cases hc : c = 1
        · have zc : (c == 1) = true := by rw [hc]; rfl
          rw [decide_eq_true (Or.inl ⟨h3, hc⟩)]
          clear h3 hc
          go_enter Try.func27, Try.ntmps27
          go_wp2_with fail
          go_ret
          refine ⟨ret_bool ?_, HB0.out⟩
          first | rfl | (simp; done) | (simp; omega)
        · have zc : (c == 1) = false := by rw [beq_eq_false_iff_ne]; exact hc
          rw [decide_eq_false (by omega)]
          clear h3 hc
          by_cases h2 : 2 ≤ c
          · skip
            go_enter Try.func27, Try.ntmps27
            go_wp2_with fail
            go_ret
            refine ⟨ret_bool ?_, HB0.out⟩
            first | rfl | (simp; done) | (simp; omega)
          · skip
            go_enter Try.func27, Try.ntmps27
            go_wp2_with fail
            go_ret
            refine ⟨ret_bool ?_, HB0.out⟩
            first | rfl | (simp; done) | (simp; omega)
      · have z3 : (k == 3) = false := by rw [beq_eq_false_iff_ne]; exact h3
        by_cases h2 : 2 ≤ c
        · by_cases h1 : k = 1
          · have z1 : (k == 1) = true := by rw [h1]; rfl
            rw [decide_eq_true (Or.inr ⟨h2, Or.inl h1⟩)]
            clear h1 h3
            go_enter Try.func27, Try.ntmps27
            go_wp2_with fail
            go_ret
            refine ⟨ret_bool ?_, HB0.out⟩
            first | rfl | (simp; done) | (simp; omega)
          · have z1 : (k == 1) = false := by rw [beq_eq_false_iff_ne]; exact h1
            by_cases h5 : k = 2
            · have z2 : (k == 2) = true := by rw [h5]; rfl
              rw [decide_eq_true (Or.inr ⟨h2, Or.inr h5⟩)]
              clear h1 h3 h5
              go_enter Try.func27, Try.ntmps27
              go_wp2_with fail
              go_ret
              refine ⟨ret_bool ?_, HB0.out⟩
              first | rfl | (simp; done) | (simp; omega)
            · have z2 : (k == 2) = false := by rw [beq_eq_false_iff_ne]; exact h5
              rw [decide_eq_false (by omega)]
              clear h1 h3 h5
              go_enter Try.func27, Try.ntmps27
              go_wp2_with fail
              go_ret
              refine ⟨ret_bool ?_, HB0.out⟩
              first | rfl | (simp; done) | (simp; omega)
        · rw [decide_eq_false (by omega)]
          clear h3
          go_enter Try.func27, Try.ntmps27
          go_wp2_with fail
          go_ret
          refine ⟨ret_bool ?_, HB0.out⟩
          first | rfl | (simp; done) | (simp; omega)

set_option maxRecDepth 100000 in
set_option maxHeartbeats 8000000 in
theorem refReserved_any (x : List UInt8) (w : World) : Calls Try.prog 26 #[.string ⟨x.toArray⟩] w fun e w' => e = .returned (.bool (rsvB ⟨x.toArray⟩)) ∧ w = w' := by
  rw [rsv_in]
  by_cases h1 : x = [97, 110, 100]
  · rw [decide_eq_true h1]
    subst h1
    go_enter Try.func26, Try.ntmps26
    go_wp2_with fail
    go_ret
    exact ⟨by first | rfl | simp, rfl⟩
  have z1 : (x == [97, 110, 100]) = false := by rw [beq_eq_false_iff_ne]; exact h1
  rw [decide_eq_false h1]
  by_cases h2 : x = [111, 114]
  · rw [decide_eq_true h2]
    subst h2
    go_enter Try.func26, Try.ntmps26
    go_wp2_with fail
    go_ret
    exact ⟨by first | rfl | simp, rfl⟩
  have z2 : (x == [111, 114]) = false := by rw [beq_eq_false_iff_ne]; exact h2
  rw [decide_eq_false h2]
  by_cases h3 : x = [110, 111, 116]
  · rw [decide_eq_true h3]
    subst h3
    go_enter Try.func26, Try.ntmps26
    go_wp2_with fail
    go_ret
    exact ⟨by first | rfl | simp, rfl⟩
  have z3 : (x == [110, 111, 116]) = false := by rw [beq_eq_false_iff_ne]; exact h3
  rw [decide_eq_false h3]
  by_cases h4 : x = [110, 111, 110, 101]
  · rw [decide_eq_true h4]
    subst h4
    go_enter Try.func26, Try.ntmps26
    go_wp2_with fail
    go_ret
    exact ⟨by first | rfl | simp, rfl⟩
  have z4 : (x == [110, 111, 110, 101]) = false := by rw [beq_eq_false_iff_ne]; exact h4
  rw [decide_eq_false h4]
  clear h1 h2 h3 h4
  go_enter Try.func26, Try.ntmps26
  go_wp2_with fail
  go_ret
  exact ⟨by first | rfl | simp, rfl⟩

set_option maxRecDepth 100000 in
set_option maxHeartbeats 8000000 in
theorem refSpan_far (nm : ByteArray) (a : Option Addr) (n c : Nat) (i : Int) (w : World) (h : i < 0 ∨ (n : Int) ≤ i) :
    Calls Try.prog 28 #[.agg #[.string nm, .slice a n c], .int .i64 i] w fun e w' => e = .returned (.int .i64 0) ∧ Below w.heap.size w w' := by
  have HB0 := Lib.hid (below_oneQ w (.cells #[.string nm, .slice a n c] 29))
  have hx := heap_alloc_new w (.cells #[.string nm, .slice a n c] 29)
  generalize hW : w.alloc (.cells #[.string nm, .slice a n c] 29) = W at *
  obtain ⟨q0, q1⟩ := q_cells hx
  clear hx
  rcases (by omega : i < 0 ∨ (¬ i < 0 ∧ (n : Int) ≤ i)) with h | ⟨h1, h⟩
  · skip
    go_enter Try.func28, Try.ntmps28
    go_wp2_with fail
    go_ret
    exact ⟨rfl, HB0.out⟩
  · skip
    go_enter Try.func28, Try.ntmps28
    go_wp2_with fail
    go_ret
    exact ⟨rfl, HB0.out⟩

set_option maxRecDepth 100000 in
set_option maxHeartbeats 8000000 in
theorem refSpan_nat (nm : ByteArray) (a : Option Addr) (L : List QN) (n c : Nat) (hn : L.length = n) (hl : n ≤ 1000) :
    ∀ (d i : Nat) (w : World), n - i ≤ d → Qns w a L → i ≤ 2000 → Calls Try.prog 28 #[.agg #[.string nm, .slice a n c], .int .i64 (i : Int)] w fun e w' => e = .returned (.int .i64 (spanS L i : Int)) ∧ Below w.heap.size w w' := by
  intro d
  induction d with
  | zero =>
    intro i w hd hQ hi
    rw [spanS_far (by omega)]
    exact refSpan_far nm a n c i w (Or.inr (by omega))
  | succ d ih =>
    intro i w hd hQ hi
    by_cases hin : n ≤ i
    · rw [spanS_far (by omega)]
      exact refSpan_far nm a n c i w (Or.inr (by omega))
    have hin : i < n := by omega
    have hil : i < L.length := by omega
    have IH := Lib.hid (fun (j : Nat) (hj : i < j) (hj2 : j ≤ 2000) W (hW : Below w.heap.size w W) => ih j W (by omega) (hQ.below hW) hj2)
    have HB0 := Lib.hid (below_oneQ w (.cells #[.string nm, .slice a n c] 29))
    have hx := heap_alloc_new w (.cells #[.string nm, .slice a n c] 29)
    obtain ⟨b, o, rfl, hbw, hc⟩ := hQ.get hil
    have hdr : L.drop i = L[i] :: L.drop (i + 1) := List.drop_eq_getElem_cons hil
    obtain ⟨x, hxi⟩ : ∃ x, L[i] = x := ⟨_, rfl⟩
    rw [hxi] at hc hdr
    have HE : Hid (eat (L.drop i) 1 = match cntQ x with | none => none | some cc => (eat (L.drop (i + 1)) cc).map (· + 1)) := Lib.hid (by rw [hdr]; show eat (x :: _) (0 + 1) = _; rw [eat_cons]; cases cntQ x with | none => rfl | some cc => simp only [Nat.zero_add])
    obtain ⟨R, hR⟩ : ∃ R, spanS L i = R := ⟨_, rfl⟩
    rw [hR]
    have HR : Hid (R = match eat (L.drop i) 1 with | some m => i + m | none => 0) := Lib.hid hR.symm
    have HN := Lib.hid hn
    generalize hW : w.alloc (.cells #[.string nm, .slice (some ⟨b, o, none⟩) n c] 29) = W at *
    obtain ⟨d0, d1, d2, d3, d4, d5, d6, d7, d8⟩ := hc.below HB0.out hbw
    obtain ⟨q0, q1⟩ := q_cells hx
    have hlt := blk_ltQ hx
    obtain ⟨xk, xc, xf, ⟨a1, a2, a3⟩, ⟨b1, b2, b3⟩⟩ := x
    have HX0 : Hid ((W.alloc (.cells #[.int .i64 xk, .int .i64 xc, .int .i64 xf, .int .i64 a1, .int .i64 a2, .int .i64 a3, .int .i64 b1, .int .i64 b2, .int .i64 b3] 39)).heap[w.heap.size]? = some (.cells #[.string nm, .slice (some ⟨b, o, none⟩) n c] 29 (0, 0))) := Lib.hid ((Below.heap_alloc _ _ _ hlt).trans hx)
    have HB1 : Hid (Below w.heap.size w (W.alloc (.cells #[.int .i64 xk, .int .i64 xc, .int .i64 xf, .int .i64 a1, .int .i64 a2, .int .i64 a3, .int .i64 b1, .int .i64 b2, .int .i64 b3] 39))) := Lib.hid (HB0.out.alloc HB0.out.size _)
    have hinz : (i : Int) < (n : Int) := by omega
    have hinz2 : ¬ (n : Int) ≤ (i : Int) := by omega
    have hi0 : (0 : Int) ≤ (i : Int) := by omega
    clear ih hQ hc hdr hxi hR hx
    by_cases h1 : xk = 1 ∨ xk = 2
    · have HC : Hid (eat (L.drop i) 1 = (eat (L.drop (i + 1)) xc.toNat).map (· + 1)) := Lib.hid (by rw [HE.out]; unfold cntQ; rw [if_pos h1])
      rcases h1 with h1 | h1
      · have z1 : (xk == 1) = true := by rw [h1]; rfl
        clear h1
        go_enter Try.func28, Try.ntmps28
        go_wp2_with fail
        generalize hW2 : W.alloc (.cells #[.int .i64 xk, .int .i64 xc, .int .i64 xf, .int .i64 a1, .int .i64 a2, .int .i64 a3, .int .i64 b1, .int .i64 b2, .int .i64 b3] 39) = W2 at *
        go_loopw [8, 7] (fun vj va wr => ∃ j m : Nat, vj = .int .i64 (j : Int) ∧ va = .int .i64 ((i + 1 + m : Nat) : Int) ∧ i + 1 + m ≤ n ∧ j ≤ m ∧ (j = 0 ∨ (j : Int) ≤ xc) ∧ Hid (eat (L.drop (i + 1)) j = some m) ∧ Hid (Below w.heap.size w wr) ∧ Hid (wr.heap[w.heap.size]? = some (.cells #[.string nm, .slice (some ⟨b, o, none⟩) n c] 29 (0, 0)))) (fun _ va _ => n + 1 - (intOf va).toNat)
        case atStart => exact ⟨0, 0, rfl, by go_num, by omega, by omega, Or.inl rfl, Lib.hid (eat_zero _), HB1, HX0⟩
        case round =>
          obtain ⟨j, m, rfl, rfl, hmn, hjm, hjc, HM, HB, HX⟩ := hrel
          obtain ⟨q0, q1⟩ := q_cells HX.out
          by_cases hj : (j : Int) < xc
          · have C := IH.out (i + 1 + m) (by omega) (by omega) wr HB.out
            have HS : Hid (eat (L.drop (i + 1)) (j + 1) = (eat (L.drop (i + 1 + m)) 1).map (m + ·)) := Lib.hid (by rw [eat_add, HM.out, Option.bind_some, List.drop_drop])
            have hsp : spanS L (i + 1 + m) = match eat (L.drop (i + 1 + m)) 1 with | some z => i + 1 + m + z | none => 0 := rfl
            have hle := eat_le (L.drop (i + 1 + m)) 1
            rw [List.length_drop, HN.out] at hle
            cases he : eat (L.drop (i + 1 + m)) 1 with
            | none =>
              rw [he] at hsp
              rw [hsp] at C
              have CC := Lib.hid C
              have HF : Hid (R = 0) := Lib.hid (by
                have h1 : eat (L.drop (i + 1)) (xc).toNat = none := eat_less (a := j + 1) (by omega) (by rw [HS.out, he]; rfl)
                rw [HR.out, HC.out, h1]; rfl)
              clear C hsp he hle
              go_wp2_with fail
              refine CC.out.mono ?_
              rintro e w3 ⟨rfl, hb⟩
              have HB3 := Lib.hid (HB.out.trans (hb.mono HB.out.size))
              clear hb
              go_wp2_with fail
              go_ret
              exact ⟨by rw [HF.out]; rfl, HB3.out⟩
            | some z =>
              rw [he] at hsp
              rw [hsp] at C
              obtain ⟨hz1, hz2⟩ := hle z he
              have HM2 : Hid (eat (L.drop (i + 1)) (j + 1) = some (m + z)) := Lib.hid (by rw [HS.out, he]; rfl)
              obtain ⟨at2, hat⟩ : ∃ q, i + 1 + m + z = q := ⟨_, rfl⟩
              simp only [hat] at C
              have CC := Lib.hid C
              have hne : ((at2 : Int) == 0) = false := by rw [beq_eq_false_iff_ne]; omega
              have HAT : Hid ((i + 1 + (m + z) : Nat) = at2) := Lib.hid (by omega)
              have hb2 : i + 1 + m < at2 ∧ at2 ≤ n ∧ j + 1 ≤ m + z := by omega
              clear C hsp he hle hat
              go_wp2_with fail
              refine CC.out.mono ?_
              rintro e w3 ⟨rfl, hb⟩
              have hx3 := (hb.block _ (blk_ltQ HX.out)).trans HX.out
              have HX3 := Lib.hid hx3
              have HB3 := Lib.hid (HB.out.trans (hb.mono HB.out.size))
              clear hb hx3
              go_wp2_with fail
              go_roundw
              case rel => exact ⟨j + 1, m + z, by go_num, by rw [HAT.out], by rw [HAT.out]; omega, by omega, Or.inr (by omega), HM2, HB3, HX3⟩
              case measure => simp [intOf]; omega
          · have HF : Hid (R = i + 1 + m) := Lib.hid (by
              have e : j = (xc).toNat := by omega
              rw [HR.out, HC.out, ← e, HM.out]
              show i + (m + 1) = i + 1 + m; omega)
            go_wp2_with fail
            go_ret
            exact ⟨by rw [HF.out]; rfl, HB.out⟩
      · have z1 : (xk == 1) = false := by rw [h1]; rfl
        have z2 : (xk == 2) = true := by rw [h1]; rfl
        clear h1
        go_enter Try.func28, Try.ntmps28
        go_wp2_with fail
        generalize hW2 : W.alloc (.cells #[.int .i64 xk, .int .i64 xc, .int .i64 xf, .int .i64 a1, .int .i64 a2, .int .i64 a3, .int .i64 b1, .int .i64 b2, .int .i64 b3] 39) = W2 at *
        go_loopw [8, 7] (fun vj va wr => ∃ j m : Nat, vj = .int .i64 (j : Int) ∧ va = .int .i64 ((i + 1 + m : Nat) : Int) ∧ i + 1 + m ≤ n ∧ j ≤ m ∧ (j = 0 ∨ (j : Int) ≤ xc) ∧ Hid (eat (L.drop (i + 1)) j = some m) ∧ Hid (Below w.heap.size w wr) ∧ Hid (wr.heap[w.heap.size]? = some (.cells #[.string nm, .slice (some ⟨b, o, none⟩) n c] 29 (0, 0)))) (fun _ va _ => n + 1 - (intOf va).toNat)
        case atStart => exact ⟨0, 0, rfl, by go_num, by omega, by omega, Or.inl rfl, Lib.hid (eat_zero _), HB1, HX0⟩
        case round =>
          obtain ⟨j, m, rfl, rfl, hmn, hjm, hjc, HM, HB, HX⟩ := hrel
          obtain ⟨q0, q1⟩ := q_cells HX.out
          by_cases hj : (j : Int) < xc
          · have C := IH.out (i + 1 + m) (by omega) (by omega) wr HB.out
            have HS : Hid (eat (L.drop (i + 1)) (j + 1) = (eat (L.drop (i + 1 + m)) 1).map (m + ·)) := Lib.hid (by rw [eat_add, HM.out, Option.bind_some, List.drop_drop])
            have hsp : spanS L (i + 1 + m) = match eat (L.drop (i + 1 + m)) 1 with | some z => i + 1 + m + z | none => 0 := rfl
            have hle := eat_le (L.drop (i + 1 + m)) 1
            rw [List.length_drop, HN.out] at hle
            cases he : eat (L.drop (i + 1 + m)) 1 with
            | none =>
              rw [he] at hsp
              rw [hsp] at C
              have CC := Lib.hid C
              have HF : Hid (R = 0) := Lib.hid (by
                have h1 : eat (L.drop (i + 1)) (xc).toNat = none := eat_less (a := j + 1) (by omega) (by rw [HS.out, he]; rfl)
                rw [HR.out, HC.out, h1]; rfl)
              clear C hsp he hle
              go_wp2_with fail
              refine CC.out.mono ?_
              rintro e w3 ⟨rfl, hb⟩
              have HB3 := Lib.hid (HB.out.trans (hb.mono HB.out.size))
              clear hb
              go_wp2_with fail
              go_ret
              exact ⟨by rw [HF.out]; rfl, HB3.out⟩
            | some z =>
              rw [he] at hsp
              rw [hsp] at C
              obtain ⟨hz1, hz2⟩ := hle z he
              have HM2 : Hid (eat (L.drop (i + 1)) (j + 1) = some (m + z)) := Lib.hid (by rw [HS.out, he]; rfl)
              obtain ⟨at2, hat⟩ : ∃ q, i + 1 + m + z = q := ⟨_, rfl⟩
              simp only [hat] at C
              have CC := Lib.hid C
              have hne : ((at2 : Int) == 0) = false := by rw [beq_eq_false_iff_ne]; omega
              have HAT : Hid ((i + 1 + (m + z) : Nat) = at2) := Lib.hid (by omega)
              have hb2 : i + 1 + m < at2 ∧ at2 ≤ n ∧ j + 1 ≤ m + z := by omega
              clear C hsp he hle hat
              go_wp2_with fail
              refine CC.out.mono ?_
              rintro e w3 ⟨rfl, hb⟩
              have hx3 := (hb.block _ (blk_ltQ HX.out)).trans HX.out
              have HX3 := Lib.hid hx3
              have HB3 := Lib.hid (HB.out.trans (hb.mono HB.out.size))
              clear hb hx3
              go_wp2_with fail
              go_roundw
              case rel => exact ⟨j + 1, m + z, by go_num, by rw [HAT.out], by rw [HAT.out]; omega, by omega, Or.inr (by omega), HM2, HB3, HX3⟩
              case measure => simp [intOf]; omega
          · have HF : Hid (R = i + 1 + m) := Lib.hid (by
              have e : j = (xc).toNat := by omega
              rw [HR.out, HC.out, ← e, HM.out]
              show i + (m + 1) = i + 1 + m; omega)
            go_wp2_with fail
            go_ret
            exact ⟨by rw [HF.out]; rfl, HB.out⟩
    · have z1 : (xk == 1) = false := by rw [beq_eq_false_iff_ne]; omega
      have z2 : (xk == 2) = false := by rw [beq_eq_false_iff_ne]; omega
      by_cases h3 : xk = 3
      · have z3 : (xk == 3) = true := by rw [h3]; rfl
        have HC : Hid (eat (L.drop i) 1 = (eat (L.drop (i + 1)) (1 : Int).toNat).map (· + 1)) := Lib.hid (by rw [HE.out]; unfold cntQ; rw [if_neg h1, if_pos h3]; rfl)
        clear h1 h3
        go_enter Try.func28, Try.ntmps28
        go_wp2_with fail
        generalize hW2 : W.alloc (.cells #[.int .i64 xk, .int .i64 xc, .int .i64 xf, .int .i64 a1, .int .i64 a2, .int .i64 a3, .int .i64 b1, .int .i64 b2, .int .i64 b3] 39) = W2 at *
        go_loopw [8, 7] (fun vj va wr => ∃ j m : Nat, vj = .int .i64 (j : Int) ∧ va = .int .i64 ((i + 1 + m : Nat) : Int) ∧ i + 1 + m ≤ n ∧ j ≤ m ∧ (j = 0 ∨ (j : Int) ≤ (1 : Int)) ∧ Hid (eat (L.drop (i + 1)) j = some m) ∧ Hid (Below w.heap.size w wr) ∧ Hid (wr.heap[w.heap.size]? = some (.cells #[.string nm, .slice (some ⟨b, o, none⟩) n c] 29 (0, 0)))) (fun _ va _ => n + 1 - (intOf va).toNat)
        case atStart => exact ⟨0, 0, rfl, by go_num, by omega, by omega, Or.inl rfl, Lib.hid (eat_zero _), HB1, HX0⟩
        case round =>
          obtain ⟨j, m, rfl, rfl, hmn, hjm, hjc, HM, HB, HX⟩ := hrel
          obtain ⟨q0, q1⟩ := q_cells HX.out
          by_cases hj : (j : Int) < (1 : Int)
          · have C := IH.out (i + 1 + m) (by omega) (by omega) wr HB.out
            have HS : Hid (eat (L.drop (i + 1)) (j + 1) = (eat (L.drop (i + 1 + m)) 1).map (m + ·)) := Lib.hid (by rw [eat_add, HM.out, Option.bind_some, List.drop_drop])
            have hsp : spanS L (i + 1 + m) = match eat (L.drop (i + 1 + m)) 1 with | some z => i + 1 + m + z | none => 0 := rfl
            have hle := eat_le (L.drop (i + 1 + m)) 1
            rw [List.length_drop, HN.out] at hle
            cases he : eat (L.drop (i + 1 + m)) 1 with
            | none =>
              rw [he] at hsp
              rw [hsp] at C
              have CC := Lib.hid C
              have HF : Hid (R = 0) := Lib.hid (by
                have h1 : eat (L.drop (i + 1)) ((1 : Int)).toNat = none := eat_less (a := j + 1) (by omega) (by rw [HS.out, he]; rfl)
                rw [HR.out, HC.out, h1]; rfl)
              clear C hsp he hle
              go_wp2_with fail
              refine CC.out.mono ?_
              rintro e w3 ⟨rfl, hb⟩
              have HB3 := Lib.hid (HB.out.trans (hb.mono HB.out.size))
              clear hb
              go_wp2_with fail
              go_ret
              exact ⟨by rw [HF.out]; rfl, HB3.out⟩
            | some z =>
              rw [he] at hsp
              rw [hsp] at C
              obtain ⟨hz1, hz2⟩ := hle z he
              have HM2 : Hid (eat (L.drop (i + 1)) (j + 1) = some (m + z)) := Lib.hid (by rw [HS.out, he]; rfl)
              obtain ⟨at2, hat⟩ : ∃ q, i + 1 + m + z = q := ⟨_, rfl⟩
              simp only [hat] at C
              have CC := Lib.hid C
              have hne : ((at2 : Int) == 0) = false := by rw [beq_eq_false_iff_ne]; omega
              have HAT : Hid ((i + 1 + (m + z) : Nat) = at2) := Lib.hid (by omega)
              have hb2 : i + 1 + m < at2 ∧ at2 ≤ n ∧ j + 1 ≤ m + z := by omega
              clear C hsp he hle hat
              go_wp2_with fail
              refine CC.out.mono ?_
              rintro e w3 ⟨rfl, hb⟩
              have hx3 := (hb.block _ (blk_ltQ HX.out)).trans HX.out
              have HX3 := Lib.hid hx3
              have HB3 := Lib.hid (HB.out.trans (hb.mono HB.out.size))
              clear hb hx3
              go_wp2_with fail
              go_roundw
              case rel => exact ⟨j + 1, m + z, by go_num, by rw [HAT.out], by rw [HAT.out]; omega, by omega, Or.inr (by omega), HM2, HB3, HX3⟩
              case measure => simp [intOf]; omega
          · have HF : Hid (R = i + 1 + m) := Lib.hid (by
              have e : j = ((1 : Int)).toNat := by omega
              rw [HR.out, HC.out, ← e, HM.out]
              show i + (m + 1) = i + 1 + m; omega)
            go_wp2_with fail
            go_ret
            exact ⟨by rw [HF.out]; rfl, HB.out⟩
      · have z3 : (xk == 3) = false := by rw [beq_eq_false_iff_ne]; exact h3
        by_cases h4 : xk = 4
        · have z4 : (xk == 4) = true := by rw [h4]; rfl
          have HC : Hid (eat (L.drop i) 1 = (eat (L.drop (i + 1)) (0 : Int).toNat).map (· + 1)) := Lib.hid (by rw [HE.out]; unfold cntQ; rw [if_neg h1, if_neg h3, if_pos h4]; rfl)
          clear h1 h3 h4
          go_enter Try.func28, Try.ntmps28
          go_wp2_with fail
          generalize hW2 : W.alloc (.cells #[.int .i64 xk, .int .i64 xc, .int .i64 xf, .int .i64 a1, .int .i64 a2, .int .i64 a3, .int .i64 b1, .int .i64 b2, .int .i64 b3] 39) = W2 at *
          go_loopw [8, 7] (fun vj va wr => ∃ j m : Nat, vj = .int .i64 (j : Int) ∧ va = .int .i64 ((i + 1 + m : Nat) : Int) ∧ i + 1 + m ≤ n ∧ j ≤ m ∧ (j = 0 ∨ (j : Int) ≤ (0 : Int)) ∧ Hid (eat (L.drop (i + 1)) j = some m) ∧ Hid (Below w.heap.size w wr) ∧ Hid (wr.heap[w.heap.size]? = some (.cells #[.string nm, .slice (some ⟨b, o, none⟩) n c] 29 (0, 0)))) (fun _ va _ => n + 1 - (intOf va).toNat)
          case atStart => exact ⟨0, 0, rfl, by go_num, by omega, by omega, Or.inl rfl, Lib.hid (eat_zero _), HB1, HX0⟩
          case round =>
            obtain ⟨j, m, rfl, rfl, hmn, hjm, hjc, HM, HB, HX⟩ := hrel
            obtain ⟨q0, q1⟩ := q_cells HX.out
            by_cases hj : (j : Int) < (0 : Int)
            · have C := IH.out (i + 1 + m) (by omega) (by omega) wr HB.out
              have HS : Hid (eat (L.drop (i + 1)) (j + 1) = (eat (L.drop (i + 1 + m)) 1).map (m + ·)) := Lib.hid (by rw [eat_add, HM.out, Option.bind_some, List.drop_drop])
              have hsp : spanS L (i + 1 + m) = match eat (L.drop (i + 1 + m)) 1 with | some z => i + 1 + m + z | none => 0 := rfl
              have hle := eat_le (L.drop (i + 1 + m)) 1
              rw [List.length_drop, HN.out] at hle
              cases he : eat (L.drop (i + 1 + m)) 1 with
              | none =>
                rw [he] at hsp
                rw [hsp] at C
                have CC := Lib.hid C
                have HF : Hid (R = 0) := Lib.hid (by
                  have h1 : eat (L.drop (i + 1)) ((0 : Int)).toNat = none := eat_less (a := j + 1) (by omega) (by rw [HS.out, he]; rfl)
                  rw [HR.out, HC.out, h1]; rfl)
                clear C hsp he hle
                go_wp2_with fail
                refine CC.out.mono ?_
                rintro e w3 ⟨rfl, hb⟩
                have HB3 := Lib.hid (HB.out.trans (hb.mono HB.out.size))
                clear hb
                go_wp2_with fail
                go_ret
                exact ⟨by rw [HF.out]; rfl, HB3.out⟩
              | some z =>
                rw [he] at hsp
                rw [hsp] at C
                obtain ⟨hz1, hz2⟩ := hle z he
                have HM2 : Hid (eat (L.drop (i + 1)) (j + 1) = some (m + z)) := Lib.hid (by rw [HS.out, he]; rfl)
                obtain ⟨at2, hat⟩ : ∃ q, i + 1 + m + z = q := ⟨_, rfl⟩
                simp only [hat] at C
                have CC := Lib.hid C
                have hne : ((at2 : Int) == 0) = false := by rw [beq_eq_false_iff_ne]; omega
                have HAT : Hid ((i + 1 + (m + z) : Nat) = at2) := Lib.hid (by omega)
                have hb2 : i + 1 + m < at2 ∧ at2 ≤ n ∧ j + 1 ≤ m + z := by omega
                clear C hsp he hle hat
                go_wp2_with fail
                refine CC.out.mono ?_
                rintro e w3 ⟨rfl, hb⟩
                have hx3 := (hb.block _ (blk_ltQ HX.out)).trans HX.out
                have HX3 := Lib.hid hx3
                have HB3 := Lib.hid (HB.out.trans (hb.mono HB.out.size))
                clear hb hx3
                go_wp2_with fail
                go_roundw
                case rel => exact ⟨j + 1, m + z, by go_num, by rw [HAT.out], by rw [HAT.out]; omega, by omega, Or.inr (by omega), HM2, HB3, HX3⟩
                case measure => simp [intOf]; omega
            · have HF : Hid (R = i + 1 + m) := Lib.hid (by
                have e : j = ((0 : Int)).toNat := by omega
                rw [HR.out, HC.out, ← e, HM.out]
                show i + (m + 1) = i + 1 + m; omega)
              go_wp2_with fail
              go_ret
              exact ⟨by rw [HF.out]; rfl, HB.out⟩
        · have z4 : (xk == 4) = false := by rw [beq_eq_false_iff_ne]; exact h4
          have HF : Hid (R = 0) := Lib.hid (by rw [HR.out, HE.out]; unfold cntQ; rw [if_neg h1, if_neg h3, if_neg h4])
          clear h1 h3 h4
          go_enter Try.func28, Try.ntmps28
          go_wp2_with fail
          go_ret
          exact ⟨by rw [HF.out]; rfl, HB1.out⟩
end Go.Proofs.Ytoaenlbbochjhaa

namespace Go.Proofs.Ytoaenlbbochjhaa
open Go.RowKit FixM FixP TreN QryP Go.Sort
set_option linter.unusedVariables false

set_option maxRecDepth 100000 in
set_option maxHeartbeats 8000000 in
theorem refRight8_any (x : List UInt8) (hs : x.length ≤ maxLen) (a : Option Addr) (L : List QN) (n c : Nat) (w : World) (hn : L.length = n) (hm : n ≤ maxLen) (hQ : Qns w a L) :
    Calls Try.prog 18 #[.agg #[.string ⟨x.toArray⟩, .slice a n c]] w fun e w' => e = .returned (.bool (rightQ ⟨x.toArray⟩ L)) ∧ Below w.heap.size w w' := by
  unfold maxLen at hm
  have HB0 := Lib.hid (below_oneQ w (.cells #[.string ⟨x.toArray⟩, .slice a n c] 29))
  have hx := heap_alloc_new w (.cells #[.string ⟨x.toArray⟩, .slice a n c] 29)
  have HQ := Lib.hid hQ
  have HN := Lib.hid hn
  have NM := Lib.hid (fun W => refName_any ⟨x.toArray⟩ (by show x.toArray.size ≤ maxLen; simpa using hs) W)
  have RS := Lib.hid (fun W => refReserved_any x W)
  have SP := Lib.hid (fun (h : n ≤ 1000) W (hW : Below w.heap.size w W) => refSpan_nat ⟨x.toArray⟩ a L n c hn h n 0 W (by omega) (hQ.below hW) (by omega))
  have HRQ : Hid (rightQ ⟨x.toArray⟩ L = (nmB ⟨x.toArray⟩ && (L.all ndR && decide (0 < n ∧ n ≤ 32 ∧ spanS L 0 = n)))) := Lib.hid (by unfold rightQ; rw [hn])
  generalize hW : w.alloc (.cells #[.string ⟨x.toArray⟩, .slice a n c] 29) = W at *
  have HX0 := Lib.hid hx
  obtain ⟨q0, q1⟩ := q_cells hx
  obtain ⟨R, hR⟩ : ∃ R, rightQ ⟨x.toArray⟩ L = R := ⟨_, rfl⟩
  rw [hR] at HRQ ⊢
  clear hx hQ hn hR
  cases x with
  | nil =>
    have HRR : Hid (R = (L.all ndR && decide (0 < n ∧ n ≤ 32 ∧ spanS L 0 = n))) := Lib.hid (by rw [HRQ.out, nmB_nil, Bool.true_and])
    clear HRQ
    go_enter Try.func18, Try.ntmps18
    go_wp2_with fail
    go_loopw [3] (fun vi wr => ∃ k : Nat, vi = .int .i64 (k : Int) ∧ k ≤ n ∧ Hid (∀ j (h : j < L.length), j < k → ndR L[j] = true) ∧ Hid (Below w.heap.size w wr) ∧ Hid (wr.heap[w.heap.size]? = some (.cells #[.string ⟨([] : List UInt8).toArray⟩, .slice a n c] 29 (0, 0)))) (fun vi _ => n - (intOf vi).toNat)
    case atStart => exact ⟨0, rfl, by omega, Lib.hid (fun j h hj => by omega), HB0, HX0⟩
    case round =>
      obtain ⟨k, rfl, hk, HJ, HB, HX⟩ := hrel
      obtain ⟨q0, q1⟩ := q_cells HX.out
      by_cases hlt : k < n
      · have hltz : (k : Int) < (n : Int) := by omega
        have hkl : k < L.length := by have := HN.out; omega
        obtain ⟨b, o, rfl, hbw, hc⟩ := HQ.out.get hkl
        obtain ⟨d0, d1, d2, d3, d4, d5, d6, d7, d8⟩ := hc.below HB.out hbw
        obtain ⟨⟨xk, xc, xf, ⟨a1, a2, a3⟩, ⟨b1, b2, b3⟩⟩, hxi⟩ : ∃ x, L[k] = x := ⟨_, rfl⟩
        simp only [hxi] at d0 d1 d2 d3 d4 d5 d6 d7 d8
        have hk0 : (0 : Int) ≤ (k : Int) := by omega
        have C := fun W => refNode8_any xk xc xf a1 a2 a3 b1 b2 b3 W
        obtain ⟨nd, hnd⟩ : ∃ nd, ndR ⟨xk, xc, xf, ⟨a1, a2, a3⟩, ⟨b1, b2, b3⟩⟩ = nd := ⟨_, rfl⟩
        rw [hnd] at C
        have CC := Lib.hid C
        have HXI := Lib.hid hxi
        have HND := Lib.hid hnd
        clear C hxi hnd hc
        cases nd
        · have HF : Hid (R = false) := Lib.hid (by
            have h1 : L.all ndR = false := by
              rw [List.all_eq_false]; exact ⟨_, List.getElem_mem hkl, by rw [HXI.out, HND.out]; simp⟩
            rw [HRR.out, h1, Bool.false_and])
          go_wp2_with fail
          refine (CC.out _).mono ?_
          rintro e w3 ⟨rfl, hb⟩
          have HB3 := Lib.hid (HB.out.trans (hb.mono HB.out.size))
          clear hb
          go_wp2_with fail
          go_ret
          exact ⟨by rw [HF.out]; rfl, HB3.out⟩
        · have HJ2 : Hid (∀ j (h : j < L.length), j < k + 1 → ndR L[j] = true) := Lib.hid (fun j h hj => by
            by_cases e : j = k
            · subst e; rw [HXI.out, HND.out]
            · exact HJ.out j h (by omega))
          go_wp2_with fail
          refine (CC.out _).mono ?_
          rintro e w3 ⟨rfl, hb⟩
          have hx3 := (hb.block _ (blk_ltQ HX.out)).trans HX.out
          have HX3 := Lib.hid hx3
          have HB3 := Lib.hid (HB.out.trans (hb.mono HB.out.size))
          clear hb hx3
          go_wp2_with fail
          go_roundw
          case rel => exact ⟨k + 1, by go_num, by omega, HJ2, HB3, HX3⟩
          case measure => simp [intOf]; omega
      · have hltz : ¬ (k : Int) < (n : Int) := by omega
        have HAL : Hid (R = decide (0 < n ∧ n ≤ 32 ∧ spanS L 0 = n)) := Lib.hid (by
          have h1 : L.all ndR = true := by
            rw [List.all_eq_true]
            intro y hy
            obtain ⟨j, hj, e⟩ := List.getElem_of_mem hy
            rw [← e]; exact HJ.out j hj (by have := HN.out; omega)
          rw [HRR.out, h1, Bool.true_and])
        have k0 := cell_regrown q0
        have k1 := cell_regrown q1
        rcases (by omega : n = 0 ∨ (0 < n ∧ 32 < n) ∨ (0 < n ∧ n ≤ 32)) with h0 | ⟨h0, h32⟩ | ⟨h0, h32⟩
        · have z0 : ¬ (0 : Int) < (n : Int) := by omega
          have zd : decide (0 < n) = false := decide_eq_false (by omega)
          have HF : Hid (R = false) := Lib.hid (by rw [HAL.out, decide_eq_false (by omega)])
          clear h0
          go_upto_region 8 with (fail)
          clear q0 q1
          refine wp_region_quiet_below (by kernel_rfl) (by kernel_rfl) ?_
          repeat (quiet_step (fail))
          refine wpQuiet_nil ?_
          intro _ hw'
          obtain ⟨⟨dq, osq⟩, hw''⟩ := hw'
          subst hw''
          go_wp2_with fail
          go_ret
          exact ⟨by rw [HF.out]; rfl, HB.out.trans ((below_regrown _ _ _).mono HB.out.size)⟩
        · have z0 : (0 : Int) < (n : Int) := by omega
          have z1 : ¬ (n : Int) ≤ 32 := by omega
          have HF : Hid (R = false) := Lib.hid (by rw [HAL.out, decide_eq_false (by omega)])
          go_upto_region 8 with (fail)
          clear q0 q1
          refine wp_region_quiet_below (by kernel_rfl) (by kernel_rfl) ?_
          repeat (quiet_step (fail))
          refine wpQuiet_nil ?_
          intro _ hw'
          obtain ⟨⟨dq, osq⟩, hw''⟩ := hw'
          subst hw''
          go_wp2_with fail
          go_ret
          exact ⟨by rw [HF.out]; rfl, HB.out.trans ((below_regrown _ _ _).mono HB.out.size)⟩
        · have z0 : (0 : Int) < (n : Int) := by omega
          have z1 : (n : Int) ≤ 32 := by omega
          obtain ⟨sp, hsp⟩ : ∃ sp, spanS L 0 = sp := ⟨_, rfl⟩
          rw [hsp] at SP HAL
          have bel : ∀ d os, Below w.heap.size w (grow (redrawn wr d) os) := fun d os => HB.out.trans ((below_regrown wr d os).mono HB.out.size)
          have cS : ∀ d os, Calls Try.prog 28 #[.agg #[.string ⟨([] : List UInt8).toArray⟩, .slice a n c], .int .i64 0] (grow (redrawn wr d) os) fun e w'' => e = .returned (.int .i64 (sp : Int)) ∧ ∃ p : Regrown, w'' = grow (redrawn wr p.d) p.os := fun d os => Calls.regrown_of (SP.out (by omega) _ (bel d os))
          clear hsp bel
          by_cases hs1 : sp = n
          · have zs : ((sp : Int) == (n : Int)) = true := by rw [hs1]; simp
            have HF : Hid (R = true) := Lib.hid (by rw [HAL.out, decide_eq_true ⟨h0, h32, hs1⟩])
            clear hs1
            go_upto_region 8 with (fail)
            clear q0 q1
            refine wp_region_quiet_below (by kernel_rfl) (by kernel_rfl) ?_
            repeat (quiet_step (exact cS _ _))
            refine wpQuiet_nil ?_
            intro _ hw'
            obtain ⟨⟨dq, osq⟩, hw''⟩ := hw'
            subst hw''
            go_wp2_with fail
            go_ret
            exact ⟨by rw [HF.out]; rfl, HB.out.trans ((below_regrown _ _ _).mono HB.out.size)⟩
          · have zs : ((sp : Int) == (n : Int)) = false := by rw [beq_eq_false_iff_ne]; omega
            have HF : Hid (R = false) := Lib.hid (by rw [HAL.out, decide_eq_false (fun g => hs1 g.2.2)])
            clear hs1
            go_upto_region 8 with (fail)
            clear q0 q1
            refine wp_region_quiet_below (by kernel_rfl) (by kernel_rfl) ?_
            repeat (quiet_step (exact cS _ _))
            refine wpQuiet_nil ?_
            intro _ hw'
            obtain ⟨⟨dq, osq⟩, hw''⟩ := hw'
            subst hw''
            go_wp2_with fail
            go_ret
            exact ⟨by rw [HF.out]; rfl, HB.out.trans ((below_regrown _ _ _).mono HB.out.size)⟩
  | cons c1 r1 =>
    have HRR0 := HRQ
    rw [nmB_cons] at HRR0
    obtain ⟨nb, hnb⟩ : ∃ nb, nameB ⟨(c1 :: r1).toArray⟩ = nb := ⟨_, rfl⟩
    obtain ⟨rb, hrb⟩ : ∃ rb, rsvB ⟨(c1 :: r1).toArray⟩ = rb := ⟨_, rfl⟩
    rw [hnb] at NM HRR0
    rw [hrb] at RS HRR0
    clear hnb hrb HRQ
    cases nb
    · have HF : Hid (R = false) := Lib.hid (by rw [HRR0.out, Bool.and_false, Bool.false_and])
      go_enter Try.func18, Try.ntmps18
      go_wp2_with fail
      refine (NM.out _).mono ?_
      rintro e wq ⟨rfl, rfl⟩
      go_wp2_with fail
      go_ret
      exact ⟨by rw [HF.out]; rfl, HB0.out⟩
    · cases rb
      · have HRR : Hid (R = (L.all ndR && decide (0 < n ∧ n ≤ 32 ∧ spanS L 0 = n))) := Lib.hid (by rw [HRR0.out]; rfl)
        clear HRR0
        go_enter Try.func18, Try.ntmps18
        go_wp2_with fail
        refine (NM.out _).mono ?_
        rintro e wq ⟨rfl, rfl⟩
        go_wp2_with fail
        refine (RS.out _).mono ?_
        rintro e wq ⟨rfl, rfl⟩
        go_wp2_with fail
        go_loopw [3] (fun vi wr => ∃ k : Nat, vi = .int .i64 (k : Int) ∧ k ≤ n ∧ Hid (∀ j (h : j < L.length), j < k → ndR L[j] = true) ∧ Hid (Below w.heap.size w wr) ∧ Hid (wr.heap[w.heap.size]? = some (.cells #[.string ⟨(c1 :: r1).toArray⟩, .slice a n c] 29 (0, 0)))) (fun vi _ => n - (intOf vi).toNat)
        case atStart => exact ⟨0, rfl, by omega, Lib.hid (fun j h hj => by omega), HB0, HX0⟩
        case round =>
          obtain ⟨k, rfl, hk, HJ, HB, HX⟩ := hrel
          obtain ⟨q0, q1⟩ := q_cells HX.out
          by_cases hlt : k < n
          · have hltz : (k : Int) < (n : Int) := by omega
            have hkl : k < L.length := by have := HN.out; omega
            obtain ⟨b, o, rfl, hbw, hc⟩ := HQ.out.get hkl
            obtain ⟨d0, d1, d2, d3, d4, d5, d6, d7, d8⟩ := hc.below HB.out hbw
            obtain ⟨⟨xk, xc, xf, ⟨a1, a2, a3⟩, ⟨b1, b2, b3⟩⟩, hxi⟩ : ∃ x, L[k] = x := ⟨_, rfl⟩
            simp only [hxi] at d0 d1 d2 d3 d4 d5 d6 d7 d8
            have hk0 : (0 : Int) ≤ (k : Int) := by omega
            have C := fun W => refNode8_any xk xc xf a1 a2 a3 b1 b2 b3 W
            obtain ⟨nd, hnd⟩ : ∃ nd, ndR ⟨xk, xc, xf, ⟨a1, a2, a3⟩, ⟨b1, b2, b3⟩⟩ = nd := ⟨_, rfl⟩
            rw [hnd] at C
            have CC := Lib.hid C
            have HXI := Lib.hid hxi
            have HND := Lib.hid hnd
            clear C hxi hnd hc
            cases nd
            · have HF : Hid (R = false) := Lib.hid (by
                have h1 : L.all ndR = false := by
                  rw [List.all_eq_false]; exact ⟨_, List.getElem_mem hkl, by rw [HXI.out, HND.out]; simp⟩
                rw [HRR.out, h1, Bool.false_and])
              go_wp2_with fail
              refine (CC.out _).mono ?_
              rintro e w3 ⟨rfl, hb⟩
              have HB3 := Lib.hid (HB.out.trans (hb.mono HB.out.size))
              clear hb
              go_wp2_with fail
              go_ret
              exact ⟨by rw [HF.out]; rfl, HB3.out⟩
            · have HJ2 : Hid (∀ j (h : j < L.length), j < k + 1 → ndR L[j] = true) := Lib.hid (fun j h hj => by
                by_cases e : j = k
                · subst e; rw [HXI.out, HND.out]
                · exact HJ.out j h (by omega))
              go_wp2_with fail
              refine (CC.out _).mono ?_
              rintro e w3 ⟨rfl, hb⟩
              have hx3 := (hb.block _ (blk_ltQ HX.out)).trans HX.out
              have HX3 := Lib.hid hx3
              have HB3 := Lib.hid (HB.out.trans (hb.mono HB.out.size))
              clear hb hx3
              go_wp2_with fail
              go_roundw
              case rel => exact ⟨k + 1, by go_num, by omega, HJ2, HB3, HX3⟩
              case measure => simp [intOf]; omega
          · have hltz : ¬ (k : Int) < (n : Int) := by omega
            have HAL : Hid (R = decide (0 < n ∧ n ≤ 32 ∧ spanS L 0 = n)) := Lib.hid (by
              have h1 : L.all ndR = true := by
                rw [List.all_eq_true]
                intro y hy
                obtain ⟨j, hj, e⟩ := List.getElem_of_mem hy
                rw [← e]; exact HJ.out j hj (by have := HN.out; omega)
              rw [HRR.out, h1, Bool.true_and])
            have k0 := cell_regrown q0
            have k1 := cell_regrown q1
            rcases (by omega : n = 0 ∨ (0 < n ∧ 32 < n) ∨ (0 < n ∧ n ≤ 32)) with h0 | ⟨h0, h32⟩ | ⟨h0, h32⟩
            · have z0 : ¬ (0 : Int) < (n : Int) := by omega
              have zd : decide (0 < n) = false := decide_eq_false (by omega)
              have HF : Hid (R = false) := Lib.hid (by rw [HAL.out, decide_eq_false (by omega)])
              clear h0
              go_upto_region 8 with (fail)
              clear q0 q1
              refine wp_region_quiet_below (by kernel_rfl) (by kernel_rfl) ?_
              repeat (quiet_step (fail))
              refine wpQuiet_nil ?_
              intro _ hw'
              obtain ⟨⟨dq, osq⟩, hw''⟩ := hw'
              subst hw''
              go_wp2_with fail
              go_ret
              exact ⟨by rw [HF.out]; rfl, HB.out.trans ((below_regrown _ _ _).mono HB.out.size)⟩
            · have z0 : (0 : Int) < (n : Int) := by omega
              have z1 : ¬ (n : Int) ≤ 32 := by omega
              have HF : Hid (R = false) := Lib.hid (by rw [HAL.out, decide_eq_false (by omega)])
              go_upto_region 8 with (fail)
              clear q0 q1
              refine wp_region_quiet_below (by kernel_rfl) (by kernel_rfl) ?_
              repeat (quiet_step (fail))
              refine wpQuiet_nil ?_
              intro _ hw'
              obtain ⟨⟨dq, osq⟩, hw''⟩ := hw'
              subst hw''
              go_wp2_with fail
              go_ret
              exact ⟨by rw [HF.out]; rfl, HB.out.trans ((below_regrown _ _ _).mono HB.out.size)⟩
            · have z0 : (0 : Int) < (n : Int) := by omega
              have z1 : (n : Int) ≤ 32 := by omega
              obtain ⟨sp, hsp⟩ : ∃ sp, spanS L 0 = sp := ⟨_, rfl⟩
              rw [hsp] at SP HAL
              have bel : ∀ d os, Below w.heap.size w (grow (redrawn wr d) os) := fun d os => HB.out.trans ((below_regrown wr d os).mono HB.out.size)
              have cS : ∀ d os, Calls Try.prog 28 #[.agg #[.string ⟨(c1 :: r1).toArray⟩, .slice a n c], .int .i64 0] (grow (redrawn wr d) os) fun e w'' => e = .returned (.int .i64 (sp : Int)) ∧ ∃ p : Regrown, w'' = grow (redrawn wr p.d) p.os := fun d os => Calls.regrown_of (SP.out (by omega) _ (bel d os))
              clear hsp bel
              by_cases hs1 : sp = n
              · have zs : ((sp : Int) == (n : Int)) = true := by rw [hs1]; simp
                have HF : Hid (R = true) := Lib.hid (by rw [HAL.out, decide_eq_true ⟨h0, h32, hs1⟩])
                clear hs1
                go_upto_region 8 with (fail)
                clear q0 q1
                refine wp_region_quiet_below (by kernel_rfl) (by kernel_rfl) ?_
                repeat (quiet_step (exact cS _ _))
                refine wpQuiet_nil ?_
                intro _ hw'
                obtain ⟨⟨dq, osq⟩, hw''⟩ := hw'
                subst hw''
                go_wp2_with fail
                go_ret
                exact ⟨by rw [HF.out]; rfl, HB.out.trans ((below_regrown _ _ _).mono HB.out.size)⟩
              · have zs : ((sp : Int) == (n : Int)) = false := by rw [beq_eq_false_iff_ne]; omega
                have HF : Hid (R = false) := Lib.hid (by rw [HAL.out, decide_eq_false (fun g => hs1 g.2.2)])
                clear hs1
                go_upto_region 8 with (fail)
                clear q0 q1
                refine wp_region_quiet_below (by kernel_rfl) (by kernel_rfl) ?_
                repeat (quiet_step (exact cS _ _))
                refine wpQuiet_nil ?_
                intro _ hw'
                obtain ⟨⟨dq, osq⟩, hw''⟩ := hw'
                subst hw''
                go_wp2_with fail
                go_ret
                exact ⟨by rw [HF.out]; rfl, HB.out.trans ((below_regrown _ _ _).mono HB.out.size)⟩
      · have HF : Hid (R = false) := Lib.hid (by rw [HRR0.out]; rfl)
        go_enter Try.func18, Try.ntmps18
        go_wp2_with fail
        refine (NM.out _).mono ?_
        rintro e wq ⟨rfl, rfl⟩
        go_wp2_with fail
        refine (RS.out _).mono ?_
        rintro e wq ⟨rfl, rfl⟩
        go_wp2_with fail
        go_ret
        exact ⟨by rw [HF.out]; rfl, HB0.out⟩
end Go.Proofs.Ytoaenlbbochjhaa
