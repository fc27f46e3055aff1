/- Joined texts: QryW2 QryW3 QryW4. -/
import Derived.Test.YtoaenlbbochjhaaQryW1
import Derived.IntWalk
namespace Go.Proofs.Ytoaenlbbochjhaa
open Go.RowKit FixM FixP TreN QryP
set_option linter.unusedVariables false

set_option maxRecDepth 100000 in
set_option maxHeartbeats 8000000 in
theorem fit8_any (k c f a1 a2 a3 b1 b2 b3 : Int) (w : World) : Calls Try.prog 49 #[.agg #[.int .i64 k, .int .i64 c, .int .i64 f, .int .i64 a1, .int .i64 a2, .int .i64 a3, .int .i64 b1, .int .i64 b2, .int .i64 b3]] w fun e w' => e = .returned (.bool (ftC ⟨k, c, f, ⟨a1, a2, a3⟩, ⟨b1, b2, b3⟩⟩)) ∧ Below w.heap.size w w' := by
  have HB0 := Lib.hid (below_oneQ w (.cells #[.int .i64 k, .int .i64 c, .int .i64 f, .int .i64 a1, .int .i64 a2, .int .i64 a3, .int .i64 b1, .int .i64 b2, .int .i64 b3] 39))
  have hx := heap_alloc_new w (.cells #[.int .i64 k, .int .i64 c, .int .i64 f, .int .i64 a1, .int .i64 a2, .int .i64 a3, .int .i64 b1, .int .i64 b2, .int .i64 b3] 39)
  generalize hW : w.alloc (.cells #[.int .i64 k, .int .i64 c, .int .i64 f, .int .i64 a1, .int .i64 a2, .int .i64 a3, .int .i64 b1, .int .i64 b2, .int .i64 b3] 39) = W at *
  have HX0 := Lib.hid hx
  obtain ⟨d0, d1, d2, d3, d4, d5, d6, d7, d8⟩ := qn_cells hx
  clear hx
  have TH := Lib.hid (fun W => there8_any b1 b2 b3 W)
  have TL := Lib.hid (fun W => there8_any a1 a2 a3 W)
  have VH := Lib.hid (fun W => valued8_any f b1 b2 b3 W)
  have VL := Lib.hid (fun W => valued8_any f a1 a2 a3 W)
  have ON := Lib.hid (fun W => oneWay8_any a1 b1 W)
  unfold ftC
  simp only []
  generalize thrB ⟨b1, b2, b3⟩ = th at *
  generalize thrB ⟨a1, a2, a3⟩ = tl at *
  generalize vlC f ⟨b1, b2, b3⟩ = vh at *
  generalize vlC f ⟨a1, a2, a3⟩ = vl at *
  generalize onC a1 b1 = on at *
  rcases (by omega : f < 1 ∨ (¬ f < 1 ∧ 6 < f) ∨ (¬ f < 1 ∧ ¬ 6 < f)) with hf1 | ⟨hf1, hf2⟩ | ⟨hf1, hf2⟩
  · rw [if_pos (Or.inl hf1)]
    go_enter Try.func49, Try.ntmps49
    go_wp2_with fail
    go_ret
    refine ⟨ret_bool ?_, HB0.out⟩
    first | rfl | (simp; done) | (simp; omega)
  · rw [if_pos (Or.inr hf2)]
    go_enter Try.func49, Try.ntmps49
    go_wp2_with fail
    go_ret
    refine ⟨ret_bool ?_, HB0.out⟩
    first | rfl | (simp; done) | (simp; omega)
  · rw [if_neg (by omega)]
    cases th
    · rw [if_pos rfl]
      go_enter Try.func49, Try.ntmps49
      go_wp2_with fail
      refine (TH.out _).mono ?_
      rintro e w1 ⟨rfl, hb⟩
      have hx := (hb.block _ (blk_ltQ HX0.out)).trans HX0.out
      have HB1 := Lib.hid (HB0.out.trans (hb.mono HB0.out.size))
      have HX1 := Lib.hid hx
      obtain ⟨d0, d1, d2, d3, d4, d5, d6, d7, d8⟩ := qn_cells hx
      clear hb hx
      go_wp2_with fail
      refine (TL.out _).mono ?_
      rintro e w2 ⟨rfl, hb⟩
      have hx := (hb.block _ (blk_ltQ HX1.out)).trans HX1.out
      have HB2 := Lib.hid (HB1.out.trans (hb.mono HB1.out.size))
      have HX2 := Lib.hid hx
      obtain ⟨d0, d1, d2, d3, d4, d5, d6, d7, d8⟩ := qn_cells hx
      clear hb hx
      go_wp2_with fail
      go_ret
      refine ⟨ret_bool ?_, HB2.out⟩
      first | rfl | (simp; done) | (simp; omega)
    · rw [if_neg (show ¬ (true = false) by decide)]
      by_cases h6 : f = 6
      · have z6 : (f == 6) = true := by rw [h6]; rfl
        rw [if_pos h6]
        clear h6
        cases tl
        · by_cases h3 : b1 = 3
          · have z3 : (b1 == 3) = true := by rw [h3]; rfl
            rw [decide_eq_true h3]
            clear h3
            go_enter Try.func49, Try.ntmps49
            go_wp2_with fail
            refine (TH.out _).mono ?_
            rintro e w1 ⟨rfl, hb⟩
            have hx := (hb.block _ (blk_ltQ HX0.out)).trans HX0.out
            have HB1 := Lib.hid (HB0.out.trans (hb.mono HB0.out.size))
            have HX1 := Lib.hid hx
            obtain ⟨d0, d1, d2, d3, d4, d5, d6, d7, d8⟩ := qn_cells hx
            clear hb hx
            go_wp2_with fail
            refine (TL.out _).mono ?_
            rintro e w2 ⟨rfl, hb⟩
            have hx := (hb.block _ (blk_ltQ HX1.out)).trans HX1.out
            have HB2 := Lib.hid (HB1.out.trans (hb.mono HB1.out.size))
            have HX2 := Lib.hid hx
            obtain ⟨d0, d1, d2, d3, d4, d5, d6, d7, d8⟩ := qn_cells hx
            clear hb hx
            go_wp2_with fail
            refine (VH.out _).mono ?_
            rintro e w3 ⟨rfl, hb⟩
            have hx := (hb.block _ (blk_ltQ HX2.out)).trans HX2.out
            have HB3 := Lib.hid (HB2.out.trans (hb.mono HB2.out.size))
            have HX3 := Lib.hid hx
            obtain ⟨d0, d1, d2, d3, d4, d5, d6, d7, d8⟩ := qn_cells hx
            clear hb hx
            go_wp2_with fail
            go_ret
            refine ⟨ret_bool ?_, HB3.out⟩
            first | rfl | (simp; done) | (simp; omega)
          · have z3 : (b1 == 3) = false := by rw [beq_eq_false_iff_ne]; exact h3
            rw [decide_eq_false h3]
            clear h3
            go_enter Try.func49, Try.ntmps49
            go_wp2_with fail
            refine (TH.out _).mono ?_
            rintro e w1 ⟨rfl, hb⟩
            have hx := (hb.block _ (blk_ltQ HX0.out)).trans HX0.out
            have HB1 := Lib.hid (HB0.out.trans (hb.mono HB0.out.size))
            have HX1 := Lib.hid hx
            obtain ⟨d0, d1, d2, d3, d4, d5, d6, d7, d8⟩ := qn_cells hx
            clear hb hx
            go_wp2_with fail
            refine (TL.out _).mono ?_
            rintro e w2 ⟨rfl, hb⟩
            have hx := (hb.block _ (blk_ltQ HX1.out)).trans HX1.out
            have HB2 := Lib.hid (HB1.out.trans (hb.mono HB1.out.size))
            have HX2 := Lib.hid hx
            obtain ⟨d0, d1, d2, d3, d4, d5, d6, d7, d8⟩ := qn_cells hx
            clear hb hx
            go_wp2_with fail
            go_ret
            refine ⟨ret_bool ?_, HB2.out⟩
            first | rfl | (simp; done) | (simp; omega)
        · skip
          go_enter Try.func49, Try.ntmps49
          go_wp2_with fail
          refine (TH.out _).mono ?_
          rintro e w1 ⟨rfl, hb⟩
          have hx := (hb.block _ (blk_ltQ HX0.out)).trans HX0.out
          have HB1 := Lib.hid (HB0.out.trans (hb.mono HB0.out.size))
          have HX1 := Lib.hid hx
          obtain ⟨d0, d1, d2, d3, d4, d5, d6, d7, d8⟩ := qn_cells hx
          clear hb hx
          go_wp2_with fail
          refine (TL.out _).mono ?_
          rintro e w2 ⟨rfl, hb⟩
          have hx := (hb.block _ (blk_ltQ HX1.out)).trans HX1.out
          have HB2 := Lib.hid (HB1.out.trans (hb.mono HB1.out.size))
          have HX2 := Lib.hid hx
          obtain ⟨d0, d1, d2, d3, d4, d5, d6, d7, d8⟩ := qn_cells hx
          clear hb hx
          go_wp2_with fail
          go_ret
          refine ⟨ret_bool ?_, HB2.out⟩
          first | rfl | (simp; done) | (simp; omega)
      · have z6 : (f == 6) = false := by rw [beq_eq_false_iff_ne]; exact h6
        rw [if_neg h6]
        clear h6
        cases tl
        · rw [if_pos rfl]
          by_cases h1 : 1 ≤ b1
          · rw [decide_eq_true h1]
            by_cases h5 : b1 ≤ 5
            · rw [decide_eq_true h5]
              go_enter Try.func49, Try.ntmps49
              go_wp2_with fail
              refine (TH.out _).mono ?_
              rintro e w1 ⟨rfl, hb⟩
              have hx := (hb.block _ (blk_ltQ HX0.out)).trans HX0.out
              have HB1 := Lib.hid (HB0.out.trans (hb.mono HB0.out.size))
              have HX1 := Lib.hid hx
              obtain ⟨d0, d1, d2, d3, d4, d5, d6, d7, d8⟩ := qn_cells hx
              clear hb hx
              go_wp2_with fail
              refine (TL.out _).mono ?_
              rintro e w2 ⟨rfl, hb⟩
              have hx := (hb.block _ (blk_ltQ HX1.out)).trans HX1.out
              have HB2 := Lib.hid (HB1.out.trans (hb.mono HB1.out.size))
              have HX2 := Lib.hid hx
              obtain ⟨d0, d1, d2, d3, d4, d5, d6, d7, d8⟩ := qn_cells hx
              clear hb hx
              go_wp2_with fail
              refine (VH.out _).mono ?_
              rintro e w3 ⟨rfl, hb⟩
              have hx := (hb.block _ (blk_ltQ HX2.out)).trans HX2.out
              have HB3 := Lib.hid (HB2.out.trans (hb.mono HB2.out.size))
              have HX3 := Lib.hid hx
              obtain ⟨d0, d1, d2, d3, d4, d5, d6, d7, d8⟩ := qn_cells hx
              clear hb hx
              go_wp2_with fail
              go_ret
              refine ⟨ret_bool ?_, HB3.out⟩
              first | rfl | (simp; done) | (simp; omega)
            · rw [decide_eq_false h5]
              go_enter Try.func49, Try.ntmps49
              go_wp2_with fail
              refine (TH.out _).mono ?_
              rintro e w1 ⟨rfl, hb⟩
              have hx := (hb.block _ (blk_ltQ HX0.out)).trans HX0.out
              have HB1 := Lib.hid (HB0.out.trans (hb.mono HB0.out.size))
              have HX1 := Lib.hid hx
              obtain ⟨d0, d1, d2, d3, d4, d5, d6, d7, d8⟩ := qn_cells hx
              clear hb hx
              go_wp2_with fail
              refine (TL.out _).mono ?_
              rintro e w2 ⟨rfl, hb⟩
              have hx := (hb.block _ (blk_ltQ HX1.out)).trans HX1.out
              have HB2 := Lib.hid (HB1.out.trans (hb.mono HB1.out.size))
              have HX2 := Lib.hid hx
              obtain ⟨d0, d1, d2, d3, d4, d5, d6, d7, d8⟩ := qn_cells hx
              clear hb hx
              go_wp2_with fail
              go_ret
              refine ⟨ret_bool ?_, HB2.out⟩
              first | rfl | (simp; done) | (simp; omega)
          · rw [decide_eq_false h1]
            go_enter Try.func49, Try.ntmps49
            go_wp2_with fail
            refine (TH.out _).mono ?_
            rintro e w1 ⟨rfl, hb⟩
            have hx := (hb.block _ (blk_ltQ HX0.out)).trans HX0.out
            have HB1 := Lib.hid (HB0.out.trans (hb.mono HB0.out.size))
            have HX1 := Lib.hid hx
            obtain ⟨d0, d1, d2, d3, d4, d5, d6, d7, d8⟩ := qn_cells hx
            clear hb hx
            go_wp2_with fail
            refine (TL.out _).mono ?_
            rintro e w2 ⟨rfl, hb⟩
            have hx := (hb.block _ (blk_ltQ HX1.out)).trans HX1.out
            have HB2 := Lib.hid (HB1.out.trans (hb.mono HB1.out.size))
            have HX2 := Lib.hid hx
            obtain ⟨d0, d1, d2, d3, d4, d5, d6, d7, d8⟩ := qn_cells hx
            clear hb hx
            go_wp2_with fail
            go_ret
            refine ⟨ret_bool ?_, HB2.out⟩
            first | rfl | (simp; done) | (simp; omega)
        · rw [if_neg (show ¬ (true = false) by decide)]
          cases on
          · skip
            go_enter Try.func49, Try.ntmps49
            go_wp2_with fail
            refine (TH.out _).mono ?_
            rintro e w1 ⟨rfl, hb⟩
            have hx := (hb.block _ (blk_ltQ HX0.out)).trans HX0.out
            have HB1 := Lib.hid (HB0.out.trans (hb.mono HB0.out.size))
            have HX1 := Lib.hid hx
            obtain ⟨d0, d1, d2, d3, d4, d5, d6, d7, d8⟩ := qn_cells hx
            clear hb hx
            go_wp2_with fail
            refine (TL.out _).mono ?_
            rintro e w2 ⟨rfl, hb⟩
            have hx := (hb.block _ (blk_ltQ HX1.out)).trans HX1.out
            have HB2 := Lib.hid (HB1.out.trans (hb.mono HB1.out.size))
            have HX2 := Lib.hid hx
            obtain ⟨d0, d1, d2, d3, d4, d5, d6, d7, d8⟩ := qn_cells hx
            clear hb hx
            go_wp2_with fail
            refine (ON.out _).mono ?_
            rintro e wq ⟨rfl, rfl⟩
            go_wp2_with fail
            go_ret
            refine ⟨ret_bool ?_, HB2.out⟩
            first | rfl | (simp; done) | (simp; omega)
          · cases vl
            · skip
              go_enter Try.func49, Try.ntmps49
              go_wp2_with fail
              refine (TH.out _).mono ?_
              rintro e w1 ⟨rfl, hb⟩
              have hx := (hb.block _ (blk_ltQ HX0.out)).trans HX0.out
              have HB1 := Lib.hid (HB0.out.trans (hb.mono HB0.out.size))
              have HX1 := Lib.hid hx
              obtain ⟨d0, d1, d2, d3, d4, d5, d6, d7, d8⟩ := qn_cells hx
              clear hb hx
              go_wp2_with fail
              refine (TL.out _).mono ?_
              rintro e w2 ⟨rfl, hb⟩
              have hx := (hb.block _ (blk_ltQ HX1.out)).trans HX1.out
              have HB2 := Lib.hid (HB1.out.trans (hb.mono HB1.out.size))
              have HX2 := Lib.hid hx
              obtain ⟨d0, d1, d2, d3, d4, d5, d6, d7, d8⟩ := qn_cells hx
              clear hb hx
              go_wp2_with fail
              refine (ON.out _).mono ?_
              rintro e wq ⟨rfl, rfl⟩
              go_wp2_with fail
              refine (VL.out _).mono ?_
              rintro e w3 ⟨rfl, hb⟩
              have hx := (hb.block _ (blk_ltQ HX2.out)).trans HX2.out
              have HB3 := Lib.hid (HB2.out.trans (hb.mono HB2.out.size))
              have HX3 := Lib.hid hx
              obtain ⟨d0, d1, d2, d3, d4, d5, d6, d7, d8⟩ := qn_cells hx
              clear hb hx
              go_wp2_with fail
              go_ret
              refine ⟨ret_bool ?_, HB3.out⟩
              first | rfl | (simp; done) | (simp; omega)
            · skip
              go_enter Try.func49, Try.ntmps49
              go_wp2_with fail
              refine (TH.out _).mono ?_
              rintro e w1 ⟨rfl, hb⟩
              have hx := (hb.block _ (blk_ltQ HX0.out)).trans HX0.out
              have HB1 := Lib.hid (HB0.out.trans (hb.mono HB0.out.size))
              have HX1 := Lib.hid hx
              obtain ⟨d0, d1, d2, d3, d4, d5, d6, d7, d8⟩ := qn_cells hx
              clear hb hx
              go_wp2_with fail
              refine (TL.out _).mono ?_
              rintro e w2 ⟨rfl, hb⟩
              have hx := (hb.block _ (blk_ltQ HX1.out)).trans HX1.out
              have HB2 := Lib.hid (HB1.out.trans (hb.mono HB1.out.size))
              have HX2 := Lib.hid hx
              obtain ⟨d0, d1, d2, d3, d4, d5, d6, d7, d8⟩ := qn_cells hx
              clear hb hx
              go_wp2_with fail
              refine (ON.out _).mono ?_
              rintro e wq ⟨rfl, rfl⟩
              go_wp2_with fail
              refine (VL.out _).mono ?_
              rintro e w3 ⟨rfl, hb⟩
              have hx := (hb.block _ (blk_ltQ HX2.out)).trans HX2.out
              have HB3 := Lib.hid (HB2.out.trans (hb.mono HB2.out.size))
              have HX3 := Lib.hid hx
              obtain ⟨d0, d1, d2, d3, d4, d5, d6, d7, d8⟩ := qn_cells hx
              clear hb hx
              go_wp2_with fail
              refine (VH.out _).mono ?_
              rintro e w4 ⟨rfl, hb⟩
              have hx := (hb.block _ (blk_ltQ HX3.out)).trans HX3.out
              have HB4 := Lib.hid (HB3.out.trans (hb.mono HB3.out.size))
              have HX4 := Lib.hid hx
              obtain ⟨d0, d1, d2, d3, d4, d5, d6, d7, d8⟩ := qn_cells hx
              clear hb hx
              go_wp2_with fail
              go_ret
              refine ⟨ret_bool ?_, HB4.out⟩
              first | rfl | (simp; done) | (simp; omega)

set_option maxRecDepth 100000 in
set_option maxHeartbeats 8000000 in
theorem right8_any (k c f a1 a2 a3 b1 b2 b3 : Int) (w : World) : Calls Try.prog 34 #[.agg #[.int .i64 k, .int .i64 c, .int .i64 f, .int .i64 a1, .int .i64 a2, .int .i64 a3, .int .i64 b1, .int .i64 b2, .int .i64 b3]] w fun e w' => e = .returned (.bool (ndC ⟨k, c, f, ⟨a1, a2, a3⟩, ⟨b1, b2, b3⟩⟩)) ∧ Below w.heap.size w w' := by
  have HB0 := Lib.hid (below_oneQ w (.cells #[.int .i64 k, .int .i64 c, .int .i64 f, .int .i64 a1, .int .i64 a2, .int .i64 a3, .int .i64 b1, .int .i64 b2, .int .i64 b3] 39))
  have hx := heap_alloc_new w (.cells #[.int .i64 k, .int .i64 c, .int .i64 f, .int .i64 a1, .int .i64 a2, .int .i64 a3, .int .i64 b1, .int .i64 b2, .int .i64 b3] 39)
  generalize hW : w.alloc (.cells #[.int .i64 k, .int .i64 c, .int .i64 f, .int .i64 a1, .int .i64 a2, .int .i64 a3, .int .i64 b1, .int .i64 b2, .int .i64 b3] 39) = W at *
  have HX0 := Lib.hid hx
  obtain ⟨d0, d1, d2, d3, d4, d5, d6, d7, d8⟩ := qn_cells hx
  clear hx
  have TH := Lib.hid (fun W => there8_any b1 b2 b3 W)
  have TL := Lib.hid (fun W => there8_any a1 a2 a3 W)
  have FT := Lib.hid (fun W => fit8_any k c f a1 a2 a3 b1 b2 b3 W)
  unfold ndC
  simp only []
  generalize thrB ⟨b1, b2, b3⟩ = th at *
  generalize thrB ⟨a1, a2, a3⟩ = tl at *
  generalize ftC ⟨k, c, f, ⟨a1, a2, a3⟩, ⟨b1, b2, b3⟩⟩ = ft at *
  by_cases h4 : k = 4
  · have z4 : (k == 4) = true := by rw [h4]; rfl
    rw [if_pos h4]
    clear h4
    by_cases hc : c = 0
    · have zc : (c == 0) = true := by rw [hc]; rfl
      rw [decide_eq_true hc]
      clear hc
      go_enter Try.func34, Try.ntmps34
      go_wp2_with fail
      refine (FT.out _).mono ?_
      rintro e w1 ⟨rfl, hb⟩
      have hx := (hb.block _ (blk_ltQ HX0.out)).trans HX0.out
      have HB1 := Lib.hid (HB0.out.trans (hb.mono HB0.out.size))
      have HX1 := Lib.hid hx
      obtain ⟨d0, d1, d2, d3, d4, d5, d6, d7, d8⟩ := qn_cells hx
      clear hb hx
      go_wp2_with fail
      go_ret
      refine ⟨ret_bool ?_, HB1.out⟩
      first | rfl | (simp; done) | (simp; omega)
    · have zc : (c == 0) = false := by rw [beq_eq_false_iff_ne]; exact hc
      rw [decide_eq_false hc]
      clear hc
      go_enter Try.func34, Try.ntmps34
      go_wp2_with fail
      go_ret
      refine ⟨ret_bool ?_, HB0.out⟩
      first | rfl | (simp; done) | (simp; omega)
  · have z4 : (k == 4) = false := by rw [beq_eq_false_iff_ne]; exact h4
    rw [if_neg h4]
    clear h4
    by_cases hf : f = 0
    · have zf : (f != 0) = false := by rw [hf]; rfl
      cases tl
      · cases th
        · rw [if_neg (by simp [hf])]
          clear hf
          by_cases h3 : k = 3
          · have z3 : (k == 3) = true := by rw [h3]; rfl
            rw [if_pos h3]
            clear h3
            by_cases hc : c = 1
            · have zc : (c == 1) = true := by rw [hc]; rfl
              rw [decide_eq_true hc]
              clear hc
              go_enter Try.func34, Try.ntmps34
              go_wp2_with fail
              refine (TL.out _).mono ?_
              rintro e w1 ⟨rfl, hb⟩
              have hx := (hb.block _ (blk_ltQ HX0.out)).trans HX0.out
              have HB1 := Lib.hid (HB0.out.trans (hb.mono HB0.out.size))
              have HX1 := Lib.hid hx
              obtain ⟨d0, d1, d2, d3, d4, d5, d6, d7, d8⟩ := qn_cells hx
              clear hb hx
              go_wp2_with fail
              refine (TH.out _).mono ?_
              rintro e w2 ⟨rfl, hb⟩
              have hx := (hb.block _ (blk_ltQ HX1.out)).trans HX1.out
              have HB2 := Lib.hid (HB1.out.trans (hb.mono HB1.out.size))
              have HX2 := Lib.hid hx
              obtain ⟨d0, d1, d2, d3, d4, d5, d6, d7, d8⟩ := qn_cells hx
              clear hb hx
              go_wp2_with fail
              go_ret
              refine ⟨ret_bool ?_, HB2.out⟩
              first | rfl | (simp; done) | (simp; omega)
            · have zc : (c == 1) = false := by rw [beq_eq_false_iff_ne]; exact hc
              rw [decide_eq_false hc]
              clear hc
              go_enter Try.func34, Try.ntmps34
              go_wp2_with fail
              refine (TL.out _).mono ?_
              rintro e w1 ⟨rfl, hb⟩
              have hx := (hb.block _ (blk_ltQ HX0.out)).trans HX0.out
              have HB1 := Lib.hid (HB0.out.trans (hb.mono HB0.out.size))
              have HX1 := Lib.hid hx
              obtain ⟨d0, d1, d2, d3, d4, d5, d6, d7, d8⟩ := qn_cells hx
              clear hb hx
              go_wp2_with fail
              refine (TH.out _).mono ?_
              rintro e w2 ⟨rfl, hb⟩
              have hx := (hb.block _ (blk_ltQ HX1.out)).trans HX1.out
              have HB2 := Lib.hid (HB1.out.trans (hb.mono HB1.out.size))
              have HX2 := Lib.hid hx
              obtain ⟨d0, d1, d2, d3, d4, d5, d6, d7, d8⟩ := qn_cells hx
              clear hb hx
              go_wp2_with fail
              go_ret
              refine ⟨ret_bool ?_, HB2.out⟩
              first | rfl | (simp; done) | (simp; omega)
          · have z3 : (k == 3) = false := by rw [beq_eq_false_iff_ne]; exact h3
            rw [if_neg h3]
            clear h3
            by_cases hc : 2 ≤ c
            · rw [decide_eq_true hc]
              go_enter Try.func34, Try.ntmps34
              go_wp2_with fail
              refine (TL.out _).mono ?_
              rintro e w1 ⟨rfl, hb⟩
              have hx := (hb.block _ (blk_ltQ HX0.out)).trans HX0.out
              have HB1 := Lib.hid (HB0.out.trans (hb.mono HB0.out.size))
              have HX1 := Lib.hid hx
              obtain ⟨d0, d1, d2, d3, d4, d5, d6, d7, d8⟩ := qn_cells hx
              clear hb hx
              go_wp2_with fail
              refine (TH.out _).mono ?_
              rintro e w2 ⟨rfl, hb⟩
              have hx := (hb.block _ (blk_ltQ HX1.out)).trans HX1.out
              have HB2 := Lib.hid (HB1.out.trans (hb.mono HB1.out.size))
              have HX2 := Lib.hid hx
              obtain ⟨d0, d1, d2, d3, d4, d5, d6, d7, d8⟩ := qn_cells hx
              clear hb hx
              go_wp2_with fail
              go_ret
              refine ⟨ret_bool ?_, HB2.out⟩
              first | rfl | (simp; done) | (simp; omega)
            · rw [decide_eq_false hc]
              go_enter Try.func34, Try.ntmps34
              go_wp2_with fail
              refine (TL.out _).mono ?_
              rintro e w1 ⟨rfl, hb⟩
              have hx := (hb.block _ (blk_ltQ HX0.out)).trans HX0.out
              have HB1 := Lib.hid (HB0.out.trans (hb.mono HB0.out.size))
              have HX1 := Lib.hid hx
              obtain ⟨d0, d1, d2, d3, d4, d5, d6, d7, d8⟩ := qn_cells hx
              clear hb hx
              go_wp2_with fail
              refine (TH.out _).mono ?_
              rintro e w2 ⟨rfl, hb⟩
              have hx := (hb.block _ (blk_ltQ HX1.out)).trans HX1.out
              have HB2 := Lib.hid (HB1.out.trans (hb.mono HB1.out.size))
              have HX2 := Lib.hid hx
              obtain ⟨d0, d1, d2, d3, d4, d5, d6, d7, d8⟩ := qn_cells hx
              clear hb hx
              go_wp2_with fail
              go_ret
              refine ⟨ret_bool ?_, HB2.out⟩
              first | rfl | (simp; done) | (simp; omega)
        · rw [if_pos (Or.inr (Or.inr rfl))]
          clear hf
          go_enter Try.func34, Try.ntmps34
          go_wp2_with fail
          refine (TL.out _).mono ?_
          rintro e w1 ⟨rfl, hb⟩
          have hx := (hb.block _ (blk_ltQ HX0.out)).trans HX0.out
          have HB1 := Lib.hid (HB0.out.trans (hb.mono HB0.out.size))
          have HX1 := Lib.hid hx
          obtain ⟨d0, d1, d2, d3, d4, d5, d6, d7, d8⟩ := qn_cells hx
          clear hb hx
          go_wp2_with fail
          refine (TH.out _).mono ?_
          rintro e w2 ⟨rfl, hb⟩
          have hx := (hb.block _ (blk_ltQ HX1.out)).trans HX1.out
          have HB2 := Lib.hid (HB1.out.trans (hb.mono HB1.out.size))
          have HX2 := Lib.hid hx
          obtain ⟨d0, d1, d2, d3, d4, d5, d6, d7, d8⟩ := qn_cells hx
          clear hb hx
          go_wp2_with fail
          go_ret
          refine ⟨ret_bool ?_, HB2.out⟩
          first | rfl | (simp; done) | (simp; omega)
      · rw [if_pos (Or.inr (Or.inl rfl))]
        clear hf
        go_enter Try.func34, Try.ntmps34
        go_wp2_with fail
        refine (TL.out _).mono ?_
        rintro e w1 ⟨rfl, hb⟩
        have hx := (hb.block _ (blk_ltQ HX0.out)).trans HX0.out
        have HB1 := Lib.hid (HB0.out.trans (hb.mono HB0.out.size))
        have HX1 := Lib.hid hx
        obtain ⟨d0, d1, d2, d3, d4, d5, d6, d7, d8⟩ := qn_cells hx
        clear hb hx
        go_wp2_with fail
        go_ret
        refine ⟨ret_bool ?_, HB1.out⟩
        first | rfl | (simp; done) | (simp; omega)
    · have zf : (f != 0) = true := by simp [hf]
      rw [if_pos (Or.inl hf)]
      clear hf
      go_enter Try.func34, Try.ntmps34
      go_wp2_with fail
      go_ret
      refine ⟨ret_bool ?_, HB0.out⟩
      first | rfl | (simp; done) | (simp; omega)

set_option maxRecDepth 100000 in
set_option maxHeartbeats 4000000 in
theorem odd8_any (k c f a1 a2 a3 b1 b2 b3 : Int) (w : World) : Calls Try.prog 33 #[.agg #[.int .i64 k, .int .i64 c, .int .i64 f, .int .i64 a1, .int .i64 a2, .int .i64 a3, .int .i64 b1, .int .i64 b2, .int .i64 b3]] w fun e w' => e = .returned (.bool (!ndC ⟨k, c, f, ⟨a1, a2, a3⟩, ⟨b1, b2, b3⟩⟩)) ∧ Below w.heap.size w w' := by
  have HB0 := Lib.hid (below_oneQ w (.cells #[.int .i64 k, .int .i64 c, .int .i64 f, .int .i64 a1, .int .i64 a2, .int .i64 a3, .int .i64 b1, .int .i64 b2, .int .i64 b3] 39))
  have hx := heap_alloc_new w (.cells #[.int .i64 k, .int .i64 c, .int .i64 f, .int .i64 a1, .int .i64 a2, .int .i64 a3, .int .i64 b1, .int .i64 b2, .int .i64 b3] 39)
  generalize hW : w.alloc (.cells #[.int .i64 k, .int .i64 c, .int .i64 f, .int .i64 a1, .int .i64 a2, .int .i64 a3, .int .i64 b1, .int .i64 b2, .int .i64 b3] 39) = W at *
  have HX0 := Lib.hid hx
  obtain ⟨d0, d1, d2, d3, d4, d5, d6, d7, d8⟩ := qn_cells hx
  clear hx
  have RR := Lib.hid (fun W => right8_any k c f a1 a2 a3 b1 b2 b3 W)
  generalize ndC ⟨k, c, f, ⟨a1, a2, a3⟩, ⟨b1, b2, b3⟩⟩ = nd at *
  go_enter Try.func33, Try.ntmps33
  go_wp2_with fail
  refine (RR.out _).mono ?_
  rintro e w1 ⟨rfl, hb⟩
  have hx := (hb.block _ (blk_ltQ HX0.out)).trans HX0.out
  have HB1 := Lib.hid (HB0.out.trans (hb.mono HB0.out.size))
  have HX1 := Lib.hid hx
  obtain ⟨d0, d1, d2, d3, d4, d5, d6, d7, d8⟩ := qn_cells hx
  clear hb hx
  go_wp2_with fail
  go_ret
  refine ⟨ret_bool ?_, HB1.out⟩
  first | rfl | (simp; done) | (simp; omega)

/-- how many parts a node has, and whether there is such a kind -/
def kidsV (x : QN) : Value := match cntQ x with | some n => .tuple #[.int .i64 (n : Int), .bool true] | none => .tuple #[.int .i64 0, .bool false]
set_option maxRecDepth 100000 in
set_option maxHeartbeats 4000000 in
theorem kids8_any (k c f a1 a2 a3 b1 b2 b3 : Int) (w : World) : Calls Try.prog 47 #[.agg #[.int .i64 k, .int .i64 c, .int .i64 f, .int .i64 a1, .int .i64 a2, .int .i64 a3, .int .i64 b1, .int .i64 b2, .int .i64 b3]] w fun e w' => e = .returned (kidsV ⟨k, c, f, ⟨a1, a2, a3⟩, ⟨b1, b2, b3⟩⟩) ∧ Below w.heap.size w w' := by
  have HB0 := Lib.hid (below_oneQ w (.cells #[.int .i64 k, .int .i64 c, .int .i64 f, .int .i64 a1, .int .i64 a2, .int .i64 a3, .int .i64 b1, .int .i64 b2, .int .i64 b3] 39))
  have hx := heap_alloc_new w (.cells #[.int .i64 k, .int .i64 c, .int .i64 f, .int .i64 a1, .int .i64 a2, .int .i64 a3, .int .i64 b1, .int .i64 b2, .int .i64 b3] 39)
  generalize hW : w.alloc (.cells #[.int .i64 k, .int .i64 c, .int .i64 f, .int .i64 a1, .int .i64 a2, .int .i64 a3, .int .i64 b1, .int .i64 b2, .int .i64 b3] 39) = W at *
  have HX0 := Lib.hid hx
  obtain ⟨d0, d1, d2, d3, d4, d5, d6, d7, d8⟩ := qn_cells hx
  clear hx
  unfold kidsV
  by_cases h1 : k = 1
  · have hq : cntQ ⟨k, c, f, ⟨a1, a2, a3⟩, ⟨b1, b2, b3⟩⟩ = some c.toNat := by unfold cntQ; rw [if_pos (Or.inl h1)]
    have z1 : (k == 1) = true := by rw [h1]; rfl
    have e : (c.toNat : Int) = max c 0 := by omega
    rw [hq]
    simp only []
    rw [e]
    clear hq h1 e
    go_enter Try.func47, Try.ntmps47
    go_wp2_with fail
    go_ret2
    refine ⟨?_, HB0.out⟩
    first | rfl | (simp; done) | (simp; omega)
  · have z1 : (k == 1) = false := by rw [beq_eq_false_iff_ne]; exact h1
    by_cases h2 : k = 2
    · have hq : cntQ ⟨k, c, f, ⟨a1, a2, a3⟩, ⟨b1, b2, b3⟩⟩ = some c.toNat := by unfold cntQ; rw [if_pos (Or.inr h2)]
      have z2 : (k == 2) = true := by rw [h2]; rfl
      have e : (c.toNat : Int) = max c 0 := by omega
      rw [hq]
      simp only []
      rw [e]
      clear hq h1 h2 e
      go_enter Try.func47, Try.ntmps47
      go_wp2_with fail
      go_ret2
      refine ⟨?_, HB0.out⟩
      first | rfl | (simp; done) | (simp; omega)
    · have z2 : (k == 2) = false := by rw [beq_eq_false_iff_ne]; exact h2
      by_cases h3 : k = 3
      · have hq : cntQ ⟨k, c, f, ⟨a1, a2, a3⟩, ⟨b1, b2, b3⟩⟩ = some 1 := by unfold cntQ; rw [if_neg (by simp [h1, h2]), if_pos h3]
        have z3 : (k == 3) = true := by rw [h3]; rfl
        rw [hq]
        clear hq h1 h2 h3
        go_enter Try.func47, Try.ntmps47
        go_wp2_with fail
        go_ret2
        refine ⟨?_, HB0.out⟩
        first | rfl | (simp; done) | (simp; omega)
      · have z3 : (k == 3) = false := by rw [beq_eq_false_iff_ne]; exact h3
        by_cases h4 : k = 4
        · have hq : cntQ ⟨k, c, f, ⟨a1, a2, a3⟩, ⟨b1, b2, b3⟩⟩ = some 0 := by unfold cntQ; rw [if_neg (by simp [h1, h2]), if_neg h3, if_pos h4]
          have z4 : (k == 4) = true := by rw [h4]; rfl
          rw [hq]
          clear hq h1 h2 h3 h4
          go_enter Try.func47, Try.ntmps47
          go_wp2_with fail
          go_ret2
          refine ⟨?_, HB0.out⟩
          first | rfl | (simp; done) | (simp; omega)
        · have hq : cntQ ⟨k, c, f, ⟨a1, a2, a3⟩, ⟨b1, b2, b3⟩⟩ = none := by unfold cntQ; rw [if_neg (by simp [h1, h2]), if_neg h3, if_neg h4]
          have z4 : (k == 4) = false := by rw [beq_eq_false_iff_ne]; exact h4
          rw [hq]
          clear hq h1 h2 h3 h4
          go_enter Try.func47, Try.ntmps47
          go_wp2_with fail
          go_ret2
          refine ⟨?_, HB0.out⟩
          first | rfl | (simp; done) | (simp; omega)

set_option maxRecDepth 100000 in
set_option maxHeartbeats 1000000 in
theorem IndexFuncQ_any (q : Nat) (caps : Array Value) (p : QN → Bool) (eq : ∀ args w, (callFunc q args).run Try.prog w = .ok (.enter q args) w) (a : Option Addr) (l : List QN) (cap : Nat) (w : World)
    (hf : ∀ t ∈ l, ∀ W, Below w.heap.size w W → Calls Try.prog q (#[qnV t] ++ caps) W fun e W' => e = .returned (.bool (p t)) ∧ Below W.heap.size W W') (hl : l.length ≤ 100000) (hT : Qns w a l) :
    Calls Try.prog 51 #[.slice a l.length cap, .func (.func q) #[] caps] w fun e w' => (∃ z : Int, e = .returned (.int .i64 z) ∧ decide (0 ≤ z) = l.any p) ∧ Below w.heap.size w w' := by
  have HT := Lib.hid hT
  have HF := Lib.hid hf
  obtain ⟨n, hn⟩ : ∃ n, l.length = n := ⟨_, rfl⟩
  have HN := Lib.hid hn
  rw [hn] at hl ⊢
  clear hT hf hn
  go_enter Try.func51, Try.ntmps51
  go_wp2_with fail
  go_loopw [8] (fun vi wr => ∃ k : Nat, vi = .int .i64 (k : Int) ∧ k ≤ n ∧ Hid (Below w.heap.size w wr) ∧ Hid (∀ j (hj : j < l.length), j < k → p l[j] = false)) (fun vi _ => n - (intOf vi).toNat)
  case atStart => exact ⟨0, rfl, by omega, Lib.hid (Below.refl _ _), Lib.hid fun j hj h => by omega⟩
  case round =>
    obtain ⟨k, rfl, hk, HB, HJ⟩ := hrel
    by_cases hlt : k < n
    · have hltz : (k : Int) < (n : Int) := by omega
      have hkl : k < l.length := by have := HN.out; omega
      obtain ⟨b1, o1, rfl, g1, k1⟩ := HT.out.get hkl
      obtain ⟨⟨k0, c0, f0, ⟨a1, a2, a3⟩, ⟨b1', b2', b3'⟩⟩, ht⟩ : ∃ t, l[k] = t := ⟨_, rfl⟩
      rw [ht] at k1
      obtain ⟨d0, d1, d2, d3, d4, d5, d6, d7, d8⟩ := k1.below HB.out g1
      have hmem : (⟨k0, c0, f0, ⟨a1, a2, a3⟩, ⟨b1', b2', b3'⟩⟩ : QN) ∈ l := by rw [← ht]; exact List.getElem_mem hkl
      have C := fun W hW => HF.out ⟨k0, c0, f0, ⟨a1, a2, a3⟩, ⟨b1', b2', b3'⟩⟩ hmem W hW
      obtain ⟨tf, htf⟩ : ∃ b, p ⟨k0, c0, f0, ⟨a1, a2, a3⟩, ⟨b1', b2', b3'⟩⟩ = b := ⟨_, rfl⟩
      rw [htf] at C
      have CC := Lib.hid C
      have HTT := Lib.hid ht
      have HTF := Lib.hid htf
      have HMM := Lib.hid hmem
      clear k1 C ht htf hmem
      cases tf
      · go_wp2_with fail
        refine (CC.out _ HB.out).mono ?_
        rintro e w2 ⟨rfl, hb⟩
        have HB2 := Lib.hid (HB.out.trans (hb.mono HB.out.size))
        clear hb CC
        go_wp2_with fail
        go_roundw
        case rel =>
          refine ⟨k + 1, by go_num, by omega, HB2, Lib.hid fun j hj h => ?_⟩
          by_cases c : j = k
          · subst c; rw [HTT.out, HTF.out]
          · exact HJ.out j hj (by omega)
        case measure => simp [intOf]; omega
      · have HA : Hid (decide (0 ≤ (k : Int)) = l.any p) := Lib.hid (by
          have h1 : l.any p = true := by rw [List.any_eq_true]; exact ⟨_, HMM.out, HTF.out⟩
          rw [h1, decide_eq_true_eq]; omega)
        go_wp2_with fail
        refine (CC.out _ HB.out).mono ?_
        rintro e w2 ⟨rfl, hb⟩
        have HB2 := Lib.hid (HB.out.trans (hb.mono HB.out.size))
        clear hb CC
        go_wp2_with fail
        go_ret
        exact ⟨⟨_, rfl, HA.out⟩, HB2.out⟩
    · have HA : Hid (decide (0 ≤ (-1 : Int)) = l.any p) := Lib.hid (by
        have h1 : l.any p = false := by
          rw [List.any_eq_false]
          intro t ht
          obtain ⟨j, hj, e⟩ := List.getElem_of_mem ht
          have hn := HN.out
          rw [← e, HJ.out j hj (by omega)]; simp
        rw [h1]; rfl)
      have hltz : ¬ (k : Int) < (n : Int) := by omega
      go_wp2_with fail
      go_ret
      exact ⟨⟨_, rfl, HA.out⟩, HB.out⟩

set_option maxRecDepth 100000 in
set_option maxHeartbeats 1000000 in
theorem ContainsFuncQ_any (q : Nat) (caps : Array Value) (p : QN → Bool) (eq : ∀ args w, (callFunc q args).run Try.prog w = .ok (.enter q args) w) (a : Option Addr) (l : List QN) (cap : Nat) (w : World)
    (hf : ∀ t ∈ l, ∀ W, Below w.heap.size w W → Calls Try.prog q (#[qnV t] ++ caps) W fun e W' => e = .returned (.bool (p t)) ∧ Below W.heap.size W W') (hl : l.length ≤ 100000) (hT : Qns w a l) :
    Calls Try.prog 35 #[.slice a l.length cap, .func (.func q) #[] caps] w fun e w' => e = .returned (.bool (l.any p)) ∧ Below w.heap.size w w' := by
  have C := Lib.hid (IndexFuncQ_any q caps p eq a l cap w hf hl hT)
  obtain ⟨b, hb⟩ : ∃ b, l.any p = b := ⟨_, rfl⟩
  rw [hb] at C ⊢
  obtain ⟨n, hn⟩ : ∃ n, l.length = n := ⟨_, rfl⟩
  rw [hn] at C ⊢
  clear hf hl hT hn hb
  go_enter Try.func35, Try.ntmps35
  go_wp2_with fail
  refine C.out.mono ?_
  rintro e w1 ⟨⟨z, rfl, hz⟩, hb1⟩
  have HB := Lib.hid hb1
  have HZ := Lib.hid hz
  clear hb1 hz C
  go_wp2_with fail
  go_ret
  exact ⟨ret_bool HZ.out, HB.out⟩

end Go.Proofs.Ytoaenlbbochjhaa

namespace Go.Proofs.Ytoaenlbbochjhaa
open Go.RowKit FixM FixP TreN QryP
set_option linter.unusedVariables false

theorem q_cells {w : World} {b : Nat} {T : TypeId} {x y : Value} (h : w.heap[b]? = some (.cells #[x, y] T (0, 0))) : w.cell? ⟨b, 0, none⟩ = some x ∧ w.cell? ⟨b, 1, none⟩ = some y := ⟨cell_of h rfl, cell_of h rfl⟩
def spanI (L : List QN) (i : Int) : Int := if 0 ≤ i then (spanS L i.toNat : Int) else 0

set_option maxRecDepth 100000 in
set_option maxHeartbeats 8000000 in
theorem Span8_nat (nm : ByteArray) (a : Option Addr) (L : List QN) (n c k0 : Nat) (w : World) (hn : L.length = n) (hl : n ≤ 1000) (hk0 : k0 ≤ 9223372036854775807) (hQ : Qns w a L) :
    Calls Try.prog 31 #[.agg #[.string nm, .slice a n c], .int .i64 (k0 : Int)] w fun e w' => e = .returned (.int .i64 (spanS L k0 : Int)) ∧ Below w.heap.size w w' := by
  have HB0 := Lib.hid (below_oneQ w (.cells #[.string nm, .slice a n c] 29))
  have hx := heap_alloc_new w (.cells #[.string nm, .slice a n c] 29)
  have HQ := Lib.hid hQ
  have HN := Lib.hid hn
  obtain ⟨R, hR⟩ : ∃ R, spanS L k0 = R := ⟨_, rfl⟩
  rw [hR]
  have HR := Lib.hid hR
  generalize hW : w.alloc (.cells #[.string nm, .slice a n c] 29) = W at *
  have HX0 := Lib.hid hx
  clear hx hQ hn hR
  go_enter Try.func31, Try.ntmps31
  go_wp2_with fail
  go_loopw [1, 5] (fun vi vu wr => ∃ m u : Nat, vi = .int .i64 ((k0 + m : Nat) : Int) ∧ vu = .int .i64 (u : Int) ∧ u ≤ 2000 ∧ (m = 0 ∨ k0 + m ≤ n) ∧ Hid (eat (L.drop k0) 1 = (eat (L.drop (k0 + m)) u).map (m + ·)) ∧ Hid (Below w.heap.size w wr) ∧ Hid (wr.heap[w.heap.size]? = some (.cells #[.string nm, .slice a n c] 29 (0, 0)))) (fun vi vu _ => n + 1 - (intOf vi).toNat)
  case atStart => exact ⟨0, 1, rfl, rfl, by omega, Or.inl rfl, Lib.hid (by rw [Nat.add_zero]; cases eat (L.drop k0) 1 <;> simp), HB0, HX0⟩
  case round =>
    obtain ⟨m, u, rfl, rfl, hu, hmn, HE, HB, HX⟩ := hrel
    obtain ⟨i, hi⟩ : ∃ i, k0 + m = i := ⟨_, rfl⟩
    rw [hi] at HE hmn ⊢
    have hib : i ≤ 9223372036854775807 := by omega
    have HI := Lib.hid hi
    obtain ⟨q0, q1⟩ := q_cells HX.out
    rcases Nat.eq_zero_or_pos u with h0 | h0
    · have HF : Hid (R = i) := Lib.hid (by
        rw [← HR.out]; unfold spanS; rw [HE.out, h0, eat_zero, ← HI.out]; rfl)
      have huz : ¬ (0 : Int) < (u : Int) := by omega
      clear hi h0
      go_wp2_with fail
      go_ret
      exact ⟨by rw [HF.out]; rfl, HB.out⟩
    · have huz : (0 : Int) < (u : Int) := by omega
      by_cases hfar : n < i + u
      · have HF : Hid (R = 0) := Lib.hid (by
          rw [← HR.out]; unfold spanS; rw [HE.out, eat_far (by rw [List.length_drop, HN.out]; omega)]; rfl)
        have hfz : (n : Int) - (i : Int) < (u : Int) := by omega
        clear hi
        go_wp2_with fail
        go_ret
        exact ⟨by rw [HF.out]; rfl, HB.out⟩
      · have hin : i < n := by omega
        have hil : i < L.length := by have := HN.out; omega
        obtain ⟨b, o, rfl, hbw, hc⟩ := HQ.out.get hil
        have hcr := hc.below HB.out hbw
        have hdr : L.drop i = L[i] :: L.drop (i + 1) := List.drop_eq_getElem_cons hil
        obtain ⟨x, hxi⟩ : ∃ x, L[i] = x := ⟨_, rfl⟩
        rw [hxi] at hcr hdr
        obtain ⟨v, hv⟩ : ∃ v, u = v + 1 := ⟨u - 1, by omega⟩
        have HE2 : Hid (eat (L.drop i) u = match cntQ x with | none => none | some cc => (eat (L.drop (i + 1)) (v + cc)).map (· + 1)) := Lib.hid (by rw [hdr, hv]; exact eat_cons _ _ _)
        obtain ⟨kk, kc, kf, ⟨a1, a2, a3⟩, ⟨b1, b2, b3⟩⟩ := x
        have KC := fun W => kids8_any kk kc kf a1 a2 a3 b1 b2 b3 W
        obtain ⟨d0, d1, d2, d3, d4, d5, d6, d7, d8⟩ := hcr
        have hfz : ¬ (n : Int) - (i : Int) < (u : Int) := by omega
        have hinz : (i : Int) < (n : Int) := by omega
        have hi0 : (0 : Int) ≤ (i : Int) := by omega
        have HV := Lib.hid hv
        obtain ⟨cq, hcq⟩ : ∃ cq, cntQ ⟨kk, kc, kf, ⟨a1, a2, a3⟩, ⟨b1, b2, b3⟩⟩ = cq := ⟨_, rfl⟩
        unfold kidsV at KC
        rw [hcq] at KC HE2
        clear hc hdr hxi hv hcq hi
        cases cq with
        | none =>
          have KK := Lib.hid KC
          have HF : Hid (R = 0) := Lib.hid (by rw [← HR.out]; unfold spanS; rw [HE.out, HE2.out]; rfl)
          clear KC
          go_wp2_with fail
          refine (KK.out _).mono ?_
          rintro e w1 ⟨rfl, hb1⟩
          have HB1 := Lib.hid (HB.out.trans (hb1.mono HB.out.size))
          clear hb1
          go_wp2_with fail
          go_ret
          exact ⟨by rw [HF.out]; rfl, HB1.out⟩
        | some cc =>
          have KK := Lib.hid KC
          obtain ⟨mm, hmm⟩ : ∃ mm, min cc n = mm := ⟨_, rfl⟩
          have hmi : min (cc : Int) (n : Int) = (mm : Int) := by omega
          have hmb : mm ≤ n := by omega
          have HE3 : Hid (eat (L.drop 0) 0 = some 0 ∧ (eat (L.drop (i + 1)) (v + mm)) = eat (L.drop (i + 1)) (v + cc)) := Lib.hid ⟨eat_zero _, by rw [← hmm]; exact eat_cap (by rw [List.length_drop, HN.out]; omega)⟩
          have hlast : (k0 + (m + 1) : Nat) = i + 1 := by have := HI.out; omega
          have HL := Lib.hid hlast
          clear KC hmm hlast
          go_wp2_with fail
          refine (KK.out _).mono ?_
          rintro e w1 ⟨rfl, hb1⟩
          have hx1 := (hb1.block _ (blk_ltQ HX.out)).trans HX.out
          obtain ⟨q0, q1⟩ := q_cells hx1
          have HX1 := Lib.hid hx1
          have HB1 := Lib.hid (HB.out.trans (hb1.mono HB.out.size))
          clear hb1 hx1
          go_wp2_with fail
          go_roundw
          case rel => exact ⟨m + 1, v + mm, by rw [HL.out]; go_num, by have := HV.out; have e : ((v + mm : Nat) : Int) = (u : Int) + ((mm : Int) - 1) := by omega
                                                                       rw [e], by have := HV.out; omega, Or.inr (by rw [HL.out]; omega), Lib.hid (by
            rw [HE.out, HE2.out, HL.out, HE3.out.2]
            cases eat (L.drop (i + 1)) (v + cc) with
            | none => rfl
            | some z => simp only [Option.map_some, Option.some.injEq]; omega), HB1, HX1⟩
          case measure => simp [intOf]; omega

theorem rsv_in (x : List UInt8) : rsvB ⟨x.toArray⟩ = (decide (x = [97, 110, 100]) || (decide (x = [111, 114]) || (decide (x = [110, 111, 116]) || decide (x = [110, 111, 110, 101])))) := by
  unfold rsvB rsvL
  rw [List.contains_eq_mem]
  have e : (⟨x.toArray⟩ : ByteArray).data.toList = x := by simp
  rw [e, ← Bool.decide_or, ← Bool.decide_or, ← Bool.decide_or]
  exact dec_eq (by simp)
set_option maxRecDepth 100000 in
set_option maxHeartbeats 4000000 in
theorem named8_any (x : List UInt8) (hs : x.length ≤ maxLen) (w : World) : Calls Try.prog 32 #[.string ⟨x.toArray⟩] w fun e w' => e = .returned (.bool (!rsvB ⟨x.toArray⟩ && nameB ⟨x.toArray⟩)) ∧ w = w' := by
  rw [rsv_in]
  have NA := Lib.hid (fun W => Name_any ⟨x.toArray⟩ (by show x.toArray.size ≤ maxLen; simpa using hs) W)
  generalize nameB ⟨x.toArray⟩ = nb at *
  by_cases h1 : x = [97, 110, 100]
  · rw [decide_eq_true h1]
    subst h1
    go_enter Try.func32, Try.ntmps32
    go_wp2_with fail
    go_ret
    exact ⟨rfl, rfl⟩
  have z1 : (x == [97, 110, 100]) = false := by rw [beq_eq_false_iff_ne]; exact h1
  rw [decide_eq_false h1]
  by_cases h2 : x = [111, 114]
  · rw [decide_eq_true h2]
    subst h2
    go_enter Try.func32, Try.ntmps32
    go_wp2_with fail
    go_ret
    exact ⟨rfl, rfl⟩
  have z2 : (x == [111, 114]) = false := by rw [beq_eq_false_iff_ne]; exact h2
  rw [decide_eq_false h2]
  by_cases h3 : x = [110, 111, 116]
  · rw [decide_eq_true h3]
    subst h3
    go_enter Try.func32, Try.ntmps32
    go_wp2_with fail
    go_ret
    exact ⟨rfl, rfl⟩
  have z3 : (x == [110, 111, 116]) = false := by rw [beq_eq_false_iff_ne]; exact h3
  rw [decide_eq_false h3]
  by_cases h4 : x = [110, 111, 110, 101]
  · rw [decide_eq_true h4]
    subst h4
    go_enter Try.func32, Try.ntmps32
    go_wp2_with fail
    go_ret
    exact ⟨rfl, rfl⟩
  have z4 : (x == [110, 111, 110, 101]) = false := by rw [beq_eq_false_iff_ne]; exact h4
  rw [decide_eq_false h4]
  clear h1 h2 h3 h4
  go_enter Try.func32, Try.ntmps32
  go_wp2_with fail
  refine (NA.out _).mono ?_
  rintro e w1 ⟨rfl, rfl⟩
  go_wp2_with fail
  go_ret
  exact ⟨by simp, rfl⟩
end Go.Proofs.Ytoaenlbbochjhaa

namespace Go.Proofs.Ytoaenlbbochjhaa
open Go.RowKit FixM FixP TreN QryP
set_option linter.unusedVariables false

theorem nmB_nil : nmB ⟨([] : List UInt8).toArray⟩ = true := rfl
theorem nmB_cons (c : UInt8) (r : List UInt8) : nmB ⟨(c :: r).toArray⟩ = (!rsvB ⟨(c :: r).toArray⟩ && nameB ⟨(c :: r).toArray⟩) := by
  unfold nmB
  have e : decide ((⟨(c :: r).toArray⟩ : ByteArray).size = 0) = false := decide_eq_false (by show ¬ (c :: r).toArray.size = 0; simp)
  rw [e]; rfl
set_option maxRecDepth 100000 in
set_option maxHeartbeats 8000000 in
theorem Right8_any (x : List UInt8) (hs : x.length ≤ maxLen) (a : Option Addr) (L : List QN) (n c : Nat) (w : World) (hn : L.length = n) (hm : n ≤ maxLen) (hQ : Qns w a L) :
    Calls Try.prog 21 #[.agg #[.string ⟨x.toArray⟩, .slice a n c]] w fun e w' => e = .returned (.bool (rightQ ⟨x.toArray⟩ L)) ∧ Below w.heap.size w w' := by
  unfold maxLen at hm
  rw [← rightQ_eq]
  unfold rightQC
  have HB0 := Lib.hid (below_oneQ w (.cells #[.string ⟨x.toArray⟩, .slice a n c] 29))
  have hx := heap_alloc_new w (.cells #[.string ⟨x.toArray⟩, .slice a n c] 29)
  have HQ := Lib.hid hQ
  have HN := Lib.hid hn
  have NM := Lib.hid (fun W => named8_any x hs W)
  have SP := Lib.hid (fun (h : n ≤ 1000) W (hW : Below w.heap.size w W) => Span8_nat ⟨x.toArray⟩ a L n c 0 W hn h (by omega) (hQ.below hW))
  have CT := Lib.hid (fun (h : n ≤ 1000) W (hW : Below w.heap.size w W) => ContainsFuncQ_any 33 #[] (fun t => !ndC t) (enters_of Try.func33 (by kernel_rfl) rfl) a L c W (fun t _ W2 _ => odd8_any t.kind t.count t.feat t.lo.op t.lo.n t.lo.d t.hi.op t.hi.n t.hi.d W2) (by omega) (hQ.below hW))
  have hall : (L.any fun t => !ndC t) = !L.all ndC := by rw [List.not_all_eq_any_not]
  rw [hall, hn] at CT
  rw [hn]
  generalize hW : w.alloc (.cells #[.string ⟨x.toArray⟩, .slice a n c] 29) = W at *
  have HX0 := Lib.hid hx
  obtain ⟨q0, q1⟩ := q_cells hx
  obtain ⟨sp, hsp⟩ : ∃ sp, spanS L 0 = sp := ⟨_, rfl⟩
  rw [hsp] at SP ⊢
  generalize L.all ndC = al at *
  clear hx hQ hn hsp hall
  by_cases h0 : n = 0
  · have z0 : ((n : Int) == 0) = true := by rw [h0]; rfl
    rw [decide_eq_false (by omega)]
    clear h0
    go_enter Try.func21, Try.ntmps21
    go_wp2_with fail
    go_ret
    refine ⟨ret_bool ?_, HB0.out⟩
    first | rfl | (simp; done)
  · have z0 : ((n : Int) == 0) = false := by rw [beq_eq_false_iff_ne]; omega
    by_cases h32 : 32 < n
    · have z32 : (32 : Int) < (n : Int) := by omega
      rw [decide_eq_false (by omega)]
      clear h0
      go_enter Try.func21, Try.ntmps21
      go_wp2_with fail
      go_ret
      refine ⟨ret_bool ?_, HB0.out⟩
      first | rfl | (simp; done)
    · have z32 : ¬ (32 : Int) < (n : Int) := by omega
      have SPP := Lib.hid (SP.out (by omega))
      have CTT := Lib.hid (CT.out (by omega))
      by_cases hs1 : sp = n
      · have zs : ((sp : Int) != (n : Int)) = false := by rw [hs1]; simp
        rw [decide_eq_true (by omega), Bool.true_and]
        clear hs1 h0
        cases x with
        | nil =>
          rw [nmB_nil, Bool.true_and]
          go_enter Try.func21, Try.ntmps21
          go_wp2_with fail
          refine (SPP.out _ HB0.out).mono ?_
          rintro e w1 ⟨rfl, hb⟩
          have hx1 := (hb.block _ (blk_ltQ HX0.out)).trans HX0.out
          obtain ⟨q0, q1⟩ := q_cells hx1
          have HB1 := Lib.hid (HB0.out.trans (hb.mono HB0.out.size))
          have HX1 := Lib.hid hx1
          clear hb hx1
          go_wp2_with fail
          refine (CTT.out _ HB1.out).mono ?_
          rintro e w2 ⟨rfl, hb⟩
          have HB2 := Lib.hid (HB1.out.trans (hb.mono HB1.out.size))
          clear hb
          go_wp2_with fail
          go_ret
          refine ⟨ret_bool ?_, HB2.out⟩
          first | rfl | (simp; done)
        | cons c1 r1 =>
          rw [nmB_cons]
          obtain ⟨nb, hnb⟩ : ∃ nb, (!rsvB ⟨(c1 :: r1).toArray⟩ && nameB ⟨(c1 :: r1).toArray⟩) = nb := ⟨_, rfl⟩
          rw [hnb] at NM ⊢
          clear hnb
          cases nb
          · skip
            go_enter Try.func21, Try.ntmps21
            go_wp2_with fail
            refine (SPP.out _ HB0.out).mono ?_
            rintro e w1 ⟨rfl, hb⟩
            have hx1 := (hb.block _ (blk_ltQ HX0.out)).trans HX0.out
            obtain ⟨q0, q1⟩ := q_cells hx1
            have HB1 := Lib.hid (HB0.out.trans (hb.mono HB0.out.size))
            have HX1 := Lib.hid hx1
            clear hb hx1
            go_wp2_with fail
            refine (NM.out _).mono ?_
            rintro e wq ⟨rfl, rfl⟩
            go_wp2_with fail
            go_ret
            refine ⟨ret_bool ?_, HB1.out⟩
            first | rfl | (simp; done)
          · skip
            go_enter Try.func21, Try.ntmps21
            go_wp2_with fail
            refine (SPP.out _ HB0.out).mono ?_
            rintro e w1 ⟨rfl, hb⟩
            have hx1 := (hb.block _ (blk_ltQ HX0.out)).trans HX0.out
            obtain ⟨q0, q1⟩ := q_cells hx1
            have HB1 := Lib.hid (HB0.out.trans (hb.mono HB0.out.size))
            have HX1 := Lib.hid hx1
            clear hb hx1
            go_wp2_with fail
            refine (NM.out _).mono ?_
            rintro e wq ⟨rfl, rfl⟩
            go_wp2_with fail
            refine (CTT.out _ HB1.out).mono ?_
            rintro e w2 ⟨rfl, hb⟩
            have HB2 := Lib.hid (HB1.out.trans (hb.mono HB1.out.size))
            clear hb
            go_wp2_with fail
            go_ret
            refine ⟨ret_bool ?_, HB2.out⟩
            first | rfl | (simp; done)
      · have zs : ((sp : Int) != (n : Int)) = true := by rw [bne_iff_ne]; omega
        rw [decide_eq_false (by omega)]
        clear hs1 h0
        go_enter Try.func21, Try.ntmps21
        go_wp2_with fail
        refine (SPP.out _ HB0.out).mono ?_
        rintro e w1 ⟨rfl, hb⟩
        have hx1 := (hb.block _ (blk_ltQ HX0.out)).trans HX0.out
        obtain ⟨q0, q1⟩ := q_cells hx1
        have HB1 := Lib.hid (HB0.out.trans (hb.mono HB0.out.size))
        have HX1 := Lib.hid hx1
        clear hb hx1
        go_wp2_with fail
        go_ret
        refine ⟨ret_bool ?_, HB1.out⟩
        first | rfl | (simp; done)
end Go.Proofs.Ytoaenlbbochjhaa
