/- Layer 8: may a feature, a node, all nodes be? -/
import Derived.Test.YtjhhpilaaahicaaQryW1
namespace Go.Proofs.Ytjhhpilaaahicaa
open Go.RowKit FixM FixP TreN QryP
set_option linter.unusedVariables false

set_option maxRecDepth 100000 in
set_option maxHeartbeats 8000000 in
theorem fit8_any (k c f a1 a2 a3 b1 b2 b3 : Int) (w : World) : Calls Try.prog 110 #[.agg #[.int .i64 k, .int .i64 c, .int .i64 f, .int .i64 a1, .int .i64 a2, .int .i64 a3, .int .i64 b1, .int .i64 b2, .int .i64 b3]] w fun e w' => e = .returned (.bool (ftC ⟨k, c, f, ⟨a1, a2, a3⟩, ⟨b1, b2, b3⟩⟩)) ∧ Below w.heap.size w w' := by
  have HB0 := Lib.hid (below_oneQ w (.cells #[.int .i64 k, .int .i64 c, .int .i64 f, .int .i64 a1, .int .i64 a2, .int .i64 a3, .int .i64 b1, .int .i64 b2, .int .i64 b3] 52))
  have hx := heap_alloc_new w (.cells #[.int .i64 k, .int .i64 c, .int .i64 f, .int .i64 a1, .int .i64 a2, .int .i64 a3, .int .i64 b1, .int .i64 b2, .int .i64 b3] 52)
  generalize hW : w.alloc (.cells #[.int .i64 k, .int .i64 c, .int .i64 f, .int .i64 a1, .int .i64 a2, .int .i64 a3, .int .i64 b1, .int .i64 b2, .int .i64 b3] 52) = W at *
  have HX0 := Lib.hid hx
  obtain ⟨d0, d1, d2, d3, d4, d5, d6, d7, d8⟩ := qn_cells hx
  clear hx
  have TH := Lib.hid (fun W => there8_any b1 b2 b3 W)
  have TL := Lib.hid (fun W => there8_any a1 a2 a3 W)
  have VH := Lib.hid (fun W => valued8_any f b1 b2 b3 W)
  have VL := Lib.hid (fun W => valued8_any f a1 a2 a3 W)
  have ON := Lib.hid (fun W => oneWay8_any a1 b1 W)
  unfold ftC
  simp only []
  generalize thrB ⟨b1, b2, b3⟩ = th at *
  generalize thrB ⟨a1, a2, a3⟩ = tl at *
  generalize vlC f ⟨b1, b2, b3⟩ = vh at *
  generalize vlC f ⟨a1, a2, a3⟩ = vl at *
  generalize onC a1 b1 = on at *
  rcases (by omega : f < 1 ∨ (¬ f < 1 ∧ 6 < f) ∨ (¬ f < 1 ∧ ¬ 6 < f)) with hf1 | ⟨hf1, hf2⟩ | ⟨hf1, hf2⟩
  · rw [if_pos (Or.inl hf1)]
    go_enter Try.func110, Try.ntmps110
    go_wp2_with fail
    go_ret
    refine ⟨ret_bool ?_, HB0.out⟩
    first | rfl | (simp; done) | (simp; omega)
  · rw [if_pos (Or.inr hf2)]
    go_enter Try.func110, Try.ntmps110
    go_wp2_with fail
    go_ret
    refine ⟨ret_bool ?_, HB0.out⟩
    first | rfl | (simp; done) | (simp; omega)
  · rw [if_neg (by omega)]
    cases th
    · rw [if_pos rfl]
      go_enter Try.func110, Try.ntmps110
      go_wp2_with fail
      refine (TH.out _).mono ?_
      rintro e w1 ⟨rfl, hb⟩
      have hx := (hb.block _ (blk_ltQ HX0.out)).trans HX0.out
      have HB1 := Lib.hid (HB0.out.trans (hb.mono HB0.out.size))
      have HX1 := Lib.hid hx
      obtain ⟨d0, d1, d2, d3, d4, d5, d6, d7, d8⟩ := qn_cells hx
      clear hb hx
      go_wp2_with fail
      refine (TL.out _).mono ?_
      rintro e w2 ⟨rfl, hb⟩
      have hx := (hb.block _ (blk_ltQ HX1.out)).trans HX1.out
      have HB2 := Lib.hid (HB1.out.trans (hb.mono HB1.out.size))
      have HX2 := Lib.hid hx
      obtain ⟨d0, d1, d2, d3, d4, d5, d6, d7, d8⟩ := qn_cells hx
      clear hb hx
      go_wp2_with fail
      go_ret
      refine ⟨ret_bool ?_, HB2.out⟩
      first | rfl | (simp; done) | (simp; omega)
    · rw [if_neg (show ¬ (true = false) by decide)]
      by_cases h6 : f = 6
      · have z6 : (f == 6) = true := by rw [h6]; rfl
        rw [if_pos h6]
        clear h6
        cases tl
        · by_cases h3 : b1 = 3
          · have z3 : (b1 == 3) = true := by rw [h3]; rfl
            rw [decide_eq_true h3]
            clear h3
            go_enter Try.func110, Try.ntmps110
            go_wp2_with fail
            refine (TH.out _).mono ?_
            rintro e w1 ⟨rfl, hb⟩
            have hx := (hb.block _ (blk_ltQ HX0.out)).trans HX0.out
            have HB1 := Lib.hid (HB0.out.trans (hb.mono HB0.out.size))
            have HX1 := Lib.hid hx
            obtain ⟨d0, d1, d2, d3, d4, d5, d6, d7, d8⟩ := qn_cells hx
            clear hb hx
            go_wp2_with fail
            refine (TL.out _).mono ?_
            rintro e w2 ⟨rfl, hb⟩
            have hx := (hb.block _ (blk_ltQ HX1.out)).trans HX1.out
            have HB2 := Lib.hid (HB1.out.trans (hb.mono HB1.out.size))
            have HX2 := Lib.hid hx
            obtain ⟨d0, d1, d2, d3, d4, d5, d6, d7, d8⟩ := qn_cells hx
            clear hb hx
            go_wp2_with fail
            refine (VH.out _).mono ?_
            rintro e w3 ⟨rfl, hb⟩
            have hx := (hb.block _ (blk_ltQ HX2.out)).trans HX2.out
            have HB3 := Lib.hid (HB2.out.trans (hb.mono HB2.out.size))
            have HX3 := Lib.hid hx
            obtain ⟨d0, d1, d2, d3, d4, d5, d6, d7, d8⟩ := qn_cells hx
            clear hb hx
            go_wp2_with fail
            go_ret
            refine ⟨ret_bool ?_, HB3.out⟩
            first | rfl | (simp; done) | (simp; omega)
          · have z3 : (b1 == 3) = false := by rw [beq_eq_false_iff_ne]; exact h3
            rw [decide_eq_false h3]
            clear h3
            go_enter Try.func110, Try.ntmps110
            go_wp2_with fail
            refine (TH.out _).mono ?_
            rintro e w1 ⟨rfl, hb⟩
            have hx := (hb.block _ (blk_ltQ HX0.out)).trans HX0.out
            have HB1 := Lib.hid (HB0.out.trans (hb.mono HB0.out.size))
            have HX1 := Lib.hid hx
            obtain ⟨d0, d1, d2, d3, d4, d5, d6, d7, d8⟩ := qn_cells hx
            clear hb hx
            go_wp2_with fail
            refine (TL.out _).mono ?_
            rintro e w2 ⟨rfl, hb⟩
            have hx := (hb.block _ (blk_ltQ HX1.out)).trans HX1.out
            have HB2 := Lib.hid (HB1.out.trans (hb.mono HB1.out.size))
            have HX2 := Lib.hid hx
            obtain ⟨d0, d1, d2, d3, d4, d5, d6, d7, d8⟩ := qn_cells hx
            clear hb hx
            go_wp2_with fail
            go_ret
            refine ⟨ret_bool ?_, HB2.out⟩
            first | rfl | (simp; done) | (simp; omega)
        · skip
          go_enter Try.func110, Try.ntmps110
          go_wp2_with fail
          refine (TH.out _).mono ?_
          rintro e w1 ⟨rfl, hb⟩
          have hx := (hb.block _ (blk_ltQ HX0.out)).trans HX0.out
          have HB1 := Lib.hid (HB0.out.trans (hb.mono HB0.out.size))
          have HX1 := Lib.hid hx
          obtain ⟨d0, d1, d2, d3, d4, d5, d6, d7, d8⟩ := qn_cells hx
          clear hb hx
          go_wp2_with fail
          refine (TL.out _).mono ?_
          rintro e w2 ⟨rfl, hb⟩
          have hx := (hb.block _ (blk_ltQ HX1.out)).trans HX1.out
          have HB2 := Lib.hid (HB1.out.trans (hb.mono HB1.out.size))
          have HX2 := Lib.hid hx
          obtain ⟨d0, d1, d2, d3, d4, d5, d6, d7, d8⟩ := qn_cells hx
          clear hb hx
          go_wp2_with fail
          go_ret
          refine ⟨ret_bool ?_, HB2.out⟩
          first | rfl | (simp; done) | (simp; omega)
      · have z6 : (f == 6) = false := by rw [beq_eq_false_iff_ne]; exact h6
        rw [if_neg h6]
        clear h6
        cases tl
        · rw [if_pos rfl]
          by_cases h1 : 1 ≤ b1
          · rw [decide_eq_true h1]
            by_cases h5 : b1 ≤ 5
            · rw [decide_eq_true h5]
              go_enter Try.func110, Try.ntmps110
              go_wp2_with fail
              refine (TH.out _).mono ?_
              rintro e w1 ⟨rfl, hb⟩
              have hx := (hb.block _ (blk_ltQ HX0.out)).trans HX0.out
              have HB1 := Lib.hid (HB0.out.trans (hb.mono HB0.out.size))
              have HX1 := Lib.hid hx
              obtain ⟨d0, d1, d2, d3, d4, d5, d6, d7, d8⟩ := qn_cells hx
              clear hb hx
              go_wp2_with fail
              refine (TL.out _).mono ?_
              rintro e w2 ⟨rfl, hb⟩
              have hx := (hb.block _ (blk_ltQ HX1.out)).trans HX1.out
              have HB2 := Lib.hid (HB1.out.trans (hb.mono HB1.out.size))
              have HX2 := Lib.hid hx
              obtain ⟨d0, d1, d2, d3, d4, d5, d6, d7, d8⟩ := qn_cells hx
              clear hb hx
              go_wp2_with fail
              refine (VH.out _).mono ?_
              rintro e w3 ⟨rfl, hb⟩
              have hx := (hb.block _ (blk_ltQ HX2.out)).trans HX2.out
              have HB3 := Lib.hid (HB2.out.trans (hb.mono HB2.out.size))
              have HX3 := Lib.hid hx
              obtain ⟨d0, d1, d2, d3, d4, d5, d6, d7, d8⟩ := qn_cells hx
              clear hb hx
              go_wp2_with fail
              go_ret
              refine ⟨ret_bool ?_, HB3.out⟩
              first | rfl | (simp; done) | (simp; omega)
            · rw [decide_eq_false h5]
              go_enter Try.func110, Try.ntmps110
              go_wp2_with fail
              refine (TH.out _).mono ?_
              rintro e w1 ⟨rfl, hb⟩
              have hx := (hb.block _ (blk_ltQ HX0.out)).trans HX0.out
              have HB1 := Lib.hid (HB0.out.trans (hb.mono HB0.out.size))
              have HX1 := Lib.hid hx
              obtain ⟨d0, d1, d2, d3, d4, d5, d6, d7, d8⟩ := qn_cells hx
              clear hb hx
              go_wp2_with fail
              refine (TL.out _).mono ?_
              rintro e w2 ⟨rfl, hb⟩
              have hx := (hb.block _ (blk_ltQ HX1.out)).trans HX1.out
              have HB2 := Lib.hid (HB1.out.trans (hb.mono HB1.out.size))
              have HX2 := Lib.hid hx
              obtain ⟨d0, d1, d2, d3, d4, d5, d6, d7, d8⟩ := qn_cells hx
              clear hb hx
              go_wp2_with fail
              go_ret
              refine ⟨ret_bool ?_, HB2.out⟩
              first | rfl | (simp; done) | (simp; omega)
          · rw [decide_eq_false h1]
            go_enter Try.func110, Try.ntmps110
            go_wp2_with fail
            refine (TH.out _).mono ?_
            rintro e w1 ⟨rfl, hb⟩
            have hx := (hb.block _ (blk_ltQ HX0.out)).trans HX0.out
            have HB1 := Lib.hid (HB0.out.trans (hb.mono HB0.out.size))
            have HX1 := Lib.hid hx
            obtain ⟨d0, d1, d2, d3, d4, d5, d6, d7, d8⟩ := qn_cells hx
            clear hb hx
            go_wp2_with fail
            refine (TL.out _).mono ?_
            rintro e w2 ⟨rfl, hb⟩
            have hx := (hb.block _ (blk_ltQ HX1.out)).trans HX1.out
            have HB2 := Lib.hid (HB1.out.trans (hb.mono HB1.out.size))
            have HX2 := Lib.hid hx
            obtain ⟨d0, d1, d2, d3, d4, d5, d6, d7, d8⟩ := qn_cells hx
            clear hb hx
            go_wp2_with fail
            go_ret
            refine ⟨ret_bool ?_, HB2.out⟩
            first | rfl | (simp; done) | (simp; omega)
        · rw [if_neg (show ¬ (true = false) by decide)]
          cases on
          · skip
            go_enter Try.func110, Try.ntmps110
            go_wp2_with fail
            refine (TH.out _).mono ?_
            rintro e w1 ⟨rfl, hb⟩
            have hx := (hb.block _ (blk_ltQ HX0.out)).trans HX0.out
            have HB1 := Lib.hid (HB0.out.trans (hb.mono HB0.out.size))
            have HX1 := Lib.hid hx
            obtain ⟨d0, d1, d2, d3, d4, d5, d6, d7, d8⟩ := qn_cells hx
            clear hb hx
            go_wp2_with fail
            refine (TL.out _).mono ?_
            rintro e w2 ⟨rfl, hb⟩
            have hx := (hb.block _ (blk_ltQ HX1.out)).trans HX1.out
            have HB2 := Lib.hid (HB1.out.trans (hb.mono HB1.out.size))
            have HX2 := Lib.hid hx
            obtain ⟨d0, d1, d2, d3, d4, d5, d6, d7, d8⟩ := qn_cells hx
            clear hb hx
            go_wp2_with fail
            refine (ON.out _).mono ?_
            rintro e wq ⟨rfl, rfl⟩
            go_wp2_with fail
            go_ret
            refine ⟨ret_bool ?_, HB2.out⟩
            first | rfl | (simp; done) | (simp; omega)
          · cases vl
            · skip
              go_enter Try.func110, Try.ntmps110
              go_wp2_with fail
              refine (TH.out _).mono ?_
              rintro e w1 ⟨rfl, hb⟩
              have hx := (hb.block _ (blk_ltQ HX0.out)).trans HX0.out
              have HB1 := Lib.hid (HB0.out.trans (hb.mono HB0.out.size))
              have HX1 := Lib.hid hx
              obtain ⟨d0, d1, d2, d3, d4, d5, d6, d7, d8⟩ := qn_cells hx
              clear hb hx
              go_wp2_with fail
              refine (TL.out _).mono ?_
              rintro e w2 ⟨rfl, hb⟩
              have hx := (hb.block _ (blk_ltQ HX1.out)).trans HX1.out
              have HB2 := Lib.hid (HB1.out.trans (hb.mono HB1.out.size))
              have HX2 := Lib.hid hx
              obtain ⟨d0, d1, d2, d3, d4, d5, d6, d7, d8⟩ := qn_cells hx
              clear hb hx
              go_wp2_with fail
              refine (ON.out _).mono ?_
              rintro e wq ⟨rfl, rfl⟩
              go_wp2_with fail
              refine (VL.out _).mono ?_
              rintro e w3 ⟨rfl, hb⟩
              have hx := (hb.block _ (blk_ltQ HX2.out)).trans HX2.out
              have HB3 := Lib.hid (HB2.out.trans (hb.mono HB2.out.size))
              have HX3 := Lib.hid hx
              obtain ⟨d0, d1, d2, d3, d4, d5, d6, d7, d8⟩ := qn_cells hx
              clear hb hx
              go_wp2_with fail
              go_ret
              refine ⟨ret_bool ?_, HB3.out⟩
              first | rfl | (simp; done) | (simp; omega)
            · skip
              go_enter Try.func110, Try.ntmps110
              go_wp2_with fail
              refine (TH.out _).mono ?_
              rintro e w1 ⟨rfl, hb⟩
              have hx := (hb.block _ (blk_ltQ HX0.out)).trans HX0.out
              have HB1 := Lib.hid (HB0.out.trans (hb.mono HB0.out.size))
              have HX1 := Lib.hid hx
              obtain ⟨d0, d1, d2, d3, d4, d5, d6, d7, d8⟩ := qn_cells hx
              clear hb hx
              go_wp2_with fail
              refine (TL.out _).mono ?_
              rintro e w2 ⟨rfl, hb⟩
              have hx := (hb.block _ (blk_ltQ HX1.out)).trans HX1.out
              have HB2 := Lib.hid (HB1.out.trans (hb.mono HB1.out.size))
              have HX2 := Lib.hid hx
              obtain ⟨d0, d1, d2, d3, d4, d5, d6, d7, d8⟩ := qn_cells hx
              clear hb hx
              go_wp2_with fail
              refine (ON.out _).mono ?_
              rintro e wq ⟨rfl, rfl⟩
              go_wp2_with fail
              refine (VL.out _).mono ?_
              rintro e w3 ⟨rfl, hb⟩
              have hx := (hb.block _ (blk_ltQ HX2.out)).trans HX2.out
              have HB3 := Lib.hid (HB2.out.trans (hb.mono HB2.out.size))
              have HX3 := Lib.hid hx
              obtain ⟨d0, d1, d2, d3, d4, d5, d6, d7, d8⟩ := qn_cells hx
              clear hb hx
              go_wp2_with fail
              refine (VH.out _).mono ?_
              rintro e w4 ⟨rfl, hb⟩
              have hx := (hb.block _ (blk_ltQ HX3.out)).trans HX3.out
              have HB4 := Lib.hid (HB3.out.trans (hb.mono HB3.out.size))
              have HX4 := Lib.hid hx
              obtain ⟨d0, d1, d2, d3, d4, d5, d6, d7, d8⟩ := qn_cells hx
              clear hb hx
              go_wp2_with fail
              go_ret
              refine ⟨ret_bool ?_, HB4.out⟩
              first | rfl | (simp; done) | (simp; omega)

set_option maxRecDepth 100000 in
set_option maxHeartbeats 8000000 in
theorem right8_any (k c f a1 a2 a3 b1 b2 b3 : Int) (w : World) : Calls Try.prog 72 #[.agg #[.int .i64 k, .int .i64 c, .int .i64 f, .int .i64 a1, .int .i64 a2, .int .i64 a3, .int .i64 b1, .int .i64 b2, .int .i64 b3]] w fun e w' => e = .returned (.bool (ndC ⟨k, c, f, ⟨a1, a2, a3⟩, ⟨b1, b2, b3⟩⟩)) ∧ Below w.heap.size w w' := by
  have HB0 := Lib.hid (below_oneQ w (.cells #[.int .i64 k, .int .i64 c, .int .i64 f, .int .i64 a1, .int .i64 a2, .int .i64 a3, .int .i64 b1, .int .i64 b2, .int .i64 b3] 52))
  have hx := heap_alloc_new w (.cells #[.int .i64 k, .int .i64 c, .int .i64 f, .int .i64 a1, .int .i64 a2, .int .i64 a3, .int .i64 b1, .int .i64 b2, .int .i64 b3] 52)
  generalize hW : w.alloc (.cells #[.int .i64 k, .int .i64 c, .int .i64 f, .int .i64 a1, .int .i64 a2, .int .i64 a3, .int .i64 b1, .int .i64 b2, .int .i64 b3] 52) = W at *
  have HX0 := Lib.hid hx
  obtain ⟨d0, d1, d2, d3, d4, d5, d6, d7, d8⟩ := qn_cells hx
  clear hx
  have TH := Lib.hid (fun W => there8_any b1 b2 b3 W)
  have TL := Lib.hid (fun W => there8_any a1 a2 a3 W)
  have FT := Lib.hid (fun W => fit8_any k c f a1 a2 a3 b1 b2 b3 W)
  unfold ndC
  simp only []
  generalize thrB ⟨b1, b2, b3⟩ = th at *
  generalize thrB ⟨a1, a2, a3⟩ = tl at *
  generalize ftC ⟨k, c, f, ⟨a1, a2, a3⟩, ⟨b1, b2, b3⟩⟩ = ft at *
  by_cases h4 : k = 4
  · have z4 : (k == 4) = true := by rw [h4]; rfl
    rw [if_pos h4]
    clear h4
    by_cases hc : c = 0
    · have zc : (c == 0) = true := by rw [hc]; rfl
      rw [decide_eq_true hc]
      clear hc
      go_enter Try.func72, Try.ntmps72
      go_wp2_with fail
      refine (FT.out _).mono ?_
      rintro e w1 ⟨rfl, hb⟩
      have hx := (hb.block _ (blk_ltQ HX0.out)).trans HX0.out
      have HB1 := Lib.hid (HB0.out.trans (hb.mono HB0.out.size))
      have HX1 := Lib.hid hx
      obtain ⟨d0, d1, d2, d3, d4, d5, d6, d7, d8⟩ := qn_cells hx
      clear hb hx
      go_wp2_with fail
      go_ret
      refine ⟨ret_bool ?_, HB1.out⟩
      first | rfl | (simp; done) | (simp; omega)
    · have zc : (c == 0) = false := by rw [beq_eq_false_iff_ne]; exact hc
      rw [decide_eq_false hc]
      clear hc
      go_enter Try.func72, Try.ntmps72
      go_wp2_with fail
      go_ret
      refine ⟨ret_bool ?_, HB0.out⟩
      first | rfl | (simp; done) | (simp; omega)
  · have z4 : (k == 4) = false := by rw [beq_eq_false_iff_ne]; exact h4
    rw [if_neg h4]
    clear h4
    by_cases hf : f = 0
    · have zf : (f != 0) = false := by rw [hf]; rfl
      cases tl
      · cases th
        · rw [if_neg (by simp [hf])]
          clear hf
          by_cases h3 : k = 3
          · have z3 : (k == 3) = true := by rw [h3]; rfl
            rw [if_pos h3]
            clear h3
            by_cases hc : c = 1
            · have zc : (c == 1) = true := by rw [hc]; rfl
              rw [decide_eq_true hc]
              clear hc
              go_enter Try.func72, Try.ntmps72
              go_wp2_with fail
              refine (TL.out _).mono ?_
              rintro e w1 ⟨rfl, hb⟩
              have hx := (hb.block _ (blk_ltQ HX0.out)).trans HX0.out
              have HB1 := Lib.hid (HB0.out.trans (hb.mono HB0.out.size))
              have HX1 := Lib.hid hx
              obtain ⟨d0, d1, d2, d3, d4, d5, d6, d7, d8⟩ := qn_cells hx
              clear hb hx
              go_wp2_with fail
              refine (TH.out _).mono ?_
              rintro e w2 ⟨rfl, hb⟩
              have hx := (hb.block _ (blk_ltQ HX1.out)).trans HX1.out
              have HB2 := Lib.hid (HB1.out.trans (hb.mono HB1.out.size))
              have HX2 := Lib.hid hx
              obtain ⟨d0, d1, d2, d3, d4, d5, d6, d7, d8⟩ := qn_cells hx
              clear hb hx
              go_wp2_with fail
              go_ret
              refine ⟨ret_bool ?_, HB2.out⟩
              first | rfl | (simp; done) | (simp; omega)
            · have zc : (c == 1) = false := by rw [beq_eq_false_iff_ne]; exact hc
              rw [decide_eq_false hc]
              clear hc
              go_enter Try.func72, Try.ntmps72
              go_wp2_with fail
              refine (TL.out _).mono ?_
              rintro e w1 ⟨rfl, hb⟩
              have hx := (hb.block _ (blk_ltQ HX0.out)).trans HX0.out
              have HB1 := Lib.hid (HB0.out.trans (hb.mono HB0.out.size))
              have HX1 := Lib.hid hx
              obtain ⟨d0, d1, d2, d3, d4, d5, d6, d7, d8⟩ := qn_cells hx
              clear hb hx
              go_wp2_with fail
              refine (TH.out _).mono ?_
              rintro e w2 ⟨rfl, hb⟩
              have hx := (hb.block _ (blk_ltQ HX1.out)).trans HX1.out
              have HB2 := Lib.hid (HB1.out.trans (hb.mono HB1.out.size))
              have HX2 := Lib.hid hx
              obtain ⟨d0, d1, d2, d3, d4, d5, d6, d7, d8⟩ := qn_cells hx
              clear hb hx
              go_wp2_with fail
              go_ret
              refine ⟨ret_bool ?_, HB2.out⟩
              first | rfl | (simp; done) | (simp; omega)
          · have z3 : (k == 3) = false := by rw [beq_eq_false_iff_ne]; exact h3
            rw [if_neg h3]
            clear h3
            by_cases hc : 2 ≤ c
            · rw [decide_eq_true hc]
              go_enter Try.func72, Try.ntmps72
              go_wp2_with fail
              refine (TL.out _).mono ?_
              rintro e w1 ⟨rfl, hb⟩
              have hx := (hb.block _ (blk_ltQ HX0.out)).trans HX0.out
              have HB1 := Lib.hid (HB0.out.trans (hb.mono HB0.out.size))
              have HX1 := Lib.hid hx
              obtain ⟨d0, d1, d2, d3, d4, d5, d6, d7, d8⟩ := qn_cells hx
              clear hb hx
              go_wp2_with fail
              refine (TH.out _).mono ?_
              rintro e w2 ⟨rfl, hb⟩
              have hx := (hb.block _ (blk_ltQ HX1.out)).trans HX1.out
              have HB2 := Lib.hid (HB1.out.trans (hb.mono HB1.out.size))
              have HX2 := Lib.hid hx
              obtain ⟨d0, d1, d2, d3, d4, d5, d6, d7, d8⟩ := qn_cells hx
              clear hb hx
              go_wp2_with fail
              go_ret
              refine ⟨ret_bool ?_, HB2.out⟩
              first | rfl | (simp; done) | (simp; omega)
            · rw [decide_eq_false hc]
              go_enter Try.func72, Try.ntmps72
              go_wp2_with fail
              refine (TL.out _).mono ?_
              rintro e w1 ⟨rfl, hb⟩
              have hx := (hb.block _ (blk_ltQ HX0.out)).trans HX0.out
              have HB1 := Lib.hid (HB0.out.trans (hb.mono HB0.out.size))
              have HX1 := Lib.hid hx
              obtain ⟨d0, d1, d2, d3, d4, d5, d6, d7, d8⟩ := qn_cells hx
              clear hb hx
              go_wp2_with fail
              refine (TH.out _).mono ?_
              rintro e w2 ⟨rfl, hb⟩
              have hx := (hb.block _ (blk_ltQ HX1.out)).trans HX1.out
              have HB2 := Lib.hid (HB1.out.trans (hb.mono HB1.out.size))
              have HX2 := Lib.hid hx
              obtain ⟨d0, d1, d2, d3, d4, d5, d6, d7, d8⟩ := qn_cells hx
              clear hb hx
              go_wp2_with fail
              go_ret
              refine ⟨ret_bool ?_, HB2.out⟩
              first | rfl | (simp; done) | (simp; omega)
        · rw [if_pos (Or.inr (Or.inr rfl))]
          clear hf
          go_enter Try.func72, Try.ntmps72
          go_wp2_with fail
          refine (TL.out _).mono ?_
          rintro e w1 ⟨rfl, hb⟩
          have hx := (hb.block _ (blk_ltQ HX0.out)).trans HX0.out
          have HB1 := Lib.hid (HB0.out.trans (hb.mono HB0.out.size))
          have HX1 := Lib.hid hx
          obtain ⟨d0, d1, d2, d3, d4, d5, d6, d7, d8⟩ := qn_cells hx
          clear hb hx
          go_wp2_with fail
          refine (TH.out _).mono ?_
          rintro e w2 ⟨rfl, hb⟩
          have hx := (hb.block _ (blk_ltQ HX1.out)).trans HX1.out
          have HB2 := Lib.hid (HB1.out.trans (hb.mono HB1.out.size))
          have HX2 := Lib.hid hx
          obtain ⟨d0, d1, d2, d3, d4, d5, d6, d7, d8⟩ := qn_cells hx
          clear hb hx
          go_wp2_with fail
          go_ret
          refine ⟨ret_bool ?_, HB2.out⟩
          first | rfl | (simp; done) | (simp; omega)
      · rw [if_pos (Or.inr (Or.inl rfl))]
        clear hf
        go_enter Try.func72, Try.ntmps72
        go_wp2_with fail
        refine (TL.out _).mono ?_
        rintro e w1 ⟨rfl, hb⟩
        have hx := (hb.block _ (blk_ltQ HX0.out)).trans HX0.out
        have HB1 := Lib.hid (HB0.out.trans (hb.mono HB0.out.size))
        have HX1 := Lib.hid hx
        obtain ⟨d0, d1, d2, d3, d4, d5, d6, d7, d8⟩ := qn_cells hx
        clear hb hx
        go_wp2_with fail
        go_ret
        refine ⟨ret_bool ?_, HB1.out⟩
        first | rfl | (simp; done) | (simp; omega)
    · have zf : (f != 0) = true := by simp [hf]
      rw [if_pos (Or.inl hf)]
      clear hf
      go_enter Try.func72, Try.ntmps72
      go_wp2_with fail
      go_ret
      refine ⟨ret_bool ?_, HB0.out⟩
      first | rfl | (simp; done) | (simp; omega)

set_option maxRecDepth 100000 in
set_option maxHeartbeats 4000000 in
theorem odd8_any (k c f a1 a2 a3 b1 b2 b3 : Int) (w : World) : Calls Try.prog 71 #[.agg #[.int .i64 k, .int .i64 c, .int .i64 f, .int .i64 a1, .int .i64 a2, .int .i64 a3, .int .i64 b1, .int .i64 b2, .int .i64 b3]] w fun e w' => e = .returned (.bool (!ndC ⟨k, c, f, ⟨a1, a2, a3⟩, ⟨b1, b2, b3⟩⟩)) ∧ Below w.heap.size w w' := by
  have HB0 := Lib.hid (below_oneQ w (.cells #[.int .i64 k, .int .i64 c, .int .i64 f, .int .i64 a1, .int .i64 a2, .int .i64 a3, .int .i64 b1, .int .i64 b2, .int .i64 b3] 52))
  have hx := heap_alloc_new w (.cells #[.int .i64 k, .int .i64 c, .int .i64 f, .int .i64 a1, .int .i64 a2, .int .i64 a3, .int .i64 b1, .int .i64 b2, .int .i64 b3] 52)
  generalize hW : w.alloc (.cells #[.int .i64 k, .int .i64 c, .int .i64 f, .int .i64 a1, .int .i64 a2, .int .i64 a3, .int .i64 b1, .int .i64 b2, .int .i64 b3] 52) = W at *
  have HX0 := Lib.hid hx
  obtain ⟨d0, d1, d2, d3, d4, d5, d6, d7, d8⟩ := qn_cells hx
  clear hx
  have RR := Lib.hid (fun W => right8_any k c f a1 a2 a3 b1 b2 b3 W)
  generalize ndC ⟨k, c, f, ⟨a1, a2, a3⟩, ⟨b1, b2, b3⟩⟩ = nd at *
  go_enter Try.func71, Try.ntmps71
  go_wp2_with fail
  refine (RR.out _).mono ?_
  rintro e w1 ⟨rfl, hb⟩
  have hx := (hb.block _ (blk_ltQ HX0.out)).trans HX0.out
  have HB1 := Lib.hid (HB0.out.trans (hb.mono HB0.out.size))
  have HX1 := Lib.hid hx
  obtain ⟨d0, d1, d2, d3, d4, d5, d6, d7, d8⟩ := qn_cells hx
  clear hb hx
  go_wp2_with fail
  go_ret
  refine ⟨ret_bool ?_, HB1.out⟩
  first | rfl | (simp; done) | (simp; omega)

/-- how many parts a node has, and whether there is such a kind -/
def kidsV (x : QN) : Value := match cntQ x with | some n => .tuple #[.int .i64 (n : Int), .bool true] | none => .tuple #[.int .i64 0, .bool false]
set_option maxRecDepth 100000 in
set_option maxHeartbeats 4000000 in
theorem kids8_any (k c f a1 a2 a3 b1 b2 b3 : Int) (w : World) : Calls Try.prog 109 #[.agg #[.int .i64 k, .int .i64 c, .int .i64 f, .int .i64 a1, .int .i64 a2, .int .i64 a3, .int .i64 b1, .int .i64 b2, .int .i64 b3]] w fun e w' => e = .returned (kidsV ⟨k, c, f, ⟨a1, a2, a3⟩, ⟨b1, b2, b3⟩⟩) ∧ Below w.heap.size w w' := by
  have HB0 := Lib.hid (below_oneQ w (.cells #[.int .i64 k, .int .i64 c, .int .i64 f, .int .i64 a1, .int .i64 a2, .int .i64 a3, .int .i64 b1, .int .i64 b2, .int .i64 b3] 52))
  have hx := heap_alloc_new w (.cells #[.int .i64 k, .int .i64 c, .int .i64 f, .int .i64 a1, .int .i64 a2, .int .i64 a3, .int .i64 b1, .int .i64 b2, .int .i64 b3] 52)
  generalize hW : w.alloc (.cells #[.int .i64 k, .int .i64 c, .int .i64 f, .int .i64 a1, .int .i64 a2, .int .i64 a3, .int .i64 b1, .int .i64 b2, .int .i64 b3] 52) = W at *
  have HX0 := Lib.hid hx
  obtain ⟨d0, d1, d2, d3, d4, d5, d6, d7, d8⟩ := qn_cells hx
  clear hx
  unfold kidsV
  by_cases h1 : k = 1
  · have hq : cntQ ⟨k, c, f, ⟨a1, a2, a3⟩, ⟨b1, b2, b3⟩⟩ = some c.toNat := by unfold cntQ; rw [if_pos (Or.inl h1)]
    have z1 : (k == 1) = true := by rw [h1]; rfl
    have e : (c.toNat : Int) = max c 0 := by omega
    rw [hq]
    simp only []
    rw [e]
    clear hq h1 e
    go_enter Try.func109, Try.ntmps109
    go_wp2_with fail
    go_ret2
    refine ⟨?_, HB0.out⟩
    first | rfl | (simp; done) | (simp; omega)
  · have z1 : (k == 1) = false := by rw [beq_eq_false_iff_ne]; exact h1
    by_cases h2 : k = 2
    · have hq : cntQ ⟨k, c, f, ⟨a1, a2, a3⟩, ⟨b1, b2, b3⟩⟩ = some c.toNat := by unfold cntQ; rw [if_pos (Or.inr h2)]
      have z2 : (k == 2) = true := by rw [h2]; rfl
      have e : (c.toNat : Int) = max c 0 := by omega
      rw [hq]
      simp only []
      rw [e]
      clear hq h1 h2 e
      go_enter Try.func109, Try.ntmps109
      go_wp2_with fail
      go_ret2
      refine ⟨?_, HB0.out⟩
      first | rfl | (simp; done) | (simp; omega)
    · have z2 : (k == 2) = false := by rw [beq_eq_false_iff_ne]; exact h2
      by_cases h3 : k = 3
      · have hq : cntQ ⟨k, c, f, ⟨a1, a2, a3⟩, ⟨b1, b2, b3⟩⟩ = some 1 := by unfold cntQ; rw [if_neg (by simp [h1, h2]), if_pos h3]
        have z3 : (k == 3) = true := by rw [h3]; rfl
        rw [hq]
        clear hq h1 h2 h3
        go_enter Try.func109, Try.ntmps109
        go_wp2_with fail
        go_ret2
        refine ⟨?_, HB0.out⟩
        first | rfl | (simp; done) | (simp; omega)
      · have z3 : (k == 3) = false := by rw [beq_eq_false_iff_ne]; exact h3
        by_cases h4 : k = 4
        · have hq : cntQ ⟨k, c, f, ⟨a1, a2, a3⟩, ⟨b1, b2, b3⟩⟩ = some 0 := by unfold cntQ; rw [if_neg (by simp [h1, h2]), if_neg h3, if_pos h4]
          have z4 : (k == 4) = true := by rw [h4]; rfl
          rw [hq]
          clear hq h1 h2 h3 h4
          go_enter Try.func109, Try.ntmps109
          go_wp2_with fail
          go_ret2
          refine ⟨?_, HB0.out⟩
          first | rfl | (simp; done) | (simp; omega)
        · have hq : cntQ ⟨k, c, f, ⟨a1, a2, a3⟩, ⟨b1, b2, b3⟩⟩ = none := by unfold cntQ; rw [if_neg (by simp [h1, h2]), if_neg h3, if_neg h4]
          have z4 : (k == 4) = false := by rw [beq_eq_false_iff_ne]; exact h4
          rw [hq]
          clear hq h1 h2 h3 h4
          go_enter Try.func109, Try.ntmps109
          go_wp2_with fail
          go_ret2
          refine ⟨?_, HB0.out⟩
          first | rfl | (simp; done) | (simp; omega)

set_option maxRecDepth 100000 in
set_option maxHeartbeats 1000000 in
theorem IndexFuncQ_any (q : Nat) (caps : Array Value) (p : QN → Bool) (eq : ∀ args w, (callFunc q args).run Try.prog w = .ok (.enter q args) w) (a : Option Addr) (l : List QN) (cap : Nat) (w : World)
    (hf : ∀ t ∈ l, ∀ W, Below w.heap.size w W → Calls Try.prog q (#[qnV t] ++ caps) W fun e W' => e = .returned (.bool (p t)) ∧ Below W.heap.size W W') (hl : l.length ≤ 100000) (hT : Qns w a l) :
    Calls Try.prog 112 #[.slice a l.length cap, .func (.func q) #[] caps] w fun e w' => (∃ z : Int, e = .returned (.int .i64 z) ∧ decide (0 ≤ z) = l.any p) ∧ Below w.heap.size w w' := by
  have HT := Lib.hid hT
  have HF := Lib.hid hf
  obtain ⟨n, hn⟩ : ∃ n, l.length = n := ⟨_, rfl⟩
  have HN := Lib.hid hn
  rw [hn] at hl ⊢
  clear hT hf hn
  go_enter Try.func112, Try.ntmps112
  go_wp2_with fail
  go_loopw [8] (fun vi wr => ∃ k : Nat, vi = .int .i64 (k : Int) ∧ k ≤ n ∧ Hid (Below w.heap.size w wr) ∧ Hid (∀ j (hj : j < l.length), j < k → p l[j] = false)) (fun vi _ => n - (intOf vi).toNat)
  case atStart => exact ⟨0, rfl, by omega, Lib.hid (Below.refl _ _), Lib.hid fun j hj h => by omega⟩
  case round =>
    obtain ⟨k, rfl, hk, HB, HJ⟩ := hrel
    by_cases hlt : k < n
    · have hltz : (k : Int) < (n : Int) := by omega
      have hkl : k < l.length := by have := HN.out; omega
      obtain ⟨b1, o1, rfl, g1, k1⟩ := HT.out.get hkl
      obtain ⟨⟨k0, c0, f0, ⟨a1, a2, a3⟩, ⟨b1', b2', b3'⟩⟩, ht⟩ : ∃ t, l[k] = t := ⟨_, rfl⟩
      rw [ht] at k1
      obtain ⟨d0, d1, d2, d3, d4, d5, d6, d7, d8⟩ := k1.below HB.out g1
      have hmem : (⟨k0, c0, f0, ⟨a1, a2, a3⟩, ⟨b1', b2', b3'⟩⟩ : QN) ∈ l := by rw [← ht]; exact List.getElem_mem hkl
      have C := fun W hW => HF.out ⟨k0, c0, f0, ⟨a1, a2, a3⟩, ⟨b1', b2', b3'⟩⟩ hmem W hW
      obtain ⟨tf, htf⟩ : ∃ b, p ⟨k0, c0, f0, ⟨a1, a2, a3⟩, ⟨b1', b2', b3'⟩⟩ = b := ⟨_, rfl⟩
      rw [htf] at C
      have CC := Lib.hid C
      have HTT := Lib.hid ht
      have HTF := Lib.hid htf
      have HMM := Lib.hid hmem
      clear k1 C ht htf hmem
      cases tf
      · go_wp2_with fail
        refine (CC.out _ HB.out).mono ?_
        rintro e w2 ⟨rfl, hb⟩
        have HB2 := Lib.hid (HB.out.trans (hb.mono HB.out.size))
        clear hb CC
        go_wp2_with fail
        go_roundw
        case rel =>
          refine ⟨k + 1, by go_num, by omega, HB2, Lib.hid fun j hj h => ?_⟩
          by_cases c : j = k
          · subst c; rw [HTT.out, HTF.out]
          · exact HJ.out j hj (by omega)
        case measure => simp [intOf]; omega
      · have HA : Hid (decide (0 ≤ (k : Int)) = l.any p) := Lib.hid (by
          have h1 : l.any p = true := by rw [List.any_eq_true]; exact ⟨_, HMM.out, HTF.out⟩
          rw [h1, decide_eq_true_eq]; omega)
        go_wp2_with fail
        refine (CC.out _ HB.out).mono ?_
        rintro e w2 ⟨rfl, hb⟩
        have HB2 := Lib.hid (HB.out.trans (hb.mono HB.out.size))
        clear hb CC
        go_wp2_with fail
        go_ret
        exact ⟨⟨_, rfl, HA.out⟩, HB2.out⟩
    · have HA : Hid (decide (0 ≤ (-1 : Int)) = l.any p) := Lib.hid (by
        have h1 : l.any p = false := by
          rw [List.any_eq_false]
          intro t ht
          obtain ⟨j, hj, e⟩ := List.getElem_of_mem ht
          have hn := HN.out
          rw [← e, HJ.out j hj (by omega)]; simp
        rw [h1]; rfl)
      have hltz : ¬ (k : Int) < (n : Int) := by omega
      go_wp2_with fail
      go_ret
      exact ⟨⟨_, rfl, HA.out⟩, HB.out⟩

set_option maxRecDepth 100000 in
set_option maxHeartbeats 1000000 in
theorem ContainsFuncQ_any (q : Nat) (caps : Array Value) (p : QN → Bool) (eq : ∀ args w, (callFunc q args).run Try.prog w = .ok (.enter q args) w) (a : Option Addr) (l : List QN) (cap : Nat) (w : World)
    (hf : ∀ t ∈ l, ∀ W, Below w.heap.size w W → Calls Try.prog q (#[qnV t] ++ caps) W fun e W' => e = .returned (.bool (p t)) ∧ Below W.heap.size W W') (hl : l.length ≤ 100000) (hT : Qns w a l) :
    Calls Try.prog 73 #[.slice a l.length cap, .func (.func q) #[] caps] w fun e w' => e = .returned (.bool (l.any p)) ∧ Below w.heap.size w w' := by
  have C := Lib.hid (IndexFuncQ_any q caps p eq a l cap w hf hl hT)
  obtain ⟨b, hb⟩ : ∃ b, l.any p = b := ⟨_, rfl⟩
  rw [hb] at C ⊢
  obtain ⟨n, hn⟩ : ∃ n, l.length = n := ⟨_, rfl⟩
  rw [hn] at C ⊢
  clear hf hl hT hn hb
  go_enter Try.func73, Try.ntmps73
  go_wp2_with fail
  refine C.out.mono ?_
  rintro e w1 ⟨⟨z, rfl, hz⟩, hb1⟩
  have HB := Lib.hid hb1
  have HZ := Lib.hid hz
  clear hb1 hz C
  go_wp2_with fail
  go_ret
  exact ⟨ret_bool HZ.out, HB.out⟩

end Go.Proofs.Ytjhhpilaaahicaa
