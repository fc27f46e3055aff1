/- Layer 14's other text: what a feature says. -/
import Derived.Test.YtoaenlbbochjhaaTruR1
namespace Go.Proofs.Ytoaenlbbochjhaa
open Go.RowKit FixM FixP TreN QryP TruP
set_option linter.unusedVariables false

set_option maxRecDepth 100000 in
set_option maxHeartbeats 16000000 in
theorem refFeature14_1 (k c a1 a2 a3 b1 b2 b3 t : Int) (nm : ByteArray) (ww hh : Int) (w : World) (hlo : thrB ⟨a1, a2, a3⟩ = true → 1 ≤ a1 ∧ a1 ≤ 5) (hhi : thrB ⟨b1, b2, b3⟩ = true → 1 ≤ b1 ∧ b1 ≤ 5) (hlo0 : thrB ⟨a1, a2, a3⟩ = false → a1 = 0) (hhi0 : thrB ⟨b1, b2, b3⟩ = false → b1 = 0 ∧ thrB ⟨a1, a2, a3⟩ = false) :
    Calls Try.prog 39 #[.agg #[.int .i64 k, .int .i64 c, .int .i64 1, .int .i64 a1, .int .i64 a2, .int .i64 a3, .int .i64 b1, .int .i64 b2, .int .i64 b3], .agg #[.int .i64 t, .string nm, .int .i64 ww, .int .i64 hh]] w fun e w' => e = .returned (.int .i64 (ftT t (H ww) (H hh) ⟨k, c, 1, ⟨a1, a2, a3⟩, ⟨b1, b2, b3⟩⟩)) ∧ Below w.heap.size w w' := by
  have HB1 := below_oneT w (.cells #[.int .i64 k, .int .i64 c, .int .i64 1, .int .i64 a1, .int .i64 a2, .int .i64 a3, .int .i64 b1, .int .i64 b2, .int .i64 b3] 39)
  have hx1 := heap_alloc_new w (.cells #[.int .i64 k, .int .i64 c, .int .i64 1, .int .i64 a1, .int .i64 a2, .int .i64 a3, .int .i64 b1, .int .i64 b2, .int .i64 b3] 39)
  generalize hW1 : w.alloc (.cells #[.int .i64 k, .int .i64 c, .int .i64 1, .int .i64 a1, .int .i64 a2, .int .i64 a3, .int .i64 b1, .int .i64 b2, .int .i64 b3] 39) = W1 at *
  have HB2 := below_oneT W1 (.cells #[.int .i64 t, .string nm, .int .i64 ww, .int .i64 hh] 31)
  have hx2 := heap_alloc_new W1 (.cells #[.int .i64 t, .string nm, .int .i64 ww, .int .i64 hh] 31)
  have hx1' := (HB2.block _ (blk_ltQ hx1)).trans hx1
  have HB0 := Lib.hid (HB1.trans (HB2.mono HB1.size))
  generalize hW : W1.alloc (.cells #[.int .i64 t, .string nm, .int .i64 ww, .int .i64 hh] 31) = W at *
  have HX0 := Lib.hid hx1'
  have HY0 := Lib.hid hx2
  obtain ⟨e0, e1, e2, e3⟩ := ex_cells hx2
  obtain ⟨d0, d1, d2, d3, d4, d5, d6, d7, d8⟩ := qn_cells hx1'
  clear hx1 hx2 hx1' HB1 HB2
  have PL := fun W => refPlain14_any 1 t nm ww hh W
  have SH := fun W => refSides14_any 1 b1 b2 b3 t nm ww hh W (by decide) (by decide) (fun h => absurd h (by decide))
  have SL := fun W => refSides14_any 1 a1 a2 a3 t nm ww hh W (by decide) (by decide) (fun h => absurd h (by decide))
  have CH := fun h1 h5 W => refHolds14_any (sdA 1 ⟨b1, b2, b3⟩ (H ww) (H hh)) b1 (sdB 1 ⟨b1, b2, b3⟩ (H ww) (H hh)) W h1 h5
  have CL := fun h1 h5 W => refHolds14_any (sdB 1 ⟨a1, a2, a3⟩ (H ww) (H hh)) a1 (sdA 1 ⟨a1, a2, a3⟩ (H ww) (H hh)) W h1 h5
  obtain ⟨R, hR⟩ : ∃ R, ftT t (H ww) (H hh) ⟨k, c, 1, ⟨a1, a2, a3⟩, ⟨b1, b2, b3⟩⟩ = R := ⟨_, rfl⟩
  rw [hR]
  unfold ftT bnT at hR
  simp only [] at hR
  generalize cmT (sdA 1 ⟨b1, b2, b3⟩ (H ww) (H hh)) b1 (sdB 1 ⟨b1, b2, b3⟩ (H ww) (H hh)) = ch at *
  generalize cmT (sdB 1 ⟨a1, a2, a3⟩ (H ww) (H hh)) a1 (sdA 1 ⟨a1, a2, a3⟩ (H ww) (H hh)) = cl at *
  generalize sdA 1 ⟨b1, b2, b3⟩ (H ww) (H hh) = xa at *
  generalize sdB 1 ⟨b1, b2, b3⟩ (H ww) (H hh) = xb at *
  generalize sdA 1 ⟨a1, a2, a3⟩ (H ww) (H hh) = ya at *
  generalize sdB 1 ⟨a1, a2, a3⟩ (H ww) (H hh) = yb at *
  generalize smT 1 (H ww) (H hh) = sm at *
  generalize thrB ⟨b1, b2, b3⟩ = th at *
  generalize thrB ⟨a1, a2, a3⟩ = tl at *
  have PLL := Lib.hid PL
  have SHH := Lib.hid SH
  have SLL := Lib.hid SL
  clear SH SL PL
  have kn : knT 1 t = decide (t = 1 ∨ t = 2) := by unfold knT; rw [if_pos (by decide)]
  rw [kn] at hR
  clear kn
  rcases (by omega : t = 2 ∨ (t ≠ 2 ∧ t = 1) ∨ (t ≠ 2 ∧ t ≠ 1)) with rfl | ⟨_, rfl⟩ | ⟨t2, t1⟩
  · cases th
    · obtain ⟨rfl, rfl⟩ := hhi0 rfl
      have := hlo0 rfl
      subst this
      clear hlo hhi hlo0 hhi0 CH CL
      cases sm
      · obtain rfl : (0 : Int) = R := by rw [← hR]; rfl
        go_enter Try.func39, Try.ntmps39
        go_wp2_with fail
        refine (PLL.out _).mono ?_
        rintro e w1 ⟨rfl, hb⟩
        have hx := (hb.block _ (blk_ltQ HX0.out)).trans HX0.out
        have hy := (hb.block _ (blk_ltQ HY0.out)).trans HY0.out
        have HB1 := Lib.hid (HB0.out.trans (hb.mono HB0.out.size))
        have HX1 := Lib.hid hx
        have HY1 := Lib.hid hy
        obtain ⟨e0, e1, e2, e3⟩ := ex_cells hy
        obtain ⟨d0, d1, d2, d3, d4, d5, d6, d7, d8⟩ := qn_cells hx
        clear hb hx hy
        go_wp2_with fail
        go_ret
        exact ⟨rfl, HB1.out⟩
      · obtain rfl : (1 : Int) = R := by rw [← hR]; rfl
        go_enter Try.func39, Try.ntmps39
        go_wp2_with fail
        refine (PLL.out _).mono ?_
        rintro e w1 ⟨rfl, hb⟩
        have hx := (hb.block _ (blk_ltQ HX0.out)).trans HX0.out
        have hy := (hb.block _ (blk_ltQ HY0.out)).trans HY0.out
        have HB1 := Lib.hid (HB0.out.trans (hb.mono HB0.out.size))
        have HX1 := Lib.hid hx
        have HY1 := Lib.hid hy
        obtain ⟨e0, e1, e2, e3⟩ := ex_cells hy
        obtain ⟨d0, d1, d2, d3, d4, d5, d6, d7, d8⟩ := qn_cells hx
        clear hb hx hy
        go_wp2_with fail
        go_ret
        exact ⟨rfl, HB1.out⟩
    · obtain ⟨hb1, hb5⟩ := hhi rfl
      have zb : (b1 == 0) = false := neq_beq (by omega)
      have CHH := Lib.hid (CH hb1 hb5)
      clear CH hhi hhi0 hb1 hb5
      cases tl
      · have := hlo0 rfl
        subst this
        clear hlo hlo0 CL
        cases ch
        · obtain rfl : (0 : Int) = R := by rw [← hR]; rfl
          go_enter Try.func39, Try.ntmps39
          go_wp2_with fail
          refine (SHH.out _).mono ?_
          rintro e w1 ⟨rfl, hb⟩
          have hx := (hb.block _ (blk_ltQ HX0.out)).trans HX0.out
          have hy := (hb.block _ (blk_ltQ HY0.out)).trans HY0.out
          have HB1 := Lib.hid (HB0.out.trans (hb.mono HB0.out.size))
          have HX1 := Lib.hid hx
          have HY1 := Lib.hid hy
          obtain ⟨e0, e1, e2, e3⟩ := ex_cells hy
          obtain ⟨d0, d1, d2, d3, d4, d5, d6, d7, d8⟩ := qn_cells hx
          clear hb hx hy
          go_wp2_with fail
          refine (CHH.out _).mono ?_
          rintro e wq ⟨rfl, rfl⟩
          go_wp2_with fail
          go_ret
          exact ⟨rfl, HB1.out⟩
        · obtain rfl : (1 : Int) = R := by rw [← hR]; rfl
          go_enter Try.func39, Try.ntmps39
          go_wp2_with fail
          refine (SHH.out _).mono ?_
          rintro e w1 ⟨rfl, hb⟩
          have hx := (hb.block _ (blk_ltQ HX0.out)).trans HX0.out
          have hy := (hb.block _ (blk_ltQ HY0.out)).trans HY0.out
          have HB1 := Lib.hid (HB0.out.trans (hb.mono HB0.out.size))
          have HX1 := Lib.hid hx
          have HY1 := Lib.hid hy
          obtain ⟨e0, e1, e2, e3⟩ := ex_cells hy
          obtain ⟨d0, d1, d2, d3, d4, d5, d6, d7, d8⟩ := qn_cells hx
          clear hb hx hy
          go_wp2_with fail
          refine (CHH.out _).mono ?_
          rintro e wq ⟨rfl, rfl⟩
          go_wp2_with fail
          go_ret
          exact ⟨rfl, HB1.out⟩
      · obtain ⟨ha1, ha5⟩ := hlo rfl
        have za : (0 : Int) < a1 := by omega
        have CLL := Lib.hid (CL ha1 ha5)
        clear CL hlo hlo0 ha5
        cases ch
        · obtain rfl : (0 : Int) = R := by rw [← hR]; rfl
          go_enter Try.func39, Try.ntmps39
          go_wp2_with fail
          refine (SHH.out _).mono ?_
          rintro e w1 ⟨rfl, hb⟩
          have hx := (hb.block _ (blk_ltQ HX0.out)).trans HX0.out
          have hy := (hb.block _ (blk_ltQ HY0.out)).trans HY0.out
          have HB1 := Lib.hid (HB0.out.trans (hb.mono HB0.out.size))
          have HX1 := Lib.hid hx
          have HY1 := Lib.hid hy
          obtain ⟨e0, e1, e2, e3⟩ := ex_cells hy
          obtain ⟨d0, d1, d2, d3, d4, d5, d6, d7, d8⟩ := qn_cells hx
          clear hb hx hy
          go_wp2_with fail
          refine (CHH.out _).mono ?_
          rintro e wq ⟨rfl, rfl⟩
          go_wp2_with fail
          refine (SLL.out _).mono ?_
          rintro e w2 ⟨rfl, hb⟩
          have hx := (hb.block _ (blk_ltQ HX1.out)).trans HX1.out
          have hy := (hb.block _ (blk_ltQ HY1.out)).trans HY1.out
          have HB2 := Lib.hid (HB1.out.trans (hb.mono HB1.out.size))
          have HX2 := Lib.hid hx
          have HY2 := Lib.hid hy
          obtain ⟨e0, e1, e2, e3⟩ := ex_cells hy
          obtain ⟨d0, d1, d2, d3, d4, d5, d6, d7, d8⟩ := qn_cells hx
          clear hb hx hy
          go_wp2_with fail
          go_ret
          exact ⟨rfl, HB2.out⟩
        · cases cl
          · obtain rfl : (0 : Int) = R := by rw [← hR]; rfl
            go_enter Try.func39, Try.ntmps39
            go_wp2_with fail
            refine (SHH.out _).mono ?_
            rintro e w1 ⟨rfl, hb⟩
            have hx := (hb.block _ (blk_ltQ HX0.out)).trans HX0.out
            have hy := (hb.block _ (blk_ltQ HY0.out)).trans HY0.out
            have HB1 := Lib.hid (HB0.out.trans (hb.mono HB0.out.size))
            have HX1 := Lib.hid hx
            have HY1 := Lib.hid hy
            obtain ⟨e0, e1, e2, e3⟩ := ex_cells hy
            obtain ⟨d0, d1, d2, d3, d4, d5, d6, d7, d8⟩ := qn_cells hx
            clear hb hx hy
            go_wp2_with fail
            refine (CHH.out _).mono ?_
            rintro e wq ⟨rfl, rfl⟩
            go_wp2_with fail
            refine (SLL.out _).mono ?_
            rintro e w2 ⟨rfl, hb⟩
            have hx := (hb.block _ (blk_ltQ HX1.out)).trans HX1.out
            have hy := (hb.block _ (blk_ltQ HY1.out)).trans HY1.out
            have HB2 := Lib.hid (HB1.out.trans (hb.mono HB1.out.size))
            have HX2 := Lib.hid hx
            have HY2 := Lib.hid hy
            obtain ⟨e0, e1, e2, e3⟩ := ex_cells hy
            obtain ⟨d0, d1, d2, d3, d4, d5, d6, d7, d8⟩ := qn_cells hx
            clear hb hx hy
            go_wp2_with fail
            refine (CLL.out _).mono ?_
            rintro e wq ⟨rfl, rfl⟩
            go_wp2_with fail
            go_ret
            exact ⟨rfl, HB2.out⟩
          · obtain rfl : (1 : Int) = R := by rw [← hR]; rfl
            go_enter Try.func39, Try.ntmps39
            go_wp2_with fail
            refine (SHH.out _).mono ?_
            rintro e w1 ⟨rfl, hb⟩
            have hx := (hb.block _ (blk_ltQ HX0.out)).trans HX0.out
            have hy := (hb.block _ (blk_ltQ HY0.out)).trans HY0.out
            have HB1 := Lib.hid (HB0.out.trans (hb.mono HB0.out.size))
            have HX1 := Lib.hid hx
            have HY1 := Lib.hid hy
            obtain ⟨e0, e1, e2, e3⟩ := ex_cells hy
            obtain ⟨d0, d1, d2, d3, d4, d5, d6, d7, d8⟩ := qn_cells hx
            clear hb hx hy
            go_wp2_with fail
            refine (CHH.out _).mono ?_
            rintro e wq ⟨rfl, rfl⟩
            go_wp2_with fail
            refine (SLL.out _).mono ?_
            rintro e w2 ⟨rfl, hb⟩
            have hx := (hb.block _ (blk_ltQ HX1.out)).trans HX1.out
            have hy := (hb.block _ (blk_ltQ HY1.out)).trans HY1.out
            have HB2 := Lib.hid (HB1.out.trans (hb.mono HB1.out.size))
            have HX2 := Lib.hid hx
            have HY2 := Lib.hid hy
            obtain ⟨e0, e1, e2, e3⟩ := ex_cells hy
            obtain ⟨d0, d1, d2, d3, d4, d5, d6, d7, d8⟩ := qn_cells hx
            clear hb hx hy
            go_wp2_with fail
            refine (CLL.out _).mono ?_
            rintro e wq ⟨rfl, rfl⟩
            go_wp2_with fail
            go_ret
            exact ⟨rfl, HB2.out⟩
  · cases th
    · obtain ⟨rfl, rfl⟩ := hhi0 rfl
      have := hlo0 rfl
      subst this
      clear hlo hhi hlo0 hhi0 CH CL
      cases sm
      · obtain rfl : (0 : Int) = R := by rw [← hR]; rfl
        go_enter Try.func39, Try.ntmps39
        go_wp2_with fail
        refine (PLL.out _).mono ?_
        rintro e w1 ⟨rfl, hb⟩
        have hx := (hb.block _ (blk_ltQ HX0.out)).trans HX0.out
        have hy := (hb.block _ (blk_ltQ HY0.out)).trans HY0.out
        have HB1 := Lib.hid (HB0.out.trans (hb.mono HB0.out.size))
        have HX1 := Lib.hid hx
        have HY1 := Lib.hid hy
        obtain ⟨e0, e1, e2, e3⟩ := ex_cells hy
        obtain ⟨d0, d1, d2, d3, d4, d5, d6, d7, d8⟩ := qn_cells hx
        clear hb hx hy
        go_wp2_with fail
        go_ret
        exact ⟨rfl, HB1.out⟩
      · obtain rfl : (1 : Int) = R := by rw [← hR]; rfl
        go_enter Try.func39, Try.ntmps39
        go_wp2_with fail
        refine (PLL.out _).mono ?_
        rintro e w1 ⟨rfl, hb⟩
        have hx := (hb.block _ (blk_ltQ HX0.out)).trans HX0.out
        have hy := (hb.block _ (blk_ltQ HY0.out)).trans HY0.out
        have HB1 := Lib.hid (HB0.out.trans (hb.mono HB0.out.size))
        have HX1 := Lib.hid hx
        have HY1 := Lib.hid hy
        obtain ⟨e0, e1, e2, e3⟩ := ex_cells hy
        obtain ⟨d0, d1, d2, d3, d4, d5, d6, d7, d8⟩ := qn_cells hx
        clear hb hx hy
        go_wp2_with fail
        go_ret
        exact ⟨rfl, HB1.out⟩
    · obtain ⟨hb1, hb5⟩ := hhi rfl
      have zb : (b1 == 0) = false := neq_beq (by omega)
      have CHH := Lib.hid (CH hb1 hb5)
      clear CH hhi hhi0 hb1 hb5
      cases tl
      · have := hlo0 rfl
        subst this
        clear hlo hlo0 CL
        cases ch
        · obtain rfl : (0 : Int) = R := by rw [← hR]; rfl
          go_enter Try.func39, Try.ntmps39
          go_wp2_with fail
          refine (SHH.out _).mono ?_
          rintro e w1 ⟨rfl, hb⟩
          have hx := (hb.block _ (blk_ltQ HX0.out)).trans HX0.out
          have hy := (hb.block _ (blk_ltQ HY0.out)).trans HY0.out
          have HB1 := Lib.hid (HB0.out.trans (hb.mono HB0.out.size))
          have HX1 := Lib.hid hx
          have HY1 := Lib.hid hy
          obtain ⟨e0, e1, e2, e3⟩ := ex_cells hy
          obtain ⟨d0, d1, d2, d3, d4, d5, d6, d7, d8⟩ := qn_cells hx
          clear hb hx hy
          go_wp2_with fail
          refine (CHH.out _).mono ?_
          rintro e wq ⟨rfl, rfl⟩
          go_wp2_with fail
          go_ret
          exact ⟨rfl, HB1.out⟩
        · obtain rfl : (1 : Int) = R := by rw [← hR]; rfl
          go_enter Try.func39, Try.ntmps39
          go_wp2_with fail
          refine (SHH.out _).mono ?_
          rintro e w1 ⟨rfl, hb⟩
          have hx := (hb.block _ (blk_ltQ HX0.out)).trans HX0.out
          have hy := (hb.block _ (blk_ltQ HY0.out)).trans HY0.out
          have HB1 := Lib.hid (HB0.out.trans (hb.mono HB0.out.size))
          have HX1 := Lib.hid hx
          have HY1 := Lib.hid hy
          obtain ⟨e0, e1, e2, e3⟩ := ex_cells hy
          obtain ⟨d0, d1, d2, d3, d4, d5, d6, d7, d8⟩ := qn_cells hx
          clear hb hx hy
          go_wp2_with fail
          refine (CHH.out _).mono ?_
          rintro e wq ⟨rfl, rfl⟩
          go_wp2_with fail
          go_ret
          exact ⟨rfl, HB1.out⟩
      · obtain ⟨ha1, ha5⟩ := hlo rfl
        have za : (0 : Int) < a1 := by omega
        have CLL := Lib.hid (CL ha1 ha5)
        clear CL hlo hlo0 ha5
        cases ch
        · obtain rfl : (0 : Int) = R := by rw [← hR]; rfl
          go_enter Try.func39, Try.ntmps39
          go_wp2_with fail
          refine (SHH.out _).mono ?_
          rintro e w1 ⟨rfl, hb⟩
          have hx := (hb.block _ (blk_ltQ HX0.out)).trans HX0.out
          have hy := (hb.block _ (blk_ltQ HY0.out)).trans HY0.out
          have HB1 := Lib.hid (HB0.out.trans (hb.mono HB0.out.size))
          have HX1 := Lib.hid hx
          have HY1 := Lib.hid hy
          obtain ⟨e0, e1, e2, e3⟩ := ex_cells hy
          obtain ⟨d0, d1, d2, d3, d4, d5, d6, d7, d8⟩ := qn_cells hx
          clear hb hx hy
          go_wp2_with fail
          refine (CHH.out _).mono ?_
          rintro e wq ⟨rfl, rfl⟩
          go_wp2_with fail
          refine (SLL.out _).mono ?_
          rintro e w2 ⟨rfl, hb⟩
          have hx := (hb.block _ (blk_ltQ HX1.out)).trans HX1.out
          have hy := (hb.block _ (blk_ltQ HY1.out)).trans HY1.out
          have HB2 := Lib.hid (HB1.out.trans (hb.mono HB1.out.size))
          have HX2 := Lib.hid hx
          have HY2 := Lib.hid hy
          obtain ⟨e0, e1, e2, e3⟩ := ex_cells hy
          obtain ⟨d0, d1, d2, d3, d4, d5, d6, d7, d8⟩ := qn_cells hx
          clear hb hx hy
          go_wp2_with fail
          go_ret
          exact ⟨rfl, HB2.out⟩
        · cases cl
          · obtain rfl : (0 : Int) = R := by rw [← hR]; rfl
            go_enter Try.func39, Try.ntmps39
            go_wp2_with fail
            refine (SHH.out _).mono ?_
            rintro e w1 ⟨rfl, hb⟩
            have hx := (hb.block _ (blk_ltQ HX0.out)).trans HX0.out
            have hy := (hb.block _ (blk_ltQ HY0.out)).trans HY0.out
            have HB1 := Lib.hid (HB0.out.trans (hb.mono HB0.out.size))
            have HX1 := Lib.hid hx
            have HY1 := Lib.hid hy
            obtain ⟨e0, e1, e2, e3⟩ := ex_cells hy
            obtain ⟨d0, d1, d2, d3, d4, d5, d6, d7, d8⟩ := qn_cells hx
            clear hb hx hy
            go_wp2_with fail
            refine (CHH.out _).mono ?_
            rintro e wq ⟨rfl, rfl⟩
            go_wp2_with fail
            refine (SLL.out _).mono ?_
            rintro e w2 ⟨rfl, hb⟩
            have hx := (hb.block _ (blk_ltQ HX1.out)).trans HX1.out
            have hy := (hb.block _ (blk_ltQ HY1.out)).trans HY1.out
            have HB2 := Lib.hid (HB1.out.trans (hb.mono HB1.out.size))
            have HX2 := Lib.hid hx
            have HY2 := Lib.hid hy
            obtain ⟨e0, e1, e2, e3⟩ := ex_cells hy
            obtain ⟨d0, d1, d2, d3, d4, d5, d6, d7, d8⟩ := qn_cells hx
            clear hb hx hy
            go_wp2_with fail
            refine (CLL.out _).mono ?_
            rintro e wq ⟨rfl, rfl⟩
            go_wp2_with fail
            go_ret
            exact ⟨rfl, HB2.out⟩
          · obtain rfl : (1 : Int) = R := by rw [← hR]; rfl
            go_enter Try.func39, Try.ntmps39
            go_wp2_with fail
            refine (SHH.out _).mono ?_
            rintro e w1 ⟨rfl, hb⟩
            have hx := (hb.block _ (blk_ltQ HX0.out)).trans HX0.out
            have hy := (hb.block _ (blk_ltQ HY0.out)).trans HY0.out
            have HB1 := Lib.hid (HB0.out.trans (hb.mono HB0.out.size))
            have HX1 := Lib.hid hx
            have HY1 := Lib.hid hy
            obtain ⟨e0, e1, e2, e3⟩ := ex_cells hy
            obtain ⟨d0, d1, d2, d3, d4, d5, d6, d7, d8⟩ := qn_cells hx
            clear hb hx hy
            go_wp2_with fail
            refine (CHH.out _).mono ?_
            rintro e wq ⟨rfl, rfl⟩
            go_wp2_with fail
            refine (SLL.out _).mono ?_
            rintro e w2 ⟨rfl, hb⟩
            have hx := (hb.block _ (blk_ltQ HX1.out)).trans HX1.out
            have hy := (hb.block _ (blk_ltQ HY1.out)).trans HY1.out
            have HB2 := Lib.hid (HB1.out.trans (hb.mono HB1.out.size))
            have HX2 := Lib.hid hx
            have HY2 := Lib.hid hy
            obtain ⟨e0, e1, e2, e3⟩ := ex_cells hy
            obtain ⟨d0, d1, d2, d3, d4, d5, d6, d7, d8⟩ := qn_cells hx
            clear hb hx hy
            go_wp2_with fail
            refine (CLL.out _).mono ?_
            rintro e wq ⟨rfl, rfl⟩
            go_wp2_with fail
            go_ret
            exact ⟨rfl, HB2.out⟩
  · obtain rfl : (2 : Int) = R := by rw [← hR]; first | rfl | rw [if_neg (by rw [decide_eq_true_eq]; omega)]
    clear hlo hhi hlo0 hhi0 CH CL
    have y1 := neq_beq t1
    have y2 := neq_beq t2
    go_enter Try.func39, Try.ntmps39
    go_wp2_with fail
    go_ret
    exact ⟨rfl, HB0.out⟩
set_option maxRecDepth 100000 in
set_option maxHeartbeats 16000000 in
theorem refFeature14_3 (k c a1 a2 a3 b1 b2 b3 t : Int) (nm : ByteArray) (ww hh : Int) (w : World) (hlo : thrB ⟨a1, a2, a3⟩ = true → 1 ≤ a1 ∧ a1 ≤ 5) (hhi : thrB ⟨b1, b2, b3⟩ = true → 1 ≤ b1 ∧ b1 ≤ 5) (hlo0 : thrB ⟨a1, a2, a3⟩ = false → a1 = 0) (hhi0 : thrB ⟨b1, b2, b3⟩ = false → b1 = 0 ∧ thrB ⟨a1, a2, a3⟩ = false) :
    Calls Try.prog 39 #[.agg #[.int .i64 k, .int .i64 c, .int .i64 3, .int .i64 a1, .int .i64 a2, .int .i64 a3, .int .i64 b1, .int .i64 b2, .int .i64 b3], .agg #[.int .i64 t, .string nm, .int .i64 ww, .int .i64 hh]] w fun e w' => e = .returned (.int .i64 (ftT t (H ww) (H hh) ⟨k, c, 3, ⟨a1, a2, a3⟩, ⟨b1, b2, b3⟩⟩)) ∧ Below w.heap.size w w' := by
  have HB1 := below_oneT w (.cells #[.int .i64 k, .int .i64 c, .int .i64 3, .int .i64 a1, .int .i64 a2, .int .i64 a3, .int .i64 b1, .int .i64 b2, .int .i64 b3] 39)
  have hx1 := heap_alloc_new w (.cells #[.int .i64 k, .int .i64 c, .int .i64 3, .int .i64 a1, .int .i64 a2, .int .i64 a3, .int .i64 b1, .int .i64 b2, .int .i64 b3] 39)
  generalize hW1 : w.alloc (.cells #[.int .i64 k, .int .i64 c, .int .i64 3, .int .i64 a1, .int .i64 a2, .int .i64 a3, .int .i64 b1, .int .i64 b2, .int .i64 b3] 39) = W1 at *
  have HB2 := below_oneT W1 (.cells #[.int .i64 t, .string nm, .int .i64 ww, .int .i64 hh] 31)
  have hx2 := heap_alloc_new W1 (.cells #[.int .i64 t, .string nm, .int .i64 ww, .int .i64 hh] 31)
  have hx1' := (HB2.block _ (blk_ltQ hx1)).trans hx1
  have HB0 := Lib.hid (HB1.trans (HB2.mono HB1.size))
  generalize hW : W1.alloc (.cells #[.int .i64 t, .string nm, .int .i64 ww, .int .i64 hh] 31) = W at *
  have HX0 := Lib.hid hx1'
  have HY0 := Lib.hid hx2
  obtain ⟨e0, e1, e2, e3⟩ := ex_cells hx2
  obtain ⟨d0, d1, d2, d3, d4, d5, d6, d7, d8⟩ := qn_cells hx1'
  clear hx1 hx2 hx1' HB1 HB2
  have PL := fun W => refPlain14_any 3 t nm ww hh W
  have SH := fun W => refSides14_any 3 b1 b2 b3 t nm ww hh W (by decide) (by decide) (fun h => absurd h (by decide))
  have SL := fun W => refSides14_any 3 a1 a2 a3 t nm ww hh W (by decide) (by decide) (fun h => absurd h (by decide))
  have CH := fun h1 h5 W => refHolds14_any (sdA 3 ⟨b1, b2, b3⟩ (H ww) (H hh)) b1 (sdB 3 ⟨b1, b2, b3⟩ (H ww) (H hh)) W h1 h5
  have CL := fun h1 h5 W => refHolds14_any (sdB 3 ⟨a1, a2, a3⟩ (H ww) (H hh)) a1 (sdA 3 ⟨a1, a2, a3⟩ (H ww) (H hh)) W h1 h5
  obtain ⟨R, hR⟩ : ∃ R, ftT t (H ww) (H hh) ⟨k, c, 3, ⟨a1, a2, a3⟩, ⟨b1, b2, b3⟩⟩ = R := ⟨_, rfl⟩
  rw [hR]
  unfold ftT bnT at hR
  simp only [] at hR
  generalize cmT (sdA 3 ⟨b1, b2, b3⟩ (H ww) (H hh)) b1 (sdB 3 ⟨b1, b2, b3⟩ (H ww) (H hh)) = ch at *
  generalize cmT (sdB 3 ⟨a1, a2, a3⟩ (H ww) (H hh)) a1 (sdA 3 ⟨a1, a2, a3⟩ (H ww) (H hh)) = cl at *
  generalize sdA 3 ⟨b1, b2, b3⟩ (H ww) (H hh) = xa at *
  generalize sdB 3 ⟨b1, b2, b3⟩ (H ww) (H hh) = xb at *
  generalize sdA 3 ⟨a1, a2, a3⟩ (H ww) (H hh) = ya at *
  generalize sdB 3 ⟨a1, a2, a3⟩ (H ww) (H hh) = yb at *
  generalize smT 3 (H ww) (H hh) = sm at *
  generalize thrB ⟨b1, b2, b3⟩ = th at *
  generalize thrB ⟨a1, a2, a3⟩ = tl at *
  have PLL := Lib.hid PL
  have SHH := Lib.hid SH
  have SLL := Lib.hid SL
  clear SH SL PL
  have kn : knT 3 t = decide (t = 1 ∨ t = 2) := by unfold knT; rw [if_pos (by decide)]
  rw [kn] at hR
  clear kn
  rcases (by omega : t = 2 ∨ (t ≠ 2 ∧ t = 1) ∨ (t ≠ 2 ∧ t ≠ 1)) with rfl | ⟨_, rfl⟩ | ⟨t2, t1⟩
  · cases th
    · obtain ⟨rfl, rfl⟩ := hhi0 rfl
      have := hlo0 rfl
      subst this
      clear hlo hhi hlo0 hhi0 CH CL
      cases sm
      · obtain rfl : (0 : Int) = R := by rw [← hR]; rfl
        go_enter Try.func39, Try.ntmps39
        go_wp2_with fail
        refine (PLL.out _).mono ?_
        rintro e w1 ⟨rfl, hb⟩
        have hx := (hb.block _ (blk_ltQ HX0.out)).trans HX0.out
        have hy := (hb.block _ (blk_ltQ HY0.out)).trans HY0.out
        have HB1 := Lib.hid (HB0.out.trans (hb.mono HB0.out.size))
        have HX1 := Lib.hid hx
        have HY1 := Lib.hid hy
        obtain ⟨e0, e1, e2, e3⟩ := ex_cells hy
        obtain ⟨d0, d1, d2, d3, d4, d5, d6, d7, d8⟩ := qn_cells hx
        clear hb hx hy
        go_wp2_with fail
        go_ret
        exact ⟨rfl, HB1.out⟩
      · obtain rfl : (1 : Int) = R := by rw [← hR]; rfl
        go_enter Try.func39, Try.ntmps39
        go_wp2_with fail
        refine (PLL.out _).mono ?_
        rintro e w1 ⟨rfl, hb⟩
        have hx := (hb.block _ (blk_ltQ HX0.out)).trans HX0.out
        have hy := (hb.block _ (blk_ltQ HY0.out)).trans HY0.out
        have HB1 := Lib.hid (HB0.out.trans (hb.mono HB0.out.size))
        have HX1 := Lib.hid hx
        have HY1 := Lib.hid hy
        obtain ⟨e0, e1, e2, e3⟩ := ex_cells hy
        obtain ⟨d0, d1, d2, d3, d4, d5, d6, d7, d8⟩ := qn_cells hx
        clear hb hx hy
        go_wp2_with fail
        go_ret
        exact ⟨rfl, HB1.out⟩
    · obtain ⟨hb1, hb5⟩ := hhi rfl
      have zb : (b1 == 0) = false := neq_beq (by omega)
      have CHH := Lib.hid (CH hb1 hb5)
      clear CH hhi hhi0 hb1 hb5
      cases tl
      · have := hlo0 rfl
        subst this
        clear hlo hlo0 CL
        cases ch
        · obtain rfl : (0 : Int) = R := by rw [← hR]; rfl
          go_enter Try.func39, Try.ntmps39
          go_wp2_with fail
          refine (SHH.out _).mono ?_
          rintro e w1 ⟨rfl, hb⟩
          have hx := (hb.block _ (blk_ltQ HX0.out)).trans HX0.out
          have hy := (hb.block _ (blk_ltQ HY0.out)).trans HY0.out
          have HB1 := Lib.hid (HB0.out.trans (hb.mono HB0.out.size))
          have HX1 := Lib.hid hx
          have HY1 := Lib.hid hy
          obtain ⟨e0, e1, e2, e3⟩ := ex_cells hy
          obtain ⟨d0, d1, d2, d3, d4, d5, d6, d7, d8⟩ := qn_cells hx
          clear hb hx hy
          go_wp2_with fail
          refine (CHH.out _).mono ?_
          rintro e wq ⟨rfl, rfl⟩
          go_wp2_with fail
          go_ret
          exact ⟨rfl, HB1.out⟩
        · obtain rfl : (1 : Int) = R := by rw [← hR]; rfl
          go_enter Try.func39, Try.ntmps39
          go_wp2_with fail
          refine (SHH.out _).mono ?_
          rintro e w1 ⟨rfl, hb⟩
          have hx := (hb.block _ (blk_ltQ HX0.out)).trans HX0.out
          have hy := (hb.block _ (blk_ltQ HY0.out)).trans HY0.out
          have HB1 := Lib.hid (HB0.out.trans (hb.mono HB0.out.size))
          have HX1 := Lib.hid hx
          have HY1 := Lib.hid hy
          obtain ⟨e0, e1, e2, e3⟩ := ex_cells hy
          obtain ⟨d0, d1, d2, d3, d4, d5, d6, d7, d8⟩ := qn_cells hx
          clear hb hx hy
          go_wp2_with fail
          refine (CHH.out _).mono ?_
          rintro e wq ⟨rfl, rfl⟩
          go_wp2_with fail
          go_ret
          exact ⟨rfl, HB1.out⟩
      · obtain ⟨ha1, ha5⟩ := hlo rfl
        have za : (0 : Int) < a1 := by omega
        have CLL := Lib.hid (CL ha1 ha5)
        clear CL hlo hlo0 ha5
        cases ch
        · obtain rfl : (0 : Int) = R := by rw [← hR]; rfl
          go_enter Try.func39, Try.ntmps39
          go_wp2_with fail
          refine (SHH.out _).mono ?_
          rintro e w1 ⟨rfl, hb⟩
          have hx := (hb.block _ (blk_ltQ HX0.out)).trans HX0.out
          have hy := (hb.block _ (blk_ltQ HY0.out)).trans HY0.out
          have HB1 := Lib.hid (HB0.out.trans (hb.mono HB0.out.size))
          have HX1 := Lib.hid hx
          have HY1 := Lib.hid hy
          obtain ⟨e0, e1, e2, e3⟩ := ex_cells hy
          obtain ⟨d0, d1, d2, d3, d4, d5, d6, d7, d8⟩ := qn_cells hx
          clear hb hx hy
          go_wp2_with fail
          refine (CHH.out _).mono ?_
          rintro e wq ⟨rfl, rfl⟩
          go_wp2_with fail
          refine (SLL.out _).mono ?_
          rintro e w2 ⟨rfl, hb⟩
          have hx := (hb.block _ (blk_ltQ HX1.out)).trans HX1.out
          have hy := (hb.block _ (blk_ltQ HY1.out)).trans HY1.out
          have HB2 := Lib.hid (HB1.out.trans (hb.mono HB1.out.size))
          have HX2 := Lib.hid hx
          have HY2 := Lib.hid hy
          obtain ⟨e0, e1, e2, e3⟩ := ex_cells hy
          obtain ⟨d0, d1, d2, d3, d4, d5, d6, d7, d8⟩ := qn_cells hx
          clear hb hx hy
          go_wp2_with fail
          go_ret
          exact ⟨rfl, HB2.out⟩
        · cases cl
          · obtain rfl : (0 : Int) = R := by rw [← hR]; rfl
            go_enter Try.func39, Try.ntmps39
            go_wp2_with fail
            refine (SHH.out _).mono ?_
            rintro e w1 ⟨rfl, hb⟩
            have hx := (hb.block _ (blk_ltQ HX0.out)).trans HX0.out
            have hy := (hb.block _ (blk_ltQ HY0.out)).trans HY0.out
            have HB1 := Lib.hid (HB0.out.trans (hb.mono HB0.out.size))
            have HX1 := Lib.hid hx
            have HY1 := Lib.hid hy
            obtain ⟨e0, e1, e2, e3⟩ := ex_cells hy
            obtain ⟨d0, d1, d2, d3, d4, d5, d6, d7, d8⟩ := qn_cells hx
            clear hb hx hy
            go_wp2_with fail
            refine (CHH.out _).mono ?_
            rintro e wq ⟨rfl, rfl⟩
            go_wp2_with fail
            refine (SLL.out _).mono ?_
            rintro e w2 ⟨rfl, hb⟩
            have hx := (hb.block _ (blk_ltQ HX1.out)).trans HX1.out
            have hy := (hb.block _ (blk_ltQ HY1.out)).trans HY1.out
            have HB2 := Lib.hid (HB1.out.trans (hb.mono HB1.out.size))
            have HX2 := Lib.hid hx
            have HY2 := Lib.hid hy
            obtain ⟨e0, e1, e2, e3⟩ := ex_cells hy
            obtain ⟨d0, d1, d2, d3, d4, d5, d6, d7, d8⟩ := qn_cells hx
            clear hb hx hy
            go_wp2_with fail
            refine (CLL.out _).mono ?_
            rintro e wq ⟨rfl, rfl⟩
            go_wp2_with fail
            go_ret
            exact ⟨rfl, HB2.out⟩
          · obtain rfl : (1 : Int) = R := by rw [← hR]; rfl
            go_enter Try.func39, Try.ntmps39
            go_wp2_with fail
            refine (SHH.out _).mono ?_
            rintro e w1 ⟨rfl, hb⟩
            have hx := (hb.block _ (blk_ltQ HX0.out)).trans HX0.out
            have hy := (hb.block _ (blk_ltQ HY0.out)).trans HY0.out
            have HB1 := Lib.hid (HB0.out.trans (hb.mono HB0.out.size))
            have HX1 := Lib.hid hx
            have HY1 := Lib.hid hy
            obtain ⟨e0, e1, e2, e3⟩ := ex_cells hy
            obtain ⟨d0, d1, d2, d3, d4, d5, d6, d7, d8⟩ := qn_cells hx
            clear hb hx hy
            go_wp2_with fail
            refine (CHH.out _).mono ?_
            rintro e wq ⟨rfl, rfl⟩
            go_wp2_with fail
            refine (SLL.out _).mono ?_
            rintro e w2 ⟨rfl, hb⟩
            have hx := (hb.block _ (blk_ltQ HX1.out)).trans HX1.out
            have hy := (hb.block _ (blk_ltQ HY1.out)).trans HY1.out
            have HB2 := Lib.hid (HB1.out.trans (hb.mono HB1.out.size))
            have HX2 := Lib.hid hx
            have HY2 := Lib.hid hy
            obtain ⟨e0, e1, e2, e3⟩ := ex_cells hy
            obtain ⟨d0, d1, d2, d3, d4, d5, d6, d7, d8⟩ := qn_cells hx
            clear hb hx hy
            go_wp2_with fail
            refine (CLL.out _).mono ?_
            rintro e wq ⟨rfl, rfl⟩
            go_wp2_with fail
            go_ret
            exact ⟨rfl, HB2.out⟩
  · cases th
    · obtain ⟨rfl, rfl⟩ := hhi0 rfl
      have := hlo0 rfl
      subst this
      clear hlo hhi hlo0 hhi0 CH CL
      cases sm
      · obtain rfl : (0 : Int) = R := by rw [← hR]; rfl
        go_enter Try.func39, Try.ntmps39
        go_wp2_with fail
        refine (PLL.out _).mono ?_
        rintro e w1 ⟨rfl, hb⟩
        have hx := (hb.block _ (blk_ltQ HX0.out)).trans HX0.out
        have hy := (hb.block _ (blk_ltQ HY0.out)).trans HY0.out
        have HB1 := Lib.hid (HB0.out.trans (hb.mono HB0.out.size))
        have HX1 := Lib.hid hx
        have HY1 := Lib.hid hy
        obtain ⟨e0, e1, e2, e3⟩ := ex_cells hy
        obtain ⟨d0, d1, d2, d3, d4, d5, d6, d7, d8⟩ := qn_cells hx
        clear hb hx hy
        go_wp2_with fail
        go_ret
        exact ⟨rfl, HB1.out⟩
      · obtain rfl : (1 : Int) = R := by rw [← hR]; rfl
        go_enter Try.func39, Try.ntmps39
        go_wp2_with fail
        refine (PLL.out _).mono ?_
        rintro e w1 ⟨rfl, hb⟩
        have hx := (hb.block _ (blk_ltQ HX0.out)).trans HX0.out
        have hy := (hb.block _ (blk_ltQ HY0.out)).trans HY0.out
        have HB1 := Lib.hid (HB0.out.trans (hb.mono HB0.out.size))
        have HX1 := Lib.hid hx
        have HY1 := Lib.hid hy
        obtain ⟨e0, e1, e2, e3⟩ := ex_cells hy
        obtain ⟨d0, d1, d2, d3, d4, d5, d6, d7, d8⟩ := qn_cells hx
        clear hb hx hy
        go_wp2_with fail
        go_ret
        exact ⟨rfl, HB1.out⟩
    · obtain ⟨hb1, hb5⟩ := hhi rfl
      have zb : (b1 == 0) = false := neq_beq (by omega)
      have CHH := Lib.hid (CH hb1 hb5)
      clear CH hhi hhi0 hb1 hb5
      cases tl
      · have := hlo0 rfl
        subst this
        clear hlo hlo0 CL
        cases ch
        · obtain rfl : (0 : Int) = R := by rw [← hR]; rfl
          go_enter Try.func39, Try.ntmps39
          go_wp2_with fail
          refine (SHH.out _).mono ?_
          rintro e w1 ⟨rfl, hb⟩
          have hx := (hb.block _ (blk_ltQ HX0.out)).trans HX0.out
          have hy := (hb.block _ (blk_ltQ HY0.out)).trans HY0.out
          have HB1 := Lib.hid (HB0.out.trans (hb.mono HB0.out.size))
          have HX1 := Lib.hid hx
          have HY1 := Lib.hid hy
          obtain ⟨e0, e1, e2, e3⟩ := ex_cells hy
          obtain ⟨d0, d1, d2, d3, d4, d5, d6, d7, d8⟩ := qn_cells hx
          clear hb hx hy
          go_wp2_with fail
          refine (CHH.out _).mono ?_
          rintro e wq ⟨rfl, rfl⟩
          go_wp2_with fail
          go_ret
          exact ⟨rfl, HB1.out⟩
        · obtain rfl : (1 : Int) = R := by rw [← hR]; rfl
          go_enter Try.func39, Try.ntmps39
          go_wp2_with fail
          refine (SHH.out _).mono ?_
          rintro e w1 ⟨rfl, hb⟩
          have hx := (hb.block _ (blk_ltQ HX0.out)).trans HX0.out
          have hy := (hb.block _ (blk_ltQ HY0.out)).trans HY0.out
          have HB1 := Lib.hid (HB0.out.trans (hb.mono HB0.out.size))
          have HX1 := Lib.hid hx
          have HY1 := Lib.hid hy
          obtain ⟨e0, e1, e2, e3⟩ := ex_cells hy
          obtain ⟨d0, d1, d2, d3, d4, d5, d6, d7, d8⟩ := qn_cells hx
          clear hb hx hy
          go_wp2_with fail
          refine (CHH.out _).mono ?_
          rintro e wq ⟨rfl, rfl⟩
          go_wp2_with fail
          go_ret
          exact ⟨rfl, HB1.out⟩
      · obtain ⟨ha1, ha5⟩ := hlo rfl
        have za : (0 : Int) < a1 := by omega
        have CLL := Lib.hid (CL ha1 ha5)
        clear CL hlo hlo0 ha5
        cases ch
        · obtain rfl : (0 : Int) = R := by rw [← hR]; rfl
          go_enter Try.func39, Try.ntmps39
          go_wp2_with fail
          refine (SHH.out _).mono ?_
          rintro e w1 ⟨rfl, hb⟩
          have hx := (hb.block _ (blk_ltQ HX0.out)).trans HX0.out
          have hy := (hb.block _ (blk_ltQ HY0.out)).trans HY0.out
          have HB1 := Lib.hid (HB0.out.trans (hb.mono HB0.out.size))
          have HX1 := Lib.hid hx
          have HY1 := Lib.hid hy
          obtain ⟨e0, e1, e2, e3⟩ := ex_cells hy
          obtain ⟨d0, d1, d2, d3, d4, d5, d6, d7, d8⟩ := qn_cells hx
          clear hb hx hy
          go_wp2_with fail
          refine (CHH.out _).mono ?_
          rintro e wq ⟨rfl, rfl⟩
          go_wp2_with fail
          refine (SLL.out _).mono ?_
          rintro e w2 ⟨rfl, hb⟩
          have hx := (hb.block _ (blk_ltQ HX1.out)).trans HX1.out
          have hy := (hb.block _ (blk_ltQ HY1.out)).trans HY1.out
          have HB2 := Lib.hid (HB1.out.trans (hb.mono HB1.out.size))
          have HX2 := Lib.hid hx
          have HY2 := Lib.hid hy
          obtain ⟨e0, e1, e2, e3⟩ := ex_cells hy
          obtain ⟨d0, d1, d2, d3, d4, d5, d6, d7, d8⟩ := qn_cells hx
          clear hb hx hy
          go_wp2_with fail
          go_ret
          exact ⟨rfl, HB2.out⟩
        · cases cl
          · obtain rfl : (0 : Int) = R := by rw [← hR]; rfl
            go_enter Try.func39, Try.ntmps39
            go_wp2_with fail
            refine (SHH.out _).mono ?_
            rintro e w1 ⟨rfl, hb⟩
            have hx := (hb.block _ (blk_ltQ HX0.out)).trans HX0.out
            have hy := (hb.block _ (blk_ltQ HY0.out)).trans HY0.out
            have HB1 := Lib.hid (HB0.out.trans (hb.mono HB0.out.size))
            have HX1 := Lib.hid hx
            have HY1 := Lib.hid hy
            obtain ⟨e0, e1, e2, e3⟩ := ex_cells hy
            obtain ⟨d0, d1, d2, d3, d4, d5, d6, d7, d8⟩ := qn_cells hx
            clear hb hx hy
            go_wp2_with fail
            refine (CHH.out _).mono ?_
            rintro e wq ⟨rfl, rfl⟩
            go_wp2_with fail
            refine (SLL.out _).mono ?_
            rintro e w2 ⟨rfl, hb⟩
            have hx := (hb.block _ (blk_ltQ HX1.out)).trans HX1.out
            have hy := (hb.block _ (blk_ltQ HY1.out)).trans HY1.out
            have HB2 := Lib.hid (HB1.out.trans (hb.mono HB1.out.size))
            have HX2 := Lib.hid hx
            have HY2 := Lib.hid hy
            obtain ⟨e0, e1, e2, e3⟩ := ex_cells hy
            obtain ⟨d0, d1, d2, d3, d4, d5, d6, d7, d8⟩ := qn_cells hx
            clear hb hx hy
            go_wp2_with fail
            refine (CLL.out _).mono ?_
            rintro e wq ⟨rfl, rfl⟩
            go_wp2_with fail
            go_ret
            exact ⟨rfl, HB2.out⟩
          · obtain rfl : (1 : Int) = R := by rw [← hR]; rfl
            go_enter Try.func39, Try.ntmps39
            go_wp2_with fail
            refine (SHH.out _).mono ?_
            rintro e w1 ⟨rfl, hb⟩
            have hx := (hb.block _ (blk_ltQ HX0.out)).trans HX0.out
            have hy := (hb.block _ (blk_ltQ HY0.out)).trans HY0.out
            have HB1 := Lib.hid (HB0.out.trans (hb.mono HB0.out.size))
            have HX1 := Lib.hid hx
            have HY1 := Lib.hid hy
            obtain ⟨e0, e1, e2, e3⟩ := ex_cells hy
            obtain ⟨d0, d1, d2, d3, d4, d5, d6, d7, d8⟩ := qn_cells hx
            clear hb hx hy
            go_wp2_with fail
            refine (CHH.out _).mono ?_
            rintro e wq ⟨rfl, rfl⟩
            go_wp2_with fail
            refine (SLL.out _).mono ?_
            rintro e w2 ⟨rfl, hb⟩
            have hx := (hb.block _ (blk_ltQ HX1.out)).trans HX1.out
            have hy := (hb.block _ (blk_ltQ HY1.out)).trans HY1.out
            have HB2 := Lib.hid (HB1.out.trans (hb.mono HB1.out.size))
            have HX2 := Lib.hid hx
            have HY2 := Lib.hid hy
            obtain ⟨e0, e1, e2, e3⟩ := ex_cells hy
            obtain ⟨d0, d1, d2, d3, d4, d5, d6, d7, d8⟩ := qn_cells hx
            clear hb hx hy
            go_wp2_with fail
            refine (CLL.out _).mono ?_
            rintro e wq ⟨rfl, rfl⟩
            go_wp2_with fail
            go_ret
            exact ⟨rfl, HB2.out⟩
  · obtain rfl : (2 : Int) = R := by rw [← hR]; first | rfl | rw [if_neg (by rw [decide_eq_true_eq]; omega)]
    clear hlo hhi hlo0 hhi0 CH CL
    have y1 := neq_beq t1
    have y2 := neq_beq t2
    go_enter Try.func39, Try.ntmps39
    go_wp2_with fail
    go_ret
    exact ⟨rfl, HB0.out⟩
set_option maxRecDepth 100000 in
set_option maxHeartbeats 16000000 in
theorem refFeature14_f (k c f a1 a2 a3 b1 b2 b3 t : Int) (nm : ByteArray) (ww hh : Int) (w : World) (hf1 : 1 ≤ f) (hf6 : f ≤ 6) (nf1 : f ≠ 1) (nf3 : f ≠ 3) (hpl : f = 5 → (-1073741824 ≤ a2 ∧ a2 ≤ 1073741824) ∧ (-1073741824 ≤ a3 ∧ a3 ≤ 1073741824)) (hph : f = 5 → (-1073741824 ≤ b2 ∧ b2 ≤ 1073741824) ∧ (-1073741824 ≤ b3 ∧ b3 ≤ 1073741824)) (hlo : thrB ⟨a1, a2, a3⟩ = true → 1 ≤ a1 ∧ a1 ≤ 5) (hhi : thrB ⟨b1, b2, b3⟩ = true → 1 ≤ b1 ∧ b1 ≤ 5) (hlo0 : thrB ⟨a1, a2, a3⟩ = false → a1 = 0) (hhi0 : thrB ⟨b1, b2, b3⟩ = false → b1 = 0 ∧ thrB ⟨a1, a2, a3⟩ = false) :
    Calls Try.prog 39 #[.agg #[.int .i64 k, .int .i64 c, .int .i64 f, .int .i64 a1, .int .i64 a2, .int .i64 a3, .int .i64 b1, .int .i64 b2, .int .i64 b3], .agg #[.int .i64 t, .string nm, .int .i64 ww, .int .i64 hh]] w fun e w' => e = .returned (.int .i64 (ftT t (H ww) (H hh) ⟨k, c, f, ⟨a1, a2, a3⟩, ⟨b1, b2, b3⟩⟩)) ∧ Below w.heap.size w w' := by
  have HB1 := below_oneT w (.cells #[.int .i64 k, .int .i64 c, .int .i64 f, .int .i64 a1, .int .i64 a2, .int .i64 a3, .int .i64 b1, .int .i64 b2, .int .i64 b3] 39)
  have hx1 := heap_alloc_new w (.cells #[.int .i64 k, .int .i64 c, .int .i64 f, .int .i64 a1, .int .i64 a2, .int .i64 a3, .int .i64 b1, .int .i64 b2, .int .i64 b3] 39)
  generalize hW1 : w.alloc (.cells #[.int .i64 k, .int .i64 c, .int .i64 f, .int .i64 a1, .int .i64 a2, .int .i64 a3, .int .i64 b1, .int .i64 b2, .int .i64 b3] 39) = W1 at *
  have HB2 := below_oneT W1 (.cells #[.int .i64 t, .string nm, .int .i64 ww, .int .i64 hh] 31)
  have hx2 := heap_alloc_new W1 (.cells #[.int .i64 t, .string nm, .int .i64 ww, .int .i64 hh] 31)
  have hx1' := (HB2.block _ (blk_ltQ hx1)).trans hx1
  have HB0 := Lib.hid (HB1.trans (HB2.mono HB1.size))
  generalize hW : W1.alloc (.cells #[.int .i64 t, .string nm, .int .i64 ww, .int .i64 hh] 31) = W at *
  have HX0 := Lib.hid hx1'
  have HY0 := Lib.hid hx2
  obtain ⟨e0, e1, e2, e3⟩ := ex_cells hx2
  obtain ⟨d0, d1, d2, d3, d4, d5, d6, d7, d8⟩ := qn_cells hx1'
  clear hx1 hx2 hx1' HB1 HB2
  have PL := fun W => refPlain14_any f t nm ww hh W
  have SH := fun W => refSides14_any f b1 b2 b3 t nm ww hh W hf1 hf6 hph
  have SL := fun W => refSides14_any f a1 a2 a3 t nm ww hh W hf1 hf6 hpl
  have CH := fun h1 h5 W => refHolds14_any (sdA f ⟨b1, b2, b3⟩ (H ww) (H hh)) b1 (sdB f ⟨b1, b2, b3⟩ (H ww) (H hh)) W h1 h5
  have CL := fun h1 h5 W => refHolds14_any (sdB f ⟨a1, a2, a3⟩ (H ww) (H hh)) a1 (sdA f ⟨a1, a2, a3⟩ (H ww) (H hh)) W h1 h5
  obtain ⟨R, hR⟩ : ∃ R, ftT t (H ww) (H hh) ⟨k, c, f, ⟨a1, a2, a3⟩, ⟨b1, b2, b3⟩⟩ = R := ⟨_, rfl⟩
  rw [hR]
  unfold ftT bnT at hR
  simp only [] at hR
  generalize cmT (sdA f ⟨b1, b2, b3⟩ (H ww) (H hh)) b1 (sdB f ⟨b1, b2, b3⟩ (H ww) (H hh)) = ch at *
  generalize cmT (sdB f ⟨a1, a2, a3⟩ (H ww) (H hh)) a1 (sdA f ⟨a1, a2, a3⟩ (H ww) (H hh)) = cl at *
  generalize sdA f ⟨b1, b2, b3⟩ (H ww) (H hh) = xa at *
  generalize sdB f ⟨b1, b2, b3⟩ (H ww) (H hh) = xb at *
  generalize sdA f ⟨a1, a2, a3⟩ (H ww) (H hh) = ya at *
  generalize sdB f ⟨a1, a2, a3⟩ (H ww) (H hh) = yb at *
  generalize smT f (H ww) (H hh) = sm at *
  generalize thrB ⟨b1, b2, b3⟩ = th at *
  generalize thrB ⟨a1, a2, a3⟩ = tl at *
  have PLL := Lib.hid PL
  have SHH := Lib.hid SH
  have SLL := Lib.hid SL
  clear SH SL PL
  have z1 := neq_beq nf1
  have z3 := neq_beq nf3
  have kn : knT f t = decide (t = 2) := by unfold knT; rw [if_neg (by omega)]
  rw [kn] at hR
  clear hpl hph hf1 hf6 nf1 nf3 kn
  rcases (by omega : t = 2 ∨ (t ≠ 2 ∧ t = 1) ∨ (t ≠ 2 ∧ t ≠ 1)) with rfl | ⟨_, rfl⟩ | ⟨t2, t1⟩
  · cases th
    · obtain ⟨rfl, rfl⟩ := hhi0 rfl
      have := hlo0 rfl
      subst this
      clear hlo hhi hlo0 hhi0 CH CL
      cases sm
      · obtain rfl : (0 : Int) = R := by rw [← hR]; rfl
        go_enter Try.func39, Try.ntmps39
        go_wp2_with fail
        refine (PLL.out _).mono ?_
        rintro e w1 ⟨rfl, hb⟩
        have hx := (hb.block _ (blk_ltQ HX0.out)).trans HX0.out
        have hy := (hb.block _ (blk_ltQ HY0.out)).trans HY0.out
        have HB1 := Lib.hid (HB0.out.trans (hb.mono HB0.out.size))
        have HX1 := Lib.hid hx
        have HY1 := Lib.hid hy
        obtain ⟨e0, e1, e2, e3⟩ := ex_cells hy
        obtain ⟨d0, d1, d2, d3, d4, d5, d6, d7, d8⟩ := qn_cells hx
        clear hb hx hy
        go_wp2_with fail
        go_ret
        exact ⟨rfl, HB1.out⟩
      · obtain rfl : (1 : Int) = R := by rw [← hR]; rfl
        go_enter Try.func39, Try.ntmps39
        go_wp2_with fail
        refine (PLL.out _).mono ?_
        rintro e w1 ⟨rfl, hb⟩
        have hx := (hb.block _ (blk_ltQ HX0.out)).trans HX0.out
        have hy := (hb.block _ (blk_ltQ HY0.out)).trans HY0.out
        have HB1 := Lib.hid (HB0.out.trans (hb.mono HB0.out.size))
        have HX1 := Lib.hid hx
        have HY1 := Lib.hid hy
        obtain ⟨e0, e1, e2, e3⟩ := ex_cells hy
        obtain ⟨d0, d1, d2, d3, d4, d5, d6, d7, d8⟩ := qn_cells hx
        clear hb hx hy
        go_wp2_with fail
        go_ret
        exact ⟨rfl, HB1.out⟩
    · obtain ⟨hb1, hb5⟩ := hhi rfl
      have zb : (b1 == 0) = false := neq_beq (by omega)
      have CHH := Lib.hid (CH hb1 hb5)
      clear CH hhi hhi0 hb1 hb5
      cases tl
      · have := hlo0 rfl
        subst this
        clear hlo hlo0 CL
        cases ch
        · obtain rfl : (0 : Int) = R := by rw [← hR]; rfl
          go_enter Try.func39, Try.ntmps39
          go_wp2_with fail
          refine (SHH.out _).mono ?_
          rintro e w1 ⟨rfl, hb⟩
          have hx := (hb.block _ (blk_ltQ HX0.out)).trans HX0.out
          have hy := (hb.block _ (blk_ltQ HY0.out)).trans HY0.out
          have HB1 := Lib.hid (HB0.out.trans (hb.mono HB0.out.size))
          have HX1 := Lib.hid hx
          have HY1 := Lib.hid hy
          obtain ⟨e0, e1, e2, e3⟩ := ex_cells hy
          obtain ⟨d0, d1, d2, d3, d4, d5, d6, d7, d8⟩ := qn_cells hx
          clear hb hx hy
          go_wp2_with fail
          refine (CHH.out _).mono ?_
          rintro e wq ⟨rfl, rfl⟩
          go_wp2_with fail
          go_ret
          exact ⟨rfl, HB1.out⟩
        · obtain rfl : (1 : Int) = R := by rw [← hR]; rfl
          go_enter Try.func39, Try.ntmps39
          go_wp2_with fail
          refine (SHH.out _).mono ?_
          rintro e w1 ⟨rfl, hb⟩
          have hx := (hb.block _ (blk_ltQ HX0.out)).trans HX0.out
          have hy := (hb.block _ (blk_ltQ HY0.out)).trans HY0.out
          have HB1 := Lib.hid (HB0.out.trans (hb.mono HB0.out.size))
          have HX1 := Lib.hid hx
          have HY1 := Lib.hid hy
          obtain ⟨e0, e1, e2, e3⟩ := ex_cells hy
          obtain ⟨d0, d1, d2, d3, d4, d5, d6, d7, d8⟩ := qn_cells hx
          clear hb hx hy
          go_wp2_with fail
          refine (CHH.out _).mono ?_
          rintro e wq ⟨rfl, rfl⟩
          go_wp2_with fail
          go_ret
          exact ⟨rfl, HB1.out⟩
      · obtain ⟨ha1, ha5⟩ := hlo rfl
        have za : (0 : Int) < a1 := by omega
        have CLL := Lib.hid (CL ha1 ha5)
        clear CL hlo hlo0 ha5
        cases ch
        · obtain rfl : (0 : Int) = R := by rw [← hR]; rfl
          go_enter Try.func39, Try.ntmps39
          go_wp2_with fail
          refine (SHH.out _).mono ?_
          rintro e w1 ⟨rfl, hb⟩
          have hx := (hb.block _ (blk_ltQ HX0.out)).trans HX0.out
          have hy := (hb.block _ (blk_ltQ HY0.out)).trans HY0.out
          have HB1 := Lib.hid (HB0.out.trans (hb.mono HB0.out.size))
          have HX1 := Lib.hid hx
          have HY1 := Lib.hid hy
          obtain ⟨e0, e1, e2, e3⟩ := ex_cells hy
          obtain ⟨d0, d1, d2, d3, d4, d5, d6, d7, d8⟩ := qn_cells hx
          clear hb hx hy
          go_wp2_with fail
          refine (CHH.out _).mono ?_
          rintro e wq ⟨rfl, rfl⟩
          go_wp2_with fail
          refine (SLL.out _).mono ?_
          rintro e w2 ⟨rfl, hb⟩
          have hx := (hb.block _ (blk_ltQ HX1.out)).trans HX1.out
          have hy := (hb.block _ (blk_ltQ HY1.out)).trans HY1.out
          have HB2 := Lib.hid (HB1.out.trans (hb.mono HB1.out.size))
          have HX2 := Lib.hid hx
          have HY2 := Lib.hid hy
          obtain ⟨e0, e1, e2, e3⟩ := ex_cells hy
          obtain ⟨d0, d1, d2, d3, d4, d5, d6, d7, d8⟩ := qn_cells hx
          clear hb hx hy
          go_wp2_with fail
          go_ret
          exact ⟨rfl, HB2.out⟩
        · cases cl
          · obtain rfl : (0 : Int) = R := by rw [← hR]; rfl
            go_enter Try.func39, Try.ntmps39
            go_wp2_with fail
            refine (SHH.out _).mono ?_
            rintro e w1 ⟨rfl, hb⟩
            have hx := (hb.block _ (blk_ltQ HX0.out)).trans HX0.out
            have hy := (hb.block _ (blk_ltQ HY0.out)).trans HY0.out
            have HB1 := Lib.hid (HB0.out.trans (hb.mono HB0.out.size))
            have HX1 := Lib.hid hx
            have HY1 := Lib.hid hy
            obtain ⟨e0, e1, e2, e3⟩ := ex_cells hy
            obtain ⟨d0, d1, d2, d3, d4, d5, d6, d7, d8⟩ := qn_cells hx
            clear hb hx hy
            go_wp2_with fail
            refine (CHH.out _).mono ?_
            rintro e wq ⟨rfl, rfl⟩
            go_wp2_with fail
            refine (SLL.out _).mono ?_
            rintro e w2 ⟨rfl, hb⟩
            have hx := (hb.block _ (blk_ltQ HX1.out)).trans HX1.out
            have hy := (hb.block _ (blk_ltQ HY1.out)).trans HY1.out
            have HB2 := Lib.hid (HB1.out.trans (hb.mono HB1.out.size))
            have HX2 := Lib.hid hx
            have HY2 := Lib.hid hy
            obtain ⟨e0, e1, e2, e3⟩ := ex_cells hy
            obtain ⟨d0, d1, d2, d3, d4, d5, d6, d7, d8⟩ := qn_cells hx
            clear hb hx hy
            go_wp2_with fail
            refine (CLL.out _).mono ?_
            rintro e wq ⟨rfl, rfl⟩
            go_wp2_with fail
            go_ret
            exact ⟨rfl, HB2.out⟩
          · obtain rfl : (1 : Int) = R := by rw [← hR]; rfl
            go_enter Try.func39, Try.ntmps39
            go_wp2_with fail
            refine (SHH.out _).mono ?_
            rintro e w1 ⟨rfl, hb⟩
            have hx := (hb.block _ (blk_ltQ HX0.out)).trans HX0.out
            have hy := (hb.block _ (blk_ltQ HY0.out)).trans HY0.out
            have HB1 := Lib.hid (HB0.out.trans (hb.mono HB0.out.size))
            have HX1 := Lib.hid hx
            have HY1 := Lib.hid hy
            obtain ⟨e0, e1, e2, e3⟩ := ex_cells hy
            obtain ⟨d0, d1, d2, d3, d4, d5, d6, d7, d8⟩ := qn_cells hx
            clear hb hx hy
            go_wp2_with fail
            refine (CHH.out _).mono ?_
            rintro e wq ⟨rfl, rfl⟩
            go_wp2_with fail
            refine (SLL.out _).mono ?_
            rintro e w2 ⟨rfl, hb⟩
            have hx := (hb.block _ (blk_ltQ HX1.out)).trans HX1.out
            have hy := (hb.block _ (blk_ltQ HY1.out)).trans HY1.out
            have HB2 := Lib.hid (HB1.out.trans (hb.mono HB1.out.size))
            have HX2 := Lib.hid hx
            have HY2 := Lib.hid hy
            obtain ⟨e0, e1, e2, e3⟩ := ex_cells hy
            obtain ⟨d0, d1, d2, d3, d4, d5, d6, d7, d8⟩ := qn_cells hx
            clear hb hx hy
            go_wp2_with fail
            refine (CLL.out _).mono ?_
            rintro e wq ⟨rfl, rfl⟩
            go_wp2_with fail
            go_ret
            exact ⟨rfl, HB2.out⟩
  · obtain rfl : (2 : Int) = R := by rw [← hR]; first | rfl | rw [if_neg (by rw [decide_eq_true_eq]; omega)]
    clear hlo hhi hlo0 hhi0 CH CL
    go_enter Try.func39, Try.ntmps39
    go_wp2_with fail
    go_ret
    exact ⟨rfl, HB0.out⟩
  · obtain rfl : (2 : Int) = R := by rw [← hR]; first | rfl | rw [if_neg (by rw [decide_eq_true_eq]; omega)]
    clear hlo hhi hlo0 hhi0 CH CL
    have y1 := neq_beq t1
    have y2 := neq_beq t2
    go_enter Try.func39, Try.ntmps39
    go_wp2_with fail
    go_ret
    exact ⟨rfl, HB0.out⟩
end Go.Proofs.Ytoaenlbbochjhaa
