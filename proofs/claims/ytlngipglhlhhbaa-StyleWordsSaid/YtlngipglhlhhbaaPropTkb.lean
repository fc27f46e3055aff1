/- What a property takes: property.Words, takesBeside, takes, Takes. -/
import Derived.Test.YtlngipglhlhhbaaPropTka
namespace Go.Proofs.Ytlngipglhlhhbaa
open Go.RowKit TreN LexP FixP SynP ValP PropP FixM
set_option linter.unusedVariables false

set_option maxRecDepth 100000 in
set_option maxHeartbeats 4000000 in
theorem pWords_yes (p : Nat) (hp : p = 1 ∨ p = 2 ∨ p = 3 ∨ p = 4 ∨ p = 5 ∨ p = 6 ∨ p = 7 ∨ p = 8 ∨ p = 9 ∨ p = 10 ∨ p = 11 ∨ p = 12 ∨ p = 21 ∨ p = 22 ∨ p = 23 ∨ p = 26 ∨ p = 28 ∨ p = 29 ∨ p = 30 ∨ p = 31 ∨ p = 32 ∨ p = 33 ∨ p = 34 ∨ p = 35 ∨ p = 37) (w : World) : Calls Try.prog 41 #[.int .i64 (p : Int)] w fun e w' => e = .returned (.slice (some ⟨w.heap.size, 0, none⟩) (wrdsP p).length (wrdsP p).length) ∧ w' = w.alloc (.cells (txcs (wrdsP p)) 9) := by
  rcases hp with rfl | rfl | rfl | rfl | rfl | rfl | rfl | rfl | rfl | rfl | rfl | rfl | rfl | rfl | rfl | rfl | rfl | rfl | rfl | rfl | rfl | rfl | rfl | rfl | rfl
  all_goals
    go_enter Try.func41, Try.ntmps41
    go_wp2_with fail
    go_ret
    exact ⟨rfl, rfl⟩
set_option maxRecDepth 100000 in
set_option maxHeartbeats 4000000 in
theorem pWords_no (p : Nat) (hp : p = 13 ∨ p = 14 ∨ p = 15 ∨ p = 16 ∨ p = 17 ∨ p = 18 ∨ p = 19 ∨ p = 20 ∨ p = 24 ∨ p = 25 ∨ p = 27 ∨ p = 36) (w : World) : Calls Try.prog 41 #[.int .i64 (p : Int)] w fun e w' => e = .returned (.slice none 0 0) ∧ w' = w := by
  rcases hp with rfl | rfl | rfl | rfl | rfl | rfl | rfl | rfl | rfl | rfl | rfl | rfl
  all_goals
    go_enter Try.func41, Try.ntmps41
    go_wp2_with fail
    go_ret
    exact ⟨rfl, rfl⟩

theorem no_words (p : Nat) (hp : p = 13 ∨ p = 14 ∨ p = 15 ∨ p = 16 ∨ p = 17 ∨ p = 18 ∨ p = 19 ∨ p = 20 ∨ p = 24 ∨ p = 25 ∨ p = 27 ∨ p = 36) : wrdsP p = [] := by rcases hp with rfl | rfl | rfl | rfl | rfl | rfl | rfl | rfl | rfl | rfl | rfl | rfl <;> rfl

set_option maxRecDepth 100000 in
set_option maxHeartbeats 1000000 in
theorem Index_none (s : List UInt8) (w : World) : Calls Try.prog 40 #[.slice none 0 0, .string ⟨s.toArray⟩] w fun e w' => e = .returned (.int .i64 (-1)) ∧ w' = w := by
  go_enter Try.func40, Try.ntmps40
  go_wp2_with fail
  go_loop [8] (fun vi => vi = .int .i64 0) (fun vi => 0)
  case atStart => rfl
  case round =>
    subst hrel
    go_wp2_with fail
    go_ret
    exact ⟨rfl, rfl⟩
set_option maxRecDepth 100000 in
theorem Contains_none (s : List UInt8) (w : World) : Calls Try.prog 63 #[.slice none 0 0, .string ⟨s.toArray⟩] w fun e w' => e = .returned (.bool false) ∧ w' = w := by
  go_enter Try.func63, Try.ntmps63
  go_wp2_with fail
  refine (Index_none s w).mono ?_
  rintro e w' ⟨rfl, rfl⟩
  go_wp2_with fail
  go_ret
  exact ⟨rfl, rfl⟩
set_option maxRecDepth 100000 in
set_option maxHeartbeats 1000000 in
theorem is_none (k n d : Int) (nm : List UInt8) (w : World) :
    Calls Try.prog 57 #[.agg #[.int .i64 k, .int .i64 n, .int .i64 d, .string ⟨nm.toArray⟩], .slice none 0 0] w fun e w' => e = .returned (.bool false) ∧ Below w.heap.size w w' := by
  have HB := Lib.hid (below_oneP w (.cells #[.int .i64 k, .int .i64 n, .int .i64 d, .string ⟨nm.toArray⟩] 34))
  by_cases hk : k = 1
  · subst hk
    have TX := fun W => Text9_any n W
    obtain ⟨x, hx⟩ : ∃ x, txtP wordsL n = x := ⟨_, rfl⟩
    rw [hx] at TX
    have TT := Lib.hid TX
    clear hx TX
    go_enter Try.func57, Try.ntmps57
    go_wp2_with fail
    refine (TT.out _).mono ?_
    rintro e w1 ⟨rfl, hb1⟩
    have HB1 := Lib.hid (HB.out.trans (hb1.mono HB.out.size))
    clear hb1
    go_wp2_with fail
    refine (Contains_none x w1).mono ?_
    rintro e w2 ⟨rfl, rfl⟩
    go_wp2_with fail
    go_ret
    exact ⟨rfl, HB1.out⟩
  · have z1 : (k == 1) = false := by rw [beq_eq_false_iff_ne]; exact hk
    clear hk
    go_enter Try.func57, Try.ntmps57
    go_wp2_with fail
    go_ret
    exact ⟨rfl, HB.out⟩

set_option maxRecDepth 100000 in
set_option maxHeartbeats 4000000 in
theorem beside0_any (p : Nat) (hp : p = 1 ∨ p = 2 ∨ p = 22 ∨ p = 23 ∨ p = 28 ∨ p = 29 ∨ p = 30 ∨ p = 31 ∨ p = 34) (k n d : Int) (nm : List UInt8) (w : World) : Calls Try.prog 58 #[.int .i64 (p : Int), .agg #[.int .i64 k, .int .i64 n, .int .i64 d, .string ⟨nm.toArray⟩]] w fun e w' => e = .returned (.bool (othB (othP p) ⟨k, n, d, nm⟩)) ∧ Below w.heap.size w w' := by
  have HB := Lib.hid (below_oneP w (.cells #[.int .i64 k, .int .i64 n, .int .i64 d, .string ⟨nm.toArray⟩] 34))
  have ho : othB (othP p) ⟨k, n, d, nm⟩ = false := by rcases hp with rfl | rfl | rfl | rfl | rfl | rfl | rfl | rfl | rfl <;> rfl
  rw [ho]
  clear ho
  generalize hW : w.alloc (.cells #[.int .i64 k, .int .i64 n, .int .i64 d, .string ⟨nm.toArray⟩] 34) = W at *
  have hfx : W.heap[w.heap.size]? = some (.cells #[.int .i64 k, .int .i64 n, .int .i64 d, .string ⟨nm.toArray⟩] 34 (0, 0)) := by rw [← hW]; exact heap_alloc_new w _
  have hl := blk_ltP hfx
  have HX := Lib.hid hfx
  have d0 : W.cell? ⟨w.heap.size, 0, none⟩ = some (.int .i64 k) := cell_of hfx rfl
  have d1 : W.cell? ⟨w.heap.size, 1, none⟩ = some (.int .i64 n) := cell_of hfx rfl
  have d2 : W.cell? ⟨w.heap.size, 2, none⟩ = some (.int .i64 d) := cell_of hfx rfl
  have d3 : W.cell? ⟨w.heap.size, 3, none⟩ = some (.string ⟨nm.toArray⟩) := cell_of hfx rfl
  clear hfx
  rcases hp with rfl | rfl | rfl | rfl | rfl | rfl | rfl | rfl | rfl
  all_goals
    go_enter Try.func58, Try.ntmps58
    go_wp2_with fail
    go_ret
    exact ⟨rfl, HB.out⟩
set_option maxRecDepth 100000 in
set_option maxHeartbeats 4000000 in
theorem beside1_any (p : Nat) (hp : p = 3 ∨ p = 4 ∨ p = 5 ∨ p = 6 ∨ p = 7 ∨ p = 8 ∨ p = 13 ∨ p = 14 ∨ p = 15 ∨ p = 16 ∨ p = 26 ∨ p = 32 ∨ p = 33 ∨ p = 36) (k n d : Int) (nm : List UInt8) (w : World) : Calls Try.prog 58 #[.int .i64 (p : Int), .agg #[.int .i64 k, .int .i64 n, .int .i64 d, .string ⟨nm.toArray⟩]] w fun e w' => e = .returned (.bool (othB (othP p) ⟨k, n, d, nm⟩)) ∧ Below w.heap.size w w' := by
  have HB := Lib.hid (below_oneP w (.cells #[.int .i64 k, .int .i64 n, .int .i64 d, .string ⟨nm.toArray⟩] 34))
  have ho : othB (othP p) ⟨k, n, d, nm⟩ = (extB ⟨k, n, d, nm⟩ && upB ⟨k, n, d, nm⟩) := by rcases hp with rfl | rfl | rfl | rfl | rfl | rfl | rfl | rfl | rfl | rfl | rfl | rfl | rfl | rfl <;> exact oth1 _
  rw [ho]
  clear ho
  generalize hW : w.alloc (.cells #[.int .i64 k, .int .i64 n, .int .i64 d, .string ⟨nm.toArray⟩] 34) = W at *
  have hfx : W.heap[w.heap.size]? = some (.cells #[.int .i64 k, .int .i64 n, .int .i64 d, .string ⟨nm.toArray⟩] 34 (0, 0)) := by rw [← hW]; exact heap_alloc_new w _
  have hl := blk_ltP hfx
  have HX := Lib.hid hfx
  have d0 : W.cell? ⟨w.heap.size, 0, none⟩ = some (.int .i64 k) := cell_of hfx rfl
  have d1 : W.cell? ⟨w.heap.size, 1, none⟩ = some (.int .i64 n) := cell_of hfx rfl
  have d2 : W.cell? ⟨w.heap.size, 2, none⟩ = some (.int .i64 d) := cell_of hfx rfl
  have d3 : W.cell? ⟨w.heap.size, 3, none⟩ = some (.string ⟨nm.toArray⟩) := cell_of hfx rfl
  clear hfx
  have E := Lib.hid (fun W => extent_any k n d nm W)
  have U := Lib.hid (fun W => up_any k n d nm W)
  generalize extB ⟨k, n, d, nm⟩ = eb at *
  generalize upB ⟨k, n, d, nm⟩ = ub at *
  cases eb
  · rcases hp with rfl | rfl | rfl | rfl | rfl | rfl | rfl | rfl | rfl | rfl | rfl | rfl | rfl | rfl
    all_goals
      go_enter Try.func58, Try.ntmps58
      go_wp2_with fail
      refine (E.out _).mono ?_
      rintro e w1 ⟨rfl, hb1⟩
      have HB1 := Lib.hid (HB.out.trans (hb1.mono HB.out.size))
      clear hb1
      go_wp2_with fail
      go_ret
      exact ⟨rfl, HB1.out⟩
  · rcases hp with rfl | rfl | rfl | rfl | rfl | rfl | rfl | rfl | rfl | rfl | rfl | rfl | rfl | rfl
    all_goals
      go_enter Try.func58, Try.ntmps58
      go_wp2_with fail
      refine (E.out _).mono ?_
      rintro e w1 ⟨rfl, hb1⟩
      have HB1 := Lib.hid (HB.out.trans (hb1.mono HB.out.size))
      have hx1 := (hb1.block _ hl).trans HX.out
      have d0 : w1.cell? ⟨w.heap.size, 0, none⟩ = some (.int .i64 k) := cell_of hx1 rfl
      have d1 : w1.cell? ⟨w.heap.size, 1, none⟩ = some (.int .i64 n) := cell_of hx1 rfl
      have d2 : w1.cell? ⟨w.heap.size, 2, none⟩ = some (.int .i64 d) := cell_of hx1 rfl
      have d3 : w1.cell? ⟨w.heap.size, 3, none⟩ = some (.string ⟨nm.toArray⟩) := cell_of hx1 rfl
      clear hb1 hx1
      go_wp2_with fail
      refine (U.out _).mono ?_
      rintro e w2 ⟨rfl, hb2⟩
      have HB2 := Lib.hid (HB1.out.trans (hb2.mono HB1.out.size))
      clear hb2
      go_wp2_with fail
      go_ret
      exact ⟨ret_bool (by simp), HB2.out⟩
set_option maxRecDepth 100000 in
set_option maxHeartbeats 4000000 in
theorem beside2_any (p : Nat) (hp : p = 9 ∨ p = 10 ∨ p = 11 ∨ p = 12) (k n d : Int) (nm : List UInt8) (w : World) : Calls Try.prog 58 #[.int .i64 (p : Int), .agg #[.int .i64 k, .int .i64 n, .int .i64 d, .string ⟨nm.toArray⟩]] w fun e w' => e = .returned (.bool (othB (othP p) ⟨k, n, d, nm⟩)) ∧ Below w.heap.size w w' := by
  have HB := Lib.hid (below_oneP w (.cells #[.int .i64 k, .int .i64 n, .int .i64 d, .string ⟨nm.toArray⟩] 34))
  have ho : othB (othP p) ⟨k, n, d, nm⟩ = extB ⟨k, n, d, nm⟩ := by rcases hp with rfl | rfl | rfl | rfl <;> exact oth2 _
  rw [ho]
  clear ho
  generalize hW : w.alloc (.cells #[.int .i64 k, .int .i64 n, .int .i64 d, .string ⟨nm.toArray⟩] 34) = W at *
  have hfx : W.heap[w.heap.size]? = some (.cells #[.int .i64 k, .int .i64 n, .int .i64 d, .string ⟨nm.toArray⟩] 34 (0, 0)) := by rw [← hW]; exact heap_alloc_new w _
  have hl := blk_ltP hfx
  have HX := Lib.hid hfx
  have d0 : W.cell? ⟨w.heap.size, 0, none⟩ = some (.int .i64 k) := cell_of hfx rfl
  have d1 : W.cell? ⟨w.heap.size, 1, none⟩ = some (.int .i64 n) := cell_of hfx rfl
  have d2 : W.cell? ⟨w.heap.size, 2, none⟩ = some (.int .i64 d) := cell_of hfx rfl
  have d3 : W.cell? ⟨w.heap.size, 3, none⟩ = some (.string ⟨nm.toArray⟩) := cell_of hfx rfl
  clear hfx
  have E := Lib.hid (fun W => extent_any k n d nm W)
  generalize extB ⟨k, n, d, nm⟩ = eb at *
  rcases hp with rfl | rfl | rfl | rfl
  all_goals
    go_enter Try.func58, Try.ntmps58
    go_wp2_with fail
    refine (E.out _).mono ?_
    rintro e w1 ⟨rfl, hb1⟩
    have HB1 := Lib.hid (HB.out.trans (hb1.mono HB.out.size))
    clear hb1
    go_wp2_with fail
    go_ret
    exact ⟨rfl, HB1.out⟩
set_option maxRecDepth 100000 in
set_option maxHeartbeats 4000000 in
theorem beside6_any (p : Nat) (hp : p = 21) (k n d : Int) (nm : List UInt8) (w : World) : Calls Try.prog 58 #[.int .i64 (p : Int), .agg #[.int .i64 k, .int .i64 n, .int .i64 d, .string ⟨nm.toArray⟩]] w fun e w' => e = .returned (.bool (othB (othP p) ⟨k, n, d, nm⟩)) ∧ Below w.heap.size w w' := by
  have HB := Lib.hid (below_oneP w (.cells #[.int .i64 k, .int .i64 n, .int .i64 d, .string ⟨nm.toArray⟩] 34))
  have ho : othB (othP p) ⟨k, n, d, nm⟩ = ratB ⟨k, n, d, nm⟩ := by rcases hp with rfl <;> exact oth6 _
  rw [ho]
  clear ho
  generalize hW : w.alloc (.cells #[.int .i64 k, .int .i64 n, .int .i64 d, .string ⟨nm.toArray⟩] 34) = W at *
  have hfx : W.heap[w.heap.size]? = some (.cells #[.int .i64 k, .int .i64 n, .int .i64 d, .string ⟨nm.toArray⟩] 34 (0, 0)) := by rw [← hW]; exact heap_alloc_new w _
  have hl := blk_ltP hfx
  have HX := Lib.hid hfx
  have d0 : W.cell? ⟨w.heap.size, 0, none⟩ = some (.int .i64 k) := cell_of hfx rfl
  have d1 : W.cell? ⟨w.heap.size, 1, none⟩ = some (.int .i64 n) := cell_of hfx rfl
  have d2 : W.cell? ⟨w.heap.size, 2, none⟩ = some (.int .i64 d) := cell_of hfx rfl
  have d3 : W.cell? ⟨w.heap.size, 3, none⟩ = some (.string ⟨nm.toArray⟩) := cell_of hfx rfl
  clear hfx
  have E := Lib.hid (fun W => ratio_any k n d nm W)
  generalize ratB ⟨k, n, d, nm⟩ = eb at *
  subst hp
  go_enter Try.func58, Try.ntmps58
  go_wp2_with fail
  refine (E.out _).mono ?_
  rintro e w1 ⟨rfl, hb1⟩
  have HB1 := Lib.hid (HB.out.trans (hb1.mono HB.out.size))
  clear hb1
  go_wp2_with fail
  go_ret
  exact ⟨rfl, HB1.out⟩
set_option maxRecDepth 100000 in
set_option maxHeartbeats 4000000 in
theorem beside3_any (p : Nat) (hp : p = 17 ∨ p = 18 ∨ p = 19 ∨ p = 20) (k n d : Int) (nm : List UInt8) (w : World) : Calls Try.prog 58 #[.int .i64 (p : Int), .agg #[.int .i64 k, .int .i64 n, .int .i64 d, .string ⟨nm.toArray⟩]] w fun e w' => e = .returned (.bool (othB (othP p) ⟨k, n, d, nm⟩)) ∧ Below w.heap.size w w' := by
  have HB := Lib.hid (below_oneP w (.cells #[.int .i64 k, .int .i64 n, .int .i64 d, .string ⟨nm.toArray⟩] 34))
  have ho : othB (othP p) ⟨k, n, d, nm⟩ = (decide (k = 2) && upB ⟨k, n, d, nm⟩) := by rcases hp with rfl | rfl | rfl | rfl <;> exact oth3 _
  rw [ho]
  clear ho
  generalize hW : w.alloc (.cells #[.int .i64 k, .int .i64 n, .int .i64 d, .string ⟨nm.toArray⟩] 34) = W at *
  have hfx : W.heap[w.heap.size]? = some (.cells #[.int .i64 k, .int .i64 n, .int .i64 d, .string ⟨nm.toArray⟩] 34 (0, 0)) := by rw [← hW]; exact heap_alloc_new w _
  have hl := blk_ltP hfx
  have HX := Lib.hid hfx
  have d0 : W.cell? ⟨w.heap.size, 0, none⟩ = some (.int .i64 k) := cell_of hfx rfl
  have d1 : W.cell? ⟨w.heap.size, 1, none⟩ = some (.int .i64 n) := cell_of hfx rfl
  have d2 : W.cell? ⟨w.heap.size, 2, none⟩ = some (.int .i64 d) := cell_of hfx rfl
  have d3 : W.cell? ⟨w.heap.size, 3, none⟩ = some (.string ⟨nm.toArray⟩) := cell_of hfx rfl
  clear hfx
  have U := Lib.hid (fun W => up_any k n d nm W)
  generalize upB ⟨k, n, d, nm⟩ = ub at *
  by_cases hk : k = 2
  · have z1 : (k == 2) = true := by rw [hk]; rfl
    rw [decide_eq_true hk, Bool.true_and]
    clear hk
    rcases hp with rfl | rfl | rfl | rfl
    all_goals
      go_enter Try.func58, Try.ntmps58
      go_wp2_with fail
      refine (U.out _).mono ?_
      rintro e w1 ⟨rfl, hb1⟩
      have HB1 := Lib.hid (HB.out.trans (hb1.mono HB.out.size))
      clear hb1
      go_wp2_with fail
      go_ret
      exact ⟨rfl, HB1.out⟩
  · have z1 : (k == 2) = false := by rw [beq_eq_false_iff_ne]; exact hk
    rw [decide_eq_false hk, Bool.false_and]
    clear hk
    rcases hp with rfl | rfl | rfl | rfl
    all_goals
      go_enter Try.func58, Try.ntmps58
      go_wp2_with fail
      go_ret
      exact ⟨rfl, HB.out⟩
set_option maxRecDepth 100000 in
set_option maxHeartbeats 4000000 in
theorem beside4_any (p : Nat) (hp : p = 24 ∨ p = 25 ∨ p = 37) (k n d : Int) (nm : List UInt8) (w : World) : Calls Try.prog 58 #[.int .i64 (p : Int), .agg #[.int .i64 k, .int .i64 n, .int .i64 d, .string ⟨nm.toArray⟩]] w fun e w' => e = .returned (.bool (othB (othP p) ⟨k, n, d, nm⟩)) ∧ Below w.heap.size w w' := by
  have HB := Lib.hid (below_oneP w (.cells #[.int .i64 k, .int .i64 n, .int .i64 d, .string ⟨nm.toArray⟩] 34))
  have ho : othB (othP p) ⟨k, n, d, nm⟩ = (decide (k = 4) && upB ⟨k, n, d, nm⟩) := by rcases hp with rfl | rfl | rfl <;> exact oth4 _
  rw [ho]
  clear ho
  generalize hW : w.alloc (.cells #[.int .i64 k, .int .i64 n, .int .i64 d, .string ⟨nm.toArray⟩] 34) = W at *
  have hfx : W.heap[w.heap.size]? = some (.cells #[.int .i64 k, .int .i64 n, .int .i64 d, .string ⟨nm.toArray⟩] 34 (0, 0)) := by rw [← hW]; exact heap_alloc_new w _
  have hl := blk_ltP hfx
  have HX := Lib.hid hfx
  have d0 : W.cell? ⟨w.heap.size, 0, none⟩ = some (.int .i64 k) := cell_of hfx rfl
  have d1 : W.cell? ⟨w.heap.size, 1, none⟩ = some (.int .i64 n) := cell_of hfx rfl
  have d2 : W.cell? ⟨w.heap.size, 2, none⟩ = some (.int .i64 d) := cell_of hfx rfl
  have d3 : W.cell? ⟨w.heap.size, 3, none⟩ = some (.string ⟨nm.toArray⟩) := cell_of hfx rfl
  clear hfx
  have U := Lib.hid (fun W => up_any k n d nm W)
  generalize upB ⟨k, n, d, nm⟩ = ub at *
  by_cases hk : k = 4
  · have z1 : (k == 4) = true := by rw [hk]; rfl
    rw [decide_eq_true hk, Bool.true_and]
    clear hk
    rcases hp with rfl | rfl | rfl
    all_goals
      go_enter Try.func58, Try.ntmps58
      go_wp2_with fail
      refine (U.out _).mono ?_
      rintro e w1 ⟨rfl, hb1⟩
      have HB1 := Lib.hid (HB.out.trans (hb1.mono HB.out.size))
      clear hb1
      go_wp2_with fail
      go_ret
      exact ⟨rfl, HB1.out⟩
  · have z1 : (k == 4) = false := by rw [beq_eq_false_iff_ne]; exact hk
    rw [decide_eq_false hk, Bool.false_and]
    clear hk
    rcases hp with rfl | rfl | rfl
    all_goals
      go_enter Try.func58, Try.ntmps58
      go_wp2_with fail
      go_ret
      exact ⟨rfl, HB.out⟩
set_option maxRecDepth 100000 in
set_option maxHeartbeats 4000000 in
theorem beside5_any (p : Nat) (hp : p = 27) (k n d : Int) (nm : List UInt8) (w : World) : Calls Try.prog 58 #[.int .i64 (p : Int), .agg #[.int .i64 k, .int .i64 n, .int .i64 d, .string ⟨nm.toArray⟩]] w fun e w' => e = .returned (.bool (othB (othP p) ⟨k, n, d, nm⟩)) ∧ Below w.heap.size w w' := by
  have HB := Lib.hid (below_oneP w (.cells #[.int .i64 k, .int .i64 n, .int .i64 d, .string ⟨nm.toArray⟩] 34))
  have ho : othB (othP p) ⟨k, n, d, nm⟩ = decide (k = 4 ∧ n.tmod 1000 = 0) := by rcases hp with rfl <;> rfl
  rw [ho]
  clear ho
  generalize hW : w.alloc (.cells #[.int .i64 k, .int .i64 n, .int .i64 d, .string ⟨nm.toArray⟩] 34) = W at *
  have hfx : W.heap[w.heap.size]? = some (.cells #[.int .i64 k, .int .i64 n, .int .i64 d, .string ⟨nm.toArray⟩] 34 (0, 0)) := by rw [← hW]; exact heap_alloc_new w _
  have hl := blk_ltP hfx
  have HX := Lib.hid hfx
  have d0 : W.cell? ⟨w.heap.size, 0, none⟩ = some (.int .i64 k) := cell_of hfx rfl
  have d1 : W.cell? ⟨w.heap.size, 1, none⟩ = some (.int .i64 n) := cell_of hfx rfl
  have d2 : W.cell? ⟨w.heap.size, 2, none⟩ = some (.int .i64 d) := cell_of hfx rfl
  have d3 : W.cell? ⟨w.heap.size, 3, none⟩ = some (.string ⟨nm.toArray⟩) := cell_of hfx rfl
  clear hfx
  subst hp
  by_cases hk : k = 4
  · have z1 : (k == 4) = true := by rw [hk]; rfl
    by_cases hn : n.tmod 1000 = 0
    · have z2 : (n.tmod 1000 == 0) = true := by rw [hn]; rfl
      rw [decide_eq_true ⟨hk, hn⟩]
      clear hk hn
      go_enter Try.func58, Try.ntmps58
      go_wp2_with fail
      go_ret
      exact ⟨ret_bool (by simp), HB.out⟩
    · have z2 : (n.tmod 1000 == 0) = false := by rw [beq_eq_false_iff_ne]; exact hn
      rw [decide_eq_false (fun h => hn h.2)]
      clear hk hn
      go_enter Try.func58, Try.ntmps58
      go_wp2_with fail
      go_ret
      exact ⟨ret_bool (by simp), HB.out⟩
  · have z1 : (k == 4) = false := by rw [beq_eq_false_iff_ne]; exact hk
    rw [decide_eq_false (fun h => hk h.1)]
    clear hk
    go_enter Try.func58, Try.ntmps58
    go_wp2_with fail
    go_ret
    exact ⟨rfl, HB.out⟩
set_option maxRecDepth 100000 in
set_option maxHeartbeats 4000000 in
theorem beside7_any (p : Nat) (hp : p = 35) (k n d : Int) (nm : List UInt8) (w : World) : Calls Try.prog 58 #[.int .i64 (p : Int), .agg #[.int .i64 k, .int .i64 n, .int .i64 d, .string ⟨nm.toArray⟩]] w fun e w' => e = .returned (.bool (othB (othP p) ⟨k, n, d, nm⟩)) ∧ Below w.heap.size w w' := by
  have HB := Lib.hid (below_oneP w (.cells #[.int .i64 k, .int .i64 n, .int .i64 d, .string ⟨nm.toArray⟩] 34))
  have ho : othB (othP p) ⟨k, n, d, nm⟩ = decide (k = 6) := by rcases hp with rfl <;> rfl
  rw [ho]
  clear ho
  generalize hW : w.alloc (.cells #[.int .i64 k, .int .i64 n, .int .i64 d, .string ⟨nm.toArray⟩] 34) = W at *
  have hfx : W.heap[w.heap.size]? = some (.cells #[.int .i64 k, .int .i64 n, .int .i64 d, .string ⟨nm.toArray⟩] 34 (0, 0)) := by rw [← hW]; exact heap_alloc_new w _
  have hl := blk_ltP hfx
  have HX := Lib.hid hfx
  have d0 : W.cell? ⟨w.heap.size, 0, none⟩ = some (.int .i64 k) := cell_of hfx rfl
  have d1 : W.cell? ⟨w.heap.size, 1, none⟩ = some (.int .i64 n) := cell_of hfx rfl
  have d2 : W.cell? ⟨w.heap.size, 2, none⟩ = some (.int .i64 d) := cell_of hfx rfl
  have d3 : W.cell? ⟨w.heap.size, 3, none⟩ = some (.string ⟨nm.toArray⟩) := cell_of hfx rfl
  clear hfx
  subst hp
  by_cases hk : k = 6
  · have z1 : (k == 6) = true := by rw [hk]; rfl
    rw [decide_eq_true hk]
    clear hk
    go_enter Try.func58, Try.ntmps58
    go_wp2_with fail
    go_ret
    exact ⟨ret_bool (by first | exact z1 | rfl | simp [z1]), HB.out⟩
  · have z1 : (k == 6) = false := by rw [beq_eq_false_iff_ne]; exact hk
    rw [decide_eq_false hk]
    clear hk
    go_enter Try.func58, Try.ntmps58
    go_wp2_with fail
    go_ret
    exact ⟨ret_bool (by first | exact z1 | rfl | simp [z1]), HB.out⟩

theorem beside_any (p : Nat) (h1 : 1 ≤ p) (h2 : p ≤ 37) (k n d : Int) (nm : List UInt8) (w : World) : Calls Try.prog 58 #[.int .i64 (p : Int), .agg #[.int .i64 k, .int .i64 n, .int .i64 d, .string ⟨nm.toArray⟩]] w fun e w' => e = .returned (.bool (othB (othP p) ⟨k, n, d, nm⟩)) ∧ Below w.heap.size w w' := by
  have h : (p = 1 ∨ p = 2 ∨ p = 22 ∨ p = 23 ∨ p = 28 ∨ p = 29 ∨ p = 30 ∨ p = 31 ∨ p = 34) ∨ (p = 3 ∨ p = 4 ∨ p = 5 ∨ p = 6 ∨ p = 7 ∨ p = 8 ∨ p = 13 ∨ p = 14 ∨ p = 15 ∨ p = 16 ∨ p = 26 ∨ p = 32 ∨ p = 33 ∨ p = 36) ∨ (p = 9 ∨ p = 10 ∨ p = 11 ∨ p = 12) ∨ (p = 17 ∨ p = 18 ∨ p = 19 ∨ p = 20) ∨ (p = 24 ∨ p = 25 ∨ p = 37) ∨ p = 21 ∨ p = 27 ∨ p = 35 := by omega
  rcases h with h | h | h | h | h | h | h | h
  · exact beside0_any p h k n d nm w
  · exact beside1_any p h k n d nm w
  · exact beside2_any p h k n d nm w
  · exact beside3_any p h k n d nm w
  · exact beside4_any p h k n d nm w
  · exact beside6_any p h k n d nm w
  · exact beside5_any p h k n d nm w
  · exact beside7_any p h k n d nm w

/-- what property.Words answers, and whether a value is one of it -/
theorem pWords_is (p : Nat) (h1 : 1 ≤ p) (h2 : p ≤ 37) (k n d : Int) (nm : List UInt8) (w : World) : Calls Try.prog 41 #[.int .i64 (p : Int)] w fun e w' => ∃ a m c, e = .returned (.slice a m c) ∧ Below w.heap.size w w' ∧ Calls Try.prog 57 #[.agg #[.int .i64 k, .int .i64 n, .int .i64 d, .string ⟨nm.toArray⟩], .slice a m c] w' fun e w2 => e = .returned (.bool (isB ⟨k, n, d, nm⟩ (wrdsP p))) ∧ Below w'.heap.size w' w2 := by
  have h : (p = 1 ∨ p = 2 ∨ p = 3 ∨ p = 4 ∨ p = 5 ∨ p = 6 ∨ p = 7 ∨ p = 8 ∨ p = 9 ∨ p = 10 ∨ p = 11 ∨ p = 12 ∨ p = 21 ∨ p = 22 ∨ p = 23 ∨ p = 26 ∨ p = 28 ∨ p = 29 ∨ p = 30 ∨ p = 31 ∨ p = 32 ∨ p = 33 ∨ p = 34 ∨ p = 35 ∨ p = 37) ∨ (p = 13 ∨ p = 14 ∨ p = 15 ∨ p = 16 ∨ p = 17 ∨ p = 18 ∨ p = 19 ∨ p = 20 ∨ p = 24 ∨ p = 25 ∨ p = 27 ∨ p = 36) := by omega
  rcases h with h | h
  · refine (pWords_yes p h w).mono ?_
    rintro e w' ⟨rfl, rfl⟩
    have hl : (wrdsP p).length ≤ 10000 := by rcases h with rfl | rfl | rfl | rfl | rfl | rfl | rfl | rfl | rfl | rfl | rfl | rfl | rfl | rfl | rfl | rfl | rfl | rfl | rfl | rfl | rfl | rfl | rfl | rfl | rfl <;> decide
    exact ⟨_, _, _, rfl, (Below.refl _ _).alloc (Nat.le_refl _) _, is_any k n d nm w.heap.size (wrdsP p) _ _ _ rfl hl (TxAt.made w (wrdsP p)) (by simp)⟩
  · refine (pWords_no p h w).mono ?_
    rintro e w' ⟨rfl, rfl⟩
    rw [no_words p h, isB_nil]
    exact ⟨_, _, _, rfl, Below.refl _ _, is_none k n d nm _⟩
end Go.Proofs.Ytlngipglhlhhbaa
