/- Joined texts: PropW4 PropW5 PropW6 PropW7 PropW8. -/
import Derived.Test.YtghnbfppfbenmaaGreatPropTka
namespace Go.Proofs.YtghnbfppfbenmaaGreat
open Go.RowKit TreN LexP FixP SynP ValP PropP FixM
set_option linter.unusedVariables false

set_option maxRecDepth 100000 in
set_option maxHeartbeats 1000000 in
theorem takes1_any (k n d : Int) (nm : List UInt8) (w : World) : Calls Tryz.prog 26 #[.int .i64 1, .agg #[.int .i64 k, .int .i64 n, .int .i64 d, .string ⟨nm.toArray⟩]] w fun e w' => e = .returned (.bool (ownB 1 ⟨k, n, d, nm⟩)) ∧ Below w.heap.size w w' := by
  have ho : ownB 1 ⟨k, n, d, nm⟩ = (isB ⟨k, n, d, nm⟩ [[98, 108, 111, 99, 107], [102, 108, 101, 120], [110, 111, 110, 101]]) := by rw [ownB_eq]; rfl
  rw [ho]
  clear ho
  have HB := Lib.hid (below_oneP w (.cells #[.int .i64 k, .int .i64 n, .int .i64 d, .string ⟨nm.toArray⟩] 23))
  generalize hW : w.alloc (.cells #[.int .i64 k, .int .i64 n, .int .i64 d, .string ⟨nm.toArray⟩] 23) = W at *
  have hfx : W.heap[w.heap.size]? = some (.cells #[.int .i64 k, .int .i64 n, .int .i64 d, .string ⟨nm.toArray⟩] 23 (0, 0)) := by rw [← hW]; exact heap_alloc_new w _
  have hl := blk_ltP hfx
  have HX := Lib.hid hfx
  have d0 : W.cell? ⟨w.heap.size, 0, none⟩ = some (.int .i64 k) := cell_of hfx rfl
  have d1 : W.cell? ⟨w.heap.size, 1, none⟩ = some (.int .i64 n) := cell_of hfx rfl
  have d2 : W.cell? ⟨w.heap.size, 2, none⟩ = some (.int .i64 d) := cell_of hfx rfl
  have d3 : W.cell? ⟨w.heap.size, 3, none⟩ = some (.string ⟨nm.toArray⟩) := cell_of hfx rfl
  clear hfx
  have I := Lib.hid (fun (W1 : World) => is_any k n d nm W1.heap.size [[98, 108, 111, 99, 107], [102, 108, 101, 120], [110, 111, 110, 101]] 3 3 (W1.alloc (.cells (txcs [[98, 108, 111, 99, 107], [102, 108, 101, 120], [110, 111, 110, 101]]) 9)) rfl (by omega) (TxAt.made W1 [[98, 108, 111, 99, 107], [102, 108, 101, 120], [110, 111, 110, 101]]) (by simp))
  generalize isB ⟨k, n, d, nm⟩ [[98, 108, 111, 99, 107], [102, 108, 101, 120], [110, 111, 110, 101]] = b2 at *
  have HB2 := Lib.hid (HB.out.alloc HB.out.size (.cells (txcs [[98, 108, 111, 99, 107], [102, 108, 101, 120], [110, 111, 110, 101]]) 9))
  have II := Lib.hid (I.out W)
  go_enter Tryz.func26, Tryz.ntmps26
  go_wp2_with fail
  refine II.out.mono ?_
  rintro e w2 ⟨rfl, hb2⟩
  have HB3 := Lib.hid (HB2.out.trans (hb2.mono HB2.out.size))
  clear hb2
  go_wp2_with fail
  go_ret
  exact ⟨rfl, HB3.out⟩
set_option maxRecDepth 100000 in
set_option maxHeartbeats 1000000 in
theorem takes2_any (k n d : Int) (nm : List UInt8) (w : World) : Calls Tryz.prog 26 #[.int .i64 2, .agg #[.int .i64 k, .int .i64 n, .int .i64 d, .string ⟨nm.toArray⟩]] w fun e w' => e = .returned (.bool (ownB 2 ⟨k, n, d, nm⟩)) ∧ Below w.heap.size w w' := by
  have ho : ownB 2 ⟨k, n, d, nm⟩ = (isB ⟨k, n, d, nm⟩ [[99, 111, 110, 116, 101, 110, 116, 45, 98, 111, 120], [98, 111, 114, 100, 101, 114, 45, 98, 111, 120]]) := by rw [ownB_eq]; rfl
  rw [ho]
  clear ho
  have HB := Lib.hid (below_oneP w (.cells #[.int .i64 k, .int .i64 n, .int .i64 d, .string ⟨nm.toArray⟩] 23))
  generalize hW : w.alloc (.cells #[.int .i64 k, .int .i64 n, .int .i64 d, .string ⟨nm.toArray⟩] 23) = W at *
  have hfx : W.heap[w.heap.size]? = some (.cells #[.int .i64 k, .int .i64 n, .int .i64 d, .string ⟨nm.toArray⟩] 23 (0, 0)) := by rw [← hW]; exact heap_alloc_new w _
  have hl := blk_ltP hfx
  have HX := Lib.hid hfx
  have d0 : W.cell? ⟨w.heap.size, 0, none⟩ = some (.int .i64 k) := cell_of hfx rfl
  have d1 : W.cell? ⟨w.heap.size, 1, none⟩ = some (.int .i64 n) := cell_of hfx rfl
  have d2 : W.cell? ⟨w.heap.size, 2, none⟩ = some (.int .i64 d) := cell_of hfx rfl
  have d3 : W.cell? ⟨w.heap.size, 3, none⟩ = some (.string ⟨nm.toArray⟩) := cell_of hfx rfl
  clear hfx
  have I := Lib.hid (fun (W1 : World) => is_any k n d nm W1.heap.size [[99, 111, 110, 116, 101, 110, 116, 45, 98, 111, 120], [98, 111, 114, 100, 101, 114, 45, 98, 111, 120]] 2 2 (W1.alloc (.cells (txcs [[99, 111, 110, 116, 101, 110, 116, 45, 98, 111, 120], [98, 111, 114, 100, 101, 114, 45, 98, 111, 120]]) 9)) rfl (by omega) (TxAt.made W1 [[99, 111, 110, 116, 101, 110, 116, 45, 98, 111, 120], [98, 111, 114, 100, 101, 114, 45, 98, 111, 120]]) (by simp))
  generalize isB ⟨k, n, d, nm⟩ [[99, 111, 110, 116, 101, 110, 116, 45, 98, 111, 120], [98, 111, 114, 100, 101, 114, 45, 98, 111, 120]] = b2 at *
  have HB2 := Lib.hid (HB.out.alloc HB.out.size (.cells (txcs [[99, 111, 110, 116, 101, 110, 116, 45, 98, 111, 120], [98, 111, 114, 100, 101, 114, 45, 98, 111, 120]]) 9))
  have II := Lib.hid (I.out W)
  go_enter Tryz.func26, Tryz.ntmps26
  go_wp2_with fail
  refine II.out.mono ?_
  rintro e w2 ⟨rfl, hb2⟩
  have HB3 := Lib.hid (HB2.out.trans (hb2.mono HB2.out.size))
  clear hb2
  go_wp2_with fail
  go_ret
  exact ⟨rfl, HB3.out⟩
set_option maxRecDepth 100000 in
set_option maxHeartbeats 1000000 in
theorem takes3_any (k n d : Int) (nm : List UInt8) (w : World) : Calls Tryz.prog 26 #[.int .i64 3, .agg #[.int .i64 k, .int .i64 n, .int .i64 d, .string ⟨nm.toArray⟩]] w fun e w' => e = .returned (.bool (ownB 3 ⟨k, n, d, nm⟩)) ∧ Below w.heap.size w w' := by
  have ho : ownB 3 ⟨k, n, d, nm⟩ = (extB ⟨k, n, d, nm⟩ && upB ⟨k, n, d, nm⟩ || isB ⟨k, n, d, nm⟩ [[97, 117, 116, 111], [109, 105, 110, 45, 99, 111, 110, 116, 101, 110, 116], [109, 97, 120, 45, 99, 111, 110, 116, 101, 110, 116], [102, 105, 116, 45, 99, 111, 110, 116, 101, 110, 116]]) := by rw [ownB_eq]; show (othB 1 ⟨k, n, d, nm⟩ || isB ⟨k, n, d, nm⟩ [[97, 117, 116, 111], [109, 105, 110, 45, 99, 111, 110, 116, 101, 110, 116], [109, 97, 120, 45, 99, 111, 110, 116, 101, 110, 116], [102, 105, 116, 45, 99, 111, 110, 116, 101, 110, 116]]) = _; rw [oth1]
  rw [ho]
  clear ho
  have HB := Lib.hid (below_oneP w (.cells #[.int .i64 k, .int .i64 n, .int .i64 d, .string ⟨nm.toArray⟩] 23))
  generalize hW : w.alloc (.cells #[.int .i64 k, .int .i64 n, .int .i64 d, .string ⟨nm.toArray⟩] 23) = W at *
  have hfx : W.heap[w.heap.size]? = some (.cells #[.int .i64 k, .int .i64 n, .int .i64 d, .string ⟨nm.toArray⟩] 23 (0, 0)) := by rw [← hW]; exact heap_alloc_new w _
  have hl := blk_ltP hfx
  have HX := Lib.hid hfx
  have d0 : W.cell? ⟨w.heap.size, 0, none⟩ = some (.int .i64 k) := cell_of hfx rfl
  have d1 : W.cell? ⟨w.heap.size, 1, none⟩ = some (.int .i64 n) := cell_of hfx rfl
  have d2 : W.cell? ⟨w.heap.size, 2, none⟩ = some (.int .i64 d) := cell_of hfx rfl
  have d3 : W.cell? ⟨w.heap.size, 3, none⟩ = some (.string ⟨nm.toArray⟩) := cell_of hfx rfl
  clear hfx
  have E := Lib.hid (extentUp_any k n d nm W)
  generalize (extB ⟨k, n, d, nm⟩ && upB ⟨k, n, d, nm⟩) = b1 at *
  have I := Lib.hid (fun (W1 : World) => is_any k n d nm W1.heap.size [[97, 117, 116, 111], [109, 105, 110, 45, 99, 111, 110, 116, 101, 110, 116], [109, 97, 120, 45, 99, 111, 110, 116, 101, 110, 116], [102, 105, 116, 45, 99, 111, 110, 116, 101, 110, 116]] 4 4 (W1.alloc (.cells (txcs [[97, 117, 116, 111], [109, 105, 110, 45, 99, 111, 110, 116, 101, 110, 116], [109, 97, 120, 45, 99, 111, 110, 116, 101, 110, 116], [102, 105, 116, 45, 99, 111, 110, 116, 101, 110, 116]]) 9)) rfl (by omega) (TxAt.made W1 [[97, 117, 116, 111], [109, 105, 110, 45, 99, 111, 110, 116, 101, 110, 116], [109, 97, 120, 45, 99, 111, 110, 116, 101, 110, 116], [102, 105, 116, 45, 99, 111, 110, 116, 101, 110, 116]]) (by simp))
  generalize isB ⟨k, n, d, nm⟩ [[97, 117, 116, 111], [109, 105, 110, 45, 99, 111, 110, 116, 101, 110, 116], [109, 97, 120, 45, 99, 111, 110, 116, 101, 110, 116], [102, 105, 116, 45, 99, 111, 110, 116, 101, 110, 116]] = b2 at *
  cases b1
  · go_enter Tryz.func26, Tryz.ntmps26
    go_wp2_with fail
    refine E.out.mono ?_
    rintro e w1 ⟨rfl, hb1⟩
    have HB1 := Lib.hid (HB.out.trans (hb1.mono HB.out.size))
    have HB2 := Lib.hid (HB1.out.alloc HB1.out.size (.cells (txcs [[97, 117, 116, 111], [109, 105, 110, 45, 99, 111, 110, 116, 101, 110, 116], [109, 97, 120, 45, 99, 111, 110, 116, 101, 110, 116], [102, 105, 116, 45, 99, 111, 110, 116, 101, 110, 116]]) 9))
    have II := Lib.hid (I.out w1)
    have hx1 := (hb1.block _ hl).trans HX.out
    have d0 : w1.cell? ⟨w.heap.size, 0, none⟩ = some (.int .i64 k) := cell_of hx1 rfl
    have d1 : w1.cell? ⟨w.heap.size, 1, none⟩ = some (.int .i64 n) := cell_of hx1 rfl
    have d2 : w1.cell? ⟨w.heap.size, 2, none⟩ = some (.int .i64 d) := cell_of hx1 rfl
    have d3 : w1.cell? ⟨w.heap.size, 3, none⟩ = some (.string ⟨nm.toArray⟩) := cell_of hx1 rfl
    clear hb1 hx1
    go_wp2_with fail
    refine II.out.mono ?_
    rintro e w2 ⟨rfl, hb2⟩
    have HB3 := Lib.hid (HB2.out.trans (hb2.mono HB2.out.size))
    clear hb2
    go_wp2_with fail
    go_ret
    exact ⟨rfl, HB3.out⟩
  · go_enter Tryz.func26, Tryz.ntmps26
    go_wp2_with fail
    refine E.out.mono ?_
    rintro e w1 ⟨rfl, hb1⟩
    have HB1 := Lib.hid (HB.out.trans (hb1.mono HB.out.size))
    clear hb1
    go_wp2_with fail
    go_ret
    exact ⟨rfl, HB1.out⟩
set_option maxRecDepth 100000 in
set_option maxHeartbeats 1000000 in
theorem takes4_any (k n d : Int) (nm : List UInt8) (w : World) : Calls Tryz.prog 26 #[.int .i64 4, .agg #[.int .i64 k, .int .i64 n, .int .i64 d, .string ⟨nm.toArray⟩]] w fun e w' => e = .returned (.bool (ownB 4 ⟨k, n, d, nm⟩)) ∧ Below w.heap.size w w' := by
  have ho : ownB 4 ⟨k, n, d, nm⟩ = (extB ⟨k, n, d, nm⟩ && upB ⟨k, n, d, nm⟩ || isB ⟨k, n, d, nm⟩ [[97, 117, 116, 111]]) := by rw [ownB_eq]; show (othB 1 ⟨k, n, d, nm⟩ || isB ⟨k, n, d, nm⟩ [[97, 117, 116, 111]]) = _; rw [oth1]
  rw [ho]
  clear ho
  have HB := Lib.hid (below_oneP w (.cells #[.int .i64 k, .int .i64 n, .int .i64 d, .string ⟨nm.toArray⟩] 23))
  generalize hW : w.alloc (.cells #[.int .i64 k, .int .i64 n, .int .i64 d, .string ⟨nm.toArray⟩] 23) = W at *
  have hfx : W.heap[w.heap.size]? = some (.cells #[.int .i64 k, .int .i64 n, .int .i64 d, .string ⟨nm.toArray⟩] 23 (0, 0)) := by rw [← hW]; exact heap_alloc_new w _
  have hl := blk_ltP hfx
  have HX := Lib.hid hfx
  have d0 : W.cell? ⟨w.heap.size, 0, none⟩ = some (.int .i64 k) := cell_of hfx rfl
  have d1 : W.cell? ⟨w.heap.size, 1, none⟩ = some (.int .i64 n) := cell_of hfx rfl
  have d2 : W.cell? ⟨w.heap.size, 2, none⟩ = some (.int .i64 d) := cell_of hfx rfl
  have d3 : W.cell? ⟨w.heap.size, 3, none⟩ = some (.string ⟨nm.toArray⟩) := cell_of hfx rfl
  clear hfx
  have E := Lib.hid (extentUp_any k n d nm W)
  generalize (extB ⟨k, n, d, nm⟩ && upB ⟨k, n, d, nm⟩) = b1 at *
  have I := Lib.hid (fun (W1 : World) => is_any k n d nm W1.heap.size [[97, 117, 116, 111]] 1 1 (W1.alloc (.cells (txcs [[97, 117, 116, 111]]) 9)) rfl (by omega) (TxAt.made W1 [[97, 117, 116, 111]]) (by simp))
  generalize isB ⟨k, n, d, nm⟩ [[97, 117, 116, 111]] = b2 at *
  cases b1
  · go_enter Tryz.func26, Tryz.ntmps26
    go_wp2_with fail
    refine E.out.mono ?_
    rintro e w1 ⟨rfl, hb1⟩
    have HB1 := Lib.hid (HB.out.trans (hb1.mono HB.out.size))
    have HB2 := Lib.hid (HB1.out.alloc HB1.out.size (.cells (txcs [[97, 117, 116, 111]]) 9))
    have II := Lib.hid (I.out w1)
    have hx1 := (hb1.block _ hl).trans HX.out
    have d0 : w1.cell? ⟨w.heap.size, 0, none⟩ = some (.int .i64 k) := cell_of hx1 rfl
    have d1 : w1.cell? ⟨w.heap.size, 1, none⟩ = some (.int .i64 n) := cell_of hx1 rfl
    have d2 : w1.cell? ⟨w.heap.size, 2, none⟩ = some (.int .i64 d) := cell_of hx1 rfl
    have d3 : w1.cell? ⟨w.heap.size, 3, none⟩ = some (.string ⟨nm.toArray⟩) := cell_of hx1 rfl
    clear hb1 hx1
    go_wp2_with fail
    refine II.out.mono ?_
    rintro e w2 ⟨rfl, hb2⟩
    have HB3 := Lib.hid (HB2.out.trans (hb2.mono HB2.out.size))
    clear hb2
    go_wp2_with fail
    go_ret
    exact ⟨rfl, HB3.out⟩
  · go_enter Tryz.func26, Tryz.ntmps26
    go_wp2_with fail
    refine E.out.mono ?_
    rintro e w1 ⟨rfl, hb1⟩
    have HB1 := Lib.hid (HB.out.trans (hb1.mono HB.out.size))
    clear hb1
    go_wp2_with fail
    go_ret
    exact ⟨rfl, HB1.out⟩
set_option maxRecDepth 100000 in
set_option maxHeartbeats 1000000 in
theorem takes5_any (k n d : Int) (nm : List UInt8) (w : World) : Calls Tryz.prog 26 #[.int .i64 5, .agg #[.int .i64 k, .int .i64 n, .int .i64 d, .string ⟨nm.toArray⟩]] w fun e w' => e = .returned (.bool (ownB 5 ⟨k, n, d, nm⟩)) ∧ Below w.heap.size w w' := by
  have ho : ownB 5 ⟨k, n, d, nm⟩ = (extB ⟨k, n, d, nm⟩ && upB ⟨k, n, d, nm⟩ || isB ⟨k, n, d, nm⟩ [[97, 117, 116, 111], [109, 105, 110, 45, 99, 111, 110, 116, 101, 110, 116], [109, 97, 120, 45, 99, 111, 110, 116, 101, 110, 116], [102, 105, 116, 45, 99, 111, 110, 116, 101, 110, 116]]) := by rw [ownB_eq]; show (othB 1 ⟨k, n, d, nm⟩ || isB ⟨k, n, d, nm⟩ [[97, 117, 116, 111], [109, 105, 110, 45, 99, 111, 110, 116, 101, 110, 116], [109, 97, 120, 45, 99, 111, 110, 116, 101, 110, 116], [102, 105, 116, 45, 99, 111, 110, 116, 101, 110, 116]]) = _; rw [oth1]
  rw [ho]
  clear ho
  have HB := Lib.hid (below_oneP w (.cells #[.int .i64 k, .int .i64 n, .int .i64 d, .string ⟨nm.toArray⟩] 23))
  generalize hW : w.alloc (.cells #[.int .i64 k, .int .i64 n, .int .i64 d, .string ⟨nm.toArray⟩] 23) = W at *
  have hfx : W.heap[w.heap.size]? = some (.cells #[.int .i64 k, .int .i64 n, .int .i64 d, .string ⟨nm.toArray⟩] 23 (0, 0)) := by rw [← hW]; exact heap_alloc_new w _
  have hl := blk_ltP hfx
  have HX := Lib.hid hfx
  have d0 : W.cell? ⟨w.heap.size, 0, none⟩ = some (.int .i64 k) := cell_of hfx rfl
  have d1 : W.cell? ⟨w.heap.size, 1, none⟩ = some (.int .i64 n) := cell_of hfx rfl
  have d2 : W.cell? ⟨w.heap.size, 2, none⟩ = some (.int .i64 d) := cell_of hfx rfl
  have d3 : W.cell? ⟨w.heap.size, 3, none⟩ = some (.string ⟨nm.toArray⟩) := cell_of hfx rfl
  clear hfx
  have E := Lib.hid (extentUp_any k n d nm W)
  generalize (extB ⟨k, n, d, nm⟩ && upB ⟨k, n, d, nm⟩) = b1 at *
  have I := Lib.hid (fun (W1 : World) => is_any k n d nm W1.heap.size [[97, 117, 116, 111], [109, 105, 110, 45, 99, 111, 110, 116, 101, 110, 116], [109, 97, 120, 45, 99, 111, 110, 116, 101, 110, 116], [102, 105, 116, 45, 99, 111, 110, 116, 101, 110, 116]] 4 4 (W1.alloc (.cells (txcs [[97, 117, 116, 111], [109, 105, 110, 45, 99, 111, 110, 116, 101, 110, 116], [109, 97, 120, 45, 99, 111, 110, 116, 101, 110, 116], [102, 105, 116, 45, 99, 111, 110, 116, 101, 110, 116]]) 9)) rfl (by omega) (TxAt.made W1 [[97, 117, 116, 111], [109, 105, 110, 45, 99, 111, 110, 116, 101, 110, 116], [109, 97, 120, 45, 99, 111, 110, 116, 101, 110, 116], [102, 105, 116, 45, 99, 111, 110, 116, 101, 110, 116]]) (by simp))
  generalize isB ⟨k, n, d, nm⟩ [[97, 117, 116, 111], [109, 105, 110, 45, 99, 111, 110, 116, 101, 110, 116], [109, 97, 120, 45, 99, 111, 110, 116, 101, 110, 116], [102, 105, 116, 45, 99, 111, 110, 116, 101, 110, 116]] = b2 at *
  cases b1
  · go_enter Tryz.func26, Tryz.ntmps26
    go_wp2_with fail
    refine E.out.mono ?_
    rintro e w1 ⟨rfl, hb1⟩
    have HB1 := Lib.hid (HB.out.trans (hb1.mono HB.out.size))
    have HB2 := Lib.hid (HB1.out.alloc HB1.out.size (.cells (txcs [[97, 117, 116, 111], [109, 105, 110, 45, 99, 111, 110, 116, 101, 110, 116], [109, 97, 120, 45, 99, 111, 110, 116, 101, 110, 116], [102, 105, 116, 45, 99, 111, 110, 116, 101, 110, 116]]) 9))
    have II := Lib.hid (I.out w1)
    have hx1 := (hb1.block _ hl).trans HX.out
    have d0 : w1.cell? ⟨w.heap.size, 0, none⟩ = some (.int .i64 k) := cell_of hx1 rfl
    have d1 : w1.cell? ⟨w.heap.size, 1, none⟩ = some (.int .i64 n) := cell_of hx1 rfl
    have d2 : w1.cell? ⟨w.heap.size, 2, none⟩ = some (.int .i64 d) := cell_of hx1 rfl
    have d3 : w1.cell? ⟨w.heap.size, 3, none⟩ = some (.string ⟨nm.toArray⟩) := cell_of hx1 rfl
    clear hb1 hx1
    go_wp2_with fail
    refine II.out.mono ?_
    rintro e w2 ⟨rfl, hb2⟩
    have HB3 := Lib.hid (HB2.out.trans (hb2.mono HB2.out.size))
    clear hb2
    go_wp2_with fail
    go_ret
    exact ⟨rfl, HB3.out⟩
  · go_enter Tryz.func26, Tryz.ntmps26
    go_wp2_with fail
    refine E.out.mono ?_
    rintro e w1 ⟨rfl, hb1⟩
    have HB1 := Lib.hid (HB.out.trans (hb1.mono HB.out.size))
    clear hb1
    go_wp2_with fail
    go_ret
    exact ⟨rfl, HB1.out⟩
set_option maxRecDepth 100000 in
set_option maxHeartbeats 1000000 in
theorem takes6_any (k n d : Int) (nm : List UInt8) (w : World) : Calls Tryz.prog 26 #[.int .i64 6, .agg #[.int .i64 k, .int .i64 n, .int .i64 d, .string ⟨nm.toArray⟩]] w fun e w' => e = .returned (.bool (ownB 6 ⟨k, n, d, nm⟩)) ∧ Below w.heap.size w w' := by
  have ho : ownB 6 ⟨k, n, d, nm⟩ = (extB ⟨k, n, d, nm⟩ && upB ⟨k, n, d, nm⟩ || isB ⟨k, n, d, nm⟩ [[97, 117, 116, 111]]) := by rw [ownB_eq]; show (othB 1 ⟨k, n, d, nm⟩ || isB ⟨k, n, d, nm⟩ [[97, 117, 116, 111]]) = _; rw [oth1]
  rw [ho]
  clear ho
  have HB := Lib.hid (below_oneP w (.cells #[.int .i64 k, .int .i64 n, .int .i64 d, .string ⟨nm.toArray⟩] 23))
  generalize hW : w.alloc (.cells #[.int .i64 k, .int .i64 n, .int .i64 d, .string ⟨nm.toArray⟩] 23) = W at *
  have hfx : W.heap[w.heap.size]? = some (.cells #[.int .i64 k, .int .i64 n, .int .i64 d, .string ⟨nm.toArray⟩] 23 (0, 0)) := by rw [← hW]; exact heap_alloc_new w _
  have hl := blk_ltP hfx
  have HX := Lib.hid hfx
  have d0 : W.cell? ⟨w.heap.size, 0, none⟩ = some (.int .i64 k) := cell_of hfx rfl
  have d1 : W.cell? ⟨w.heap.size, 1, none⟩ = some (.int .i64 n) := cell_of hfx rfl
  have d2 : W.cell? ⟨w.heap.size, 2, none⟩ = some (.int .i64 d) := cell_of hfx rfl
  have d3 : W.cell? ⟨w.heap.size, 3, none⟩ = some (.string ⟨nm.toArray⟩) := cell_of hfx rfl
  clear hfx
  have E := Lib.hid (extentUp_any k n d nm W)
  generalize (extB ⟨k, n, d, nm⟩ && upB ⟨k, n, d, nm⟩) = b1 at *
  have I := Lib.hid (fun (W1 : World) => is_any k n d nm W1.heap.size [[97, 117, 116, 111]] 1 1 (W1.alloc (.cells (txcs [[97, 117, 116, 111]]) 9)) rfl (by omega) (TxAt.made W1 [[97, 117, 116, 111]]) (by simp))
  generalize isB ⟨k, n, d, nm⟩ [[97, 117, 116, 111]] = b2 at *
  cases b1
  · go_enter Tryz.func26, Tryz.ntmps26
    go_wp2_with fail
    refine E.out.mono ?_
    rintro e w1 ⟨rfl, hb1⟩
    have HB1 := Lib.hid (HB.out.trans (hb1.mono HB.out.size))
    have HB2 := Lib.hid (HB1.out.alloc HB1.out.size (.cells (txcs [[97, 117, 116, 111]]) 9))
    have II := Lib.hid (I.out w1)
    have hx1 := (hb1.block _ hl).trans HX.out
    have d0 : w1.cell? ⟨w.heap.size, 0, none⟩ = some (.int .i64 k) := cell_of hx1 rfl
    have d1 : w1.cell? ⟨w.heap.size, 1, none⟩ = some (.int .i64 n) := cell_of hx1 rfl
    have d2 : w1.cell? ⟨w.heap.size, 2, none⟩ = some (.int .i64 d) := cell_of hx1 rfl
    have d3 : w1.cell? ⟨w.heap.size, 3, none⟩ = some (.string ⟨nm.toArray⟩) := cell_of hx1 rfl
    clear hb1 hx1
    go_wp2_with fail
    refine II.out.mono ?_
    rintro e w2 ⟨rfl, hb2⟩
    have HB3 := Lib.hid (HB2.out.trans (hb2.mono HB2.out.size))
    clear hb2
    go_wp2_with fail
    go_ret
    exact ⟨rfl, HB3.out⟩
  · go_enter Tryz.func26, Tryz.ntmps26
    go_wp2_with fail
    refine E.out.mono ?_
    rintro e w1 ⟨rfl, hb1⟩
    have HB1 := Lib.hid (HB.out.trans (hb1.mono HB.out.size))
    clear hb1
    go_wp2_with fail
    go_ret
    exact ⟨rfl, HB1.out⟩
set_option maxRecDepth 100000 in
set_option maxHeartbeats 1000000 in
theorem takes7_any (k n d : Int) (nm : List UInt8) (w : World) : Calls Tryz.prog 26 #[.int .i64 7, .agg #[.int .i64 k, .int .i64 n, .int .i64 d, .string ⟨nm.toArray⟩]] w fun e w' => e = .returned (.bool (ownB 7 ⟨k, n, d, nm⟩)) ∧ Below w.heap.size w w' := by
  have ho : ownB 7 ⟨k, n, d, nm⟩ = (extB ⟨k, n, d, nm⟩ && upB ⟨k, n, d, nm⟩ || isB ⟨k, n, d, nm⟩ [[110, 111, 110, 101], [109, 105, 110, 45, 99, 111, 110, 116, 101, 110, 116], [109, 97, 120, 45, 99, 111, 110, 116, 101, 110, 116], [102, 105, 116, 45, 99, 111, 110, 116, 101, 110, 116]]) := by rw [ownB_eq]; show (othB 1 ⟨k, n, d, nm⟩ || isB ⟨k, n, d, nm⟩ [[110, 111, 110, 101], [109, 105, 110, 45, 99, 111, 110, 116, 101, 110, 116], [109, 97, 120, 45, 99, 111, 110, 116, 101, 110, 116], [102, 105, 116, 45, 99, 111, 110, 116, 101, 110, 116]]) = _; rw [oth1]
  rw [ho]
  clear ho
  have HB := Lib.hid (below_oneP w (.cells #[.int .i64 k, .int .i64 n, .int .i64 d, .string ⟨nm.toArray⟩] 23))
  generalize hW : w.alloc (.cells #[.int .i64 k, .int .i64 n, .int .i64 d, .string ⟨nm.toArray⟩] 23) = W at *
  have hfx : W.heap[w.heap.size]? = some (.cells #[.int .i64 k, .int .i64 n, .int .i64 d, .string ⟨nm.toArray⟩] 23 (0, 0)) := by rw [← hW]; exact heap_alloc_new w _
  have hl := blk_ltP hfx
  have HX := Lib.hid hfx
  have d0 : W.cell? ⟨w.heap.size, 0, none⟩ = some (.int .i64 k) := cell_of hfx rfl
  have d1 : W.cell? ⟨w.heap.size, 1, none⟩ = some (.int .i64 n) := cell_of hfx rfl
  have d2 : W.cell? ⟨w.heap.size, 2, none⟩ = some (.int .i64 d) := cell_of hfx rfl
  have d3 : W.cell? ⟨w.heap.size, 3, none⟩ = some (.string ⟨nm.toArray⟩) := cell_of hfx rfl
  clear hfx
  have E := Lib.hid (extentUp_any k n d nm W)
  generalize (extB ⟨k, n, d, nm⟩ && upB ⟨k, n, d, nm⟩) = b1 at *
  have I := Lib.hid (fun (W1 : World) => is_any k n d nm W1.heap.size [[110, 111, 110, 101], [109, 105, 110, 45, 99, 111, 110, 116, 101, 110, 116], [109, 97, 120, 45, 99, 111, 110, 116, 101, 110, 116], [102, 105, 116, 45, 99, 111, 110, 116, 101, 110, 116]] 4 4 (W1.alloc (.cells (txcs [[110, 111, 110, 101], [109, 105, 110, 45, 99, 111, 110, 116, 101, 110, 116], [109, 97, 120, 45, 99, 111, 110, 116, 101, 110, 116], [102, 105, 116, 45, 99, 111, 110, 116, 101, 110, 116]]) 9)) rfl (by omega) (TxAt.made W1 [[110, 111, 110, 101], [109, 105, 110, 45, 99, 111, 110, 116, 101, 110, 116], [109, 97, 120, 45, 99, 111, 110, 116, 101, 110, 116], [102, 105, 116, 45, 99, 111, 110, 116, 101, 110, 116]]) (by simp))
  generalize isB ⟨k, n, d, nm⟩ [[110, 111, 110, 101], [109, 105, 110, 45, 99, 111, 110, 116, 101, 110, 116], [109, 97, 120, 45, 99, 111, 110, 116, 101, 110, 116], [102, 105, 116, 45, 99, 111, 110, 116, 101, 110, 116]] = b2 at *
  cases b1
  · go_enter Tryz.func26, Tryz.ntmps26
    go_wp2_with fail
    refine E.out.mono ?_
    rintro e w1 ⟨rfl, hb1⟩
    have HB1 := Lib.hid (HB.out.trans (hb1.mono HB.out.size))
    have HB2 := Lib.hid (HB1.out.alloc HB1.out.size (.cells (txcs [[110, 111, 110, 101], [109, 105, 110, 45, 99, 111, 110, 116, 101, 110, 116], [109, 97, 120, 45, 99, 111, 110, 116, 101, 110, 116], [102, 105, 116, 45, 99, 111, 110, 116, 101, 110, 116]]) 9))
    have II := Lib.hid (I.out w1)
    have hx1 := (hb1.block _ hl).trans HX.out
    have d0 : w1.cell? ⟨w.heap.size, 0, none⟩ = some (.int .i64 k) := cell_of hx1 rfl
    have d1 : w1.cell? ⟨w.heap.size, 1, none⟩ = some (.int .i64 n) := cell_of hx1 rfl
    have d2 : w1.cell? ⟨w.heap.size, 2, none⟩ = some (.int .i64 d) := cell_of hx1 rfl
    have d3 : w1.cell? ⟨w.heap.size, 3, none⟩ = some (.string ⟨nm.toArray⟩) := cell_of hx1 rfl
    clear hb1 hx1
    go_wp2_with fail
    refine II.out.mono ?_
    rintro e w2 ⟨rfl, hb2⟩
    have HB3 := Lib.hid (HB2.out.trans (hb2.mono HB2.out.size))
    clear hb2
    go_wp2_with fail
    go_ret
    exact ⟨rfl, HB3.out⟩
  · go_enter Tryz.func26, Tryz.ntmps26
    go_wp2_with fail
    refine E.out.mono ?_
    rintro e w1 ⟨rfl, hb1⟩
    have HB1 := Lib.hid (HB.out.trans (hb1.mono HB.out.size))
    clear hb1
    go_wp2_with fail
    go_ret
    exact ⟨rfl, HB1.out⟩
set_option maxRecDepth 100000 in
set_option maxHeartbeats 1000000 in
theorem takes8_any (k n d : Int) (nm : List UInt8) (w : World) : Calls Tryz.prog 26 #[.int .i64 8, .agg #[.int .i64 k, .int .i64 n, .int .i64 d, .string ⟨nm.toArray⟩]] w fun e w' => e = .returned (.bool (ownB 8 ⟨k, n, d, nm⟩)) ∧ Below w.heap.size w w' := by
  have ho : ownB 8 ⟨k, n, d, nm⟩ = (extB ⟨k, n, d, nm⟩ && upB ⟨k, n, d, nm⟩ || isB ⟨k, n, d, nm⟩ [[110, 111, 110, 101]]) := by rw [ownB_eq]; show (othB 1 ⟨k, n, d, nm⟩ || isB ⟨k, n, d, nm⟩ [[110, 111, 110, 101]]) = _; rw [oth1]
  rw [ho]
  clear ho
  have HB := Lib.hid (below_oneP w (.cells #[.int .i64 k, .int .i64 n, .int .i64 d, .string ⟨nm.toArray⟩] 23))
  generalize hW : w.alloc (.cells #[.int .i64 k, .int .i64 n, .int .i64 d, .string ⟨nm.toArray⟩] 23) = W at *
  have hfx : W.heap[w.heap.size]? = some (.cells #[.int .i64 k, .int .i64 n, .int .i64 d, .string ⟨nm.toArray⟩] 23 (0, 0)) := by rw [← hW]; exact heap_alloc_new w _
  have hl := blk_ltP hfx
  have HX := Lib.hid hfx
  have d0 : W.cell? ⟨w.heap.size, 0, none⟩ = some (.int .i64 k) := cell_of hfx rfl
  have d1 : W.cell? ⟨w.heap.size, 1, none⟩ = some (.int .i64 n) := cell_of hfx rfl
  have d2 : W.cell? ⟨w.heap.size, 2, none⟩ = some (.int .i64 d) := cell_of hfx rfl
  have d3 : W.cell? ⟨w.heap.size, 3, none⟩ = some (.string ⟨nm.toArray⟩) := cell_of hfx rfl
  clear hfx
  have E := Lib.hid (extentUp_any k n d nm W)
  generalize (extB ⟨k, n, d, nm⟩ && upB ⟨k, n, d, nm⟩) = b1 at *
  have I := Lib.hid (fun (W1 : World) => is_any k n d nm W1.heap.size [[110, 111, 110, 101]] 1 1 (W1.alloc (.cells (txcs [[110, 111, 110, 101]]) 9)) rfl (by omega) (TxAt.made W1 [[110, 111, 110, 101]]) (by simp))
  generalize isB ⟨k, n, d, nm⟩ [[110, 111, 110, 101]] = b2 at *
  cases b1
  · go_enter Tryz.func26, Tryz.ntmps26
    go_wp2_with fail
    refine E.out.mono ?_
    rintro e w1 ⟨rfl, hb1⟩
    have HB1 := Lib.hid (HB.out.trans (hb1.mono HB.out.size))
    have HB2 := Lib.hid (HB1.out.alloc HB1.out.size (.cells (txcs [[110, 111, 110, 101]]) 9))
    have II := Lib.hid (I.out w1)
    have hx1 := (hb1.block _ hl).trans HX.out
    have d0 : w1.cell? ⟨w.heap.size, 0, none⟩ = some (.int .i64 k) := cell_of hx1 rfl
    have d1 : w1.cell? ⟨w.heap.size, 1, none⟩ = some (.int .i64 n) := cell_of hx1 rfl
    have d2 : w1.cell? ⟨w.heap.size, 2, none⟩ = some (.int .i64 d) := cell_of hx1 rfl
    have d3 : w1.cell? ⟨w.heap.size, 3, none⟩ = some (.string ⟨nm.toArray⟩) := cell_of hx1 rfl
    clear hb1 hx1
    go_wp2_with fail
    refine II.out.mono ?_
    rintro e w2 ⟨rfl, hb2⟩
    have HB3 := Lib.hid (HB2.out.trans (hb2.mono HB2.out.size))
    clear hb2
    go_wp2_with fail
    go_ret
    exact ⟨rfl, HB3.out⟩
  · go_enter Tryz.func26, Tryz.ntmps26
    go_wp2_with fail
    refine E.out.mono ?_
    rintro e w1 ⟨rfl, hb1⟩
    have HB1 := Lib.hid (HB.out.trans (hb1.mono HB.out.size))
    clear hb1
    go_wp2_with fail
    go_ret
    exact ⟨rfl, HB1.out⟩
set_option maxRecDepth 100000 in
set_option maxHeartbeats 1000000 in
theorem takes9_any (k n d : Int) (nm : List UInt8) (w : World) : Calls Tryz.prog 26 #[.int .i64 9, .agg #[.int .i64 k, .int .i64 n, .int .i64 d, .string ⟨nm.toArray⟩]] w fun e w' => e = .returned (.bool (ownB 9 ⟨k, n, d, nm⟩)) ∧ Below w.heap.size w w' := by
  have ho : ownB 9 ⟨k, n, d, nm⟩ = (extB ⟨k, n, d, nm⟩ || isB ⟨k, n, d, nm⟩ [[97, 117, 116, 111]]) := by rw [ownB_eq]; show (othB 2 ⟨k, n, d, nm⟩ || isB ⟨k, n, d, nm⟩ [[97, 117, 116, 111]]) = _; rw [oth2]
  rw [ho]
  clear ho
  have HB := Lib.hid (below_oneP w (.cells #[.int .i64 k, .int .i64 n, .int .i64 d, .string ⟨nm.toArray⟩] 23))
  generalize hW : w.alloc (.cells #[.int .i64 k, .int .i64 n, .int .i64 d, .string ⟨nm.toArray⟩] 23) = W at *
  have hfx : W.heap[w.heap.size]? = some (.cells #[.int .i64 k, .int .i64 n, .int .i64 d, .string ⟨nm.toArray⟩] 23 (0, 0)) := by rw [← hW]; exact heap_alloc_new w _
  have hl := blk_ltP hfx
  have HX := Lib.hid hfx
  have d0 : W.cell? ⟨w.heap.size, 0, none⟩ = some (.int .i64 k) := cell_of hfx rfl
  have d1 : W.cell? ⟨w.heap.size, 1, none⟩ = some (.int .i64 n) := cell_of hfx rfl
  have d2 : W.cell? ⟨w.heap.size, 2, none⟩ = some (.int .i64 d) := cell_of hfx rfl
  have d3 : W.cell? ⟨w.heap.size, 3, none⟩ = some (.string ⟨nm.toArray⟩) := cell_of hfx rfl
  clear hfx
  have E := Lib.hid (extent_any k n d nm W)
  generalize (extB ⟨k, n, d, nm⟩) = b1 at *
  have I := Lib.hid (fun (W1 : World) => is_any k n d nm W1.heap.size [[97, 117, 116, 111]] 1 1 (W1.alloc (.cells (txcs [[97, 117, 116, 111]]) 9)) rfl (by omega) (TxAt.made W1 [[97, 117, 116, 111]]) (by simp))
  generalize isB ⟨k, n, d, nm⟩ [[97, 117, 116, 111]] = b2 at *
  cases b1
  · go_enter Tryz.func26, Tryz.ntmps26
    go_wp2_with fail
    refine E.out.mono ?_
    rintro e w1 ⟨rfl, hb1⟩
    have HB1 := Lib.hid (HB.out.trans (hb1.mono HB.out.size))
    have HB2 := Lib.hid (HB1.out.alloc HB1.out.size (.cells (txcs [[97, 117, 116, 111]]) 9))
    have II := Lib.hid (I.out w1)
    have hx1 := (hb1.block _ hl).trans HX.out
    have d0 : w1.cell? ⟨w.heap.size, 0, none⟩ = some (.int .i64 k) := cell_of hx1 rfl
    have d1 : w1.cell? ⟨w.heap.size, 1, none⟩ = some (.int .i64 n) := cell_of hx1 rfl
    have d2 : w1.cell? ⟨w.heap.size, 2, none⟩ = some (.int .i64 d) := cell_of hx1 rfl
    have d3 : w1.cell? ⟨w.heap.size, 3, none⟩ = some (.string ⟨nm.toArray⟩) := cell_of hx1 rfl
    clear hb1 hx1
    go_wp2_with fail
    refine II.out.mono ?_
    rintro e w2 ⟨rfl, hb2⟩
    have HB3 := Lib.hid (HB2.out.trans (hb2.mono HB2.out.size))
    clear hb2
    go_wp2_with fail
    go_ret
    exact ⟨rfl, HB3.out⟩
  · go_enter Tryz.func26, Tryz.ntmps26
    go_wp2_with fail
    refine E.out.mono ?_
    rintro e w1 ⟨rfl, hb1⟩
    have HB1 := Lib.hid (HB.out.trans (hb1.mono HB.out.size))
    clear hb1
    go_wp2_with fail
    go_ret
    exact ⟨rfl, HB1.out⟩
set_option maxRecDepth 100000 in
set_option maxHeartbeats 1000000 in
theorem takes10_any (k n d : Int) (nm : List UInt8) (w : World) : Calls Tryz.prog 26 #[.int .i64 10, .agg #[.int .i64 k, .int .i64 n, .int .i64 d, .string ⟨nm.toArray⟩]] w fun e w' => e = .returned (.bool (ownB 10 ⟨k, n, d, nm⟩)) ∧ Below w.heap.size w w' := by
  have ho : ownB 10 ⟨k, n, d, nm⟩ = (extB ⟨k, n, d, nm⟩ || isB ⟨k, n, d, nm⟩ [[97, 117, 116, 111]]) := by rw [ownB_eq]; show (othB 2 ⟨k, n, d, nm⟩ || isB ⟨k, n, d, nm⟩ [[97, 117, 116, 111]]) = _; rw [oth2]
  rw [ho]
  clear ho
  have HB := Lib.hid (below_oneP w (.cells #[.int .i64 k, .int .i64 n, .int .i64 d, .string ⟨nm.toArray⟩] 23))
  generalize hW : w.alloc (.cells #[.int .i64 k, .int .i64 n, .int .i64 d, .string ⟨nm.toArray⟩] 23) = W at *
  have hfx : W.heap[w.heap.size]? = some (.cells #[.int .i64 k, .int .i64 n, .int .i64 d, .string ⟨nm.toArray⟩] 23 (0, 0)) := by rw [← hW]; exact heap_alloc_new w _
  have hl := blk_ltP hfx
  have HX := Lib.hid hfx
  have d0 : W.cell? ⟨w.heap.size, 0, none⟩ = some (.int .i64 k) := cell_of hfx rfl
  have d1 : W.cell? ⟨w.heap.size, 1, none⟩ = some (.int .i64 n) := cell_of hfx rfl
  have d2 : W.cell? ⟨w.heap.size, 2, none⟩ = some (.int .i64 d) := cell_of hfx rfl
  have d3 : W.cell? ⟨w.heap.size, 3, none⟩ = some (.string ⟨nm.toArray⟩) := cell_of hfx rfl
  clear hfx
  have E := Lib.hid (extent_any k n d nm W)
  generalize (extB ⟨k, n, d, nm⟩) = b1 at *
  have I := Lib.hid (fun (W1 : World) => is_any k n d nm W1.heap.size [[97, 117, 116, 111]] 1 1 (W1.alloc (.cells (txcs [[97, 117, 116, 111]]) 9)) rfl (by omega) (TxAt.made W1 [[97, 117, 116, 111]]) (by simp))
  generalize isB ⟨k, n, d, nm⟩ [[97, 117, 116, 111]] = b2 at *
  cases b1
  · go_enter Tryz.func26, Tryz.ntmps26
    go_wp2_with fail
    refine E.out.mono ?_
    rintro e w1 ⟨rfl, hb1⟩
    have HB1 := Lib.hid (HB.out.trans (hb1.mono HB.out.size))
    have HB2 := Lib.hid (HB1.out.alloc HB1.out.size (.cells (txcs [[97, 117, 116, 111]]) 9))
    have II := Lib.hid (I.out w1)
    have hx1 := (hb1.block _ hl).trans HX.out
    have d0 : w1.cell? ⟨w.heap.size, 0, none⟩ = some (.int .i64 k) := cell_of hx1 rfl
    have d1 : w1.cell? ⟨w.heap.size, 1, none⟩ = some (.int .i64 n) := cell_of hx1 rfl
    have d2 : w1.cell? ⟨w.heap.size, 2, none⟩ = some (.int .i64 d) := cell_of hx1 rfl
    have d3 : w1.cell? ⟨w.heap.size, 3, none⟩ = some (.string ⟨nm.toArray⟩) := cell_of hx1 rfl
    clear hb1 hx1
    go_wp2_with fail
    refine II.out.mono ?_
    rintro e w2 ⟨rfl, hb2⟩
    have HB3 := Lib.hid (HB2.out.trans (hb2.mono HB2.out.size))
    clear hb2
    go_wp2_with fail
    go_ret
    exact ⟨rfl, HB3.out⟩
  · go_enter Tryz.func26, Tryz.ntmps26
    go_wp2_with fail
    refine E.out.mono ?_
    rintro e w1 ⟨rfl, hb1⟩
    have HB1 := Lib.hid (HB.out.trans (hb1.mono HB.out.size))
    clear hb1
    go_wp2_with fail
    go_ret
    exact ⟨rfl, HB1.out⟩
set_option maxRecDepth 100000 in
set_option maxHeartbeats 1000000 in
theorem takes11_any (k n d : Int) (nm : List UInt8) (w : World) : Calls Tryz.prog 26 #[.int .i64 11, .agg #[.int .i64 k, .int .i64 n, .int .i64 d, .string ⟨nm.toArray⟩]] w fun e w' => e = .returned (.bool (ownB 11 ⟨k, n, d, nm⟩)) ∧ Below w.heap.size w w' := by
  have ho : ownB 11 ⟨k, n, d, nm⟩ = (extB ⟨k, n, d, nm⟩ || isB ⟨k, n, d, nm⟩ [[97, 117, 116, 111]]) := by rw [ownB_eq]; show (othB 2 ⟨k, n, d, nm⟩ || isB ⟨k, n, d, nm⟩ [[97, 117, 116, 111]]) = _; rw [oth2]
  rw [ho]
  clear ho
  have HB := Lib.hid (below_oneP w (.cells #[.int .i64 k, .int .i64 n, .int .i64 d, .string ⟨nm.toArray⟩] 23))
  generalize hW : w.alloc (.cells #[.int .i64 k, .int .i64 n, .int .i64 d, .string ⟨nm.toArray⟩] 23) = W at *
  have hfx : W.heap[w.heap.size]? = some (.cells #[.int .i64 k, .int .i64 n, .int .i64 d, .string ⟨nm.toArray⟩] 23 (0, 0)) := by rw [← hW]; exact heap_alloc_new w _
  have hl := blk_ltP hfx
  have HX := Lib.hid hfx
  have d0 : W.cell? ⟨w.heap.size, 0, none⟩ = some (.int .i64 k) := cell_of hfx rfl
  have d1 : W.cell? ⟨w.heap.size, 1, none⟩ = some (.int .i64 n) := cell_of hfx rfl
  have d2 : W.cell? ⟨w.heap.size, 2, none⟩ = some (.int .i64 d) := cell_of hfx rfl
  have d3 : W.cell? ⟨w.heap.size, 3, none⟩ = some (.string ⟨nm.toArray⟩) := cell_of hfx rfl
  clear hfx
  have E := Lib.hid (extent_any k n d nm W)
  generalize (extB ⟨k, n, d, nm⟩) = b1 at *
  have I := Lib.hid (fun (W1 : World) => is_any k n d nm W1.heap.size [[97, 117, 116, 111]] 1 1 (W1.alloc (.cells (txcs [[97, 117, 116, 111]]) 9)) rfl (by omega) (TxAt.made W1 [[97, 117, 116, 111]]) (by simp))
  generalize isB ⟨k, n, d, nm⟩ [[97, 117, 116, 111]] = b2 at *
  cases b1
  · go_enter Tryz.func26, Tryz.ntmps26
    go_wp2_with fail
    refine E.out.mono ?_
    rintro e w1 ⟨rfl, hb1⟩
    have HB1 := Lib.hid (HB.out.trans (hb1.mono HB.out.size))
    have HB2 := Lib.hid (HB1.out.alloc HB1.out.size (.cells (txcs [[97, 117, 116, 111]]) 9))
    have II := Lib.hid (I.out w1)
    have hx1 := (hb1.block _ hl).trans HX.out
    have d0 : w1.cell? ⟨w.heap.size, 0, none⟩ = some (.int .i64 k) := cell_of hx1 rfl
    have d1 : w1.cell? ⟨w.heap.size, 1, none⟩ = some (.int .i64 n) := cell_of hx1 rfl
    have d2 : w1.cell? ⟨w.heap.size, 2, none⟩ = some (.int .i64 d) := cell_of hx1 rfl
    have d3 : w1.cell? ⟨w.heap.size, 3, none⟩ = some (.string ⟨nm.toArray⟩) := cell_of hx1 rfl
    clear hb1 hx1
    go_wp2_with fail
    refine II.out.mono ?_
    rintro e w2 ⟨rfl, hb2⟩
    have HB3 := Lib.hid (HB2.out.trans (hb2.mono HB2.out.size))
    clear hb2
    go_wp2_with fail
    go_ret
    exact ⟨rfl, HB3.out⟩
  · go_enter Tryz.func26, Tryz.ntmps26
    go_wp2_with fail
    refine E.out.mono ?_
    rintro e w1 ⟨rfl, hb1⟩
    have HB1 := Lib.hid (HB.out.trans (hb1.mono HB.out.size))
    clear hb1
    go_wp2_with fail
    go_ret
    exact ⟨rfl, HB1.out⟩
set_option maxRecDepth 100000 in
set_option maxHeartbeats 1000000 in
theorem takes12_any (k n d : Int) (nm : List UInt8) (w : World) : Calls Tryz.prog 26 #[.int .i64 12, .agg #[.int .i64 k, .int .i64 n, .int .i64 d, .string ⟨nm.toArray⟩]] w fun e w' => e = .returned (.bool (ownB 12 ⟨k, n, d, nm⟩)) ∧ Below w.heap.size w w' := by
  have ho : ownB 12 ⟨k, n, d, nm⟩ = (extB ⟨k, n, d, nm⟩ || isB ⟨k, n, d, nm⟩ [[97, 117, 116, 111]]) := by rw [ownB_eq]; show (othB 2 ⟨k, n, d, nm⟩ || isB ⟨k, n, d, nm⟩ [[97, 117, 116, 111]]) = _; rw [oth2]
  rw [ho]
  clear ho
  have HB := Lib.hid (below_oneP w (.cells #[.int .i64 k, .int .i64 n, .int .i64 d, .string ⟨nm.toArray⟩] 23))
  generalize hW : w.alloc (.cells #[.int .i64 k, .int .i64 n, .int .i64 d, .string ⟨nm.toArray⟩] 23) = W at *
  have hfx : W.heap[w.heap.size]? = some (.cells #[.int .i64 k, .int .i64 n, .int .i64 d, .string ⟨nm.toArray⟩] 23 (0, 0)) := by rw [← hW]; exact heap_alloc_new w _
  have hl := blk_ltP hfx
  have HX := Lib.hid hfx
  have d0 : W.cell? ⟨w.heap.size, 0, none⟩ = some (.int .i64 k) := cell_of hfx rfl
  have d1 : W.cell? ⟨w.heap.size, 1, none⟩ = some (.int .i64 n) := cell_of hfx rfl
  have d2 : W.cell? ⟨w.heap.size, 2, none⟩ = some (.int .i64 d) := cell_of hfx rfl
  have d3 : W.cell? ⟨w.heap.size, 3, none⟩ = some (.string ⟨nm.toArray⟩) := cell_of hfx rfl
  clear hfx
  have E := Lib.hid (extent_any k n d nm W)
  generalize (extB ⟨k, n, d, nm⟩) = b1 at *
  have I := Lib.hid (fun (W1 : World) => is_any k n d nm W1.heap.size [[97, 117, 116, 111]] 1 1 (W1.alloc (.cells (txcs [[97, 117, 116, 111]]) 9)) rfl (by omega) (TxAt.made W1 [[97, 117, 116, 111]]) (by simp))
  generalize isB ⟨k, n, d, nm⟩ [[97, 117, 116, 111]] = b2 at *
  cases b1
  · go_enter Tryz.func26, Tryz.ntmps26
    go_wp2_with fail
    refine E.out.mono ?_
    rintro e w1 ⟨rfl, hb1⟩
    have HB1 := Lib.hid (HB.out.trans (hb1.mono HB.out.size))
    have HB2 := Lib.hid (HB1.out.alloc HB1.out.size (.cells (txcs [[97, 117, 116, 111]]) 9))
    have II := Lib.hid (I.out w1)
    have hx1 := (hb1.block _ hl).trans HX.out
    have d0 : w1.cell? ⟨w.heap.size, 0, none⟩ = some (.int .i64 k) := cell_of hx1 rfl
    have d1 : w1.cell? ⟨w.heap.size, 1, none⟩ = some (.int .i64 n) := cell_of hx1 rfl
    have d2 : w1.cell? ⟨w.heap.size, 2, none⟩ = some (.int .i64 d) := cell_of hx1 rfl
    have d3 : w1.cell? ⟨w.heap.size, 3, none⟩ = some (.string ⟨nm.toArray⟩) := cell_of hx1 rfl
    clear hb1 hx1
    go_wp2_with fail
    refine II.out.mono ?_
    rintro e w2 ⟨rfl, hb2⟩
    have HB3 := Lib.hid (HB2.out.trans (hb2.mono HB2.out.size))
    clear hb2
    go_wp2_with fail
    go_ret
    exact ⟨rfl, HB3.out⟩
  · go_enter Tryz.func26, Tryz.ntmps26
    go_wp2_with fail
    refine E.out.mono ?_
    rintro e w1 ⟨rfl, hb1⟩
    have HB1 := Lib.hid (HB.out.trans (hb1.mono HB.out.size))
    clear hb1
    go_wp2_with fail
    go_ret
    exact ⟨rfl, HB1.out⟩
end Go.Proofs.YtghnbfppfbenmaaGreat

namespace Go.Proofs.YtghnbfppfbenmaaGreat
open Go.RowKit TreN LexP FixP SynP ValP PropP FixM
set_option linter.unusedVariables false

set_option maxRecDepth 100000 in
set_option maxHeartbeats 1000000 in
theorem takes13_any (k n d : Int) (nm : List UInt8) (w : World) : Calls Tryz.prog 26 #[.int .i64 13, .agg #[.int .i64 k, .int .i64 n, .int .i64 d, .string ⟨nm.toArray⟩]] w fun e w' => e = .returned (.bool (ownB 13 ⟨k, n, d, nm⟩)) ∧ Below w.heap.size w w' := by
  have ho : ownB 13 ⟨k, n, d, nm⟩ = (extB ⟨k, n, d, nm⟩ && upB ⟨k, n, d, nm⟩) := by rw [ownB_eq]; show (othB 1 ⟨k, n, d, nm⟩ || isB ⟨k, n, d, nm⟩ []) = _; rw [oth1, isB_nil, Bool.or_false]
  rw [ho]
  clear ho
  have HB := Lib.hid (below_oneP w (.cells #[.int .i64 k, .int .i64 n, .int .i64 d, .string ⟨nm.toArray⟩] 23))
  generalize hW : w.alloc (.cells #[.int .i64 k, .int .i64 n, .int .i64 d, .string ⟨nm.toArray⟩] 23) = W at *
  have hfx : W.heap[w.heap.size]? = some (.cells #[.int .i64 k, .int .i64 n, .int .i64 d, .string ⟨nm.toArray⟩] 23 (0, 0)) := by rw [← hW]; exact heap_alloc_new w _
  have hl := blk_ltP hfx
  have HX := Lib.hid hfx
  have d0 : W.cell? ⟨w.heap.size, 0, none⟩ = some (.int .i64 k) := cell_of hfx rfl
  have d1 : W.cell? ⟨w.heap.size, 1, none⟩ = some (.int .i64 n) := cell_of hfx rfl
  have d2 : W.cell? ⟨w.heap.size, 2, none⟩ = some (.int .i64 d) := cell_of hfx rfl
  have d3 : W.cell? ⟨w.heap.size, 3, none⟩ = some (.string ⟨nm.toArray⟩) := cell_of hfx rfl
  clear hfx
  have E := Lib.hid (extentUp_any k n d nm W)
  generalize (extB ⟨k, n, d, nm⟩ && upB ⟨k, n, d, nm⟩) = b1 at *
  go_enter Tryz.func26, Tryz.ntmps26
  go_wp2_with fail
  refine E.out.mono ?_
  rintro e w1 ⟨rfl, hb1⟩
  have HB1 := Lib.hid (HB.out.trans (hb1.mono HB.out.size))
  clear hb1
  go_wp2_with fail
  go_ret
  exact ⟨rfl, HB1.out⟩
set_option maxRecDepth 100000 in
set_option maxHeartbeats 1000000 in
theorem takes14_any (k n d : Int) (nm : List UInt8) (w : World) : Calls Tryz.prog 26 #[.int .i64 14, .agg #[.int .i64 k, .int .i64 n, .int .i64 d, .string ⟨nm.toArray⟩]] w fun e w' => e = .returned (.bool (ownB 14 ⟨k, n, d, nm⟩)) ∧ Below w.heap.size w w' := by
  have ho : ownB 14 ⟨k, n, d, nm⟩ = (extB ⟨k, n, d, nm⟩ && upB ⟨k, n, d, nm⟩) := by rw [ownB_eq]; show (othB 1 ⟨k, n, d, nm⟩ || isB ⟨k, n, d, nm⟩ []) = _; rw [oth1, isB_nil, Bool.or_false]
  rw [ho]
  clear ho
  have HB := Lib.hid (below_oneP w (.cells #[.int .i64 k, .int .i64 n, .int .i64 d, .string ⟨nm.toArray⟩] 23))
  generalize hW : w.alloc (.cells #[.int .i64 k, .int .i64 n, .int .i64 d, .string ⟨nm.toArray⟩] 23) = W at *
  have hfx : W.heap[w.heap.size]? = some (.cells #[.int .i64 k, .int .i64 n, .int .i64 d, .string ⟨nm.toArray⟩] 23 (0, 0)) := by rw [← hW]; exact heap_alloc_new w _
  have hl := blk_ltP hfx
  have HX := Lib.hid hfx
  have d0 : W.cell? ⟨w.heap.size, 0, none⟩ = some (.int .i64 k) := cell_of hfx rfl
  have d1 : W.cell? ⟨w.heap.size, 1, none⟩ = some (.int .i64 n) := cell_of hfx rfl
  have d2 : W.cell? ⟨w.heap.size, 2, none⟩ = some (.int .i64 d) := cell_of hfx rfl
  have d3 : W.cell? ⟨w.heap.size, 3, none⟩ = some (.string ⟨nm.toArray⟩) := cell_of hfx rfl
  clear hfx
  have E := Lib.hid (extentUp_any k n d nm W)
  generalize (extB ⟨k, n, d, nm⟩ && upB ⟨k, n, d, nm⟩) = b1 at *
  go_enter Tryz.func26, Tryz.ntmps26
  go_wp2_with fail
  refine E.out.mono ?_
  rintro e w1 ⟨rfl, hb1⟩
  have HB1 := Lib.hid (HB.out.trans (hb1.mono HB.out.size))
  clear hb1
  go_wp2_with fail
  go_ret
  exact ⟨rfl, HB1.out⟩
set_option maxRecDepth 100000 in
set_option maxHeartbeats 1000000 in
theorem takes15_any (k n d : Int) (nm : List UInt8) (w : World) : Calls Tryz.prog 26 #[.int .i64 15, .agg #[.int .i64 k, .int .i64 n, .int .i64 d, .string ⟨nm.toArray⟩]] w fun e w' => e = .returned (.bool (ownB 15 ⟨k, n, d, nm⟩)) ∧ Below w.heap.size w w' := by
  have ho : ownB 15 ⟨k, n, d, nm⟩ = (extB ⟨k, n, d, nm⟩ && upB ⟨k, n, d, nm⟩) := by rw [ownB_eq]; show (othB 1 ⟨k, n, d, nm⟩ || isB ⟨k, n, d, nm⟩ []) = _; rw [oth1, isB_nil, Bool.or_false]
  rw [ho]
  clear ho
  have HB := Lib.hid (below_oneP w (.cells #[.int .i64 k, .int .i64 n, .int .i64 d, .string ⟨nm.toArray⟩] 23))
  generalize hW : w.alloc (.cells #[.int .i64 k, .int .i64 n, .int .i64 d, .string ⟨nm.toArray⟩] 23) = W at *
  have hfx : W.heap[w.heap.size]? = some (.cells #[.int .i64 k, .int .i64 n, .int .i64 d, .string ⟨nm.toArray⟩] 23 (0, 0)) := by rw [← hW]; exact heap_alloc_new w _
  have hl := blk_ltP hfx
  have HX := Lib.hid hfx
  have d0 : W.cell? ⟨w.heap.size, 0, none⟩ = some (.int .i64 k) := cell_of hfx rfl
  have d1 : W.cell? ⟨w.heap.size, 1, none⟩ = some (.int .i64 n) := cell_of hfx rfl
  have d2 : W.cell? ⟨w.heap.size, 2, none⟩ = some (.int .i64 d) := cell_of hfx rfl
  have d3 : W.cell? ⟨w.heap.size, 3, none⟩ = some (.string ⟨nm.toArray⟩) := cell_of hfx rfl
  clear hfx
  have E := Lib.hid (extentUp_any k n d nm W)
  generalize (extB ⟨k, n, d, nm⟩ && upB ⟨k, n, d, nm⟩) = b1 at *
  go_enter Tryz.func26, Tryz.ntmps26
  go_wp2_with fail
  refine E.out.mono ?_
  rintro e w1 ⟨rfl, hb1⟩
  have HB1 := Lib.hid (HB.out.trans (hb1.mono HB.out.size))
  clear hb1
  go_wp2_with fail
  go_ret
  exact ⟨rfl, HB1.out⟩
set_option maxRecDepth 100000 in
set_option maxHeartbeats 1000000 in
theorem takes16_any (k n d : Int) (nm : List UInt8) (w : World) : Calls Tryz.prog 26 #[.int .i64 16, .agg #[.int .i64 k, .int .i64 n, .int .i64 d, .string ⟨nm.toArray⟩]] w fun e w' => e = .returned (.bool (ownB 16 ⟨k, n, d, nm⟩)) ∧ Below w.heap.size w w' := by
  have ho : ownB 16 ⟨k, n, d, nm⟩ = (extB ⟨k, n, d, nm⟩ && upB ⟨k, n, d, nm⟩) := by rw [ownB_eq]; show (othB 1 ⟨k, n, d, nm⟩ || isB ⟨k, n, d, nm⟩ []) = _; rw [oth1, isB_nil, Bool.or_false]
  rw [ho]
  clear ho
  have HB := Lib.hid (below_oneP w (.cells #[.int .i64 k, .int .i64 n, .int .i64 d, .string ⟨nm.toArray⟩] 23))
  generalize hW : w.alloc (.cells #[.int .i64 k, .int .i64 n, .int .i64 d, .string ⟨nm.toArray⟩] 23) = W at *
  have hfx : W.heap[w.heap.size]? = some (.cells #[.int .i64 k, .int .i64 n, .int .i64 d, .string ⟨nm.toArray⟩] 23 (0, 0)) := by rw [← hW]; exact heap_alloc_new w _
  have hl := blk_ltP hfx
  have HX := Lib.hid hfx
  have d0 : W.cell? ⟨w.heap.size, 0, none⟩ = some (.int .i64 k) := cell_of hfx rfl
  have d1 : W.cell? ⟨w.heap.size, 1, none⟩ = some (.int .i64 n) := cell_of hfx rfl
  have d2 : W.cell? ⟨w.heap.size, 2, none⟩ = some (.int .i64 d) := cell_of hfx rfl
  have d3 : W.cell? ⟨w.heap.size, 3, none⟩ = some (.string ⟨nm.toArray⟩) := cell_of hfx rfl
  clear hfx
  have E := Lib.hid (extentUp_any k n d nm W)
  generalize (extB ⟨k, n, d, nm⟩ && upB ⟨k, n, d, nm⟩) = b1 at *
  go_enter Tryz.func26, Tryz.ntmps26
  go_wp2_with fail
  refine E.out.mono ?_
  rintro e w1 ⟨rfl, hb1⟩
  have HB1 := Lib.hid (HB.out.trans (hb1.mono HB.out.size))
  clear hb1
  go_wp2_with fail
  go_ret
  exact ⟨rfl, HB1.out⟩
set_option maxRecDepth 100000 in
set_option maxHeartbeats 1000000 in
theorem takes36_any (k n d : Int) (nm : List UInt8) (w : World) : Calls Tryz.prog 26 #[.int .i64 36, .agg #[.int .i64 k, .int .i64 n, .int .i64 d, .string ⟨nm.toArray⟩]] w fun e w' => e = .returned (.bool (ownB 36 ⟨k, n, d, nm⟩)) ∧ Below w.heap.size w w' := by
  have ho : ownB 36 ⟨k, n, d, nm⟩ = (extB ⟨k, n, d, nm⟩ && upB ⟨k, n, d, nm⟩) := by rw [ownB_eq]; show (othB 1 ⟨k, n, d, nm⟩ || isB ⟨k, n, d, nm⟩ []) = _; rw [oth1, isB_nil, Bool.or_false]
  rw [ho]
  clear ho
  have HB := Lib.hid (below_oneP w (.cells #[.int .i64 k, .int .i64 n, .int .i64 d, .string ⟨nm.toArray⟩] 23))
  generalize hW : w.alloc (.cells #[.int .i64 k, .int .i64 n, .int .i64 d, .string ⟨nm.toArray⟩] 23) = W at *
  have hfx : W.heap[w.heap.size]? = some (.cells #[.int .i64 k, .int .i64 n, .int .i64 d, .string ⟨nm.toArray⟩] 23 (0, 0)) := by rw [← hW]; exact heap_alloc_new w _
  have hl := blk_ltP hfx
  have HX := Lib.hid hfx
  have d0 : W.cell? ⟨w.heap.size, 0, none⟩ = some (.int .i64 k) := cell_of hfx rfl
  have d1 : W.cell? ⟨w.heap.size, 1, none⟩ = some (.int .i64 n) := cell_of hfx rfl
  have d2 : W.cell? ⟨w.heap.size, 2, none⟩ = some (.int .i64 d) := cell_of hfx rfl
  have d3 : W.cell? ⟨w.heap.size, 3, none⟩ = some (.string ⟨nm.toArray⟩) := cell_of hfx rfl
  clear hfx
  have E := Lib.hid (extentUp_any k n d nm W)
  generalize (extB ⟨k, n, d, nm⟩ && upB ⟨k, n, d, nm⟩) = b1 at *
  go_enter Tryz.func26, Tryz.ntmps26
  go_wp2_with fail
  refine E.out.mono ?_
  rintro e w1 ⟨rfl, hb1⟩
  have HB1 := Lib.hid (HB.out.trans (hb1.mono HB.out.size))
  clear hb1
  go_wp2_with fail
  go_ret
  exact ⟨rfl, HB1.out⟩
set_option maxRecDepth 100000 in
set_option maxHeartbeats 1000000 in
theorem takes24_any (k n d : Int) (nm : List UInt8) (w : World) : Calls Tryz.prog 26 #[.int .i64 24, .agg #[.int .i64 k, .int .i64 n, .int .i64 d, .string ⟨nm.toArray⟩]] w fun e w' => e = .returned (.bool (ownB 24 ⟨k, n, d, nm⟩)) ∧ Below w.heap.size w w' := by
  have ho : ownB 24 ⟨k, n, d, nm⟩ = (decide (k = 4) && upB ⟨k, n, d, nm⟩) := by rw [ownB_eq]; show (othB 4 ⟨k, n, d, nm⟩ || isB ⟨k, n, d, nm⟩ []) = _; rw [oth4, isB_nil, Bool.or_false]
  rw [ho]
  clear ho
  have HB := Lib.hid (below_oneP w (.cells #[.int .i64 k, .int .i64 n, .int .i64 d, .string ⟨nm.toArray⟩] 23))
  generalize hW : w.alloc (.cells #[.int .i64 k, .int .i64 n, .int .i64 d, .string ⟨nm.toArray⟩] 23) = W at *
  have hfx : W.heap[w.heap.size]? = some (.cells #[.int .i64 k, .int .i64 n, .int .i64 d, .string ⟨nm.toArray⟩] 23 (0, 0)) := by rw [← hW]; exact heap_alloc_new w _
  have hl := blk_ltP hfx
  have HX := Lib.hid hfx
  have d0 : W.cell? ⟨w.heap.size, 0, none⟩ = some (.int .i64 k) := cell_of hfx rfl
  have d1 : W.cell? ⟨w.heap.size, 1, none⟩ = some (.int .i64 n) := cell_of hfx rfl
  have d2 : W.cell? ⟨w.heap.size, 2, none⟩ = some (.int .i64 d) := cell_of hfx rfl
  have d3 : W.cell? ⟨w.heap.size, 3, none⟩ = some (.string ⟨nm.toArray⟩) := cell_of hfx rfl
  clear hfx
  have E := Lib.hid (numberUp_any k n d nm W)
  generalize (decide (k = 4) && upB ⟨k, n, d, nm⟩) = b1 at *
  go_enter Tryz.func26, Tryz.ntmps26
  go_wp2_with fail
  refine E.out.mono ?_
  rintro e w1 ⟨rfl, hb1⟩
  have HB1 := Lib.hid (HB.out.trans (hb1.mono HB.out.size))
  clear hb1
  go_wp2_with fail
  go_ret
  exact ⟨rfl, HB1.out⟩
set_option maxRecDepth 100000 in
set_option maxHeartbeats 1000000 in
theorem takes25_any (k n d : Int) (nm : List UInt8) (w : World) : Calls Tryz.prog 26 #[.int .i64 25, .agg #[.int .i64 k, .int .i64 n, .int .i64 d, .string ⟨nm.toArray⟩]] w fun e w' => e = .returned (.bool (ownB 25 ⟨k, n, d, nm⟩)) ∧ Below w.heap.size w w' := by
  have ho : ownB 25 ⟨k, n, d, nm⟩ = (decide (k = 4) && upB ⟨k, n, d, nm⟩) := by rw [ownB_eq]; show (othB 4 ⟨k, n, d, nm⟩ || isB ⟨k, n, d, nm⟩ []) = _; rw [oth4, isB_nil, Bool.or_false]
  rw [ho]
  clear ho
  have HB := Lib.hid (below_oneP w (.cells #[.int .i64 k, .int .i64 n, .int .i64 d, .string ⟨nm.toArray⟩] 23))
  generalize hW : w.alloc (.cells #[.int .i64 k, .int .i64 n, .int .i64 d, .string ⟨nm.toArray⟩] 23) = W at *
  have hfx : W.heap[w.heap.size]? = some (.cells #[.int .i64 k, .int .i64 n, .int .i64 d, .string ⟨nm.toArray⟩] 23 (0, 0)) := by rw [← hW]; exact heap_alloc_new w _
  have hl := blk_ltP hfx
  have HX := Lib.hid hfx
  have d0 : W.cell? ⟨w.heap.size, 0, none⟩ = some (.int .i64 k) := cell_of hfx rfl
  have d1 : W.cell? ⟨w.heap.size, 1, none⟩ = some (.int .i64 n) := cell_of hfx rfl
  have d2 : W.cell? ⟨w.heap.size, 2, none⟩ = some (.int .i64 d) := cell_of hfx rfl
  have d3 : W.cell? ⟨w.heap.size, 3, none⟩ = some (.string ⟨nm.toArray⟩) := cell_of hfx rfl
  clear hfx
  have E := Lib.hid (numberUp_any k n d nm W)
  generalize (decide (k = 4) && upB ⟨k, n, d, nm⟩) = b1 at *
  go_enter Tryz.func26, Tryz.ntmps26
  go_wp2_with fail
  refine E.out.mono ?_
  rintro e w1 ⟨rfl, hb1⟩
  have HB1 := Lib.hid (HB.out.trans (hb1.mono HB.out.size))
  clear hb1
  go_wp2_with fail
  go_ret
  exact ⟨rfl, HB1.out⟩
set_option maxRecDepth 100000 in
set_option maxHeartbeats 1000000 in
theorem takes21_any (k n d : Int) (nm : List UInt8) (w : World) : Calls Tryz.prog 26 #[.int .i64 21, .agg #[.int .i64 k, .int .i64 n, .int .i64 d, .string ⟨nm.toArray⟩]] w fun e w' => e = .returned (.bool (ownB 21 ⟨k, n, d, nm⟩)) ∧ Below w.heap.size w w' := by
  have ho : ownB 21 ⟨k, n, d, nm⟩ = (ratB ⟨k, n, d, nm⟩ || isB ⟨k, n, d, nm⟩ [[97, 117, 116, 111]]) := by rw [ownB_eq]; show (othB 6 ⟨k, n, d, nm⟩ || isB ⟨k, n, d, nm⟩ [[97, 117, 116, 111]]) = _; rw [oth6]
  rw [ho]
  clear ho
  have HB := Lib.hid (below_oneP w (.cells #[.int .i64 k, .int .i64 n, .int .i64 d, .string ⟨nm.toArray⟩] 23))
  generalize hW : w.alloc (.cells #[.int .i64 k, .int .i64 n, .int .i64 d, .string ⟨nm.toArray⟩] 23) = W at *
  have hfx : W.heap[w.heap.size]? = some (.cells #[.int .i64 k, .int .i64 n, .int .i64 d, .string ⟨nm.toArray⟩] 23 (0, 0)) := by rw [← hW]; exact heap_alloc_new w _
  have hl := blk_ltP hfx
  have HX := Lib.hid hfx
  have d0 : W.cell? ⟨w.heap.size, 0, none⟩ = some (.int .i64 k) := cell_of hfx rfl
  have d1 : W.cell? ⟨w.heap.size, 1, none⟩ = some (.int .i64 n) := cell_of hfx rfl
  have d2 : W.cell? ⟨w.heap.size, 2, none⟩ = some (.int .i64 d) := cell_of hfx rfl
  have d3 : W.cell? ⟨w.heap.size, 3, none⟩ = some (.string ⟨nm.toArray⟩) := cell_of hfx rfl
  clear hfx
  have E := Lib.hid (ratio_any k n d nm W)
  generalize (ratB ⟨k, n, d, nm⟩) = b1 at *
  have I := Lib.hid (fun (W1 : World) => is_any k n d nm W1.heap.size [[97, 117, 116, 111]] 1 1 (W1.alloc (.cells (txcs [[97, 117, 116, 111]]) 9)) rfl (by omega) (TxAt.made W1 [[97, 117, 116, 111]]) (by simp))
  generalize isB ⟨k, n, d, nm⟩ [[97, 117, 116, 111]] = b2 at *
  cases b1
  · go_enter Tryz.func26, Tryz.ntmps26
    go_wp2_with fail
    refine E.out.mono ?_
    rintro e w1 ⟨rfl, hb1⟩
    have HB1 := Lib.hid (HB.out.trans (hb1.mono HB.out.size))
    have HB2 := Lib.hid (HB1.out.alloc HB1.out.size (.cells (txcs [[97, 117, 116, 111]]) 9))
    have II := Lib.hid (I.out w1)
    have hx1 := (hb1.block _ hl).trans HX.out
    have d0 : w1.cell? ⟨w.heap.size, 0, none⟩ = some (.int .i64 k) := cell_of hx1 rfl
    have d1 : w1.cell? ⟨w.heap.size, 1, none⟩ = some (.int .i64 n) := cell_of hx1 rfl
    have d2 : w1.cell? ⟨w.heap.size, 2, none⟩ = some (.int .i64 d) := cell_of hx1 rfl
    have d3 : w1.cell? ⟨w.heap.size, 3, none⟩ = some (.string ⟨nm.toArray⟩) := cell_of hx1 rfl
    clear hb1 hx1
    go_wp2_with fail
    refine II.out.mono ?_
    rintro e w2 ⟨rfl, hb2⟩
    have HB3 := Lib.hid (HB2.out.trans (hb2.mono HB2.out.size))
    clear hb2
    go_wp2_with fail
    go_ret
    exact ⟨rfl, HB3.out⟩
  · go_enter Tryz.func26, Tryz.ntmps26
    go_wp2_with fail
    refine E.out.mono ?_
    rintro e w1 ⟨rfl, hb1⟩
    have HB1 := Lib.hid (HB.out.trans (hb1.mono HB.out.size))
    clear hb1
    go_wp2_with fail
    go_ret
    exact ⟨rfl, HB1.out⟩
set_option maxRecDepth 100000 in
set_option maxHeartbeats 1000000 in
theorem takes26_any (k n d : Int) (nm : List UInt8) (w : World) : Calls Tryz.prog 26 #[.int .i64 26, .agg #[.int .i64 k, .int .i64 n, .int .i64 d, .string ⟨nm.toArray⟩]] w fun e w' => e = .returned (.bool (ownB 26 ⟨k, n, d, nm⟩)) ∧ Below w.heap.size w w' := by
  have ho : ownB 26 ⟨k, n, d, nm⟩ = (extB ⟨k, n, d, nm⟩ && upB ⟨k, n, d, nm⟩ || isB ⟨k, n, d, nm⟩ [[97, 117, 116, 111], [99, 111, 110, 116, 101, 110, 116]]) := by rw [ownB_eq]; show (othB 1 ⟨k, n, d, nm⟩ || isB ⟨k, n, d, nm⟩ [[97, 117, 116, 111], [99, 111, 110, 116, 101, 110, 116]]) = _; rw [oth1]
  rw [ho]
  clear ho
  have HB := Lib.hid (below_oneP w (.cells #[.int .i64 k, .int .i64 n, .int .i64 d, .string ⟨nm.toArray⟩] 23))
  generalize hW : w.alloc (.cells #[.int .i64 k, .int .i64 n, .int .i64 d, .string ⟨nm.toArray⟩] 23) = W at *
  have hfx : W.heap[w.heap.size]? = some (.cells #[.int .i64 k, .int .i64 n, .int .i64 d, .string ⟨nm.toArray⟩] 23 (0, 0)) := by rw [← hW]; exact heap_alloc_new w _
  have hl := blk_ltP hfx
  have HX := Lib.hid hfx
  have d0 : W.cell? ⟨w.heap.size, 0, none⟩ = some (.int .i64 k) := cell_of hfx rfl
  have d1 : W.cell? ⟨w.heap.size, 1, none⟩ = some (.int .i64 n) := cell_of hfx rfl
  have d2 : W.cell? ⟨w.heap.size, 2, none⟩ = some (.int .i64 d) := cell_of hfx rfl
  have d3 : W.cell? ⟨w.heap.size, 3, none⟩ = some (.string ⟨nm.toArray⟩) := cell_of hfx rfl
  clear hfx
  have E := Lib.hid (extentUp_any k n d nm W)
  generalize (extB ⟨k, n, d, nm⟩ && upB ⟨k, n, d, nm⟩) = b1 at *
  have I := Lib.hid (fun (W1 : World) => is_any k n d nm W1.heap.size [[97, 117, 116, 111], [99, 111, 110, 116, 101, 110, 116]] 2 2 (W1.alloc (.cells (txcs [[97, 117, 116, 111], [99, 111, 110, 116, 101, 110, 116]]) 9)) rfl (by omega) (TxAt.made W1 [[97, 117, 116, 111], [99, 111, 110, 116, 101, 110, 116]]) (by simp))
  generalize isB ⟨k, n, d, nm⟩ [[97, 117, 116, 111], [99, 111, 110, 116, 101, 110, 116]] = b2 at *
  cases b1
  · go_enter Tryz.func26, Tryz.ntmps26
    go_wp2_with fail
    refine E.out.mono ?_
    rintro e w1 ⟨rfl, hb1⟩
    have HB1 := Lib.hid (HB.out.trans (hb1.mono HB.out.size))
    have HB2 := Lib.hid (HB1.out.alloc HB1.out.size (.cells (txcs [[97, 117, 116, 111], [99, 111, 110, 116, 101, 110, 116]]) 9))
    have II := Lib.hid (I.out w1)
    have hx1 := (hb1.block _ hl).trans HX.out
    have d0 : w1.cell? ⟨w.heap.size, 0, none⟩ = some (.int .i64 k) := cell_of hx1 rfl
    have d1 : w1.cell? ⟨w.heap.size, 1, none⟩ = some (.int .i64 n) := cell_of hx1 rfl
    have d2 : w1.cell? ⟨w.heap.size, 2, none⟩ = some (.int .i64 d) := cell_of hx1 rfl
    have d3 : w1.cell? ⟨w.heap.size, 3, none⟩ = some (.string ⟨nm.toArray⟩) := cell_of hx1 rfl
    clear hb1 hx1
    go_wp2_with fail
    refine II.out.mono ?_
    rintro e w2 ⟨rfl, hb2⟩
    have HB3 := Lib.hid (HB2.out.trans (hb2.mono HB2.out.size))
    clear hb2
    go_wp2_with fail
    go_ret
    exact ⟨rfl, HB3.out⟩
  · go_enter Tryz.func26, Tryz.ntmps26
    go_wp2_with fail
    refine E.out.mono ?_
    rintro e w1 ⟨rfl, hb1⟩
    have HB1 := Lib.hid (HB.out.trans (hb1.mono HB.out.size))
    clear hb1
    go_wp2_with fail
    go_ret
    exact ⟨rfl, HB1.out⟩
set_option maxRecDepth 100000 in
set_option maxHeartbeats 1000000 in
theorem takes32_any (k n d : Int) (nm : List UInt8) (w : World) : Calls Tryz.prog 26 #[.int .i64 32, .agg #[.int .i64 k, .int .i64 n, .int .i64 d, .string ⟨nm.toArray⟩]] w fun e w' => e = .returned (.bool (ownB 32 ⟨k, n, d, nm⟩)) ∧ Below w.heap.size w w' := by
  have ho : ownB 32 ⟨k, n, d, nm⟩ = (extB ⟨k, n, d, nm⟩ && upB ⟨k, n, d, nm⟩ || isB ⟨k, n, d, nm⟩ [[110, 111, 114, 109, 97, 108]]) := by rw [ownB_eq]; show (othB 1 ⟨k, n, d, nm⟩ || isB ⟨k, n, d, nm⟩ [[110, 111, 114, 109, 97, 108]]) = _; rw [oth1]
  rw [ho]
  clear ho
  have HB := Lib.hid (below_oneP w (.cells #[.int .i64 k, .int .i64 n, .int .i64 d, .string ⟨nm.toArray⟩] 23))
  generalize hW : w.alloc (.cells #[.int .i64 k, .int .i64 n, .int .i64 d, .string ⟨nm.toArray⟩] 23) = W at *
  have hfx : W.heap[w.heap.size]? = some (.cells #[.int .i64 k, .int .i64 n, .int .i64 d, .string ⟨nm.toArray⟩] 23 (0, 0)) := by rw [← hW]; exact heap_alloc_new w _
  have hl := blk_ltP hfx
  have HX := Lib.hid hfx
  have d0 : W.cell? ⟨w.heap.size, 0, none⟩ = some (.int .i64 k) := cell_of hfx rfl
  have d1 : W.cell? ⟨w.heap.size, 1, none⟩ = some (.int .i64 n) := cell_of hfx rfl
  have d2 : W.cell? ⟨w.heap.size, 2, none⟩ = some (.int .i64 d) := cell_of hfx rfl
  have d3 : W.cell? ⟨w.heap.size, 3, none⟩ = some (.string ⟨nm.toArray⟩) := cell_of hfx rfl
  clear hfx
  have E := Lib.hid (extentUp_any k n d nm W)
  generalize (extB ⟨k, n, d, nm⟩ && upB ⟨k, n, d, nm⟩) = b1 at *
  have I := Lib.hid (fun (W1 : World) => is_any k n d nm W1.heap.size [[110, 111, 114, 109, 97, 108]] 1 1 (W1.alloc (.cells (txcs [[110, 111, 114, 109, 97, 108]]) 9)) rfl (by omega) (TxAt.made W1 [[110, 111, 114, 109, 97, 108]]) (by simp))
  generalize isB ⟨k, n, d, nm⟩ [[110, 111, 114, 109, 97, 108]] = b2 at *
  cases b1
  · go_enter Tryz.func26, Tryz.ntmps26
    go_wp2_with fail
    refine E.out.mono ?_
    rintro e w1 ⟨rfl, hb1⟩
    have HB1 := Lib.hid (HB.out.trans (hb1.mono HB.out.size))
    have HB2 := Lib.hid (HB1.out.alloc HB1.out.size (.cells (txcs [[110, 111, 114, 109, 97, 108]]) 9))
    have II := Lib.hid (I.out w1)
    have hx1 := (hb1.block _ hl).trans HX.out
    have d0 : w1.cell? ⟨w.heap.size, 0, none⟩ = some (.int .i64 k) := cell_of hx1 rfl
    have d1 : w1.cell? ⟨w.heap.size, 1, none⟩ = some (.int .i64 n) := cell_of hx1 rfl
    have d2 : w1.cell? ⟨w.heap.size, 2, none⟩ = some (.int .i64 d) := cell_of hx1 rfl
    have d3 : w1.cell? ⟨w.heap.size, 3, none⟩ = some (.string ⟨nm.toArray⟩) := cell_of hx1 rfl
    clear hb1 hx1
    go_wp2_with fail
    refine II.out.mono ?_
    rintro e w2 ⟨rfl, hb2⟩
    have HB3 := Lib.hid (HB2.out.trans (hb2.mono HB2.out.size))
    clear hb2
    go_wp2_with fail
    go_ret
    exact ⟨rfl, HB3.out⟩
  · go_enter Tryz.func26, Tryz.ntmps26
    go_wp2_with fail
    refine E.out.mono ?_
    rintro e w1 ⟨rfl, hb1⟩
    have HB1 := Lib.hid (HB.out.trans (hb1.mono HB.out.size))
    clear hb1
    go_wp2_with fail
    go_ret
    exact ⟨rfl, HB1.out⟩
set_option maxRecDepth 100000 in
set_option maxHeartbeats 1000000 in
theorem takes33_any (k n d : Int) (nm : List UInt8) (w : World) : Calls Tryz.prog 26 #[.int .i64 33, .agg #[.int .i64 k, .int .i64 n, .int .i64 d, .string ⟨nm.toArray⟩]] w fun e w' => e = .returned (.bool (ownB 33 ⟨k, n, d, nm⟩)) ∧ Below w.heap.size w w' := by
  have ho : ownB 33 ⟨k, n, d, nm⟩ = (extB ⟨k, n, d, nm⟩ && upB ⟨k, n, d, nm⟩ || isB ⟨k, n, d, nm⟩ [[110, 111, 114, 109, 97, 108]]) := by rw [ownB_eq]; show (othB 1 ⟨k, n, d, nm⟩ || isB ⟨k, n, d, nm⟩ [[110, 111, 114, 109, 97, 108]]) = _; rw [oth1]
  rw [ho]
  clear ho
  have HB := Lib.hid (below_oneP w (.cells #[.int .i64 k, .int .i64 n, .int .i64 d, .string ⟨nm.toArray⟩] 23))
  generalize hW : w.alloc (.cells #[.int .i64 k, .int .i64 n, .int .i64 d, .string ⟨nm.toArray⟩] 23) = W at *
  have hfx : W.heap[w.heap.size]? = some (.cells #[.int .i64 k, .int .i64 n, .int .i64 d, .string ⟨nm.toArray⟩] 23 (0, 0)) := by rw [← hW]; exact heap_alloc_new w _
  have hl := blk_ltP hfx
  have HX := Lib.hid hfx
  have d0 : W.cell? ⟨w.heap.size, 0, none⟩ = some (.int .i64 k) := cell_of hfx rfl
  have d1 : W.cell? ⟨w.heap.size, 1, none⟩ = some (.int .i64 n) := cell_of hfx rfl
  have d2 : W.cell? ⟨w.heap.size, 2, none⟩ = some (.int .i64 d) := cell_of hfx rfl
  have d3 : W.cell? ⟨w.heap.size, 3, none⟩ = some (.string ⟨nm.toArray⟩) := cell_of hfx rfl
  clear hfx
  have E := Lib.hid (extentUp_any k n d nm W)
  generalize (extB ⟨k, n, d, nm⟩ && upB ⟨k, n, d, nm⟩) = b1 at *
  have I := Lib.hid (fun (W1 : World) => is_any k n d nm W1.heap.size [[110, 111, 114, 109, 97, 108]] 1 1 (W1.alloc (.cells (txcs [[110, 111, 114, 109, 97, 108]]) 9)) rfl (by omega) (TxAt.made W1 [[110, 111, 114, 109, 97, 108]]) (by simp))
  generalize isB ⟨k, n, d, nm⟩ [[110, 111, 114, 109, 97, 108]] = b2 at *
  cases b1
  · go_enter Tryz.func26, Tryz.ntmps26
    go_wp2_with fail
    refine E.out.mono ?_
    rintro e w1 ⟨rfl, hb1⟩
    have HB1 := Lib.hid (HB.out.trans (hb1.mono HB.out.size))
    have HB2 := Lib.hid (HB1.out.alloc HB1.out.size (.cells (txcs [[110, 111, 114, 109, 97, 108]]) 9))
    have II := Lib.hid (I.out w1)
    have hx1 := (hb1.block _ hl).trans HX.out
    have d0 : w1.cell? ⟨w.heap.size, 0, none⟩ = some (.int .i64 k) := cell_of hx1 rfl
    have d1 : w1.cell? ⟨w.heap.size, 1, none⟩ = some (.int .i64 n) := cell_of hx1 rfl
    have d2 : w1.cell? ⟨w.heap.size, 2, none⟩ = some (.int .i64 d) := cell_of hx1 rfl
    have d3 : w1.cell? ⟨w.heap.size, 3, none⟩ = some (.string ⟨nm.toArray⟩) := cell_of hx1 rfl
    clear hb1 hx1
    go_wp2_with fail
    refine II.out.mono ?_
    rintro e w2 ⟨rfl, hb2⟩
    have HB3 := Lib.hid (HB2.out.trans (hb2.mono HB2.out.size))
    clear hb2
    go_wp2_with fail
    go_ret
    exact ⟨rfl, HB3.out⟩
  · go_enter Tryz.func26, Tryz.ntmps26
    go_wp2_with fail
    refine E.out.mono ?_
    rintro e w1 ⟨rfl, hb1⟩
    have HB1 := Lib.hid (HB.out.trans (hb1.mono HB.out.size))
    clear hb1
    go_wp2_with fail
    go_ret
    exact ⟨rfl, HB1.out⟩
set_option maxRecDepth 100000 in
set_option maxHeartbeats 1000000 in
theorem takes37_any (k n d : Int) (nm : List UInt8) (w : World) : Calls Tryz.prog 26 #[.int .i64 37, .agg #[.int .i64 k, .int .i64 n, .int .i64 d, .string ⟨nm.toArray⟩]] w fun e w' => e = .returned (.bool (ownB 37 ⟨k, n, d, nm⟩)) ∧ Below w.heap.size w w' := by
  have ho : ownB 37 ⟨k, n, d, nm⟩ = (decide (k = 4) && upB ⟨k, n, d, nm⟩ || isB ⟨k, n, d, nm⟩ [[110, 111, 114, 109, 97, 108]]) := by rw [ownB_eq]; show (othB 4 ⟨k, n, d, nm⟩ || isB ⟨k, n, d, nm⟩ [[110, 111, 114, 109, 97, 108]]) = _; rw [oth4]
  rw [ho]
  clear ho
  have HB := Lib.hid (below_oneP w (.cells #[.int .i64 k, .int .i64 n, .int .i64 d, .string ⟨nm.toArray⟩] 23))
  generalize hW : w.alloc (.cells #[.int .i64 k, .int .i64 n, .int .i64 d, .string ⟨nm.toArray⟩] 23) = W at *
  have hfx : W.heap[w.heap.size]? = some (.cells #[.int .i64 k, .int .i64 n, .int .i64 d, .string ⟨nm.toArray⟩] 23 (0, 0)) := by rw [← hW]; exact heap_alloc_new w _
  have hl := blk_ltP hfx
  have HX := Lib.hid hfx
  have d0 : W.cell? ⟨w.heap.size, 0, none⟩ = some (.int .i64 k) := cell_of hfx rfl
  have d1 : W.cell? ⟨w.heap.size, 1, none⟩ = some (.int .i64 n) := cell_of hfx rfl
  have d2 : W.cell? ⟨w.heap.size, 2, none⟩ = some (.int .i64 d) := cell_of hfx rfl
  have d3 : W.cell? ⟨w.heap.size, 3, none⟩ = some (.string ⟨nm.toArray⟩) := cell_of hfx rfl
  clear hfx
  have E := Lib.hid (numberUp_any k n d nm W)
  generalize (decide (k = 4) && upB ⟨k, n, d, nm⟩) = b1 at *
  have I := Lib.hid (fun (W1 : World) => is_any k n d nm W1.heap.size [[110, 111, 114, 109, 97, 108]] 1 1 (W1.alloc (.cells (txcs [[110, 111, 114, 109, 97, 108]]) 9)) rfl (by omega) (TxAt.made W1 [[110, 111, 114, 109, 97, 108]]) (by simp))
  generalize isB ⟨k, n, d, nm⟩ [[110, 111, 114, 109, 97, 108]] = b2 at *
  cases b1
  · go_enter Tryz.func26, Tryz.ntmps26
    go_wp2_with fail
    refine E.out.mono ?_
    rintro e w1 ⟨rfl, hb1⟩
    have HB1 := Lib.hid (HB.out.trans (hb1.mono HB.out.size))
    have HB2 := Lib.hid (HB1.out.alloc HB1.out.size (.cells (txcs [[110, 111, 114, 109, 97, 108]]) 9))
    have II := Lib.hid (I.out w1)
    have hx1 := (hb1.block _ hl).trans HX.out
    have d0 : w1.cell? ⟨w.heap.size, 0, none⟩ = some (.int .i64 k) := cell_of hx1 rfl
    have d1 : w1.cell? ⟨w.heap.size, 1, none⟩ = some (.int .i64 n) := cell_of hx1 rfl
    have d2 : w1.cell? ⟨w.heap.size, 2, none⟩ = some (.int .i64 d) := cell_of hx1 rfl
    have d3 : w1.cell? ⟨w.heap.size, 3, none⟩ = some (.string ⟨nm.toArray⟩) := cell_of hx1 rfl
    clear hb1 hx1
    go_wp2_with fail
    refine II.out.mono ?_
    rintro e w2 ⟨rfl, hb2⟩
    have HB3 := Lib.hid (HB2.out.trans (hb2.mono HB2.out.size))
    clear hb2
    go_wp2_with fail
    go_ret
    exact ⟨rfl, HB3.out⟩
  · go_enter Tryz.func26, Tryz.ntmps26
    go_wp2_with fail
    refine E.out.mono ?_
    rintro e w1 ⟨rfl, hb1⟩
    have HB1 := Lib.hid (HB.out.trans (hb1.mono HB.out.size))
    clear hb1
    go_wp2_with fail
    go_ret
    exact ⟨rfl, HB1.out⟩
set_option maxRecDepth 100000 in
set_option maxHeartbeats 1000000 in
theorem takes22_any (k n d : Int) (nm : List UInt8) (w : World) : Calls Tryz.prog 26 #[.int .i64 22, .agg #[.int .i64 k, .int .i64 n, .int .i64 d, .string ⟨nm.toArray⟩]] w fun e w' => e = .returned (.bool (ownB 22 ⟨k, n, d, nm⟩)) ∧ Below w.heap.size w w' := by
  have ho : ownB 22 ⟨k, n, d, nm⟩ = (isB ⟨k, n, d, nm⟩ [[114, 111, 119], [114, 111, 119, 45, 114, 101, 118, 101, 114, 115, 101], [99, 111, 108, 117, 109, 110], [99, 111, 108, 117, 109, 110, 45, 114, 101, 118, 101, 114, 115, 101]]) := by rw [ownB_eq]; rfl
  rw [ho]
  clear ho
  have HB := Lib.hid (below_oneP w (.cells #[.int .i64 k, .int .i64 n, .int .i64 d, .string ⟨nm.toArray⟩] 23))
  generalize hW : w.alloc (.cells #[.int .i64 k, .int .i64 n, .int .i64 d, .string ⟨nm.toArray⟩] 23) = W at *
  have hfx : W.heap[w.heap.size]? = some (.cells #[.int .i64 k, .int .i64 n, .int .i64 d, .string ⟨nm.toArray⟩] 23 (0, 0)) := by rw [← hW]; exact heap_alloc_new w _
  have hl := blk_ltP hfx
  have HX := Lib.hid hfx
  have d0 : W.cell? ⟨w.heap.size, 0, none⟩ = some (.int .i64 k) := cell_of hfx rfl
  have d1 : W.cell? ⟨w.heap.size, 1, none⟩ = some (.int .i64 n) := cell_of hfx rfl
  have d2 : W.cell? ⟨w.heap.size, 2, none⟩ = some (.int .i64 d) := cell_of hfx rfl
  have d3 : W.cell? ⟨w.heap.size, 3, none⟩ = some (.string ⟨nm.toArray⟩) := cell_of hfx rfl
  clear hfx
  have E := Lib.hid (placed22_any k n d nm W)
  generalize (isB ⟨k, n, d, nm⟩ [[114, 111, 119], [114, 111, 119, 45, 114, 101, 118, 101, 114, 115, 101], [99, 111, 108, 117, 109, 110], [99, 111, 108, 117, 109, 110, 45, 114, 101, 118, 101, 114, 115, 101]]) = b1 at *
  go_enter Tryz.func26, Tryz.ntmps26
  go_wp2_with fail
  refine E.out.mono ?_
  rintro e w1 ⟨rfl, hb1⟩
  have HB1 := Lib.hid (HB.out.trans (hb1.mono HB.out.size))
  clear hb1
  go_wp2_with fail
  go_ret
  exact ⟨rfl, HB1.out⟩
set_option maxRecDepth 100000 in
set_option maxHeartbeats 1000000 in
theorem takes23_any (k n d : Int) (nm : List UInt8) (w : World) : Calls Tryz.prog 26 #[.int .i64 23, .agg #[.int .i64 k, .int .i64 n, .int .i64 d, .string ⟨nm.toArray⟩]] w fun e w' => e = .returned (.bool (ownB 23 ⟨k, n, d, nm⟩)) ∧ Below w.heap.size w w' := by
  have ho : ownB 23 ⟨k, n, d, nm⟩ = (isB ⟨k, n, d, nm⟩ [[110, 111, 119, 114, 97, 112], [119, 114, 97, 112], [119, 114, 97, 112, 45, 114, 101, 118, 101, 114, 115, 101]]) := by rw [ownB_eq]; rfl
  rw [ho]
  clear ho
  have HB := Lib.hid (below_oneP w (.cells #[.int .i64 k, .int .i64 n, .int .i64 d, .string ⟨nm.toArray⟩] 23))
  generalize hW : w.alloc (.cells #[.int .i64 k, .int .i64 n, .int .i64 d, .string ⟨nm.toArray⟩] 23) = W at *
  have hfx : W.heap[w.heap.size]? = some (.cells #[.int .i64 k, .int .i64 n, .int .i64 d, .string ⟨nm.toArray⟩] 23 (0, 0)) := by rw [← hW]; exact heap_alloc_new w _
  have hl := blk_ltP hfx
  have HX := Lib.hid hfx
  have d0 : W.cell? ⟨w.heap.size, 0, none⟩ = some (.int .i64 k) := cell_of hfx rfl
  have d1 : W.cell? ⟨w.heap.size, 1, none⟩ = some (.int .i64 n) := cell_of hfx rfl
  have d2 : W.cell? ⟨w.heap.size, 2, none⟩ = some (.int .i64 d) := cell_of hfx rfl
  have d3 : W.cell? ⟨w.heap.size, 3, none⟩ = some (.string ⟨nm.toArray⟩) := cell_of hfx rfl
  clear hfx
  have E := Lib.hid (placed23_any k n d nm W)
  generalize (isB ⟨k, n, d, nm⟩ [[110, 111, 119, 114, 97, 112], [119, 114, 97, 112], [119, 114, 97, 112, 45, 114, 101, 118, 101, 114, 115, 101]]) = b1 at *
  go_enter Tryz.func26, Tryz.ntmps26
  go_wp2_with fail
  refine E.out.mono ?_
  rintro e w1 ⟨rfl, hb1⟩
  have HB1 := Lib.hid (HB.out.trans (hb1.mono HB.out.size))
  clear hb1
  go_wp2_with fail
  go_ret
  exact ⟨rfl, HB1.out⟩
set_option maxRecDepth 100000 in
set_option maxHeartbeats 1000000 in
theorem takes28_any (k n d : Int) (nm : List UInt8) (w : World) : Calls Tryz.prog 26 #[.int .i64 28, .agg #[.int .i64 k, .int .i64 n, .int .i64 d, .string ⟨nm.toArray⟩]] w fun e w' => e = .returned (.bool (ownB 28 ⟨k, n, d, nm⟩)) ∧ Below w.heap.size w w' := by
  have ho : ownB 28 ⟨k, n, d, nm⟩ = (isB ⟨k, n, d, nm⟩ [[115, 116, 97, 114, 116], [101, 110, 100], [99, 101, 110, 116, 101, 114], [115, 112, 97, 99, 101, 45, 98, 101, 116, 119, 101, 101, 110], [115, 112, 97, 99, 101, 45, 97, 114, 111, 117, 110, 100], [115, 112, 97, 99, 101, 45, 101, 118, 101, 110, 108, 121]]) := by rw [ownB_eq]; rfl
  rw [ho]
  clear ho
  have HB := Lib.hid (below_oneP w (.cells #[.int .i64 k, .int .i64 n, .int .i64 d, .string ⟨nm.toArray⟩] 23))
  generalize hW : w.alloc (.cells #[.int .i64 k, .int .i64 n, .int .i64 d, .string ⟨nm.toArray⟩] 23) = W at *
  have hfx : W.heap[w.heap.size]? = some (.cells #[.int .i64 k, .int .i64 n, .int .i64 d, .string ⟨nm.toArray⟩] 23 (0, 0)) := by rw [← hW]; exact heap_alloc_new w _
  have hl := blk_ltP hfx
  have HX := Lib.hid hfx
  have d0 : W.cell? ⟨w.heap.size, 0, none⟩ = some (.int .i64 k) := cell_of hfx rfl
  have d1 : W.cell? ⟨w.heap.size, 1, none⟩ = some (.int .i64 n) := cell_of hfx rfl
  have d2 : W.cell? ⟨w.heap.size, 2, none⟩ = some (.int .i64 d) := cell_of hfx rfl
  have d3 : W.cell? ⟨w.heap.size, 3, none⟩ = some (.string ⟨nm.toArray⟩) := cell_of hfx rfl
  clear hfx
  have E := Lib.hid (placed28_any k n d nm W)
  generalize (isB ⟨k, n, d, nm⟩ [[115, 116, 97, 114, 116], [101, 110, 100], [99, 101, 110, 116, 101, 114], [115, 112, 97, 99, 101, 45, 98, 101, 116, 119, 101, 101, 110], [115, 112, 97, 99, 101, 45, 97, 114, 111, 117, 110, 100], [115, 112, 97, 99, 101, 45, 101, 118, 101, 110, 108, 121]]) = b1 at *
  go_enter Tryz.func26, Tryz.ntmps26
  go_wp2_with fail
  refine E.out.mono ?_
  rintro e w1 ⟨rfl, hb1⟩
  have HB1 := Lib.hid (HB.out.trans (hb1.mono HB.out.size))
  clear hb1
  go_wp2_with fail
  go_ret
  exact ⟨rfl, HB1.out⟩
set_option maxRecDepth 100000 in
set_option maxHeartbeats 1000000 in
theorem takes29_any (k n d : Int) (nm : List UInt8) (w : World) : Calls Tryz.prog 26 #[.int .i64 29, .agg #[.int .i64 k, .int .i64 n, .int .i64 d, .string ⟨nm.toArray⟩]] w fun e w' => e = .returned (.bool (ownB 29 ⟨k, n, d, nm⟩)) ∧ Below w.heap.size w w' := by
  have ho : ownB 29 ⟨k, n, d, nm⟩ = (isB ⟨k, n, d, nm⟩ [[115, 116, 114, 101, 116, 99, 104], [115, 116, 97, 114, 116], [101, 110, 100], [99, 101, 110, 116, 101, 114]]) := by rw [ownB_eq]; rfl
  rw [ho]
  clear ho
  have HB := Lib.hid (below_oneP w (.cells #[.int .i64 k, .int .i64 n, .int .i64 d, .string ⟨nm.toArray⟩] 23))
  generalize hW : w.alloc (.cells #[.int .i64 k, .int .i64 n, .int .i64 d, .string ⟨nm.toArray⟩] 23) = W at *
  have hfx : W.heap[w.heap.size]? = some (.cells #[.int .i64 k, .int .i64 n, .int .i64 d, .string ⟨nm.toArray⟩] 23 (0, 0)) := by rw [← hW]; exact heap_alloc_new w _
  have hl := blk_ltP hfx
  have HX := Lib.hid hfx
  have d0 : W.cell? ⟨w.heap.size, 0, none⟩ = some (.int .i64 k) := cell_of hfx rfl
  have d1 : W.cell? ⟨w.heap.size, 1, none⟩ = some (.int .i64 n) := cell_of hfx rfl
  have d2 : W.cell? ⟨w.heap.size, 2, none⟩ = some (.int .i64 d) := cell_of hfx rfl
  have d3 : W.cell? ⟨w.heap.size, 3, none⟩ = some (.string ⟨nm.toArray⟩) := cell_of hfx rfl
  clear hfx
  have E := Lib.hid (placed29_any k n d nm W)
  generalize (isB ⟨k, n, d, nm⟩ [[115, 116, 114, 101, 116, 99, 104], [115, 116, 97, 114, 116], [101, 110, 100], [99, 101, 110, 116, 101, 114]]) = b1 at *
  go_enter Tryz.func26, Tryz.ntmps26
  go_wp2_with fail
  refine E.out.mono ?_
  rintro e w1 ⟨rfl, hb1⟩
  have HB1 := Lib.hid (HB.out.trans (hb1.mono HB.out.size))
  clear hb1
  go_wp2_with fail
  go_ret
  exact ⟨rfl, HB1.out⟩
set_option maxRecDepth 100000 in
set_option maxHeartbeats 1000000 in
theorem takes30_any (k n d : Int) (nm : List UInt8) (w : World) : Calls Tryz.prog 26 #[.int .i64 30, .agg #[.int .i64 k, .int .i64 n, .int .i64 d, .string ⟨nm.toArray⟩]] w fun e w' => e = .returned (.bool (ownB 30 ⟨k, n, d, nm⟩)) ∧ Below w.heap.size w w' := by
  have ho : ownB 30 ⟨k, n, d, nm⟩ = (isB ⟨k, n, d, nm⟩ [[97, 117, 116, 111], [115, 116, 114, 101, 116, 99, 104], [115, 116, 97, 114, 116], [101, 110, 100], [99, 101, 110, 116, 101, 114]]) := by rw [ownB_eq]; rfl
  rw [ho]
  clear ho
  have HB := Lib.hid (below_oneP w (.cells #[.int .i64 k, .int .i64 n, .int .i64 d, .string ⟨nm.toArray⟩] 23))
  generalize hW : w.alloc (.cells #[.int .i64 k, .int .i64 n, .int .i64 d, .string ⟨nm.toArray⟩] 23) = W at *
  have hfx : W.heap[w.heap.size]? = some (.cells #[.int .i64 k, .int .i64 n, .int .i64 d, .string ⟨nm.toArray⟩] 23 (0, 0)) := by rw [← hW]; exact heap_alloc_new w _
  have hl := blk_ltP hfx
  have HX := Lib.hid hfx
  have d0 : W.cell? ⟨w.heap.size, 0, none⟩ = some (.int .i64 k) := cell_of hfx rfl
  have d1 : W.cell? ⟨w.heap.size, 1, none⟩ = some (.int .i64 n) := cell_of hfx rfl
  have d2 : W.cell? ⟨w.heap.size, 2, none⟩ = some (.int .i64 d) := cell_of hfx rfl
  have d3 : W.cell? ⟨w.heap.size, 3, none⟩ = some (.string ⟨nm.toArray⟩) := cell_of hfx rfl
  clear hfx
  have E := Lib.hid (placed30_any k n d nm W)
  generalize (isB ⟨k, n, d, nm⟩ [[97, 117, 116, 111], [115, 116, 114, 101, 116, 99, 104], [115, 116, 97, 114, 116], [101, 110, 100], [99, 101, 110, 116, 101, 114]]) = b1 at *
  go_enter Tryz.func26, Tryz.ntmps26
  go_wp2_with fail
  refine E.out.mono ?_
  rintro e w1 ⟨rfl, hb1⟩
  have HB1 := Lib.hid (HB.out.trans (hb1.mono HB.out.size))
  clear hb1
  go_wp2_with fail
  go_ret
  exact ⟨rfl, HB1.out⟩
set_option maxRecDepth 100000 in
set_option maxHeartbeats 1000000 in
theorem takes31_any (k n d : Int) (nm : List UInt8) (w : World) : Calls Tryz.prog 26 #[.int .i64 31, .agg #[.int .i64 k, .int .i64 n, .int .i64 d, .string ⟨nm.toArray⟩]] w fun e w' => e = .returned (.bool (ownB 31 ⟨k, n, d, nm⟩)) ∧ Below w.heap.size w w' := by
  have ho : ownB 31 ⟨k, n, d, nm⟩ = (isB ⟨k, n, d, nm⟩ [[115, 116, 114, 101, 116, 99, 104], [115, 116, 97, 114, 116], [101, 110, 100], [99, 101, 110, 116, 101, 114], [115, 112, 97, 99, 101, 45, 98, 101, 116, 119, 101, 101, 110], [115, 112, 97, 99, 101, 45, 97, 114, 111, 117, 110, 100], [115, 112, 97, 99, 101, 45, 101, 118, 101, 110, 108, 121]]) := by rw [ownB_eq]; rfl
  rw [ho]
  clear ho
  have HB := Lib.hid (below_oneP w (.cells #[.int .i64 k, .int .i64 n, .int .i64 d, .string ⟨nm.toArray⟩] 23))
  generalize hW : w.alloc (.cells #[.int .i64 k, .int .i64 n, .int .i64 d, .string ⟨nm.toArray⟩] 23) = W at *
  have hfx : W.heap[w.heap.size]? = some (.cells #[.int .i64 k, .int .i64 n, .int .i64 d, .string ⟨nm.toArray⟩] 23 (0, 0)) := by rw [← hW]; exact heap_alloc_new w _
  have hl := blk_ltP hfx
  have HX := Lib.hid hfx
  have d0 : W.cell? ⟨w.heap.size, 0, none⟩ = some (.int .i64 k) := cell_of hfx rfl
  have d1 : W.cell? ⟨w.heap.size, 1, none⟩ = some (.int .i64 n) := cell_of hfx rfl
  have d2 : W.cell? ⟨w.heap.size, 2, none⟩ = some (.int .i64 d) := cell_of hfx rfl
  have d3 : W.cell? ⟨w.heap.size, 3, none⟩ = some (.string ⟨nm.toArray⟩) := cell_of hfx rfl
  clear hfx
  have E := Lib.hid (placed31_any k n d nm W)
  generalize (isB ⟨k, n, d, nm⟩ [[115, 116, 114, 101, 116, 99, 104], [115, 116, 97, 114, 116], [101, 110, 100], [99, 101, 110, 116, 101, 114], [115, 112, 97, 99, 101, 45, 98, 101, 116, 119, 101, 101, 110], [115, 112, 97, 99, 101, 45, 97, 114, 111, 117, 110, 100], [115, 112, 97, 99, 101, 45, 101, 118, 101, 110, 108, 121]]) = b1 at *
  go_enter Tryz.func26, Tryz.ntmps26
  go_wp2_with fail
  refine E.out.mono ?_
  rintro e w1 ⟨rfl, hb1⟩
  have HB1 := Lib.hid (HB.out.trans (hb1.mono HB.out.size))
  clear hb1
  go_wp2_with fail
  go_ret
  exact ⟨rfl, HB1.out⟩
set_option maxRecDepth 100000 in
set_option maxHeartbeats 1000000 in
theorem takes34_any (k n d : Int) (nm : List UInt8) (w : World) : Calls Tryz.prog 26 #[.int .i64 34, .agg #[.int .i64 k, .int .i64 n, .int .i64 d, .string ⟨nm.toArray⟩]] w fun e w' => e = .returned (.bool (ownB 34 ⟨k, n, d, nm⟩)) ∧ Below w.heap.size w w' := by
  have ho : ownB 34 ⟨k, n, d, nm⟩ = (isB ⟨k, n, d, nm⟩ [[110, 111, 114, 109, 97, 108], [105, 110, 108, 105, 110, 101, 45, 115, 105, 122, 101], [115, 105, 122, 101]]) := by rw [ownB_eq]; rfl
  rw [ho]
  clear ho
  have HB := Lib.hid (below_oneP w (.cells #[.int .i64 k, .int .i64 n, .int .i64 d, .string ⟨nm.toArray⟩] 23))
  generalize hW : w.alloc (.cells #[.int .i64 k, .int .i64 n, .int .i64 d, .string ⟨nm.toArray⟩] 23) = W at *
  have hfx : W.heap[w.heap.size]? = some (.cells #[.int .i64 k, .int .i64 n, .int .i64 d, .string ⟨nm.toArray⟩] 23 (0, 0)) := by rw [← hW]; exact heap_alloc_new w _
  have hl := blk_ltP hfx
  have HX := Lib.hid hfx
  have d0 : W.cell? ⟨w.heap.size, 0, none⟩ = some (.int .i64 k) := cell_of hfx rfl
  have d1 : W.cell? ⟨w.heap.size, 1, none⟩ = some (.int .i64 n) := cell_of hfx rfl
  have d2 : W.cell? ⟨w.heap.size, 2, none⟩ = some (.int .i64 d) := cell_of hfx rfl
  have d3 : W.cell? ⟨w.heap.size, 3, none⟩ = some (.string ⟨nm.toArray⟩) := cell_of hfx rfl
  clear hfx
  have E := Lib.hid (placed34_any k n d nm W)
  generalize (isB ⟨k, n, d, nm⟩ [[110, 111, 114, 109, 97, 108], [105, 110, 108, 105, 110, 101, 45, 115, 105, 122, 101], [115, 105, 122, 101]]) = b1 at *
  go_enter Tryz.func26, Tryz.ntmps26
  go_wp2_with fail
  refine E.out.mono ?_
  rintro e w1 ⟨rfl, hb1⟩
  have HB1 := Lib.hid (HB.out.trans (hb1.mono HB.out.size))
  clear hb1
  go_wp2_with fail
  go_ret
  exact ⟨rfl, HB1.out⟩
end Go.Proofs.YtghnbfppfbenmaaGreat

namespace Go.Proofs.YtghnbfppfbenmaaGreat
open Go.RowKit TreN LexP FixP SynP ValP PropP FixM
set_option linter.unusedVariables false

set_option maxRecDepth 100000 in
set_option maxHeartbeats 1000000 in
theorem takes17_any (k n d : Int) (nm : List UInt8) (w : World) : Calls Tryz.prog 26 #[.int .i64 17, .agg #[.int .i64 k, .int .i64 n, .int .i64 d, .string ⟨nm.toArray⟩]] w fun e w' => e = .returned (.bool (ownB 17 ⟨k, n, d, nm⟩)) ∧ Below w.heap.size w w' := by
  have ho : ownB 17 ⟨k, n, d, nm⟩ = (decide (k = 2) && upB ⟨k, n, d, nm⟩) := by rw [ownB_eq]; show (othB 3 ⟨k, n, d, nm⟩ || isB ⟨k, n, d, nm⟩ []) = _; rw [oth3, isB_nil, Bool.or_false]
  rw [ho]
  clear ho
  have HB := Lib.hid (below_oneP w (.cells #[.int .i64 k, .int .i64 n, .int .i64 d, .string ⟨nm.toArray⟩] 23))
  generalize hW : w.alloc (.cells #[.int .i64 k, .int .i64 n, .int .i64 d, .string ⟨nm.toArray⟩] 23) = W at *
  have hfx : W.heap[w.heap.size]? = some (.cells #[.int .i64 k, .int .i64 n, .int .i64 d, .string ⟨nm.toArray⟩] 23 (0, 0)) := by rw [← hW]; exact heap_alloc_new w _
  have hl := blk_ltP hfx
  have HX := Lib.hid hfx
  have d0 : W.cell? ⟨w.heap.size, 0, none⟩ = some (.int .i64 k) := cell_of hfx rfl
  have d1 : W.cell? ⟨w.heap.size, 1, none⟩ = some (.int .i64 n) := cell_of hfx rfl
  have d2 : W.cell? ⟨w.heap.size, 2, none⟩ = some (.int .i64 d) := cell_of hfx rfl
  have d3 : W.cell? ⟨w.heap.size, 3, none⟩ = some (.string ⟨nm.toArray⟩) := cell_of hfx rfl
  clear hfx
  have E := Lib.hid (up_any k n d nm W)
  generalize upB ⟨k, n, d, nm⟩ = b1 at *
  by_cases h : k = 2
  · subst h
    go_enter Tryz.func26, Tryz.ntmps26
    go_wp2_with fail
    refine E.out.mono ?_
    rintro e w1 ⟨rfl, hb1⟩
    have HB1 := Lib.hid (HB.out.trans (hb1.mono HB.out.size))
    clear hb1
    go_wp2_with fail
    go_ret
    exact ⟨ret_bool (by simp), HB1.out⟩
  · have z2 : (k == 2) = false := by rw [beq_eq_false_iff_ne]; exact h
    have HF : Hid (false = (decide (k = 2) && b1)) := Lib.hid (by rw [decide_eq_false h]; rfl)
    clear h E
    go_enter Tryz.func26, Tryz.ntmps26
    go_wp2_with fail
    go_ret
    exact ⟨ret_bool HF.out, HB.out⟩
set_option maxRecDepth 100000 in
set_option maxHeartbeats 1000000 in
theorem takes18_any (k n d : Int) (nm : List UInt8) (w : World) : Calls Tryz.prog 26 #[.int .i64 18, .agg #[.int .i64 k, .int .i64 n, .int .i64 d, .string ⟨nm.toArray⟩]] w fun e w' => e = .returned (.bool (ownB 18 ⟨k, n, d, nm⟩)) ∧ Below w.heap.size w w' := by
  have ho : ownB 18 ⟨k, n, d, nm⟩ = (decide (k = 2) && upB ⟨k, n, d, nm⟩) := by rw [ownB_eq]; show (othB 3 ⟨k, n, d, nm⟩ || isB ⟨k, n, d, nm⟩ []) = _; rw [oth3, isB_nil, Bool.or_false]
  rw [ho]
  clear ho
  have HB := Lib.hid (below_oneP w (.cells #[.int .i64 k, .int .i64 n, .int .i64 d, .string ⟨nm.toArray⟩] 23))
  generalize hW : w.alloc (.cells #[.int .i64 k, .int .i64 n, .int .i64 d, .string ⟨nm.toArray⟩] 23) = W at *
  have hfx : W.heap[w.heap.size]? = some (.cells #[.int .i64 k, .int .i64 n, .int .i64 d, .string ⟨nm.toArray⟩] 23 (0, 0)) := by rw [← hW]; exact heap_alloc_new w _
  have hl := blk_ltP hfx
  have HX := Lib.hid hfx
  have d0 : W.cell? ⟨w.heap.size, 0, none⟩ = some (.int .i64 k) := cell_of hfx rfl
  have d1 : W.cell? ⟨w.heap.size, 1, none⟩ = some (.int .i64 n) := cell_of hfx rfl
  have d2 : W.cell? ⟨w.heap.size, 2, none⟩ = some (.int .i64 d) := cell_of hfx rfl
  have d3 : W.cell? ⟨w.heap.size, 3, none⟩ = some (.string ⟨nm.toArray⟩) := cell_of hfx rfl
  clear hfx
  have E := Lib.hid (up_any k n d nm W)
  generalize upB ⟨k, n, d, nm⟩ = b1 at *
  by_cases h : k = 2
  · subst h
    go_enter Tryz.func26, Tryz.ntmps26
    go_wp2_with fail
    refine E.out.mono ?_
    rintro e w1 ⟨rfl, hb1⟩
    have HB1 := Lib.hid (HB.out.trans (hb1.mono HB.out.size))
    clear hb1
    go_wp2_with fail
    go_ret
    exact ⟨ret_bool (by simp), HB1.out⟩
  · have z2 : (k == 2) = false := by rw [beq_eq_false_iff_ne]; exact h
    have HF : Hid (false = (decide (k = 2) && b1)) := Lib.hid (by rw [decide_eq_false h]; rfl)
    clear h E
    go_enter Tryz.func26, Tryz.ntmps26
    go_wp2_with fail
    go_ret
    exact ⟨ret_bool HF.out, HB.out⟩
set_option maxRecDepth 100000 in
set_option maxHeartbeats 1000000 in
theorem takes19_any (k n d : Int) (nm : List UInt8) (w : World) : Calls Tryz.prog 26 #[.int .i64 19, .agg #[.int .i64 k, .int .i64 n, .int .i64 d, .string ⟨nm.toArray⟩]] w fun e w' => e = .returned (.bool (ownB 19 ⟨k, n, d, nm⟩)) ∧ Below w.heap.size w w' := by
  have ho : ownB 19 ⟨k, n, d, nm⟩ = (decide (k = 2) && upB ⟨k, n, d, nm⟩) := by rw [ownB_eq]; show (othB 3 ⟨k, n, d, nm⟩ || isB ⟨k, n, d, nm⟩ []) = _; rw [oth3, isB_nil, Bool.or_false]
  rw [ho]
  clear ho
  have HB := Lib.hid (below_oneP w (.cells #[.int .i64 k, .int .i64 n, .int .i64 d, .string ⟨nm.toArray⟩] 23))
  generalize hW : w.alloc (.cells #[.int .i64 k, .int .i64 n, .int .i64 d, .string ⟨nm.toArray⟩] 23) = W at *
  have hfx : W.heap[w.heap.size]? = some (.cells #[.int .i64 k, .int .i64 n, .int .i64 d, .string ⟨nm.toArray⟩] 23 (0, 0)) := by rw [← hW]; exact heap_alloc_new w _
  have hl := blk_ltP hfx
  have HX := Lib.hid hfx
  have d0 : W.cell? ⟨w.heap.size, 0, none⟩ = some (.int .i64 k) := cell_of hfx rfl
  have d1 : W.cell? ⟨w.heap.size, 1, none⟩ = some (.int .i64 n) := cell_of hfx rfl
  have d2 : W.cell? ⟨w.heap.size, 2, none⟩ = some (.int .i64 d) := cell_of hfx rfl
  have d3 : W.cell? ⟨w.heap.size, 3, none⟩ = some (.string ⟨nm.toArray⟩) := cell_of hfx rfl
  clear hfx
  have E := Lib.hid (up_any k n d nm W)
  generalize upB ⟨k, n, d, nm⟩ = b1 at *
  by_cases h : k = 2
  · subst h
    go_enter Tryz.func26, Tryz.ntmps26
    go_wp2_with fail
    refine E.out.mono ?_
    rintro e w1 ⟨rfl, hb1⟩
    have HB1 := Lib.hid (HB.out.trans (hb1.mono HB.out.size))
    clear hb1
    go_wp2_with fail
    go_ret
    exact ⟨ret_bool (by simp), HB1.out⟩
  · have z2 : (k == 2) = false := by rw [beq_eq_false_iff_ne]; exact h
    have HF : Hid (false = (decide (k = 2) && b1)) := Lib.hid (by rw [decide_eq_false h]; rfl)
    clear h E
    go_enter Tryz.func26, Tryz.ntmps26
    go_wp2_with fail
    go_ret
    exact ⟨ret_bool HF.out, HB.out⟩
set_option maxRecDepth 100000 in
set_option maxHeartbeats 1000000 in
theorem takes20_any (k n d : Int) (nm : List UInt8) (w : World) : Calls Tryz.prog 26 #[.int .i64 20, .agg #[.int .i64 k, .int .i64 n, .int .i64 d, .string ⟨nm.toArray⟩]] w fun e w' => e = .returned (.bool (ownB 20 ⟨k, n, d, nm⟩)) ∧ Below w.heap.size w w' := by
  have ho : ownB 20 ⟨k, n, d, nm⟩ = (decide (k = 2) && upB ⟨k, n, d, nm⟩) := by rw [ownB_eq]; show (othB 3 ⟨k, n, d, nm⟩ || isB ⟨k, n, d, nm⟩ []) = _; rw [oth3, isB_nil, Bool.or_false]
  rw [ho]
  clear ho
  have HB := Lib.hid (below_oneP w (.cells #[.int .i64 k, .int .i64 n, .int .i64 d, .string ⟨nm.toArray⟩] 23))
  generalize hW : w.alloc (.cells #[.int .i64 k, .int .i64 n, .int .i64 d, .string ⟨nm.toArray⟩] 23) = W at *
  have hfx : W.heap[w.heap.size]? = some (.cells #[.int .i64 k, .int .i64 n, .int .i64 d, .string ⟨nm.toArray⟩] 23 (0, 0)) := by rw [← hW]; exact heap_alloc_new w _
  have hl := blk_ltP hfx
  have HX := Lib.hid hfx
  have d0 : W.cell? ⟨w.heap.size, 0, none⟩ = some (.int .i64 k) := cell_of hfx rfl
  have d1 : W.cell? ⟨w.heap.size, 1, none⟩ = some (.int .i64 n) := cell_of hfx rfl
  have d2 : W.cell? ⟨w.heap.size, 2, none⟩ = some (.int .i64 d) := cell_of hfx rfl
  have d3 : W.cell? ⟨w.heap.size, 3, none⟩ = some (.string ⟨nm.toArray⟩) := cell_of hfx rfl
  clear hfx
  have E := Lib.hid (up_any k n d nm W)
  generalize upB ⟨k, n, d, nm⟩ = b1 at *
  by_cases h : k = 2
  · subst h
    go_enter Tryz.func26, Tryz.ntmps26
    go_wp2_with fail
    refine E.out.mono ?_
    rintro e w1 ⟨rfl, hb1⟩
    have HB1 := Lib.hid (HB.out.trans (hb1.mono HB.out.size))
    clear hb1
    go_wp2_with fail
    go_ret
    exact ⟨ret_bool (by simp), HB1.out⟩
  · have z2 : (k == 2) = false := by rw [beq_eq_false_iff_ne]; exact h
    have HF : Hid (false = (decide (k = 2) && b1)) := Lib.hid (by rw [decide_eq_false h]; rfl)
    clear h E
    go_enter Tryz.func26, Tryz.ntmps26
    go_wp2_with fail
    go_ret
    exact ⟨ret_bool HF.out, HB.out⟩
set_option maxRecDepth 100000 in
set_option maxHeartbeats 1000000 in
theorem takes27_any (k n d : Int) (nm : List UInt8) (w : World) : Calls Tryz.prog 26 #[.int .i64 27, .agg #[.int .i64 k, .int .i64 n, .int .i64 d, .string ⟨nm.toArray⟩]] w fun e w' => e = .returned (.bool (ownB 27 ⟨k, n, d, nm⟩)) ∧ Below w.heap.size w w' := by
  have ho : ownB 27 ⟨k, n, d, nm⟩ = (decide (k = 4 ∧ n.tmod 1000 = 0)) := by rw [ownB_eq]; show (othB 5 ⟨k, n, d, nm⟩ || isB ⟨k, n, d, nm⟩ []) = _; rw [isB_nil, Bool.or_false]; rfl
  rw [ho]
  clear ho
  have HB := Lib.hid (below_oneP w (.cells #[.int .i64 k, .int .i64 n, .int .i64 d, .string ⟨nm.toArray⟩] 23))
  generalize hW : w.alloc (.cells #[.int .i64 k, .int .i64 n, .int .i64 d, .string ⟨nm.toArray⟩] 23) = W at *
  have hfx : W.heap[w.heap.size]? = some (.cells #[.int .i64 k, .int .i64 n, .int .i64 d, .string ⟨nm.toArray⟩] 23 (0, 0)) := by rw [← hW]; exact heap_alloc_new w _
  have hl := blk_ltP hfx
  have HX := Lib.hid hfx
  have d0 : W.cell? ⟨w.heap.size, 0, none⟩ = some (.int .i64 k) := cell_of hfx rfl
  have d1 : W.cell? ⟨w.heap.size, 1, none⟩ = some (.int .i64 n) := cell_of hfx rfl
  have d2 : W.cell? ⟨w.heap.size, 2, none⟩ = some (.int .i64 d) := cell_of hfx rfl
  have d3 : W.cell? ⟨w.heap.size, 3, none⟩ = some (.string ⟨nm.toArray⟩) := cell_of hfx rfl
  clear hfx
  have hwr : IntKind.i64.wrap (n.tmod 1000) = n.tmod 1000 := IntWalk.i64_in _ (by have := Int.tmod_lt_of_pos n (show (0 : Int) < 1000 by omega); have := Int.lt_tmod_of_pos n (show (0 : Int) < 1000 by omega); omega)
  obtain ⟨R, hR⟩ : ∃ R, decide (k = 4 ∧ n.tmod 1000 = 0) = R := ⟨_, rfl⟩
  rw [hR]
  by_cases h : k = 4
  · subst h
    by_cases h0 : n.tmod 1000 = 0
    · have HF : Hid (true = R) := Lib.hid (by rw [← hR, decide_eq_true ⟨rfl, h0⟩])
      clear hR
      go_enter Tryz.func26, Tryz.ntmps26
      go_wp2_with fail
      go_ret
      exact ⟨ret_bool HF.out, HB.out⟩
    · have HF : Hid (false = R) := Lib.hid (by rw [← hR, decide_eq_false (fun c => h0 c.2)])
      have H0 := Lib.hid h0
      clear h0 hR
      go_enter Tryz.func26, Tryz.ntmps26
      go_wp2_with fail
      go_ret
      exact ⟨ret_bool ((decide_eq_false H0.out).trans HF.out), HB.out⟩
  · have z2 : (k == 4) = false := by rw [beq_eq_false_iff_ne]; exact h
    have HF : Hid (false = R) := Lib.hid (by rw [← hR, decide_eq_false (fun c => h c.1)])
    clear h hR
    go_enter Tryz.func26, Tryz.ntmps26
    go_wp2_with fail
    go_ret
    exact ⟨ret_bool HF.out, HB.out⟩
set_option maxRecDepth 100000 in
set_option maxHeartbeats 1000000 in
theorem takes35_any (k n d : Int) (nm : List UInt8) (w : World) : Calls Tryz.prog 26 #[.int .i64 35, .agg #[.int .i64 k, .int .i64 n, .int .i64 d, .string ⟨nm.toArray⟩]] w fun e w' => e = .returned (.bool (ownB 35 ⟨k, n, d, nm⟩)) ∧ Below w.heap.size w w' := by
  have ho : ownB 35 ⟨k, n, d, nm⟩ = (decide (k = 6) || isB ⟨k, n, d, nm⟩ [[110, 111, 110, 101]]) := by rw [ownB_eq]; rfl
  rw [ho]
  clear ho
  have HB := Lib.hid (below_oneP w (.cells #[.int .i64 k, .int .i64 n, .int .i64 d, .string ⟨nm.toArray⟩] 23))
  generalize hW : w.alloc (.cells #[.int .i64 k, .int .i64 n, .int .i64 d, .string ⟨nm.toArray⟩] 23) = W at *
  have hfx : W.heap[w.heap.size]? = some (.cells #[.int .i64 k, .int .i64 n, .int .i64 d, .string ⟨nm.toArray⟩] 23 (0, 0)) := by rw [← hW]; exact heap_alloc_new w _
  have hl := blk_ltP hfx
  have HX := Lib.hid hfx
  have d0 : W.cell? ⟨w.heap.size, 0, none⟩ = some (.int .i64 k) := cell_of hfx rfl
  have d1 : W.cell? ⟨w.heap.size, 1, none⟩ = some (.int .i64 n) := cell_of hfx rfl
  have d2 : W.cell? ⟨w.heap.size, 2, none⟩ = some (.int .i64 d) := cell_of hfx rfl
  have d3 : W.cell? ⟨w.heap.size, 3, none⟩ = some (.string ⟨nm.toArray⟩) := cell_of hfx rfl
  clear hfx
  have I := Lib.hid (fun (W1 : World) => is_any k n d nm W1.heap.size [[110, 111, 110, 101]] 1 1 (W1.alloc (.cells (txcs [[110, 111, 110, 101]]) 9)) rfl (by omega) (TxAt.made W1 [[110, 111, 110, 101]]) (by simp))
  generalize isB ⟨k, n, d, nm⟩ [[110, 111, 110, 101]] = b2 at *
  by_cases h : k = 6
  · subst h
    go_enter Tryz.func26, Tryz.ntmps26
    go_wp2_with fail
    go_ret
    exact ⟨ret_bool (by simp), HB.out⟩
  · have z2 : (k == 6) = false := by rw [beq_eq_false_iff_ne]; exact h
    have HF : Hid (b2 = (decide (k = 6) || b2)) := Lib.hid (by rw [decide_eq_false h]; rfl)
    have HB2 := Lib.hid (HB.out.alloc HB.out.size (.cells (txcs [[110, 111, 110, 101]]) 9))
    have II := Lib.hid (I.out W)
    clear h
    go_enter Tryz.func26, Tryz.ntmps26
    go_wp2_with fail
    refine II.out.mono ?_
    rintro e w2 ⟨rfl, hb2⟩
    have HB3 := Lib.hid (HB2.out.trans (hb2.mono HB2.out.size))
    clear hb2
    go_wp2_with fail
    go_ret
    exact ⟨ret_bool HF.out, HB3.out⟩
end Go.Proofs.YtghnbfppfbenmaaGreat

namespace Go.Proofs.YtghnbfppfbenmaaGreat
open Go.RowKit TreN LexP FixP SynP ValP PropP FixM
set_option linter.unusedVariables false

theorem takes_any (p : Int) (h1 : 1 ≤ p) (h2 : p ≤ 37) (k n d : Int) (nm : List UInt8) (w : World) : Calls Tryz.prog 26 #[.int .i64 p, .agg #[.int .i64 k, .int .i64 n, .int .i64 d, .string ⟨nm.toArray⟩]] w fun e w' => e = .returned (.bool (ownB p.toNat ⟨k, n, d, nm⟩)) ∧ Below w.heap.size w w' := by
  have h : p = 1 ∨ p = 2 ∨ p = 3 ∨ p = 4 ∨ p = 5 ∨ p = 6 ∨ p = 7 ∨ p = 8 ∨ p = 9 ∨ p = 10 ∨ p = 11 ∨ p = 12 ∨ p = 13 ∨ p = 14 ∨ p = 15 ∨ p = 16 ∨ p = 17 ∨ p = 18 ∨ p = 19 ∨ p = 20 ∨ p = 21 ∨ p = 22 ∨ p = 23 ∨ p = 24 ∨ p = 25 ∨ p = 26 ∨ p = 27 ∨ p = 28 ∨ p = 29 ∨ p = 30 ∨ p = 31 ∨ p = 32 ∨ p = 33 ∨ p = 34 ∨ p = 35 ∨ p = 36 ∨ p = 37 := by omega
  rcases h with rfl | rfl | rfl | rfl | rfl | rfl | rfl | rfl | rfl | rfl | rfl | rfl | rfl | rfl | rfl | rfl | rfl | rfl | rfl | rfl | rfl | rfl | rfl | rfl | rfl | rfl | rfl | rfl | rfl | rfl | rfl | rfl | rfl | rfl | rfl | rfl | rfl
  · exact takes1_any k n d nm w
  · exact takes2_any k n d nm w
  · exact takes3_any k n d nm w
  · exact takes4_any k n d nm w
  · exact takes5_any k n d nm w
  · exact takes6_any k n d nm w
  · exact takes7_any k n d nm w
  · exact takes8_any k n d nm w
  · exact takes9_any k n d nm w
  · exact takes10_any k n d nm w
  · exact takes11_any k n d nm w
  · exact takes12_any k n d nm w
  · exact takes13_any k n d nm w
  · exact takes14_any k n d nm w
  · exact takes15_any k n d nm w
  · exact takes16_any k n d nm w
  · exact takes17_any k n d nm w
  · exact takes18_any k n d nm w
  · exact takes19_any k n d nm w
  · exact takes20_any k n d nm w
  · exact takes21_any k n d nm w
  · exact takes22_any k n d nm w
  · exact takes23_any k n d nm w
  · exact takes24_any k n d nm w
  · exact takes25_any k n d nm w
  · exact takes26_any k n d nm w
  · exact takes27_any k n d nm w
  · exact takes28_any k n d nm w
  · exact takes29_any k n d nm w
  · exact takes30_any k n d nm w
  · exact takes31_any k n d nm w
  · exact takes32_any k n d nm w
  · exact takes33_any k n d nm w
  · exact takes34_any k n d nm w
  · exact takes35_any k n d nm w
  · exact takes36_any k n d nm w
  · exact takes37_any k n d nm w
end Go.Proofs.YtghnbfppfbenmaaGreat

namespace Go.Proofs.YtghnbfppfbenmaaGreat
open Go.RowKit TreN LexP FixP SynP ValP PropP FixM
set_option linter.unusedVariables false

theorem names_ne : ∀ k : Fin 37, namesL.getD k.val [] ≠ [] := by decide +kernel
theorem nameOf_ne {p : Int} (h1 : 1 ≤ p) (h2 : p ≤ 37) : txtP namesL p ≠ [] := by
  unfold txtP
  rw [if_pos ⟨h1, by rw [names_len]; omega⟩]
  exact names_ne ⟨p.toNat - 1, by omega⟩
theorem nameOf_no {p : Int} (h : ¬ (1 ≤ p ∧ p ≤ 37)) : txtP namesL p = [] := by
  unfold txtP
  rw [if_neg (by rw [names_len]; omega)]
set_option maxRecDepth 100000 in
set_option maxHeartbeats 1000000 in
theorem Takes10_any (p k n d : Int) (nm : List UInt8) (w : World) (hs : nm.length ≤ maxLen) : Calls Tryz.prog 11 #[.int .i64 p, .agg #[.int .i64 k, .int .i64 n, .int .i64 d, .string ⟨nm.toArray⟩]] w fun e w' => e = .returned (.bool (takesP p ⟨k, n, d, nm⟩)) ∧ Below w.heap.size w w' := by
  have HB := Lib.hid (below_oneP w (.cells #[.int .i64 k, .int .i64 n, .int .i64 d, .string ⟨nm.toArray⟩] 23))
  have N := Lib.hid (fun W => Name10_any p W)
  generalize hW : w.alloc (.cells #[.int .i64 k, .int .i64 n, .int .i64 d, .string ⟨nm.toArray⟩] 23) = W at *
  have hfx : W.heap[w.heap.size]? = some (.cells #[.int .i64 k, .int .i64 n, .int .i64 d, .string ⟨nm.toArray⟩] 23 (0, 0)) := by rw [← hW]; exact heap_alloc_new w _
  have hl := blk_ltP hfx
  have HX := Lib.hid hfx
  have d0 : W.cell? ⟨w.heap.size, 0, none⟩ = some (.int .i64 k) := cell_of hfx rfl
  have d1 : W.cell? ⟨w.heap.size, 1, none⟩ = some (.int .i64 n) := cell_of hfx rfl
  have d2 : W.cell? ⟨w.heap.size, 2, none⟩ = some (.int .i64 d) := cell_of hfx rfl
  have d3 : W.cell? ⟨w.heap.size, 3, none⟩ = some (.string ⟨nm.toArray⟩) := cell_of hfx rfl
  clear hfx
  by_cases hp : 1 ≤ p ∧ p ≤ 37
  · have hne := nameOf_ne hp.1 hp.2
    have R := Lib.hid (fun W => Right9_any k n d nm W hs)
    have G := Lib.hid (fun W => general_any k n d nm W)
    have T := Lib.hid (fun W => takes_any p hp.1 hp.2 k n d nm W)
    have hg : rightV ⟨k, n, d, nm⟩ = true → isB ⟨k, n, d, nm⟩ genW = genB ⟨k, n, d, nm⟩ := gen_is
    have ho : takesP p ⟨k, n, d, nm⟩ = (rightV ⟨k, n, d, nm⟩ && (genB ⟨k, n, d, nm⟩ || ownB p.toNat ⟨k, n, d, nm⟩)) := by unfold takesP; rw [decide_eq_true hp, Bool.true_and]
    rw [ho]
    clear ho hs
    generalize txtP namesL p = x at *
    generalize rightV ⟨k, n, d, nm⟩ = rv at *
    generalize isB ⟨k, n, d, nm⟩ genW = ig at *
    generalize genB ⟨k, n, d, nm⟩ = gb at *
    generalize ownB p.toNat ⟨k, n, d, nm⟩ = ob at *
    obtain ⟨c, r, rfl⟩ : ∃ c r, x = c :: r := by cases x with | nil => exact absurd rfl hne | cons c r => exact ⟨c, r, rfl⟩
    clear hne hp
    cases rv
    · clear hg G T
      go_enter Tryz.func11, Tryz.ntmps11
      go_wp2_with fail
      refine (N.out _).mono ?_
      rintro e w1 ⟨rfl, hb1⟩
      have HB1 := Lib.hid (HB.out.trans (hb1.mono HB.out.size))
      have hx1 := (hb1.block _ hl).trans HX.out
      have d0 : w1.cell? ⟨w.heap.size, 0, none⟩ = some (.int .i64 k) := cell_of hx1 rfl
      have d1 : w1.cell? ⟨w.heap.size, 1, none⟩ = some (.int .i64 n) := cell_of hx1 rfl
      have d2 : w1.cell? ⟨w.heap.size, 2, none⟩ = some (.int .i64 d) := cell_of hx1 rfl
      have d3 : w1.cell? ⟨w.heap.size, 3, none⟩ = some (.string ⟨nm.toArray⟩) := cell_of hx1 rfl
      clear hb1 hx1
      go_wp2_with fail
      refine (R.out _).mono ?_
      rintro e w2 ⟨rfl, hb2⟩
      have HB2 := Lib.hid (HB1.out.trans (hb2.mono HB1.out.size))
      clear hb2
      go_wp2_with fail
      go_ret
      exact ⟨ret_bool (by simp), HB2.out⟩
    · have hg := hg rfl
      subst hg
      cases ig
      · go_enter Tryz.func11, Tryz.ntmps11
        go_wp2_with fail
        refine (N.out _).mono ?_
        rintro e w1 ⟨rfl, hb1⟩
        have HB1 := Lib.hid (HB.out.trans (hb1.mono HB.out.size))
        have HX1 := Lib.hid ((hb1.block _ hl).trans HX.out)
        have hl1 := blk_ltP HX1.out
        have hx1 := HX1.out
        have d0 : w1.cell? ⟨w.heap.size, 0, none⟩ = some (.int .i64 k) := cell_of hx1 rfl
        have d1 : w1.cell? ⟨w.heap.size, 1, none⟩ = some (.int .i64 n) := cell_of hx1 rfl
        have d2 : w1.cell? ⟨w.heap.size, 2, none⟩ = some (.int .i64 d) := cell_of hx1 rfl
        have d3 : w1.cell? ⟨w.heap.size, 3, none⟩ = some (.string ⟨nm.toArray⟩) := cell_of hx1 rfl
        clear hb1 hx1
        go_wp2_with fail
        refine (R.out _).mono ?_
        rintro e w2 ⟨rfl, hb2⟩
        have HB2 := Lib.hid (HB1.out.trans (hb2.mono HB1.out.size))
        have HX2 := Lib.hid ((hb2.block _ hl1).trans HX1.out)
        have hl2 := blk_ltP HX2.out
        have hx2 := HX2.out
        have d0 : w2.cell? ⟨w.heap.size, 0, none⟩ = some (.int .i64 k) := cell_of hx2 rfl
        have d1 : w2.cell? ⟨w.heap.size, 1, none⟩ = some (.int .i64 n) := cell_of hx2 rfl
        have d2 : w2.cell? ⟨w.heap.size, 2, none⟩ = some (.int .i64 d) := cell_of hx2 rfl
        have d3 : w2.cell? ⟨w.heap.size, 3, none⟩ = some (.string ⟨nm.toArray⟩) := cell_of hx2 rfl
        clear hb2 hx2
        go_wp2_with fail
        refine (G.out _).mono ?_
        rintro e w3 ⟨rfl, hb3⟩
        have HB3 := Lib.hid (HB2.out.trans (hb3.mono HB2.out.size))
        have hx3 := (hb3.block _ hl2).trans HX2.out
        have d0 : w3.cell? ⟨w.heap.size, 0, none⟩ = some (.int .i64 k) := cell_of hx3 rfl
        have d1 : w3.cell? ⟨w.heap.size, 1, none⟩ = some (.int .i64 n) := cell_of hx3 rfl
        have d2 : w3.cell? ⟨w.heap.size, 2, none⟩ = some (.int .i64 d) := cell_of hx3 rfl
        have d3 : w3.cell? ⟨w.heap.size, 3, none⟩ = some (.string ⟨nm.toArray⟩) := cell_of hx3 rfl
        clear hb3 hx3
        go_wp2_with fail
        refine (T.out _).mono ?_
        rintro e w4 ⟨rfl, hb4⟩
        have HB4 := Lib.hid (HB3.out.trans (hb4.mono HB3.out.size))
        clear hb4
        go_wp2_with fail
        go_ret
        exact ⟨ret_bool (by simp), HB4.out⟩
      · clear T
        go_enter Tryz.func11, Tryz.ntmps11
        go_wp2_with fail
        refine (N.out _).mono ?_
        rintro e w1 ⟨rfl, hb1⟩
        have HB1 := Lib.hid (HB.out.trans (hb1.mono HB.out.size))
        have HX1 := Lib.hid ((hb1.block _ hl).trans HX.out)
        have hl1 := blk_ltP HX1.out
        have hx1 := HX1.out
        have d0 : w1.cell? ⟨w.heap.size, 0, none⟩ = some (.int .i64 k) := cell_of hx1 rfl
        have d1 : w1.cell? ⟨w.heap.size, 1, none⟩ = some (.int .i64 n) := cell_of hx1 rfl
        have d2 : w1.cell? ⟨w.heap.size, 2, none⟩ = some (.int .i64 d) := cell_of hx1 rfl
        have d3 : w1.cell? ⟨w.heap.size, 3, none⟩ = some (.string ⟨nm.toArray⟩) := cell_of hx1 rfl
        clear hb1 hx1
        go_wp2_with fail
        refine (R.out _).mono ?_
        rintro e w2 ⟨rfl, hb2⟩
        have HB2 := Lib.hid (HB1.out.trans (hb2.mono HB1.out.size))
        have hx2 := (hb2.block _ hl1).trans HX1.out
        have d0 : w2.cell? ⟨w.heap.size, 0, none⟩ = some (.int .i64 k) := cell_of hx2 rfl
        have d1 : w2.cell? ⟨w.heap.size, 1, none⟩ = some (.int .i64 n) := cell_of hx2 rfl
        have d2 : w2.cell? ⟨w.heap.size, 2, none⟩ = some (.int .i64 d) := cell_of hx2 rfl
        have d3 : w2.cell? ⟨w.heap.size, 3, none⟩ = some (.string ⟨nm.toArray⟩) := cell_of hx2 rfl
        clear hb2 hx2
        go_wp2_with fail
        refine (G.out _).mono ?_
        rintro e w3 ⟨rfl, hb3⟩
        have HB3 := Lib.hid (HB2.out.trans (hb3.mono HB2.out.size))
        clear hb3
        go_wp2_with fail
        go_ret
        exact ⟨ret_bool (by simp), HB3.out⟩
  · have ho : takesP p ⟨k, n, d, nm⟩ = false := by unfold takesP; rw [decide_eq_false hp, Bool.false_and]
    rw [ho]
    rw [nameOf_no hp] at N
    clear ho hp hs
    go_enter Tryz.func11, Tryz.ntmps11
    go_wp2_with fail
    refine (N.out _).mono ?_
    rintro e w1 ⟨rfl, hb1⟩
    have HB1 := Lib.hid (HB.out.trans (hb1.mono HB.out.size))
    clear hb1
    go_wp2_with fail
    go_ret
    exact ⟨ret_bool (by simp), HB1.out⟩
end Go.Proofs.YtghnbfppfbenmaaGreat
