/- Layer 17: what is put into a maker. (Written by gen_stl5.py.) -/
import Derived.Test.YtlngipglhlhhbaaStlW6
namespace Go.Proofs.Ytlngipglhlhhbaa
open Go.RowKit TreN LexP FixP SynP ValP PropP FixM
set_option linter.unusedVariables false

theorem putF_36 (cc : Nat → Value) (v : Val) (em a b : Int) (i : Nat) : putF cc 36 v em a b i = cc i := by
  unfold putF
  rw [if_neg (fun c => c.2 rfl)]

set_option maxRecDepth 100000 in
set_option maxHeartbeats 4000000 in
theorem flex_36 (b : Nat) (v : Val) (cc : Nat → Value) (em x y : Int) (w : World) (h : Mk w b cc x y) (he : cc 53 = .int .i64 em) : Calls Try.prog 31 #[.pointer (some ⟨b, 0, none⟩), .int .i64 36, vlV v] w (PutIs w b (putF cc 36 v em x y) x y) := by
  unfold PutIs
  have hx0 := heap_alloc_new w (.cells (vlB v) 34)
  have hbw := (below_one7h w (.cells (vlB v) 34))
  have hm0 := h.below hbw
  have hb0 : Below b w (w.alloc (.cells (vlB v) 34)) := hbw.mono (Nat.le_of_lt h.lt)
  unfold vlV vlB at *
  obtain ⟨k, n, d, nm⟩ := v
  simp only at hx0 hm0 hb0 ⊢
  generalize hW : w.alloc (.cells #[.int .i64 k, .int .i64 n, .int .i64 d, .string ⟨nm.toArray⟩] 34) = W at *
  have d0 : W.cell? ⟨w.heap.size, 0, none⟩ = some (.int .i64 k) := cell_of hx0 rfl
  have d1 : W.cell? ⟨w.heap.size, 1, none⟩ = some (.int .i64 n) := cell_of hx0 rfl
  have d2 : W.cell? ⟨w.heap.size, 2, none⟩ = some (.int .i64 d) := cell_of hx0 rfl
  have d3 : W.cell? ⟨w.heap.size, 3, none⟩ = some (.string ⟨nm.toArray⟩) := cell_of hx0 rfl
  have HM := Lib.hid hm0
  have HB := Lib.hid hb0
  clear h he hx0 hm0 hb0 hbw
  go_enter Try.func31, Try.ntmps31
  go_wp2_with fail
  refine bodyPost_end (results_none rfl _ _ _) rfl ?_
  exact ⟨rfl, HB.out, HM.out.ext (fun i _ => (putF_36 cc _ em x y i).symm)⟩

set_option maxRecDepth 100000 in
set_option maxHeartbeats 4000000 in
theorem put_22 (b : Nat) (v : Val) (cc : Nat → Value) (em x y : Int) (w : World) (h : Mk w b cc x y) (he : cc 53 = .int .i64 em) : Calls Try.prog 16 #[.pointer (some ⟨b, 0, none⟩), .int .i64 22, vlV v] w (PutIs w b (putF cc 22 v em x y) x y) := by
  unfold PutIs
  have hx0 := heap_alloc_new w (.cells (vlB v) 34)
  have hbw := (below_one7h w (.cells (vlB v) 34))
  have hm0 := h.below hbw
  have hb0 : Below b w (w.alloc (.cells (vlB v) 34)) := hbw.mono (Nat.le_of_lt h.lt)
  have C0 : ∀ W, Mk W b cc x y → Calls Try.prog 31 #[.pointer (some ⟨b, 0, none⟩), .int .i64 22, vlV v] W (PutIs W b (putF cc 22 v em x y) x y) := fun W hW => flex_22 b v cc em x y W hW he
  unfold PutIs at C0
  obtain ⟨c2, hc2⟩ : ∃ c2, putF cc 22 v em x y = c2 := ⟨_, rfl⟩
  rw [hc2] at C0 ⊢
  clear hc2
  unfold vlV vlB at *
  obtain ⟨k, n, d, nm⟩ := v
  simp only at hx0 hm0 hb0 C0 ⊢
  generalize hW : w.alloc (.cells #[.int .i64 k, .int .i64 n, .int .i64 d, .string ⟨nm.toArray⟩] 34) = W at *
  have d0 : W.cell? ⟨w.heap.size, 0, none⟩ = some (.int .i64 k) := cell_of hx0 rfl
  have d1 : W.cell? ⟨w.heap.size, 1, none⟩ = some (.int .i64 n) := cell_of hx0 rfl
  have d2 : W.cell? ⟨w.heap.size, 2, none⟩ = some (.int .i64 d) := cell_of hx0 rfl
  have d3 : W.cell? ⟨w.heap.size, 3, none⟩ = some (.string ⟨nm.toArray⟩) := cell_of hx0 rfl
  have HM := Lib.hid hm0
  have HB := Lib.hid hb0
  have CC := Lib.hid (C0 W HM.out)
  clear C0
  clear h he hx0 hm0 hb0 hbw
  go_enter Try.func16, Try.ntmps16
  go_wp2_with fail
  refine CC.out.mono ?_
  rintro e w2 ⟨rfl, hb2, hm2⟩
  have HB2 := Lib.hid (HB.out.trans hb2)
  have HM2 := Lib.hid hm2
  clear hb2 hm2
  go_wp2_with fail
  refine bodyPost_end (results_none rfl _ _ _) rfl ?_
  exact ⟨rfl, HB2.out, HM2.out⟩

set_option maxRecDepth 100000 in
set_option maxHeartbeats 4000000 in
theorem put_23 (b : Nat) (v : Val) (cc : Nat → Value) (em x y : Int) (w : World) (h : Mk w b cc x y) (he : cc 53 = .int .i64 em) : Calls Try.prog 16 #[.pointer (some ⟨b, 0, none⟩), .int .i64 23, vlV v] w (PutIs w b (putF cc 23 v em x y) x y) := by
  unfold PutIs
  have hx0 := heap_alloc_new w (.cells (vlB v) 34)
  have hbw := (below_one7h w (.cells (vlB v) 34))
  have hm0 := h.below hbw
  have hb0 : Below b w (w.alloc (.cells (vlB v) 34)) := hbw.mono (Nat.le_of_lt h.lt)
  have C0 : ∀ W, Mk W b cc x y → Calls Try.prog 31 #[.pointer (some ⟨b, 0, none⟩), .int .i64 23, vlV v] W (PutIs W b (putF cc 23 v em x y) x y) := fun W hW => flex_23 b v cc em x y W hW he
  unfold PutIs at C0
  obtain ⟨c2, hc2⟩ : ∃ c2, putF cc 23 v em x y = c2 := ⟨_, rfl⟩
  rw [hc2] at C0 ⊢
  clear hc2
  unfold vlV vlB at *
  obtain ⟨k, n, d, nm⟩ := v
  simp only at hx0 hm0 hb0 C0 ⊢
  generalize hW : w.alloc (.cells #[.int .i64 k, .int .i64 n, .int .i64 d, .string ⟨nm.toArray⟩] 34) = W at *
  have d0 : W.cell? ⟨w.heap.size, 0, none⟩ = some (.int .i64 k) := cell_of hx0 rfl
  have d1 : W.cell? ⟨w.heap.size, 1, none⟩ = some (.int .i64 n) := cell_of hx0 rfl
  have d2 : W.cell? ⟨w.heap.size, 2, none⟩ = some (.int .i64 d) := cell_of hx0 rfl
  have d3 : W.cell? ⟨w.heap.size, 3, none⟩ = some (.string ⟨nm.toArray⟩) := cell_of hx0 rfl
  have HM := Lib.hid hm0
  have HB := Lib.hid hb0
  have CC := Lib.hid (C0 W HM.out)
  clear C0
  clear h he hx0 hm0 hb0 hbw
  go_enter Try.func16, Try.ntmps16
  go_wp2_with fail
  refine CC.out.mono ?_
  rintro e w2 ⟨rfl, hb2, hm2⟩
  have HB2 := Lib.hid (HB.out.trans hb2)
  have HM2 := Lib.hid hm2
  clear hb2 hm2
  go_wp2_with fail
  refine bodyPost_end (results_none rfl _ _ _) rfl ?_
  exact ⟨rfl, HB2.out, HM2.out⟩

set_option maxRecDepth 100000 in
set_option maxHeartbeats 4000000 in
theorem put_24 (b : Nat) (v : Val) (cc : Nat → Value) (em x y : Int) (w : World) (h : Mk w b cc x y) (he : cc 53 = .int .i64 em) : Calls Try.prog 16 #[.pointer (some ⟨b, 0, none⟩), .int .i64 24, vlV v] w (PutIs w b (putF cc 24 v em x y) x y) := by
  unfold PutIs
  have hx0 := heap_alloc_new w (.cells (vlB v) 34)
  have hbw := (below_one7h w (.cells (vlB v) 34))
  have hm0 := h.below hbw
  have hb0 : Below b w (w.alloc (.cells (vlB v) 34)) := hbw.mono (Nat.le_of_lt h.lt)
  have C0 : ∀ W, Mk W b cc x y → Calls Try.prog 31 #[.pointer (some ⟨b, 0, none⟩), .int .i64 24, vlV v] W (PutIs W b (putF cc 24 v em x y) x y) := fun W hW => flex_24 b v cc em x y W hW he
  unfold PutIs at C0
  obtain ⟨c2, hc2⟩ : ∃ c2, putF cc 24 v em x y = c2 := ⟨_, rfl⟩
  rw [hc2] at C0 ⊢
  clear hc2
  unfold vlV vlB at *
  obtain ⟨k, n, d, nm⟩ := v
  simp only at hx0 hm0 hb0 C0 ⊢
  generalize hW : w.alloc (.cells #[.int .i64 k, .int .i64 n, .int .i64 d, .string ⟨nm.toArray⟩] 34) = W at *
  have d0 : W.cell? ⟨w.heap.size, 0, none⟩ = some (.int .i64 k) := cell_of hx0 rfl
  have d1 : W.cell? ⟨w.heap.size, 1, none⟩ = some (.int .i64 n) := cell_of hx0 rfl
  have d2 : W.cell? ⟨w.heap.size, 2, none⟩ = some (.int .i64 d) := cell_of hx0 rfl
  have d3 : W.cell? ⟨w.heap.size, 3, none⟩ = some (.string ⟨nm.toArray⟩) := cell_of hx0 rfl
  have HM := Lib.hid hm0
  have HB := Lib.hid hb0
  have CC := Lib.hid (C0 W HM.out)
  clear C0
  clear h he hx0 hm0 hb0 hbw
  go_enter Try.func16, Try.ntmps16
  go_wp2_with fail
  refine CC.out.mono ?_
  rintro e w2 ⟨rfl, hb2, hm2⟩
  have HB2 := Lib.hid (HB.out.trans hb2)
  have HM2 := Lib.hid hm2
  clear hb2 hm2
  go_wp2_with fail
  refine bodyPost_end (results_none rfl _ _ _) rfl ?_
  exact ⟨rfl, HB2.out, HM2.out⟩

set_option maxRecDepth 100000 in
set_option maxHeartbeats 4000000 in
theorem put_25 (b : Nat) (v : Val) (cc : Nat → Value) (em x y : Int) (w : World) (h : Mk w b cc x y) (he : cc 53 = .int .i64 em) : Calls Try.prog 16 #[.pointer (some ⟨b, 0, none⟩), .int .i64 25, vlV v] w (PutIs w b (putF cc 25 v em x y) x y) := by
  unfold PutIs
  have hx0 := heap_alloc_new w (.cells (vlB v) 34)
  have hbw := (below_one7h w (.cells (vlB v) 34))
  have hm0 := h.below hbw
  have hb0 : Below b w (w.alloc (.cells (vlB v) 34)) := hbw.mono (Nat.le_of_lt h.lt)
  have C0 : ∀ W, Mk W b cc x y → Calls Try.prog 31 #[.pointer (some ⟨b, 0, none⟩), .int .i64 25, vlV v] W (PutIs W b (putF cc 25 v em x y) x y) := fun W hW => flex_25 b v cc em x y W hW he
  unfold PutIs at C0
  obtain ⟨c2, hc2⟩ : ∃ c2, putF cc 25 v em x y = c2 := ⟨_, rfl⟩
  rw [hc2] at C0 ⊢
  clear hc2
  unfold vlV vlB at *
  obtain ⟨k, n, d, nm⟩ := v
  simp only at hx0 hm0 hb0 C0 ⊢
  generalize hW : w.alloc (.cells #[.int .i64 k, .int .i64 n, .int .i64 d, .string ⟨nm.toArray⟩] 34) = W at *
  have d0 : W.cell? ⟨w.heap.size, 0, none⟩ = some (.int .i64 k) := cell_of hx0 rfl
  have d1 : W.cell? ⟨w.heap.size, 1, none⟩ = some (.int .i64 n) := cell_of hx0 rfl
  have d2 : W.cell? ⟨w.heap.size, 2, none⟩ = some (.int .i64 d) := cell_of hx0 rfl
  have d3 : W.cell? ⟨w.heap.size, 3, none⟩ = some (.string ⟨nm.toArray⟩) := cell_of hx0 rfl
  have HM := Lib.hid hm0
  have HB := Lib.hid hb0
  have CC := Lib.hid (C0 W HM.out)
  clear C0
  clear h he hx0 hm0 hb0 hbw
  go_enter Try.func16, Try.ntmps16
  go_wp2_with fail
  refine CC.out.mono ?_
  rintro e w2 ⟨rfl, hb2, hm2⟩
  have HB2 := Lib.hid (HB.out.trans hb2)
  have HM2 := Lib.hid hm2
  clear hb2 hm2
  go_wp2_with fail
  refine bodyPost_end (results_none rfl _ _ _) rfl ?_
  exact ⟨rfl, HB2.out, HM2.out⟩

set_option maxRecDepth 100000 in
set_option maxHeartbeats 4000000 in
theorem put_26 (b : Nat) (v : Val) (cc : Nat → Value) (em x y : Int) (w : World) (h : Mk w b cc x y) (he : cc 53 = .int .i64 em) : Calls Try.prog 16 #[.pointer (some ⟨b, 0, none⟩), .int .i64 26, vlV v] w (PutIs w b (putF cc 26 v em x y) x y) := by
  unfold PutIs
  have hx0 := heap_alloc_new w (.cells (vlB v) 34)
  have hbw := (below_one7h w (.cells (vlB v) 34))
  have hm0 := h.below hbw
  have hb0 : Below b w (w.alloc (.cells (vlB v) 34)) := hbw.mono (Nat.le_of_lt h.lt)
  have C0 : ∀ W, Mk W b cc x y → Calls Try.prog 31 #[.pointer (some ⟨b, 0, none⟩), .int .i64 26, vlV v] W (PutIs W b (putF cc 26 v em x y) x y) := fun W hW => flex_26 b v cc em x y W hW he
  unfold PutIs at C0
  obtain ⟨c2, hc2⟩ : ∃ c2, putF cc 26 v em x y = c2 := ⟨_, rfl⟩
  rw [hc2] at C0 ⊢
  clear hc2
  unfold vlV vlB at *
  obtain ⟨k, n, d, nm⟩ := v
  simp only at hx0 hm0 hb0 C0 ⊢
  generalize hW : w.alloc (.cells #[.int .i64 k, .int .i64 n, .int .i64 d, .string ⟨nm.toArray⟩] 34) = W at *
  have d0 : W.cell? ⟨w.heap.size, 0, none⟩ = some (.int .i64 k) := cell_of hx0 rfl
  have d1 : W.cell? ⟨w.heap.size, 1, none⟩ = some (.int .i64 n) := cell_of hx0 rfl
  have d2 : W.cell? ⟨w.heap.size, 2, none⟩ = some (.int .i64 d) := cell_of hx0 rfl
  have d3 : W.cell? ⟨w.heap.size, 3, none⟩ = some (.string ⟨nm.toArray⟩) := cell_of hx0 rfl
  have HM := Lib.hid hm0
  have HB := Lib.hid hb0
  have CC := Lib.hid (C0 W HM.out)
  clear C0
  clear h he hx0 hm0 hb0 hbw
  go_enter Try.func16, Try.ntmps16
  go_wp2_with fail
  refine CC.out.mono ?_
  rintro e w2 ⟨rfl, hb2, hm2⟩
  have HB2 := Lib.hid (HB.out.trans hb2)
  have HM2 := Lib.hid hm2
  clear hb2 hm2
  go_wp2_with fail
  refine bodyPost_end (results_none rfl _ _ _) rfl ?_
  exact ⟨rfl, HB2.out, HM2.out⟩

set_option maxRecDepth 100000 in
set_option maxHeartbeats 4000000 in
theorem put_27 (b : Nat) (v : Val) (cc : Nat → Value) (em x y : Int) (w : World) (h : Mk w b cc x y) (he : cc 53 = .int .i64 em) (hn1 : -1073741824 ≤ v.n) (hn2 : v.n ≤ 1073741824) : Calls Try.prog 16 #[.pointer (some ⟨b, 0, none⟩), .int .i64 27, vlV v] w (PutIs w b (putF cc 27 v em x y) x y) := by
  unfold PutIs
  have hx0 := heap_alloc_new w (.cells (vlB v) 34)
  have hbw := (below_one7h w (.cells (vlB v) 34))
  have hm0 := h.below hbw
  have hb0 : Below b w (w.alloc (.cells (vlB v) 34)) := hbw.mono (Nat.le_of_lt h.lt)
  have C0 : ∀ W, Mk W b cc x y → Calls Try.prog 31 #[.pointer (some ⟨b, 0, none⟩), .int .i64 27, vlV v] W (PutIs W b (putF cc 27 v em x y) x y) := fun W hW => flex_27 b v cc em x y W hW he hn1 hn2
  unfold PutIs at C0
  obtain ⟨c2, hc2⟩ : ∃ c2, putF cc 27 v em x y = c2 := ⟨_, rfl⟩
  rw [hc2] at C0 ⊢
  clear hc2
  unfold vlV vlB at *
  obtain ⟨k, n, d, nm⟩ := v
  simp only at hx0 hm0 hb0 C0 hn1 hn2 ⊢
  generalize hW : w.alloc (.cells #[.int .i64 k, .int .i64 n, .int .i64 d, .string ⟨nm.toArray⟩] 34) = W at *
  have d0 : W.cell? ⟨w.heap.size, 0, none⟩ = some (.int .i64 k) := cell_of hx0 rfl
  have d1 : W.cell? ⟨w.heap.size, 1, none⟩ = some (.int .i64 n) := cell_of hx0 rfl
  have d2 : W.cell? ⟨w.heap.size, 2, none⟩ = some (.int .i64 d) := cell_of hx0 rfl
  have d3 : W.cell? ⟨w.heap.size, 3, none⟩ = some (.string ⟨nm.toArray⟩) := cell_of hx0 rfl
  have HM := Lib.hid hm0
  have HB := Lib.hid hb0
  have CC := Lib.hid (C0 W HM.out)
  clear C0
  clear h he hx0 hm0 hb0 hbw
  go_enter Try.func16, Try.ntmps16
  go_wp2_with fail
  refine CC.out.mono ?_
  rintro e w2 ⟨rfl, hb2, hm2⟩
  have HB2 := Lib.hid (HB.out.trans hb2)
  have HM2 := Lib.hid hm2
  clear hb2 hm2
  go_wp2_with fail
  refine bodyPost_end (results_none rfl _ _ _) rfl ?_
  exact ⟨rfl, HB2.out, HM2.out⟩

set_option maxRecDepth 100000 in
set_option maxHeartbeats 4000000 in
theorem put_28 (b : Nat) (v : Val) (cc : Nat → Value) (em x y : Int) (w : World) (h : Mk w b cc x y) (he : cc 53 = .int .i64 em) : Calls Try.prog 16 #[.pointer (some ⟨b, 0, none⟩), .int .i64 28, vlV v] w (PutIs w b (putF cc 28 v em x y) x y) := by
  unfold PutIs
  have hx0 := heap_alloc_new w (.cells (vlB v) 34)
  have hbw := (below_one7h w (.cells (vlB v) 34))
  have hm0 := h.below hbw
  have hb0 : Below b w (w.alloc (.cells (vlB v) 34)) := hbw.mono (Nat.le_of_lt h.lt)
  have C0 : ∀ W, Mk W b cc x y → Calls Try.prog 31 #[.pointer (some ⟨b, 0, none⟩), .int .i64 28, vlV v] W (PutIs W b (putF cc 28 v em x y) x y) := fun W hW => flex_28 b v cc em x y W hW he
  unfold PutIs at C0
  obtain ⟨c2, hc2⟩ : ∃ c2, putF cc 28 v em x y = c2 := ⟨_, rfl⟩
  rw [hc2] at C0 ⊢
  clear hc2
  unfold vlV vlB at *
  obtain ⟨k, n, d, nm⟩ := v
  simp only at hx0 hm0 hb0 C0 ⊢
  generalize hW : w.alloc (.cells #[.int .i64 k, .int .i64 n, .int .i64 d, .string ⟨nm.toArray⟩] 34) = W at *
  have d0 : W.cell? ⟨w.heap.size, 0, none⟩ = some (.int .i64 k) := cell_of hx0 rfl
  have d1 : W.cell? ⟨w.heap.size, 1, none⟩ = some (.int .i64 n) := cell_of hx0 rfl
  have d2 : W.cell? ⟨w.heap.size, 2, none⟩ = some (.int .i64 d) := cell_of hx0 rfl
  have d3 : W.cell? ⟨w.heap.size, 3, none⟩ = some (.string ⟨nm.toArray⟩) := cell_of hx0 rfl
  have HM := Lib.hid hm0
  have HB := Lib.hid hb0
  have CC := Lib.hid (C0 W HM.out)
  clear C0
  clear h he hx0 hm0 hb0 hbw
  go_enter Try.func16, Try.ntmps16
  go_wp2_with fail
  refine CC.out.mono ?_
  rintro e w2 ⟨rfl, hb2, hm2⟩
  have HB2 := Lib.hid (HB.out.trans hb2)
  have HM2 := Lib.hid hm2
  clear hb2 hm2
  go_wp2_with fail
  refine bodyPost_end (results_none rfl _ _ _) rfl ?_
  exact ⟨rfl, HB2.out, HM2.out⟩

set_option maxRecDepth 100000 in
set_option maxHeartbeats 4000000 in
theorem put_29 (b : Nat) (v : Val) (cc : Nat → Value) (em x y : Int) (w : World) (h : Mk w b cc x y) (he : cc 53 = .int .i64 em) : Calls Try.prog 16 #[.pointer (some ⟨b, 0, none⟩), .int .i64 29, vlV v] w (PutIs w b (putF cc 29 v em x y) x y) := by
  unfold PutIs
  have hx0 := heap_alloc_new w (.cells (vlB v) 34)
  have hbw := (below_one7h w (.cells (vlB v) 34))
  have hm0 := h.below hbw
  have hb0 : Below b w (w.alloc (.cells (vlB v) 34)) := hbw.mono (Nat.le_of_lt h.lt)
  have C0 : ∀ W, Mk W b cc x y → Calls Try.prog 31 #[.pointer (some ⟨b, 0, none⟩), .int .i64 29, vlV v] W (PutIs W b (putF cc 29 v em x y) x y) := fun W hW => flex_29 b v cc em x y W hW he
  unfold PutIs at C0
  obtain ⟨c2, hc2⟩ : ∃ c2, putF cc 29 v em x y = c2 := ⟨_, rfl⟩
  rw [hc2] at C0 ⊢
  clear hc2
  unfold vlV vlB at *
  obtain ⟨k, n, d, nm⟩ := v
  simp only at hx0 hm0 hb0 C0 ⊢
  generalize hW : w.alloc (.cells #[.int .i64 k, .int .i64 n, .int .i64 d, .string ⟨nm.toArray⟩] 34) = W at *
  have d0 : W.cell? ⟨w.heap.size, 0, none⟩ = some (.int .i64 k) := cell_of hx0 rfl
  have d1 : W.cell? ⟨w.heap.size, 1, none⟩ = some (.int .i64 n) := cell_of hx0 rfl
  have d2 : W.cell? ⟨w.heap.size, 2, none⟩ = some (.int .i64 d) := cell_of hx0 rfl
  have d3 : W.cell? ⟨w.heap.size, 3, none⟩ = some (.string ⟨nm.toArray⟩) := cell_of hx0 rfl
  have HM := Lib.hid hm0
  have HB := Lib.hid hb0
  have CC := Lib.hid (C0 W HM.out)
  clear C0
  clear h he hx0 hm0 hb0 hbw
  go_enter Try.func16, Try.ntmps16
  go_wp2_with fail
  refine CC.out.mono ?_
  rintro e w2 ⟨rfl, hb2, hm2⟩
  have HB2 := Lib.hid (HB.out.trans hb2)
  have HM2 := Lib.hid hm2
  clear hb2 hm2
  go_wp2_with fail
  refine bodyPost_end (results_none rfl _ _ _) rfl ?_
  exact ⟨rfl, HB2.out, HM2.out⟩

set_option maxRecDepth 100000 in
set_option maxHeartbeats 4000000 in
theorem put_30 (b : Nat) (v : Val) (cc : Nat → Value) (em x y : Int) (w : World) (h : Mk w b cc x y) (he : cc 53 = .int .i64 em) : Calls Try.prog 16 #[.pointer (some ⟨b, 0, none⟩), .int .i64 30, vlV v] w (PutIs w b (putF cc 30 v em x y) x y) := by
  unfold PutIs
  have hx0 := heap_alloc_new w (.cells (vlB v) 34)
  have hbw := (below_one7h w (.cells (vlB v) 34))
  have hm0 := h.below hbw
  have hb0 : Below b w (w.alloc (.cells (vlB v) 34)) := hbw.mono (Nat.le_of_lt h.lt)
  have C0 : ∀ W, Mk W b cc x y → Calls Try.prog 31 #[.pointer (some ⟨b, 0, none⟩), .int .i64 30, vlV v] W (PutIs W b (putF cc 30 v em x y) x y) := fun W hW => flex_30 b v cc em x y W hW he
  unfold PutIs at C0
  obtain ⟨c2, hc2⟩ : ∃ c2, putF cc 30 v em x y = c2 := ⟨_, rfl⟩
  rw [hc2] at C0 ⊢
  clear hc2
  unfold vlV vlB at *
  obtain ⟨k, n, d, nm⟩ := v
  simp only at hx0 hm0 hb0 C0 ⊢
  generalize hW : w.alloc (.cells #[.int .i64 k, .int .i64 n, .int .i64 d, .string ⟨nm.toArray⟩] 34) = W at *
  have d0 : W.cell? ⟨w.heap.size, 0, none⟩ = some (.int .i64 k) := cell_of hx0 rfl
  have d1 : W.cell? ⟨w.heap.size, 1, none⟩ = some (.int .i64 n) := cell_of hx0 rfl
  have d2 : W.cell? ⟨w.heap.size, 2, none⟩ = some (.int .i64 d) := cell_of hx0 rfl
  have d3 : W.cell? ⟨w.heap.size, 3, none⟩ = some (.string ⟨nm.toArray⟩) := cell_of hx0 rfl
  have HM := Lib.hid hm0
  have HB := Lib.hid hb0
  have CC := Lib.hid (C0 W HM.out)
  clear C0
  clear h he hx0 hm0 hb0 hbw
  go_enter Try.func16, Try.ntmps16
  go_wp2_with fail
  refine CC.out.mono ?_
  rintro e w2 ⟨rfl, hb2, hm2⟩
  have HB2 := Lib.hid (HB.out.trans hb2)
  have HM2 := Lib.hid hm2
  clear hb2 hm2
  go_wp2_with fail
  refine bodyPost_end (results_none rfl _ _ _) rfl ?_
  exact ⟨rfl, HB2.out, HM2.out⟩

set_option maxRecDepth 100000 in
set_option maxHeartbeats 4000000 in
theorem put_31 (b : Nat) (v : Val) (cc : Nat → Value) (em x y : Int) (w : World) (h : Mk w b cc x y) (he : cc 53 = .int .i64 em) : Calls Try.prog 16 #[.pointer (some ⟨b, 0, none⟩), .int .i64 31, vlV v] w (PutIs w b (putF cc 31 v em x y) x y) := by
  unfold PutIs
  have hx0 := heap_alloc_new w (.cells (vlB v) 34)
  have hbw := (below_one7h w (.cells (vlB v) 34))
  have hm0 := h.below hbw
  have hb0 : Below b w (w.alloc (.cells (vlB v) 34)) := hbw.mono (Nat.le_of_lt h.lt)
  have C0 : ∀ W, Mk W b cc x y → Calls Try.prog 31 #[.pointer (some ⟨b, 0, none⟩), .int .i64 31, vlV v] W (PutIs W b (putF cc 31 v em x y) x y) := fun W hW => flex_31 b v cc em x y W hW he
  unfold PutIs at C0
  obtain ⟨c2, hc2⟩ : ∃ c2, putF cc 31 v em x y = c2 := ⟨_, rfl⟩
  rw [hc2] at C0 ⊢
  clear hc2
  unfold vlV vlB at *
  obtain ⟨k, n, d, nm⟩ := v
  simp only at hx0 hm0 hb0 C0 ⊢
  generalize hW : w.alloc (.cells #[.int .i64 k, .int .i64 n, .int .i64 d, .string ⟨nm.toArray⟩] 34) = W at *
  have d0 : W.cell? ⟨w.heap.size, 0, none⟩ = some (.int .i64 k) := cell_of hx0 rfl
  have d1 : W.cell? ⟨w.heap.size, 1, none⟩ = some (.int .i64 n) := cell_of hx0 rfl
  have d2 : W.cell? ⟨w.heap.size, 2, none⟩ = some (.int .i64 d) := cell_of hx0 rfl
  have d3 : W.cell? ⟨w.heap.size, 3, none⟩ = some (.string ⟨nm.toArray⟩) := cell_of hx0 rfl
  have HM := Lib.hid hm0
  have HB := Lib.hid hb0
  have CC := Lib.hid (C0 W HM.out)
  clear C0
  clear h he hx0 hm0 hb0 hbw
  go_enter Try.func16, Try.ntmps16
  go_wp2_with fail
  refine CC.out.mono ?_
  rintro e w2 ⟨rfl, hb2, hm2⟩
  have HB2 := Lib.hid (HB.out.trans hb2)
  have HM2 := Lib.hid hm2
  clear hb2 hm2
  go_wp2_with fail
  refine bodyPost_end (results_none rfl _ _ _) rfl ?_
  exact ⟨rfl, HB2.out, HM2.out⟩

set_option maxRecDepth 100000 in
set_option maxHeartbeats 4000000 in
theorem put_32 (b : Nat) (v : Val) (cc : Nat → Value) (em x y : Int) (w : World) (h : Mk w b cc x y) (he : cc 53 = .int .i64 em) : Calls Try.prog 16 #[.pointer (some ⟨b, 0, none⟩), .int .i64 32, vlV v] w (PutIs w b (putF cc 32 v em x y) x y) := by
  unfold PutIs
  have hx0 := heap_alloc_new w (.cells (vlB v) 34)
  have hbw := (below_one7h w (.cells (vlB v) 34))
  have hm0 := h.below hbw
  have hb0 : Below b w (w.alloc (.cells (vlB v) 34)) := hbw.mono (Nat.le_of_lt h.lt)
  have C0 : ∀ W, Mk W b cc x y → Calls Try.prog 31 #[.pointer (some ⟨b, 0, none⟩), .int .i64 32, vlV v] W (PutIs W b (putF cc 32 v em x y) x y) := fun W hW => flex_32 b v cc em x y W hW he
  unfold PutIs at C0
  obtain ⟨c2, hc2⟩ : ∃ c2, putF cc 32 v em x y = c2 := ⟨_, rfl⟩
  rw [hc2] at C0 ⊢
  clear hc2
  unfold vlV vlB at *
  obtain ⟨k, n, d, nm⟩ := v
  simp only at hx0 hm0 hb0 C0 ⊢
  generalize hW : w.alloc (.cells #[.int .i64 k, .int .i64 n, .int .i64 d, .string ⟨nm.toArray⟩] 34) = W at *
  have d0 : W.cell? ⟨w.heap.size, 0, none⟩ = some (.int .i64 k) := cell_of hx0 rfl
  have d1 : W.cell? ⟨w.heap.size, 1, none⟩ = some (.int .i64 n) := cell_of hx0 rfl
  have d2 : W.cell? ⟨w.heap.size, 2, none⟩ = some (.int .i64 d) := cell_of hx0 rfl
  have d3 : W.cell? ⟨w.heap.size, 3, none⟩ = some (.string ⟨nm.toArray⟩) := cell_of hx0 rfl
  have HM := Lib.hid hm0
  have HB := Lib.hid hb0
  have CC := Lib.hid (C0 W HM.out)
  clear C0
  clear h he hx0 hm0 hb0 hbw
  go_enter Try.func16, Try.ntmps16
  go_wp2_with fail
  refine CC.out.mono ?_
  rintro e w2 ⟨rfl, hb2, hm2⟩
  have HB2 := Lib.hid (HB.out.trans hb2)
  have HM2 := Lib.hid hm2
  clear hb2 hm2
  go_wp2_with fail
  refine bodyPost_end (results_none rfl _ _ _) rfl ?_
  exact ⟨rfl, HB2.out, HM2.out⟩

set_option maxRecDepth 100000 in
set_option maxHeartbeats 4000000 in
theorem put_33 (b : Nat) (v : Val) (cc : Nat → Value) (em x y : Int) (w : World) (h : Mk w b cc x y) (he : cc 53 = .int .i64 em) : Calls Try.prog 16 #[.pointer (some ⟨b, 0, none⟩), .int .i64 33, vlV v] w (PutIs w b (putF cc 33 v em x y) x y) := by
  unfold PutIs
  have hx0 := heap_alloc_new w (.cells (vlB v) 34)
  have hbw := (below_one7h w (.cells (vlB v) 34))
  have hm0 := h.below hbw
  have hb0 : Below b w (w.alloc (.cells (vlB v) 34)) := hbw.mono (Nat.le_of_lt h.lt)
  have C0 : ∀ W, Mk W b cc x y → Calls Try.prog 31 #[.pointer (some ⟨b, 0, none⟩), .int .i64 33, vlV v] W (PutIs W b (putF cc 33 v em x y) x y) := fun W hW => flex_33 b v cc em x y W hW he
  unfold PutIs at C0
  obtain ⟨c2, hc2⟩ : ∃ c2, putF cc 33 v em x y = c2 := ⟨_, rfl⟩
  rw [hc2] at C0 ⊢
  clear hc2
  unfold vlV vlB at *
  obtain ⟨k, n, d, nm⟩ := v
  simp only at hx0 hm0 hb0 C0 ⊢
  generalize hW : w.alloc (.cells #[.int .i64 k, .int .i64 n, .int .i64 d, .string ⟨nm.toArray⟩] 34) = W at *
  have d0 : W.cell? ⟨w.heap.size, 0, none⟩ = some (.int .i64 k) := cell_of hx0 rfl
  have d1 : W.cell? ⟨w.heap.size, 1, none⟩ = some (.int .i64 n) := cell_of hx0 rfl
  have d2 : W.cell? ⟨w.heap.size, 2, none⟩ = some (.int .i64 d) := cell_of hx0 rfl
  have d3 : W.cell? ⟨w.heap.size, 3, none⟩ = some (.string ⟨nm.toArray⟩) := cell_of hx0 rfl
  have HM := Lib.hid hm0
  have HB := Lib.hid hb0
  have CC := Lib.hid (C0 W HM.out)
  clear C0
  clear h he hx0 hm0 hb0 hbw
  go_enter Try.func16, Try.ntmps16
  go_wp2_with fail
  refine CC.out.mono ?_
  rintro e w2 ⟨rfl, hb2, hm2⟩
  have HB2 := Lib.hid (HB.out.trans hb2)
  have HM2 := Lib.hid hm2
  clear hb2 hm2
  go_wp2_with fail
  refine bodyPost_end (results_none rfl _ _ _) rfl ?_
  exact ⟨rfl, HB2.out, HM2.out⟩

set_option maxRecDepth 100000 in
set_option maxHeartbeats 4000000 in
theorem put_36 (b : Nat) (v : Val) (cc : Nat → Value) (em x y : Int) (w : World) (h : Mk w b cc x y) (he : cc 53 = .int .i64 em) : Calls Try.prog 16 #[.pointer (some ⟨b, 0, none⟩), .int .i64 36, vlV v] w (PutIs w b (putF cc 36 v em x y) x y) := by
  unfold PutIs
  have hx0 := heap_alloc_new w (.cells (vlB v) 34)
  have hbw := (below_one7h w (.cells (vlB v) 34))
  have hm0 := h.below hbw
  have hb0 : Below b w (w.alloc (.cells (vlB v) 34)) := hbw.mono (Nat.le_of_lt h.lt)
  have C0 : ∀ W, Mk W b cc x y → Calls Try.prog 31 #[.pointer (some ⟨b, 0, none⟩), .int .i64 36, vlV v] W (PutIs W b (putF cc 36 v em x y) x y) := fun W hW => flex_36 b v cc em x y W hW he
  unfold PutIs at C0
  obtain ⟨c2, hc2⟩ : ∃ c2, putF cc 36 v em x y = c2 := ⟨_, rfl⟩
  rw [hc2] at C0 ⊢
  clear hc2
  unfold vlV vlB at *
  obtain ⟨k, n, d, nm⟩ := v
  simp only at hx0 hm0 hb0 C0 ⊢
  generalize hW : w.alloc (.cells #[.int .i64 k, .int .i64 n, .int .i64 d, .string ⟨nm.toArray⟩] 34) = W at *
  have d0 : W.cell? ⟨w.heap.size, 0, none⟩ = some (.int .i64 k) := cell_of hx0 rfl
  have d1 : W.cell? ⟨w.heap.size, 1, none⟩ = some (.int .i64 n) := cell_of hx0 rfl
  have d2 : W.cell? ⟨w.heap.size, 2, none⟩ = some (.int .i64 d) := cell_of hx0 rfl
  have d3 : W.cell? ⟨w.heap.size, 3, none⟩ = some (.string ⟨nm.toArray⟩) := cell_of hx0 rfl
  have HM := Lib.hid hm0
  have HB := Lib.hid hb0
  have CC := Lib.hid (C0 W HM.out)
  clear C0
  clear h he hx0 hm0 hb0 hbw
  go_enter Try.func16, Try.ntmps16
  go_wp2_with fail
  refine CC.out.mono ?_
  rintro e w2 ⟨rfl, hb2, hm2⟩
  have HB2 := Lib.hid (HB.out.trans hb2)
  have HM2 := Lib.hid hm2
  clear hb2 hm2
  go_wp2_with fail
  refine bodyPost_end (results_none rfl _ _ _) rfl ?_
  exact ⟨rfl, HB2.out, HM2.out⟩

theorem put17_any (k : Nat) (P : Int) (hP : P = (k : Int) + 1) (hk : k < 37) (b : Nat) (v : Val) (cc : Nat → Value) (em x y : Int) (w : World) (h : Mk w b cc x y) (he : cc 53 = .int .i64 em) (hn1 : -1073741824 ≤ v.n) (hn2 : v.n ≤ 1073741824) : Calls Try.prog 16 #[.pointer (some ⟨b, 0, none⟩), .int .i64 P, vlV v] w (PutIs w b (putF cc (k + 1) v em x y) x y) := by
  subst hP
  match k, hk with
  | 0, _ => exact put_1 b v cc em x y w h he
  | 1, _ => exact put_2 b v cc em x y w h he
  | 2, _ => exact put_3 b v cc em x y w h he
  | 3, _ => exact put_4 b v cc em x y w h he
  | 4, _ => exact put_5 b v cc em x y w h he
  | 5, _ => exact put_6 b v cc em x y w h he
  | 6, _ => exact put_7 b v cc em x y w h he
  | 7, _ => exact put_8 b v cc em x y w h he
  | 8, _ => exact put_9 b v cc em x y w h he
  | 9, _ => exact put_10 b v cc em x y w h he
  | 10, _ => exact put_11 b v cc em x y w h he
  | 11, _ => exact put_12 b v cc em x y w h he
  | 12, _ => exact put_13 b v cc em x y w h he
  | 13, _ => exact put_14 b v cc em x y w h he
  | 14, _ => exact put_15 b v cc em x y w h he
  | 15, _ => exact put_16 b v cc em x y w h he
  | 16, _ => exact put_17 b v cc em x y w h he
  | 17, _ => exact put_18 b v cc em x y w h he
  | 18, _ => exact put_19 b v cc em x y w h he
  | 19, _ => exact put_20 b v cc em x y w h he
  | 20, _ => exact put_21 b v cc em x y w h he
  | 21, _ => exact put_22 b v cc em x y w h he
  | 22, _ => exact put_23 b v cc em x y w h he
  | 23, _ => exact put_24 b v cc em x y w h he
  | 24, _ => exact put_25 b v cc em x y w h he
  | 25, _ => exact put_26 b v cc em x y w h he
  | 26, _ => exact put_27 b v cc em x y w h he hn1 hn2
  | 27, _ => exact put_28 b v cc em x y w h he
  | 28, _ => exact put_29 b v cc em x y w h he
  | 29, _ => exact put_30 b v cc em x y w h he
  | 30, _ => exact put_31 b v cc em x y w h he
  | 31, _ => exact put_32 b v cc em x y w h he
  | 32, _ => exact put_33 b v cc em x y w h he
  | 33, _ => exact put_34 b v cc em x y w h he
  | 34, _ => exact put_35 b v cc em x y w h he
  | 35, _ => exact put_36 b v cc em x y w h he
  | 36, _ => exact put_37 b v cc em x y w h he
  | n + 37, hk => exact absurd hk (by omega)
end Go.Proofs.Ytlngipglhlhhbaa
