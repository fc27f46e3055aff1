/- Layer 17: what is put into a maker. (Written by gen_stl5.py.) -/
import Derived.Test.YtlngipglhlhhbaaStlW5
namespace Go.Proofs.Ytlngipglhlhhbaa
open Go.RowKit TreN LexP FixP SynP ValP PropP FixM
set_option linter.unusedVariables false

set_option maxRecDepth 100000 in
set_option maxHeartbeats 4000000 in
theorem put_1 (b : Nat) (v : Val) (cc : Nat → Value) (em x y : Int) (w : World) (h : Mk w b cc x y) (he : cc 53 = .int .i64 em) : Calls Try.prog 16 #[.pointer (some ⟨b, 0, none⟩), .int .i64 1, vlV v] w (PutIs w b (putF cc 1 v em x y) x y) := by
  unfold PutIs
  have hx0 := heap_alloc_new w (.cells (vlB v) 34)
  have hbw := (below_one7h w (.cells (vlB v) 34))
  have hm0 := h.below hbw
  have hb0 : Below b w (w.alloc (.cells (vlB v) 34)) := hbw.mono (Nat.le_of_lt h.lt)
  obtain ⟨r, hr⟩ : ∃ r, placeS 1 v = r := ⟨_, rfl⟩
  have hu : outC 1 v em x y 0 = .int .i64 r := by rw [← hr]; rfl
  have C0 : ∀ W, Calls Try.prog 26 #[.int .i64 1, vlV v] W fun e w' => e = .returned (.int .i64 r) ∧ Below W.heap.size W w' := fun W => by rw [← hr]; exact place17_any 1 (by decide) v W
  have HU := Lib.hid hu
  clear hr hu
  unfold vlV vlB at *
  obtain ⟨k, n, d, nm⟩ := v
  simp only at hx0 hm0 hb0 HU C0 ⊢
  generalize hW : w.alloc (.cells #[.int .i64 k, .int .i64 n, .int .i64 d, .string ⟨nm.toArray⟩] 34) = W at *
  have d0 : W.cell? ⟨w.heap.size, 0, none⟩ = some (.int .i64 k) := cell_of hx0 rfl
  have d1 : W.cell? ⟨w.heap.size, 1, none⟩ = some (.int .i64 n) := cell_of hx0 rfl
  have d2 : W.cell? ⟨w.heap.size, 2, none⟩ = some (.int .i64 d) := cell_of hx0 rfl
  have d3 : W.cell? ⟨w.heap.size, 3, none⟩ = some (.string ⟨nm.toArray⟩) := cell_of hx0 rfl
  have HM := Lib.hid hm0
  have HB := Lib.hid hb0
  have CC := Lib.hid C0
  clear C0
  clear h he hx0 hm0 hb0 hbw
  go_enter Try.func16, Try.ntmps16
  go_wp2_with fail
  refine (CC.out _).mono ?_
  rintro e w2 ⟨rfl, hb2⟩
  have HM2 := Lib.hid (HM.out.below hb2)
  have HB2 := Lib.hid (HB.out.trans (hb2.mono (Nat.le_of_lt HM.out.lt)))
  clear hb2
  obtain ⟨s0, t0⟩ := HM2.out.at_ 0 (by decide)
  go_wp2_with fail
  refine bodyPost_end (results_none rfl _ _ _) rfl ?_
  exact ⟨rfl, HB2.out.setCell (p := ⟨b, 0, none⟩) (Nat.le_refl b) _, HM2.out.put1 1 (by decide) rfl _ _ HU.out⟩

set_option maxRecDepth 100000 in
set_option maxHeartbeats 4000000 in
theorem put_2 (b : Nat) (v : Val) (cc : Nat → Value) (em x y : Int) (w : World) (h : Mk w b cc x y) (he : cc 53 = .int .i64 em) : Calls Try.prog 16 #[.pointer (some ⟨b, 0, none⟩), .int .i64 2, vlV v] w (PutIs w b (putF cc 2 v em x y) x y) := by
  unfold PutIs
  have hx0 := heap_alloc_new w (.cells (vlB v) 34)
  have hbw := (below_one7h w (.cells (vlB v) 34))
  have hm0 := h.below hbw
  have hb0 : Below b w (w.alloc (.cells (vlB v) 34)) := hbw.mono (Nat.le_of_lt h.lt)
  have C0 : ∀ W, Calls Try.prog 21 #[vlV v] W fun e w' => e = .returned (.string ⟨(wordS v).toArray⟩) ∧ Below W.heap.size W w' := fun W => wordS_any v W
  obtain ⟨s, hs⟩ : ∃ s, wordS v = s := ⟨_, rfl⟩
  obtain ⟨r, hr⟩ : ∃ r, (s == [98, 111, 114, 100, 101, 114, 45, 98, 111, 120]) = r := ⟨_, rfl⟩
  have hu : outC 2 v em x y 0 = .bool r := by
    have e1 : outC 2 v em x y 0 = .bool (decide (wordS v = borT)) := rfl
    have e2 : decide (s = borT) = (s == [98, 111, 114, 100, 101, 114, 45, 98, 111, 120]) := by
      by_cases h : s = borT
      · rw [decide_eq_true h, h]; rfl
      · rw [decide_eq_false h]; exact (beq_eq_false_iff_ne.2 h).symm
    rw [e1, hs, e2, hr]
  rw [hs] at C0
  have HU := Lib.hid hu
  clear hs hu
  unfold vlV vlB at *
  obtain ⟨k, n, d, nm⟩ := v
  simp only at hx0 hm0 hb0 HU C0 ⊢
  generalize hW : w.alloc (.cells #[.int .i64 k, .int .i64 n, .int .i64 d, .string ⟨nm.toArray⟩] 34) = W at *
  have d0 : W.cell? ⟨w.heap.size, 0, none⟩ = some (.int .i64 k) := cell_of hx0 rfl
  have d1 : W.cell? ⟨w.heap.size, 1, none⟩ = some (.int .i64 n) := cell_of hx0 rfl
  have d2 : W.cell? ⟨w.heap.size, 2, none⟩ = some (.int .i64 d) := cell_of hx0 rfl
  have d3 : W.cell? ⟨w.heap.size, 3, none⟩ = some (.string ⟨nm.toArray⟩) := cell_of hx0 rfl
  have HM := Lib.hid hm0
  have HB := Lib.hid hb0
  have CC := Lib.hid C0
  clear C0
  clear h he hx0 hm0 hb0 hbw
  go_enter Try.func16, Try.ntmps16
  go_wp2_with fail
  refine (CC.out _).mono ?_
  rintro e w2 ⟨rfl, hb2⟩
  have HM2 := Lib.hid (HM.out.below hb2)
  have HB2 := Lib.hid (HB.out.trans (hb2.mono (Nat.le_of_lt HM.out.lt)))
  clear hb2
  obtain ⟨s0, t0⟩ := HM2.out.at_ 1 (by decide)
  go_wp2_with fail
  refine bodyPost_end (results_none rfl _ _ _) rfl ?_
  exact ⟨rfl, HB2.out.setCell (p := ⟨b, 1, none⟩) (Nat.le_refl b) _, HM2.out.put1 2 (by decide) rfl _ _ HU.out⟩

set_option maxRecDepth 100000 in
set_option maxHeartbeats 4000000 in
theorem put_3 (b : Nat) (v : Val) (cc : Nat → Value) (em x y : Int) (w : World) (h : Mk w b cc x y) (he : cc 53 = .int .i64 em) : Calls Try.prog 16 #[.pointer (some ⟨b, 0, none⟩), .int .i64 3, vlV v] w (PutIs w b (putF cc 3 v em x y) x y) := by
  unfold PutIs
  have hx0 := heap_alloc_new w (.cells (vlB v) 34)
  have hbw := (below_one7h w (.cells (vlB v) 34))
  have hm0 := h.below hbw
  have hb0 : Below b w (w.alloc (.cells (vlB v) 34)) := hbw.mono (Nat.le_of_lt h.lt)
  obtain ⟨r, hr⟩ : ∃ r, sizK1 v = r := ⟨_, rfl⟩
  obtain ⟨q, hq⟩ : ∃ q, sizN1 v (upS v em x y) = q := ⟨_, rfl⟩
  have hu0 : outC 3 v em x y 0 = .int .i64 r := by rw [← hr]; rfl
  have hu1 : outC 3 v em x y 1 = .int .i64 q := by rw [← hq]; rfl
  have C0 : ∀ W, Mb W b em x y → Calls Try.prog 27 #[vlV v, .func (.func 25) #[.pointer (some ⟨b, 0, none⟩)] #[]] W fun e w' => e = .returned (.agg #[.int .i64 r, .int .i64 q]) ∧ Below W.heap.size W w' := fun W hW => by rw [← hr, ← hq]; exact size_up b v em x y W hW
  have HU0 := Lib.hid hu0
  have HU1 := Lib.hid hu1
  clear hr hq hu0 hu1
  unfold vlV vlB at *
  obtain ⟨k, n, d, nm⟩ := v
  simp only at hx0 hm0 hb0 HU0 HU1 C0 ⊢
  generalize hW : w.alloc (.cells #[.int .i64 k, .int .i64 n, .int .i64 d, .string ⟨nm.toArray⟩] 34) = W at *
  have d0 : W.cell? ⟨w.heap.size, 0, none⟩ = some (.int .i64 k) := cell_of hx0 rfl
  have d1 : W.cell? ⟨w.heap.size, 1, none⟩ = some (.int .i64 n) := cell_of hx0 rfl
  have d2 : W.cell? ⟨w.heap.size, 2, none⟩ = some (.int .i64 d) := cell_of hx0 rfl
  have d3 : W.cell? ⟨w.heap.size, 3, none⟩ = some (.string ⟨nm.toArray⟩) := cell_of hx0 rfl
  have HM := Lib.hid hm0
  have HB := Lib.hid hb0
  have CC := Lib.hid (C0 W (HM.out.mb he))
  clear C0
  clear h he hx0 hm0 hb0 hbw
  go_enter Try.func16, Try.ntmps16
  go_wp2_with fail
  refine (CC.out).mono ?_
  rintro e w2 ⟨rfl, hb2⟩
  have HM2 := Lib.hid (HM.out.below hb2)
  have HB2 := Lib.hid (HB.out.trans (hb2.mono (Nat.le_of_lt HM.out.lt)))
  clear hb2
  obtain ⟨s0, t0⟩ := HM2.out.at_ 2 (by decide)
  obtain ⟨s1, t1⟩ := HM2.out.at_ 3 (by decide)
  go_wp2_with fail
  refine bodyPost_end (results_none rfl _ _ _) rfl ?_
  exact ⟨rfl, (HB2.out.setCell (p := ⟨b, 2, none⟩) (Nat.le_refl b) _).setCell (p := ⟨b, 3, none⟩) (Nat.le_refl b) _, HM2.out.put2 3 (by decide) rfl _ _ _ HU0.out HU1.out⟩

set_option maxRecDepth 100000 in
set_option maxHeartbeats 4000000 in
theorem put_4 (b : Nat) (v : Val) (cc : Nat → Value) (em x y : Int) (w : World) (h : Mk w b cc x y) (he : cc 53 = .int .i64 em) : Calls Try.prog 16 #[.pointer (some ⟨b, 0, none⟩), .int .i64 4, vlV v] w (PutIs w b (putF cc 4 v em x y) x y) := by
  unfold PutIs
  have hx0 := heap_alloc_new w (.cells (vlB v) 34)
  have hbw := (below_one7h w (.cells (vlB v) 34))
  have hm0 := h.below hbw
  have hb0 : Below b w (w.alloc (.cells (vlB v) 34)) := hbw.mono (Nat.le_of_lt h.lt)
  obtain ⟨r, hr⟩ : ∃ r, sizK1 v = r := ⟨_, rfl⟩
  obtain ⟨q, hq⟩ : ∃ q, sizN1 v (upS v em x y) = q := ⟨_, rfl⟩
  have hu0 : outC 4 v em x y 0 = .int .i64 r := by rw [← hr]; rfl
  have hu1 : outC 4 v em x y 1 = .int .i64 q := by rw [← hq]; rfl
  have C0 : ∀ W, Mb W b em x y → Calls Try.prog 27 #[vlV v, .func (.func 25) #[.pointer (some ⟨b, 0, none⟩)] #[]] W fun e w' => e = .returned (.agg #[.int .i64 r, .int .i64 q]) ∧ Below W.heap.size W w' := fun W hW => by rw [← hr, ← hq]; exact size_up b v em x y W hW
  have HU0 := Lib.hid hu0
  have HU1 := Lib.hid hu1
  clear hr hq hu0 hu1
  unfold vlV vlB at *
  obtain ⟨k, n, d, nm⟩ := v
  simp only at hx0 hm0 hb0 HU0 HU1 C0 ⊢
  generalize hW : w.alloc (.cells #[.int .i64 k, .int .i64 n, .int .i64 d, .string ⟨nm.toArray⟩] 34) = W at *
  have d0 : W.cell? ⟨w.heap.size, 0, none⟩ = some (.int .i64 k) := cell_of hx0 rfl
  have d1 : W.cell? ⟨w.heap.size, 1, none⟩ = some (.int .i64 n) := cell_of hx0 rfl
  have d2 : W.cell? ⟨w.heap.size, 2, none⟩ = some (.int .i64 d) := cell_of hx0 rfl
  have d3 : W.cell? ⟨w.heap.size, 3, none⟩ = some (.string ⟨nm.toArray⟩) := cell_of hx0 rfl
  have HM := Lib.hid hm0
  have HB := Lib.hid hb0
  have CC := Lib.hid (C0 W (HM.out.mb he))
  clear C0
  clear h he hx0 hm0 hb0 hbw
  go_enter Try.func16, Try.ntmps16
  go_wp2_with fail
  refine (CC.out).mono ?_
  rintro e w2 ⟨rfl, hb2⟩
  have HM2 := Lib.hid (HM.out.below hb2)
  have HB2 := Lib.hid (HB.out.trans (hb2.mono (Nat.le_of_lt HM.out.lt)))
  clear hb2
  obtain ⟨s0, t0⟩ := HM2.out.at_ 4 (by decide)
  obtain ⟨s1, t1⟩ := HM2.out.at_ 5 (by decide)
  go_wp2_with fail
  refine bodyPost_end (results_none rfl _ _ _) rfl ?_
  exact ⟨rfl, (HB2.out.setCell (p := ⟨b, 4, none⟩) (Nat.le_refl b) _).setCell (p := ⟨b, 5, none⟩) (Nat.le_refl b) _, HM2.out.put2 4 (by decide) rfl _ _ _ HU0.out HU1.out⟩

set_option maxRecDepth 100000 in
set_option maxHeartbeats 4000000 in
theorem put_5 (b : Nat) (v : Val) (cc : Nat → Value) (em x y : Int) (w : World) (h : Mk w b cc x y) (he : cc 53 = .int .i64 em) : Calls Try.prog 16 #[.pointer (some ⟨b, 0, none⟩), .int .i64 5, vlV v] w (PutIs w b (putF cc 5 v em x y) x y) := by
  unfold PutIs
  have hx0 := heap_alloc_new w (.cells (vlB v) 34)
  have hbw := (below_one7h w (.cells (vlB v) 34))
  have hm0 := h.below hbw
  have hb0 : Below b w (w.alloc (.cells (vlB v) 34)) := hbw.mono (Nat.le_of_lt h.lt)
  obtain ⟨r, hr⟩ : ∃ r, sizK1 v = r := ⟨_, rfl⟩
  obtain ⟨q, hq⟩ : ∃ q, sizN1 v (upS v em x y) = q := ⟨_, rfl⟩
  have hu0 : outC 5 v em x y 0 = .int .i64 r := by rw [← hr]; rfl
  have hu1 : outC 5 v em x y 1 = .int .i64 q := by rw [← hq]; rfl
  have C0 : ∀ W, Mb W b em x y → Calls Try.prog 27 #[vlV v, .func (.func 25) #[.pointer (some ⟨b, 0, none⟩)] #[]] W fun e w' => e = .returned (.agg #[.int .i64 r, .int .i64 q]) ∧ Below W.heap.size W w' := fun W hW => by rw [← hr, ← hq]; exact size_up b v em x y W hW
  have HU0 := Lib.hid hu0
  have HU1 := Lib.hid hu1
  clear hr hq hu0 hu1
  unfold vlV vlB at *
  obtain ⟨k, n, d, nm⟩ := v
  simp only at hx0 hm0 hb0 HU0 HU1 C0 ⊢
  generalize hW : w.alloc (.cells #[.int .i64 k, .int .i64 n, .int .i64 d, .string ⟨nm.toArray⟩] 34) = W at *
  have d0 : W.cell? ⟨w.heap.size, 0, none⟩ = some (.int .i64 k) := cell_of hx0 rfl
  have d1 : W.cell? ⟨w.heap.size, 1, none⟩ = some (.int .i64 n) := cell_of hx0 rfl
  have d2 : W.cell? ⟨w.heap.size, 2, none⟩ = some (.int .i64 d) := cell_of hx0 rfl
  have d3 : W.cell? ⟨w.heap.size, 3, none⟩ = some (.string ⟨nm.toArray⟩) := cell_of hx0 rfl
  have HM := Lib.hid hm0
  have HB := Lib.hid hb0
  have CC := Lib.hid (C0 W (HM.out.mb he))
  clear C0
  clear h he hx0 hm0 hb0 hbw
  go_enter Try.func16, Try.ntmps16
  go_wp2_with fail
  refine (CC.out).mono ?_
  rintro e w2 ⟨rfl, hb2⟩
  have HM2 := Lib.hid (HM.out.below hb2)
  have HB2 := Lib.hid (HB.out.trans (hb2.mono (Nat.le_of_lt HM.out.lt)))
  clear hb2
  obtain ⟨s0, t0⟩ := HM2.out.at_ 6 (by decide)
  obtain ⟨s1, t1⟩ := HM2.out.at_ 7 (by decide)
  go_wp2_with fail
  refine bodyPost_end (results_none rfl _ _ _) rfl ?_
  exact ⟨rfl, (HB2.out.setCell (p := ⟨b, 6, none⟩) (Nat.le_refl b) _).setCell (p := ⟨b, 7, none⟩) (Nat.le_refl b) _, HM2.out.put2 5 (by decide) rfl _ _ _ HU0.out HU1.out⟩

set_option maxRecDepth 100000 in
set_option maxHeartbeats 4000000 in
theorem put_6 (b : Nat) (v : Val) (cc : Nat → Value) (em x y : Int) (w : World) (h : Mk w b cc x y) (he : cc 53 = .int .i64 em) : Calls Try.prog 16 #[.pointer (some ⟨b, 0, none⟩), .int .i64 6, vlV v] w (PutIs w b (putF cc 6 v em x y) x y) := by
  unfold PutIs
  have hx0 := heap_alloc_new w (.cells (vlB v) 34)
  have hbw := (below_one7h w (.cells (vlB v) 34))
  have hm0 := h.below hbw
  have hb0 : Below b w (w.alloc (.cells (vlB v) 34)) := hbw.mono (Nat.le_of_lt h.lt)
  obtain ⟨r, hr⟩ : ∃ r, sizK1 v = r := ⟨_, rfl⟩
  obtain ⟨q, hq⟩ : ∃ q, sizN1 v (upS v em x y) = q := ⟨_, rfl⟩
  have hu0 : outC 6 v em x y 0 = .int .i64 r := by rw [← hr]; rfl
  have hu1 : outC 6 v em x y 1 = .int .i64 q := by rw [← hq]; rfl
  have C0 : ∀ W, Mb W b em x y → Calls Try.prog 27 #[vlV v, .func (.func 25) #[.pointer (some ⟨b, 0, none⟩)] #[]] W fun e w' => e = .returned (.agg #[.int .i64 r, .int .i64 q]) ∧ Below W.heap.size W w' := fun W hW => by rw [← hr, ← hq]; exact size_up b v em x y W hW
  have HU0 := Lib.hid hu0
  have HU1 := Lib.hid hu1
  clear hr hq hu0 hu1
  unfold vlV vlB at *
  obtain ⟨k, n, d, nm⟩ := v
  simp only at hx0 hm0 hb0 HU0 HU1 C0 ⊢
  generalize hW : w.alloc (.cells #[.int .i64 k, .int .i64 n, .int .i64 d, .string ⟨nm.toArray⟩] 34) = W at *
  have d0 : W.cell? ⟨w.heap.size, 0, none⟩ = some (.int .i64 k) := cell_of hx0 rfl
  have d1 : W.cell? ⟨w.heap.size, 1, none⟩ = some (.int .i64 n) := cell_of hx0 rfl
  have d2 : W.cell? ⟨w.heap.size, 2, none⟩ = some (.int .i64 d) := cell_of hx0 rfl
  have d3 : W.cell? ⟨w.heap.size, 3, none⟩ = some (.string ⟨nm.toArray⟩) := cell_of hx0 rfl
  have HM := Lib.hid hm0
  have HB := Lib.hid hb0
  have CC := Lib.hid (C0 W (HM.out.mb he))
  clear C0
  clear h he hx0 hm0 hb0 hbw
  go_enter Try.func16, Try.ntmps16
  go_wp2_with fail
  refine (CC.out).mono ?_
  rintro e w2 ⟨rfl, hb2⟩
  have HM2 := Lib.hid (HM.out.below hb2)
  have HB2 := Lib.hid (HB.out.trans (hb2.mono (Nat.le_of_lt HM.out.lt)))
  clear hb2
  obtain ⟨s0, t0⟩ := HM2.out.at_ 8 (by decide)
  obtain ⟨s1, t1⟩ := HM2.out.at_ 9 (by decide)
  go_wp2_with fail
  refine bodyPost_end (results_none rfl _ _ _) rfl ?_
  exact ⟨rfl, (HB2.out.setCell (p := ⟨b, 8, none⟩) (Nat.le_refl b) _).setCell (p := ⟨b, 9, none⟩) (Nat.le_refl b) _, HM2.out.put2 6 (by decide) rfl _ _ _ HU0.out HU1.out⟩

set_option maxRecDepth 100000 in
set_option maxHeartbeats 4000000 in
theorem put_7 (b : Nat) (v : Val) (cc : Nat → Value) (em x y : Int) (w : World) (h : Mk w b cc x y) (he : cc 53 = .int .i64 em) : Calls Try.prog 16 #[.pointer (some ⟨b, 0, none⟩), .int .i64 7, vlV v] w (PutIs w b (putF cc 7 v em x y) x y) := by
  unfold PutIs
  have hx0 := heap_alloc_new w (.cells (vlB v) 34)
  have hbw := (below_one7h w (.cells (vlB v) 34))
  have hm0 := h.below hbw
  have hb0 : Below b w (w.alloc (.cells (vlB v) 34)) := hbw.mono (Nat.le_of_lt h.lt)
  obtain ⟨r, hr⟩ : ∃ r, sizK1 v = r := ⟨_, rfl⟩
  obtain ⟨q, hq⟩ : ∃ q, sizN1 v (upS v em x y) = q := ⟨_, rfl⟩
  have hu0 : outC 7 v em x y 0 = .int .i64 r := by rw [← hr]; rfl
  have hu1 : outC 7 v em x y 1 = .int .i64 q := by rw [← hq]; rfl
  have C0 : ∀ W, Mb W b em x y → Calls Try.prog 27 #[vlV v, .func (.func 25) #[.pointer (some ⟨b, 0, none⟩)] #[]] W fun e w' => e = .returned (.agg #[.int .i64 r, .int .i64 q]) ∧ Below W.heap.size W w' := fun W hW => by rw [← hr, ← hq]; exact size_up b v em x y W hW
  have HU0 := Lib.hid hu0
  have HU1 := Lib.hid hu1
  clear hr hq hu0 hu1
  unfold vlV vlB at *
  obtain ⟨k, n, d, nm⟩ := v
  simp only at hx0 hm0 hb0 HU0 HU1 C0 ⊢
  generalize hW : w.alloc (.cells #[.int .i64 k, .int .i64 n, .int .i64 d, .string ⟨nm.toArray⟩] 34) = W at *
  have d0 : W.cell? ⟨w.heap.size, 0, none⟩ = some (.int .i64 k) := cell_of hx0 rfl
  have d1 : W.cell? ⟨w.heap.size, 1, none⟩ = some (.int .i64 n) := cell_of hx0 rfl
  have d2 : W.cell? ⟨w.heap.size, 2, none⟩ = some (.int .i64 d) := cell_of hx0 rfl
  have d3 : W.cell? ⟨w.heap.size, 3, none⟩ = some (.string ⟨nm.toArray⟩) := cell_of hx0 rfl
  have HM := Lib.hid hm0
  have HB := Lib.hid hb0
  have CC := Lib.hid (C0 W (HM.out.mb he))
  clear C0
  clear h he hx0 hm0 hb0 hbw
  go_enter Try.func16, Try.ntmps16
  go_wp2_with fail
  refine (CC.out).mono ?_
  rintro e w2 ⟨rfl, hb2⟩
  have HM2 := Lib.hid (HM.out.below hb2)
  have HB2 := Lib.hid (HB.out.trans (hb2.mono (Nat.le_of_lt HM.out.lt)))
  clear hb2
  obtain ⟨s0, t0⟩ := HM2.out.at_ 10 (by decide)
  obtain ⟨s1, t1⟩ := HM2.out.at_ 11 (by decide)
  go_wp2_with fail
  refine bodyPost_end (results_none rfl _ _ _) rfl ?_
  exact ⟨rfl, (HB2.out.setCell (p := ⟨b, 10, none⟩) (Nat.le_refl b) _).setCell (p := ⟨b, 11, none⟩) (Nat.le_refl b) _, HM2.out.put2 7 (by decide) rfl _ _ _ HU0.out HU1.out⟩

set_option maxRecDepth 100000 in
set_option maxHeartbeats 4000000 in
theorem put_8 (b : Nat) (v : Val) (cc : Nat → Value) (em x y : Int) (w : World) (h : Mk w b cc x y) (he : cc 53 = .int .i64 em) : Calls Try.prog 16 #[.pointer (some ⟨b, 0, none⟩), .int .i64 8, vlV v] w (PutIs w b (putF cc 8 v em x y) x y) := by
  unfold PutIs
  have hx0 := heap_alloc_new w (.cells (vlB v) 34)
  have hbw := (below_one7h w (.cells (vlB v) 34))
  have hm0 := h.below hbw
  have hb0 : Below b w (w.alloc (.cells (vlB v) 34)) := hbw.mono (Nat.le_of_lt h.lt)
  obtain ⟨r, hr⟩ : ∃ r, sizK1 v = r := ⟨_, rfl⟩
  obtain ⟨q, hq⟩ : ∃ q, sizN1 v (upS v em x y) = q := ⟨_, rfl⟩
  have hu0 : outC 8 v em x y 0 = .int .i64 r := by rw [← hr]; rfl
  have hu1 : outC 8 v em x y 1 = .int .i64 q := by rw [← hq]; rfl
  have C0 : ∀ W, Mb W b em x y → Calls Try.prog 27 #[vlV v, .func (.func 25) #[.pointer (some ⟨b, 0, none⟩)] #[]] W fun e w' => e = .returned (.agg #[.int .i64 r, .int .i64 q]) ∧ Below W.heap.size W w' := fun W hW => by rw [← hr, ← hq]; exact size_up b v em x y W hW
  have HU0 := Lib.hid hu0
  have HU1 := Lib.hid hu1
  clear hr hq hu0 hu1
  unfold vlV vlB at *
  obtain ⟨k, n, d, nm⟩ := v
  simp only at hx0 hm0 hb0 HU0 HU1 C0 ⊢
  generalize hW : w.alloc (.cells #[.int .i64 k, .int .i64 n, .int .i64 d, .string ⟨nm.toArray⟩] 34) = W at *
  have d0 : W.cell? ⟨w.heap.size, 0, none⟩ = some (.int .i64 k) := cell_of hx0 rfl
  have d1 : W.cell? ⟨w.heap.size, 1, none⟩ = some (.int .i64 n) := cell_of hx0 rfl
  have d2 : W.cell? ⟨w.heap.size, 2, none⟩ = some (.int .i64 d) := cell_of hx0 rfl
  have d3 : W.cell? ⟨w.heap.size, 3, none⟩ = some (.string ⟨nm.toArray⟩) := cell_of hx0 rfl
  have HM := Lib.hid hm0
  have HB := Lib.hid hb0
  have CC := Lib.hid (C0 W (HM.out.mb he))
  clear C0
  clear h he hx0 hm0 hb0 hbw
  go_enter Try.func16, Try.ntmps16
  go_wp2_with fail
  refine (CC.out).mono ?_
  rintro e w2 ⟨rfl, hb2⟩
  have HM2 := Lib.hid (HM.out.below hb2)
  have HB2 := Lib.hid (HB.out.trans (hb2.mono (Nat.le_of_lt HM.out.lt)))
  clear hb2
  obtain ⟨s0, t0⟩ := HM2.out.at_ 12 (by decide)
  obtain ⟨s1, t1⟩ := HM2.out.at_ 13 (by decide)
  go_wp2_with fail
  refine bodyPost_end (results_none rfl _ _ _) rfl ?_
  exact ⟨rfl, (HB2.out.setCell (p := ⟨b, 12, none⟩) (Nat.le_refl b) _).setCell (p := ⟨b, 13, none⟩) (Nat.le_refl b) _, HM2.out.put2 8 (by decide) rfl _ _ _ HU0.out HU1.out⟩

set_option maxRecDepth 100000 in
set_option maxHeartbeats 4000000 in
theorem put_9 (b : Nat) (v : Val) (cc : Nat → Value) (em x y : Int) (w : World) (h : Mk w b cc x y) (he : cc 53 = .int .i64 em) : Calls Try.prog 16 #[.pointer (some ⟨b, 0, none⟩), .int .i64 9, vlV v] w (PutIs w b (putF cc 9 v em x y) x y) := by
  unfold PutIs
  have hx0 := heap_alloc_new w (.cells (vlB v) 34)
  have hbw := (below_one7h w (.cells (vlB v) 34))
  have hm0 := h.below hbw
  have hb0 : Below b w (w.alloc (.cells (vlB v) 34)) := hbw.mono (Nat.le_of_lt h.lt)
  obtain ⟨r, hr⟩ : ∃ r, sizK1 v = r := ⟨_, rfl⟩
  obtain ⟨q, hq⟩ : ∃ q, sizN1 v (msS v em x y) = q := ⟨_, rfl⟩
  have hu0 : outC 9 v em x y 0 = .int .i64 r := by rw [← hr]; rfl
  have hu1 : outC 9 v em x y 1 = .int .i64 q := by rw [← hq]; rfl
  have C0 : ∀ W, Mb W b em x y → Calls Try.prog 27 #[vlV v, .func (.func 28) #[.pointer (some ⟨b, 0, none⟩)] #[]] W fun e w' => e = .returned (.agg #[.int .i64 r, .int .i64 q]) ∧ Below W.heap.size W w' := fun W hW => by rw [← hr, ← hq]; exact size_ms b v em x y W hW
  have HU0 := Lib.hid hu0
  have HU1 := Lib.hid hu1
  clear hr hq hu0 hu1
  unfold vlV vlB at *
  obtain ⟨k, n, d, nm⟩ := v
  simp only at hx0 hm0 hb0 HU0 HU1 C0 ⊢
  generalize hW : w.alloc (.cells #[.int .i64 k, .int .i64 n, .int .i64 d, .string ⟨nm.toArray⟩] 34) = W at *
  have d0 : W.cell? ⟨w.heap.size, 0, none⟩ = some (.int .i64 k) := cell_of hx0 rfl
  have d1 : W.cell? ⟨w.heap.size, 1, none⟩ = some (.int .i64 n) := cell_of hx0 rfl
  have d2 : W.cell? ⟨w.heap.size, 2, none⟩ = some (.int .i64 d) := cell_of hx0 rfl
  have d3 : W.cell? ⟨w.heap.size, 3, none⟩ = some (.string ⟨nm.toArray⟩) := cell_of hx0 rfl
  have HM := Lib.hid hm0
  have HB := Lib.hid hb0
  have CC0 := Lib.hid C0
  have HMB := Lib.hid (HM.out.mb he).drewY
  have HBD : Hid (Below b w W.drew) := HB.out.drew
  clear C0
  clear h he hx0 hm0 hb0 hbw
  go_enter Try.func16, Try.ntmps16
  go_wp2_with fail
  go_region_with (go_at_call 27; refine (CC0.out _ HMB.out).mono ?_; rintro e w2 ⟨rfl, hb2⟩; have HM2 := Lib.hid (HM.out.drewY.below hb2); have HB2 := Lib.hid (HBD.out.trans (hb2.mono (Nat.le_of_lt HM.out.lt))); clear hb2; obtain ⟨s0, t0⟩ := HM2.out.at_ 14 (by decide); obtain ⟨s1, t1⟩ := HM2.out.at_ 15 (by decide))
  all_goals
    go_wp2_with fail
    refine bodyPost_end (results_none rfl _ _ _) rfl ?_
    exact ⟨rfl, (HB2.out.setCell (p := ⟨b, 14, none⟩) (Nat.le_refl b) _).setCell (p := ⟨b, 15, none⟩) (Nat.le_refl b) _, HM2.out.put2 9 (by decide) rfl _ _ _ HU0.out HU1.out⟩

set_option maxRecDepth 100000 in
set_option maxHeartbeats 4000000 in
theorem put_10 (b : Nat) (v : Val) (cc : Nat → Value) (em x y : Int) (w : World) (h : Mk w b cc x y) (he : cc 53 = .int .i64 em) : Calls Try.prog 16 #[.pointer (some ⟨b, 0, none⟩), .int .i64 10, vlV v] w (PutIs w b (putF cc 10 v em x y) x y) := by
  unfold PutIs
  have hx0 := heap_alloc_new w (.cells (vlB v) 34)
  have hbw := (below_one7h w (.cells (vlB v) 34))
  have hm0 := h.below hbw
  have hb0 : Below b w (w.alloc (.cells (vlB v) 34)) := hbw.mono (Nat.le_of_lt h.lt)
  obtain ⟨r, hr⟩ : ∃ r, sizK1 v = r := ⟨_, rfl⟩
  obtain ⟨q, hq⟩ : ∃ q, sizN1 v (msS v em x y) = q := ⟨_, rfl⟩
  have hu0 : outC 10 v em x y 0 = .int .i64 r := by rw [← hr]; rfl
  have hu1 : outC 10 v em x y 1 = .int .i64 q := by rw [← hq]; rfl
  have C0 : ∀ W, Mb W b em x y → Calls Try.prog 27 #[vlV v, .func (.func 28) #[.pointer (some ⟨b, 0, none⟩)] #[]] W fun e w' => e = .returned (.agg #[.int .i64 r, .int .i64 q]) ∧ Below W.heap.size W w' := fun W hW => by rw [← hr, ← hq]; exact size_ms b v em x y W hW
  have HU0 := Lib.hid hu0
  have HU1 := Lib.hid hu1
  clear hr hq hu0 hu1
  unfold vlV vlB at *
  obtain ⟨k, n, d, nm⟩ := v
  simp only at hx0 hm0 hb0 HU0 HU1 C0 ⊢
  generalize hW : w.alloc (.cells #[.int .i64 k, .int .i64 n, .int .i64 d, .string ⟨nm.toArray⟩] 34) = W at *
  have d0 : W.cell? ⟨w.heap.size, 0, none⟩ = some (.int .i64 k) := cell_of hx0 rfl
  have d1 : W.cell? ⟨w.heap.size, 1, none⟩ = some (.int .i64 n) := cell_of hx0 rfl
  have d2 : W.cell? ⟨w.heap.size, 2, none⟩ = some (.int .i64 d) := cell_of hx0 rfl
  have d3 : W.cell? ⟨w.heap.size, 3, none⟩ = some (.string ⟨nm.toArray⟩) := cell_of hx0 rfl
  have HM := Lib.hid hm0
  have HB := Lib.hid hb0
  have CC0 := Lib.hid C0
  have HMB := Lib.hid (HM.out.mb he).drewY
  have HBD : Hid (Below b w W.drew) := HB.out.drew
  clear C0
  clear h he hx0 hm0 hb0 hbw
  go_enter Try.func16, Try.ntmps16
  go_wp2_with fail
  go_region_with (go_at_call 27; refine (CC0.out _ HMB.out).mono ?_; rintro e w2 ⟨rfl, hb2⟩; have HM2 := Lib.hid (HM.out.drewY.below hb2); have HB2 := Lib.hid (HBD.out.trans (hb2.mono (Nat.le_of_lt HM.out.lt))); clear hb2; obtain ⟨s0, t0⟩ := HM2.out.at_ 16 (by decide); obtain ⟨s1, t1⟩ := HM2.out.at_ 17 (by decide))
  all_goals
    go_wp2_with fail
    refine bodyPost_end (results_none rfl _ _ _) rfl ?_
    exact ⟨rfl, (HB2.out.setCell (p := ⟨b, 16, none⟩) (Nat.le_refl b) _).setCell (p := ⟨b, 17, none⟩) (Nat.le_refl b) _, HM2.out.put2 10 (by decide) rfl _ _ _ HU0.out HU1.out⟩

set_option maxRecDepth 100000 in
set_option maxHeartbeats 4000000 in
theorem put_11 (b : Nat) (v : Val) (cc : Nat → Value) (em x y : Int) (w : World) (h : Mk w b cc x y) (he : cc 53 = .int .i64 em) : Calls Try.prog 16 #[.pointer (some ⟨b, 0, none⟩), .int .i64 11, vlV v] w (PutIs w b (putF cc 11 v em x y) x y) := by
  unfold PutIs
  have hx0 := heap_alloc_new w (.cells (vlB v) 34)
  have hbw := (below_one7h w (.cells (vlB v) 34))
  have hm0 := h.below hbw
  have hb0 : Below b w (w.alloc (.cells (vlB v) 34)) := hbw.mono (Nat.le_of_lt h.lt)
  obtain ⟨r, hr⟩ : ∃ r, sizK1 v = r := ⟨_, rfl⟩
  obtain ⟨q, hq⟩ : ∃ q, sizN1 v (msS v em x y) = q := ⟨_, rfl⟩
  have hu0 : outC 11 v em x y 0 = .int .i64 r := by rw [← hr]; rfl
  have hu1 : outC 11 v em x y 1 = .int .i64 q := by rw [← hq]; rfl
  have C0 : ∀ W, Mb W b em x y → Calls Try.prog 27 #[vlV v, .func (.func 28) #[.pointer (some ⟨b, 0, none⟩)] #[]] W fun e w' => e = .returned (.agg #[.int .i64 r, .int .i64 q]) ∧ Below W.heap.size W w' := fun W hW => by rw [← hr, ← hq]; exact size_ms b v em x y W hW
  have HU0 := Lib.hid hu0
  have HU1 := Lib.hid hu1
  clear hr hq hu0 hu1
  unfold vlV vlB at *
  obtain ⟨k, n, d, nm⟩ := v
  simp only at hx0 hm0 hb0 HU0 HU1 C0 ⊢
  generalize hW : w.alloc (.cells #[.int .i64 k, .int .i64 n, .int .i64 d, .string ⟨nm.toArray⟩] 34) = W at *
  have d0 : W.cell? ⟨w.heap.size, 0, none⟩ = some (.int .i64 k) := cell_of hx0 rfl
  have d1 : W.cell? ⟨w.heap.size, 1, none⟩ = some (.int .i64 n) := cell_of hx0 rfl
  have d2 : W.cell? ⟨w.heap.size, 2, none⟩ = some (.int .i64 d) := cell_of hx0 rfl
  have d3 : W.cell? ⟨w.heap.size, 3, none⟩ = some (.string ⟨nm.toArray⟩) := cell_of hx0 rfl
  have HM := Lib.hid hm0
  have HB := Lib.hid hb0
  have CC0 := Lib.hid C0
  have HMB := Lib.hid (HM.out.mb he).drewY
  have HBD : Hid (Below b w W.drew) := HB.out.drew
  clear C0
  clear h he hx0 hm0 hb0 hbw
  go_enter Try.func16, Try.ntmps16
  go_wp2_with fail
  go_region_with (go_at_call 27; refine (CC0.out _ HMB.out).mono ?_; rintro e w2 ⟨rfl, hb2⟩; have HM2 := Lib.hid (HM.out.drewY.below hb2); have HB2 := Lib.hid (HBD.out.trans (hb2.mono (Nat.le_of_lt HM.out.lt))); clear hb2; obtain ⟨s0, t0⟩ := HM2.out.at_ 18 (by decide); obtain ⟨s1, t1⟩ := HM2.out.at_ 19 (by decide))
  all_goals
    go_wp2_with fail
    refine bodyPost_end (results_none rfl _ _ _) rfl ?_
    exact ⟨rfl, (HB2.out.setCell (p := ⟨b, 18, none⟩) (Nat.le_refl b) _).setCell (p := ⟨b, 19, none⟩) (Nat.le_refl b) _, HM2.out.put2 11 (by decide) rfl _ _ _ HU0.out HU1.out⟩

set_option maxRecDepth 100000 in
set_option maxHeartbeats 4000000 in
theorem put_12 (b : Nat) (v : Val) (cc : Nat → Value) (em x y : Int) (w : World) (h : Mk w b cc x y) (he : cc 53 = .int .i64 em) : Calls Try.prog 16 #[.pointer (some ⟨b, 0, none⟩), .int .i64 12, vlV v] w (PutIs w b (putF cc 12 v em x y) x y) := by
  unfold PutIs
  have hx0 := heap_alloc_new w (.cells (vlB v) 34)
  have hbw := (below_one7h w (.cells (vlB v) 34))
  have hm0 := h.below hbw
  have hb0 : Below b w (w.alloc (.cells (vlB v) 34)) := hbw.mono (Nat.le_of_lt h.lt)
  obtain ⟨r, hr⟩ : ∃ r, sizK1 v = r := ⟨_, rfl⟩
  obtain ⟨q, hq⟩ : ∃ q, sizN1 v (msS v em x y) = q := ⟨_, rfl⟩
  have hu0 : outC 12 v em x y 0 = .int .i64 r := by rw [← hr]; rfl
  have hu1 : outC 12 v em x y 1 = .int .i64 q := by rw [← hq]; rfl
  have C0 : ∀ W, Mb W b em x y → Calls Try.prog 27 #[vlV v, .func (.func 28) #[.pointer (some ⟨b, 0, none⟩)] #[]] W fun e w' => e = .returned (.agg #[.int .i64 r, .int .i64 q]) ∧ Below W.heap.size W w' := fun W hW => by rw [← hr, ← hq]; exact size_ms b v em x y W hW
  have HU0 := Lib.hid hu0
  have HU1 := Lib.hid hu1
  clear hr hq hu0 hu1
  unfold vlV vlB at *
  obtain ⟨k, n, d, nm⟩ := v
  simp only at hx0 hm0 hb0 HU0 HU1 C0 ⊢
  generalize hW : w.alloc (.cells #[.int .i64 k, .int .i64 n, .int .i64 d, .string ⟨nm.toArray⟩] 34) = W at *
  have d0 : W.cell? ⟨w.heap.size, 0, none⟩ = some (.int .i64 k) := cell_of hx0 rfl
  have d1 : W.cell? ⟨w.heap.size, 1, none⟩ = some (.int .i64 n) := cell_of hx0 rfl
  have d2 : W.cell? ⟨w.heap.size, 2, none⟩ = some (.int .i64 d) := cell_of hx0 rfl
  have d3 : W.cell? ⟨w.heap.size, 3, none⟩ = some (.string ⟨nm.toArray⟩) := cell_of hx0 rfl
  have HM := Lib.hid hm0
  have HB := Lib.hid hb0
  have CC0 := Lib.hid C0
  have HMB := Lib.hid (HM.out.mb he).drewY
  have HBD : Hid (Below b w W.drew) := HB.out.drew
  clear C0
  clear h he hx0 hm0 hb0 hbw
  go_enter Try.func16, Try.ntmps16
  go_wp2_with fail
  go_region_with (go_at_call 27; refine (CC0.out _ HMB.out).mono ?_; rintro e w2 ⟨rfl, hb2⟩; have HM2 := Lib.hid (HM.out.drewY.below hb2); have HB2 := Lib.hid (HBD.out.trans (hb2.mono (Nat.le_of_lt HM.out.lt))); clear hb2; obtain ⟨s0, t0⟩ := HM2.out.at_ 20 (by decide); obtain ⟨s1, t1⟩ := HM2.out.at_ 21 (by decide))
  all_goals
    go_wp2_with fail
    refine bodyPost_end (results_none rfl _ _ _) rfl ?_
    exact ⟨rfl, (HB2.out.setCell (p := ⟨b, 20, none⟩) (Nat.le_refl b) _).setCell (p := ⟨b, 21, none⟩) (Nat.le_refl b) _, HM2.out.put2 12 (by decide) rfl _ _ _ HU0.out HU1.out⟩

set_option maxRecDepth 100000 in
set_option maxHeartbeats 4000000 in
theorem put_13 (b : Nat) (v : Val) (cc : Nat → Value) (em x y : Int) (w : World) (h : Mk w b cc x y) (he : cc 53 = .int .i64 em) : Calls Try.prog 16 #[.pointer (some ⟨b, 0, none⟩), .int .i64 13, vlV v] w (PutIs w b (putF cc 13 v em x y) x y) := by
  unfold PutIs
  have hx0 := heap_alloc_new w (.cells (vlB v) 34)
  have hbw := (below_one7h w (.cells (vlB v) 34))
  have hm0 := h.below hbw
  have hb0 : Below b w (w.alloc (.cells (vlB v) 34)) := hbw.mono (Nat.le_of_lt h.lt)
  obtain ⟨r, hr⟩ : ∃ r, sizK1 v = r := ⟨_, rfl⟩
  obtain ⟨q, hq⟩ : ∃ q, sizN1 v (upS v em x y) = q := ⟨_, rfl⟩
  have hu0 : outC 13 v em x y 0 = .int .i64 r := by rw [← hr]; rfl
  have hu1 : outC 13 v em x y 1 = .int .i64 q := by rw [← hq]; rfl
  have C0 : ∀ W, Mb W b em x y → Calls Try.prog 27 #[vlV v, .func (.func 25) #[.pointer (some ⟨b, 0, none⟩)] #[]] W fun e w' => e = .returned (.agg #[.int .i64 r, .int .i64 q]) ∧ Below W.heap.size W w' := fun W hW => by rw [← hr, ← hq]; exact size_up b v em x y W hW
  have HU0 := Lib.hid hu0
  have HU1 := Lib.hid hu1
  clear hr hq hu0 hu1
  unfold vlV vlB at *
  obtain ⟨k, n, d, nm⟩ := v
  simp only at hx0 hm0 hb0 HU0 HU1 C0 ⊢
  generalize hW : w.alloc (.cells #[.int .i64 k, .int .i64 n, .int .i64 d, .string ⟨nm.toArray⟩] 34) = W at *
  have d0 : W.cell? ⟨w.heap.size, 0, none⟩ = some (.int .i64 k) := cell_of hx0 rfl
  have d1 : W.cell? ⟨w.heap.size, 1, none⟩ = some (.int .i64 n) := cell_of hx0 rfl
  have d2 : W.cell? ⟨w.heap.size, 2, none⟩ = some (.int .i64 d) := cell_of hx0 rfl
  have d3 : W.cell? ⟨w.heap.size, 3, none⟩ = some (.string ⟨nm.toArray⟩) := cell_of hx0 rfl
  have HM := Lib.hid hm0
  have HB := Lib.hid hb0
  have CC0 := Lib.hid C0
  have HMB := Lib.hid (HM.out.mb he).drewY
  have HBD : Hid (Below b w W.drew) := HB.out.drew
  clear C0
  clear h he hx0 hm0 hb0 hbw
  go_enter Try.func16, Try.ntmps16
  go_wp2_with fail
  go_region_with (go_at_call 27; refine (CC0.out _ HMB.out).mono ?_; rintro e w2 ⟨rfl, hb2⟩; have HM2 := Lib.hid (HM.out.drewY.below hb2); have HB2 := Lib.hid (HBD.out.trans (hb2.mono (Nat.le_of_lt HM.out.lt))); clear hb2; obtain ⟨s0, t0⟩ := HM2.out.at_ 22 (by decide); obtain ⟨s1, t1⟩ := HM2.out.at_ 23 (by decide))
  all_goals
    go_wp2_with fail
    refine bodyPost_end (results_none rfl _ _ _) rfl ?_
    exact ⟨rfl, (HB2.out.setCell (p := ⟨b, 22, none⟩) (Nat.le_refl b) _).setCell (p := ⟨b, 23, none⟩) (Nat.le_refl b) _, HM2.out.put2 13 (by decide) rfl _ _ _ HU0.out HU1.out⟩

set_option maxRecDepth 100000 in
set_option maxHeartbeats 4000000 in
theorem put_14 (b : Nat) (v : Val) (cc : Nat → Value) (em x y : Int) (w : World) (h : Mk w b cc x y) (he : cc 53 = .int .i64 em) : Calls Try.prog 16 #[.pointer (some ⟨b, 0, none⟩), .int .i64 14, vlV v] w (PutIs w b (putF cc 14 v em x y) x y) := by
  unfold PutIs
  have hx0 := heap_alloc_new w (.cells (vlB v) 34)
  have hbw := (below_one7h w (.cells (vlB v) 34))
  have hm0 := h.below hbw
  have hb0 : Below b w (w.alloc (.cells (vlB v) 34)) := hbw.mono (Nat.le_of_lt h.lt)
  obtain ⟨r, hr⟩ : ∃ r, sizK1 v = r := ⟨_, rfl⟩
  obtain ⟨q, hq⟩ : ∃ q, sizN1 v (upS v em x y) = q := ⟨_, rfl⟩
  have hu0 : outC 14 v em x y 0 = .int .i64 r := by rw [← hr]; rfl
  have hu1 : outC 14 v em x y 1 = .int .i64 q := by rw [← hq]; rfl
  have C0 : ∀ W, Mb W b em x y → Calls Try.prog 27 #[vlV v, .func (.func 25) #[.pointer (some ⟨b, 0, none⟩)] #[]] W fun e w' => e = .returned (.agg #[.int .i64 r, .int .i64 q]) ∧ Below W.heap.size W w' := fun W hW => by rw [← hr, ← hq]; exact size_up b v em x y W hW
  have HU0 := Lib.hid hu0
  have HU1 := Lib.hid hu1
  clear hr hq hu0 hu1
  unfold vlV vlB at *
  obtain ⟨k, n, d, nm⟩ := v
  simp only at hx0 hm0 hb0 HU0 HU1 C0 ⊢
  generalize hW : w.alloc (.cells #[.int .i64 k, .int .i64 n, .int .i64 d, .string ⟨nm.toArray⟩] 34) = W at *
  have d0 : W.cell? ⟨w.heap.size, 0, none⟩ = some (.int .i64 k) := cell_of hx0 rfl
  have d1 : W.cell? ⟨w.heap.size, 1, none⟩ = some (.int .i64 n) := cell_of hx0 rfl
  have d2 : W.cell? ⟨w.heap.size, 2, none⟩ = some (.int .i64 d) := cell_of hx0 rfl
  have d3 : W.cell? ⟨w.heap.size, 3, none⟩ = some (.string ⟨nm.toArray⟩) := cell_of hx0 rfl
  have HM := Lib.hid hm0
  have HB := Lib.hid hb0
  have CC0 := Lib.hid C0
  have HMB := Lib.hid (HM.out.mb he).drewY
  have HBD : Hid (Below b w W.drew) := HB.out.drew
  clear C0
  clear h he hx0 hm0 hb0 hbw
  go_enter Try.func16, Try.ntmps16
  go_wp2_with fail
  go_region_with (go_at_call 27; refine (CC0.out _ HMB.out).mono ?_; rintro e w2 ⟨rfl, hb2⟩; have HM2 := Lib.hid (HM.out.drewY.below hb2); have HB2 := Lib.hid (HBD.out.trans (hb2.mono (Nat.le_of_lt HM.out.lt))); clear hb2; obtain ⟨s0, t0⟩ := HM2.out.at_ 24 (by decide); obtain ⟨s1, t1⟩ := HM2.out.at_ 25 (by decide))
  all_goals
    go_wp2_with fail
    refine bodyPost_end (results_none rfl _ _ _) rfl ?_
    exact ⟨rfl, (HB2.out.setCell (p := ⟨b, 24, none⟩) (Nat.le_refl b) _).setCell (p := ⟨b, 25, none⟩) (Nat.le_refl b) _, HM2.out.put2 14 (by decide) rfl _ _ _ HU0.out HU1.out⟩

set_option maxRecDepth 100000 in
set_option maxHeartbeats 4000000 in
theorem put_15 (b : Nat) (v : Val) (cc : Nat → Value) (em x y : Int) (w : World) (h : Mk w b cc x y) (he : cc 53 = .int .i64 em) : Calls Try.prog 16 #[.pointer (some ⟨b, 0, none⟩), .int .i64 15, vlV v] w (PutIs w b (putF cc 15 v em x y) x y) := by
  unfold PutIs
  have hx0 := heap_alloc_new w (.cells (vlB v) 34)
  have hbw := (below_one7h w (.cells (vlB v) 34))
  have hm0 := h.below hbw
  have hb0 : Below b w (w.alloc (.cells (vlB v) 34)) := hbw.mono (Nat.le_of_lt h.lt)
  obtain ⟨r, hr⟩ : ∃ r, sizK1 v = r := ⟨_, rfl⟩
  obtain ⟨q, hq⟩ : ∃ q, sizN1 v (upS v em x y) = q := ⟨_, rfl⟩
  have hu0 : outC 15 v em x y 0 = .int .i64 r := by rw [← hr]; rfl
  have hu1 : outC 15 v em x y 1 = .int .i64 q := by rw [← hq]; rfl
  have C0 : ∀ W, Mb W b em x y → Calls Try.prog 27 #[vlV v, .func (.func 25) #[.pointer (some ⟨b, 0, none⟩)] #[]] W fun e w' => e = .returned (.agg #[.int .i64 r, .int .i64 q]) ∧ Below W.heap.size W w' := fun W hW => by rw [← hr, ← hq]; exact size_up b v em x y W hW
  have HU0 := Lib.hid hu0
  have HU1 := Lib.hid hu1
  clear hr hq hu0 hu1
  unfold vlV vlB at *
  obtain ⟨k, n, d, nm⟩ := v
  simp only at hx0 hm0 hb0 HU0 HU1 C0 ⊢
  generalize hW : w.alloc (.cells #[.int .i64 k, .int .i64 n, .int .i64 d, .string ⟨nm.toArray⟩] 34) = W at *
  have d0 : W.cell? ⟨w.heap.size, 0, none⟩ = some (.int .i64 k) := cell_of hx0 rfl
  have d1 : W.cell? ⟨w.heap.size, 1, none⟩ = some (.int .i64 n) := cell_of hx0 rfl
  have d2 : W.cell? ⟨w.heap.size, 2, none⟩ = some (.int .i64 d) := cell_of hx0 rfl
  have d3 : W.cell? ⟨w.heap.size, 3, none⟩ = some (.string ⟨nm.toArray⟩) := cell_of hx0 rfl
  have HM := Lib.hid hm0
  have HB := Lib.hid hb0
  have CC0 := Lib.hid C0
  have HMB := Lib.hid (HM.out.mb he).drewY
  have HBD : Hid (Below b w W.drew) := HB.out.drew
  clear C0
  clear h he hx0 hm0 hb0 hbw
  go_enter Try.func16, Try.ntmps16
  go_wp2_with fail
  go_region_with (go_at_call 27; refine (CC0.out _ HMB.out).mono ?_; rintro e w2 ⟨rfl, hb2⟩; have HM2 := Lib.hid (HM.out.drewY.below hb2); have HB2 := Lib.hid (HBD.out.trans (hb2.mono (Nat.le_of_lt HM.out.lt))); clear hb2; obtain ⟨s0, t0⟩ := HM2.out.at_ 26 (by decide); obtain ⟨s1, t1⟩ := HM2.out.at_ 27 (by decide))
  all_goals
    go_wp2_with fail
    refine bodyPost_end (results_none rfl _ _ _) rfl ?_
    exact ⟨rfl, (HB2.out.setCell (p := ⟨b, 26, none⟩) (Nat.le_refl b) _).setCell (p := ⟨b, 27, none⟩) (Nat.le_refl b) _, HM2.out.put2 15 (by decide) rfl _ _ _ HU0.out HU1.out⟩

set_option maxRecDepth 100000 in
set_option maxHeartbeats 4000000 in
theorem put_16 (b : Nat) (v : Val) (cc : Nat → Value) (em x y : Int) (w : World) (h : Mk w b cc x y) (he : cc 53 = .int .i64 em) : Calls Try.prog 16 #[.pointer (some ⟨b, 0, none⟩), .int .i64 16, vlV v] w (PutIs w b (putF cc 16 v em x y) x y) := by
  unfold PutIs
  have hx0 := heap_alloc_new w (.cells (vlB v) 34)
  have hbw := (below_one7h w (.cells (vlB v) 34))
  have hm0 := h.below hbw
  have hb0 : Below b w (w.alloc (.cells (vlB v) 34)) := hbw.mono (Nat.le_of_lt h.lt)
  obtain ⟨r, hr⟩ : ∃ r, sizK1 v = r := ⟨_, rfl⟩
  obtain ⟨q, hq⟩ : ∃ q, sizN1 v (upS v em x y) = q := ⟨_, rfl⟩
  have hu0 : outC 16 v em x y 0 = .int .i64 r := by rw [← hr]; rfl
  have hu1 : outC 16 v em x y 1 = .int .i64 q := by rw [← hq]; rfl
  have C0 : ∀ W, Mb W b em x y → Calls Try.prog 27 #[vlV v, .func (.func 25) #[.pointer (some ⟨b, 0, none⟩)] #[]] W fun e w' => e = .returned (.agg #[.int .i64 r, .int .i64 q]) ∧ Below W.heap.size W w' := fun W hW => by rw [← hr, ← hq]; exact size_up b v em x y W hW
  have HU0 := Lib.hid hu0
  have HU1 := Lib.hid hu1
  clear hr hq hu0 hu1
  unfold vlV vlB at *
  obtain ⟨k, n, d, nm⟩ := v
  simp only at hx0 hm0 hb0 HU0 HU1 C0 ⊢
  generalize hW : w.alloc (.cells #[.int .i64 k, .int .i64 n, .int .i64 d, .string ⟨nm.toArray⟩] 34) = W at *
  have d0 : W.cell? ⟨w.heap.size, 0, none⟩ = some (.int .i64 k) := cell_of hx0 rfl
  have d1 : W.cell? ⟨w.heap.size, 1, none⟩ = some (.int .i64 n) := cell_of hx0 rfl
  have d2 : W.cell? ⟨w.heap.size, 2, none⟩ = some (.int .i64 d) := cell_of hx0 rfl
  have d3 : W.cell? ⟨w.heap.size, 3, none⟩ = some (.string ⟨nm.toArray⟩) := cell_of hx0 rfl
  have HM := Lib.hid hm0
  have HB := Lib.hid hb0
  have CC0 := Lib.hid C0
  have HMB := Lib.hid (HM.out.mb he).drewY
  have HBD : Hid (Below b w W.drew) := HB.out.drew
  clear C0
  clear h he hx0 hm0 hb0 hbw
  go_enter Try.func16, Try.ntmps16
  go_wp2_with fail
  go_region_with (go_at_call 27; refine (CC0.out _ HMB.out).mono ?_; rintro e w2 ⟨rfl, hb2⟩; have HM2 := Lib.hid (HM.out.drewY.below hb2); have HB2 := Lib.hid (HBD.out.trans (hb2.mono (Nat.le_of_lt HM.out.lt))); clear hb2; obtain ⟨s0, t0⟩ := HM2.out.at_ 28 (by decide); obtain ⟨s1, t1⟩ := HM2.out.at_ 29 (by decide))
  all_goals
    go_wp2_with fail
    refine bodyPost_end (results_none rfl _ _ _) rfl ?_
    exact ⟨rfl, (HB2.out.setCell (p := ⟨b, 28, none⟩) (Nat.le_refl b) _).setCell (p := ⟨b, 29, none⟩) (Nat.le_refl b) _, HM2.out.put2 16 (by decide) rfl _ _ _ HU0.out HU1.out⟩

set_option maxRecDepth 100000 in
set_option maxHeartbeats 4000000 in
theorem put_17 (b : Nat) (v : Val) (cc : Nat → Value) (em x y : Int) (w : World) (h : Mk w b cc x y) (he : cc 53 = .int .i64 em) : Calls Try.prog 16 #[.pointer (some ⟨b, 0, none⟩), .int .i64 17, vlV v] w (PutIs w b (putF cc 17 v em x y) x y) := by
  unfold PutIs
  have hx0 := heap_alloc_new w (.cells (vlB v) 34)
  have hbw := (below_one7h w (.cells (vlB v) 34))
  have hm0 := h.below hbw
  have hb0 : Below b w (w.alloc (.cells (vlB v) 34)) := hbw.mono (Nat.le_of_lt h.lt)
  obtain ⟨r, hr⟩ : ∃ r, upS v em x y = r := ⟨_, rfl⟩
  have hu : outC 17 v em x y 0 = .int .i64 r := by rw [← hr]; rfl
  have C0 : ∀ W, Mb W b em x y → Calls Try.prog 25 #[.pointer (some ⟨b, 0, none⟩), vlV v] W fun e w' => e = .returned (.int .i64 r) ∧ Below W.heap.size W w' := fun W hW => by rw [← hr]; exact up17_any b v em x y W hW
  have HU := Lib.hid hu
  clear hr hu
  unfold vlV vlB at *
  obtain ⟨k, n, d, nm⟩ := v
  simp only at hx0 hm0 hb0 HU C0 ⊢
  generalize hW : w.alloc (.cells #[.int .i64 k, .int .i64 n, .int .i64 d, .string ⟨nm.toArray⟩] 34) = W at *
  have d0 : W.cell? ⟨w.heap.size, 0, none⟩ = some (.int .i64 k) := cell_of hx0 rfl
  have d1 : W.cell? ⟨w.heap.size, 1, none⟩ = some (.int .i64 n) := cell_of hx0 rfl
  have d2 : W.cell? ⟨w.heap.size, 2, none⟩ = some (.int .i64 d) := cell_of hx0 rfl
  have d3 : W.cell? ⟨w.heap.size, 3, none⟩ = some (.string ⟨nm.toArray⟩) := cell_of hx0 rfl
  have HM := Lib.hid hm0
  have HB := Lib.hid hb0
  have CC0 := Lib.hid C0
  have HMB := Lib.hid (HM.out.mb he).drewY
  have HBD : Hid (Below b w W.drew) := HB.out.drew
  clear C0
  clear h he hx0 hm0 hb0 hbw
  go_enter Try.func16, Try.ntmps16
  go_wp2_with fail
  go_region_with (go_at_call 25; refine (CC0.out _ HMB.out).mono ?_; rintro e w2 ⟨rfl, hb2⟩; have HM2 := Lib.hid (HM.out.drewY.below hb2); have HB2 := Lib.hid (HBD.out.trans (hb2.mono (Nat.le_of_lt HM.out.lt))); clear hb2; obtain ⟨s0, t0⟩ := HM2.out.at_ 30 (by decide))
  all_goals
    go_wp2_with fail
    refine bodyPost_end (results_none rfl _ _ _) rfl ?_
    exact ⟨rfl, HB2.out.setCell (p := ⟨b, 30, none⟩) (Nat.le_refl b) _, HM2.out.put1 17 (by decide) rfl _ _ HU.out⟩

set_option maxRecDepth 100000 in
set_option maxHeartbeats 4000000 in
theorem put_18 (b : Nat) (v : Val) (cc : Nat → Value) (em x y : Int) (w : World) (h : Mk w b cc x y) (he : cc 53 = .int .i64 em) : Calls Try.prog 16 #[.pointer (some ⟨b, 0, none⟩), .int .i64 18, vlV v] w (PutIs w b (putF cc 18 v em x y) x y) := by
  unfold PutIs
  have hx0 := heap_alloc_new w (.cells (vlB v) 34)
  have hbw := (below_one7h w (.cells (vlB v) 34))
  have hm0 := h.below hbw
  have hb0 : Below b w (w.alloc (.cells (vlB v) 34)) := hbw.mono (Nat.le_of_lt h.lt)
  obtain ⟨r, hr⟩ : ∃ r, upS v em x y = r := ⟨_, rfl⟩
  have hu : outC 18 v em x y 0 = .int .i64 r := by rw [← hr]; rfl
  have C0 : ∀ W, Mb W b em x y → Calls Try.prog 25 #[.pointer (some ⟨b, 0, none⟩), vlV v] W fun e w' => e = .returned (.int .i64 r) ∧ Below W.heap.size W w' := fun W hW => by rw [← hr]; exact up17_any b v em x y W hW
  have HU := Lib.hid hu
  clear hr hu
  unfold vlV vlB at *
  obtain ⟨k, n, d, nm⟩ := v
  simp only at hx0 hm0 hb0 HU C0 ⊢
  generalize hW : w.alloc (.cells #[.int .i64 k, .int .i64 n, .int .i64 d, .string ⟨nm.toArray⟩] 34) = W at *
  have d0 : W.cell? ⟨w.heap.size, 0, none⟩ = some (.int .i64 k) := cell_of hx0 rfl
  have d1 : W.cell? ⟨w.heap.size, 1, none⟩ = some (.int .i64 n) := cell_of hx0 rfl
  have d2 : W.cell? ⟨w.heap.size, 2, none⟩ = some (.int .i64 d) := cell_of hx0 rfl
  have d3 : W.cell? ⟨w.heap.size, 3, none⟩ = some (.string ⟨nm.toArray⟩) := cell_of hx0 rfl
  have HM := Lib.hid hm0
  have HB := Lib.hid hb0
  have CC0 := Lib.hid C0
  have HMB := Lib.hid (HM.out.mb he).drewY
  have HBD : Hid (Below b w W.drew) := HB.out.drew
  clear C0
  clear h he hx0 hm0 hb0 hbw
  go_enter Try.func16, Try.ntmps16
  go_wp2_with fail
  go_region_with (go_at_call 25; refine (CC0.out _ HMB.out).mono ?_; rintro e w2 ⟨rfl, hb2⟩; have HM2 := Lib.hid (HM.out.drewY.below hb2); have HB2 := Lib.hid (HBD.out.trans (hb2.mono (Nat.le_of_lt HM.out.lt))); clear hb2; obtain ⟨s0, t0⟩ := HM2.out.at_ 31 (by decide))
  all_goals
    go_wp2_with fail
    refine bodyPost_end (results_none rfl _ _ _) rfl ?_
    exact ⟨rfl, HB2.out.setCell (p := ⟨b, 31, none⟩) (Nat.le_refl b) _, HM2.out.put1 18 (by decide) rfl _ _ HU.out⟩

set_option maxRecDepth 100000 in
set_option maxHeartbeats 4000000 in
theorem put_19 (b : Nat) (v : Val) (cc : Nat → Value) (em x y : Int) (w : World) (h : Mk w b cc x y) (he : cc 53 = .int .i64 em) : Calls Try.prog 16 #[.pointer (some ⟨b, 0, none⟩), .int .i64 19, vlV v] w (PutIs w b (putF cc 19 v em x y) x y) := by
  unfold PutIs
  have hx0 := heap_alloc_new w (.cells (vlB v) 34)
  have hbw := (below_one7h w (.cells (vlB v) 34))
  have hm0 := h.below hbw
  have hb0 : Below b w (w.alloc (.cells (vlB v) 34)) := hbw.mono (Nat.le_of_lt h.lt)
  obtain ⟨r, hr⟩ : ∃ r, upS v em x y = r := ⟨_, rfl⟩
  have hu : outC 19 v em x y 0 = .int .i64 r := by rw [← hr]; rfl
  have C0 : ∀ W, Mb W b em x y → Calls Try.prog 25 #[.pointer (some ⟨b, 0, none⟩), vlV v] W fun e w' => e = .returned (.int .i64 r) ∧ Below W.heap.size W w' := fun W hW => by rw [← hr]; exact up17_any b v em x y W hW
  have HU := Lib.hid hu
  clear hr hu
  unfold vlV vlB at *
  obtain ⟨k, n, d, nm⟩ := v
  simp only at hx0 hm0 hb0 HU C0 ⊢
  generalize hW : w.alloc (.cells #[.int .i64 k, .int .i64 n, .int .i64 d, .string ⟨nm.toArray⟩] 34) = W at *
  have d0 : W.cell? ⟨w.heap.size, 0, none⟩ = some (.int .i64 k) := cell_of hx0 rfl
  have d1 : W.cell? ⟨w.heap.size, 1, none⟩ = some (.int .i64 n) := cell_of hx0 rfl
  have d2 : W.cell? ⟨w.heap.size, 2, none⟩ = some (.int .i64 d) := cell_of hx0 rfl
  have d3 : W.cell? ⟨w.heap.size, 3, none⟩ = some (.string ⟨nm.toArray⟩) := cell_of hx0 rfl
  have HM := Lib.hid hm0
  have HB := Lib.hid hb0
  have CC0 := Lib.hid C0
  have HMB := Lib.hid (HM.out.mb he).drewY
  have HBD : Hid (Below b w W.drew) := HB.out.drew
  clear C0
  clear h he hx0 hm0 hb0 hbw
  go_enter Try.func16, Try.ntmps16
  go_wp2_with fail
  go_region_with (go_at_call 25; refine (CC0.out _ HMB.out).mono ?_; rintro e w2 ⟨rfl, hb2⟩; have HM2 := Lib.hid (HM.out.drewY.below hb2); have HB2 := Lib.hid (HBD.out.trans (hb2.mono (Nat.le_of_lt HM.out.lt))); clear hb2; obtain ⟨s0, t0⟩ := HM2.out.at_ 32 (by decide))
  all_goals
    go_wp2_with fail
    refine bodyPost_end (results_none rfl _ _ _) rfl ?_
    exact ⟨rfl, HB2.out.setCell (p := ⟨b, 32, none⟩) (Nat.le_refl b) _, HM2.out.put1 19 (by decide) rfl _ _ HU.out⟩

set_option maxRecDepth 100000 in
set_option maxHeartbeats 4000000 in
theorem put_20 (b : Nat) (v : Val) (cc : Nat → Value) (em x y : Int) (w : World) (h : Mk w b cc x y) (he : cc 53 = .int .i64 em) : Calls Try.prog 16 #[.pointer (some ⟨b, 0, none⟩), .int .i64 20, vlV v] w (PutIs w b (putF cc 20 v em x y) x y) := by
  unfold PutIs
  have hx0 := heap_alloc_new w (.cells (vlB v) 34)
  have hbw := (below_one7h w (.cells (vlB v) 34))
  have hm0 := h.below hbw
  have hb0 : Below b w (w.alloc (.cells (vlB v) 34)) := hbw.mono (Nat.le_of_lt h.lt)
  obtain ⟨r, hr⟩ : ∃ r, upS v em x y = r := ⟨_, rfl⟩
  have hu : outC 20 v em x y 0 = .int .i64 r := by rw [← hr]; rfl
  have C0 : ∀ W, Mb W b em x y → Calls Try.prog 25 #[.pointer (some ⟨b, 0, none⟩), vlV v] W fun e w' => e = .returned (.int .i64 r) ∧ Below W.heap.size W w' := fun W hW => by rw [← hr]; exact up17_any b v em x y W hW
  have HU := Lib.hid hu
  clear hr hu
  unfold vlV vlB at *
  obtain ⟨k, n, d, nm⟩ := v
  simp only at hx0 hm0 hb0 HU C0 ⊢
  generalize hW : w.alloc (.cells #[.int .i64 k, .int .i64 n, .int .i64 d, .string ⟨nm.toArray⟩] 34) = W at *
  have d0 : W.cell? ⟨w.heap.size, 0, none⟩ = some (.int .i64 k) := cell_of hx0 rfl
  have d1 : W.cell? ⟨w.heap.size, 1, none⟩ = some (.int .i64 n) := cell_of hx0 rfl
  have d2 : W.cell? ⟨w.heap.size, 2, none⟩ = some (.int .i64 d) := cell_of hx0 rfl
  have d3 : W.cell? ⟨w.heap.size, 3, none⟩ = some (.string ⟨nm.toArray⟩) := cell_of hx0 rfl
  have HM := Lib.hid hm0
  have HB := Lib.hid hb0
  have CC0 := Lib.hid C0
  have HMB := Lib.hid (HM.out.mb he).drewY
  have HBD : Hid (Below b w W.drew) := HB.out.drew
  clear C0
  clear h he hx0 hm0 hb0 hbw
  go_enter Try.func16, Try.ntmps16
  go_wp2_with fail
  go_region_with (go_at_call 25; refine (CC0.out _ HMB.out).mono ?_; rintro e w2 ⟨rfl, hb2⟩; have HM2 := Lib.hid (HM.out.drewY.below hb2); have HB2 := Lib.hid (HBD.out.trans (hb2.mono (Nat.le_of_lt HM.out.lt))); clear hb2; obtain ⟨s0, t0⟩ := HM2.out.at_ 33 (by decide))
  all_goals
    go_wp2_with fail
    refine bodyPost_end (results_none rfl _ _ _) rfl ?_
    exact ⟨rfl, HB2.out.setCell (p := ⟨b, 33, none⟩) (Nat.le_refl b) _, HM2.out.put1 20 (by decide) rfl _ _ HU.out⟩

set_option maxRecDepth 100000 in
set_option maxHeartbeats 4000000 in
theorem put_21 (b : Nat) (v : Val) (cc : Nat → Value) (em x y : Int) (w : World) (h : Mk w b cc x y) (he : cc 53 = .int .i64 em) : Calls Try.prog 16 #[.pointer (some ⟨b, 0, none⟩), .int .i64 21, vlV v] w (PutIs w b (putF cc 21 v em x y) x y) := by
  unfold PutIs
  have hx0 := heap_alloc_new w (.cells (vlB v) 34)
  have hbw := (below_one7h w (.cells (vlB v) 34))
  have hm0 := h.below hbw
  have hb0 : Below b w (w.alloc (.cells (vlB v) 34)) := hbw.mono (Nat.le_of_lt h.lt)
  obtain ⟨r, hr⟩ : ∃ r, ratN v = r := ⟨_, rfl⟩
  obtain ⟨q, hq⟩ : ∃ q, ratD v = q := ⟨_, rfl⟩
  have hu0 : outC 21 v em x y 0 = .int .i64 r := by rw [← hr]; rfl
  have hu1 : outC 21 v em x y 1 = .int .i64 q := by rw [← hq]; rfl
  have C0 : ∀ W, Calls Try.prog 29 #[vlV v] W fun e w' => e = .returned (.tuple #[.int .i64 r, .int .i64 q]) ∧ Below W.heap.size W w' := fun W => by rw [← hr, ← hq]; exact ratio17_any v W
  have HU0 := Lib.hid hu0
  have HU1 := Lib.hid hu1
  clear hr hq hu0 hu1
  unfold vlV vlB at *
  obtain ⟨k, n, d, nm⟩ := v
  simp only at hx0 hm0 hb0 HU0 HU1 C0 ⊢
  generalize hW : w.alloc (.cells #[.int .i64 k, .int .i64 n, .int .i64 d, .string ⟨nm.toArray⟩] 34) = W at *
  have d0 : W.cell? ⟨w.heap.size, 0, none⟩ = some (.int .i64 k) := cell_of hx0 rfl
  have d1 : W.cell? ⟨w.heap.size, 1, none⟩ = some (.int .i64 n) := cell_of hx0 rfl
  have d2 : W.cell? ⟨w.heap.size, 2, none⟩ = some (.int .i64 d) := cell_of hx0 rfl
  have d3 : W.cell? ⟨w.heap.size, 3, none⟩ = some (.string ⟨nm.toArray⟩) := cell_of hx0 rfl
  have HM := Lib.hid hm0
  have HB := Lib.hid hb0
  have CC := Lib.hid C0
  clear C0
  clear h he hx0 hm0 hb0 hbw
  go_enter Try.func16, Try.ntmps16
  go_wp2_with fail
  refine (CC.out _).mono ?_
  rintro e w2 ⟨rfl, hb2⟩
  have HM2 := Lib.hid (HM.out.below hb2)
  have HB2 := Lib.hid (HB.out.trans (hb2.mono (Nat.le_of_lt HM.out.lt)))
  clear hb2
  obtain ⟨s0, t0⟩ := HM2.out.at_ 34 (by decide)
  obtain ⟨s1, t1⟩ := HM2.out.at_ 35 (by decide)
  go_wp2_with fail
  refine bodyPost_end (results_none rfl _ _ _) rfl ?_
  exact ⟨rfl, (HB2.out.setCell (p := ⟨b, 34, none⟩) (Nat.le_refl b) _).setCell (p := ⟨b, 35, none⟩) (Nat.le_refl b) _, HM2.out.put2 21 (by decide) rfl _ _ _ HU0.out HU1.out⟩

set_option maxRecDepth 100000 in
set_option maxHeartbeats 4000000 in
theorem put_34 (b : Nat) (v : Val) (cc : Nat → Value) (em x y : Int) (w : World) (h : Mk w b cc x y) (he : cc 53 = .int .i64 em) : Calls Try.prog 16 #[.pointer (some ⟨b, 0, none⟩), .int .i64 34, vlV v] w (PutIs w b (putF cc 34 v em x y) x y) := by
  unfold PutIs
  have hx0 := heap_alloc_new w (.cells (vlB v) 34)
  have hbw := (below_one7h w (.cells (vlB v) 34))
  have hm0 := h.below hbw
  have hb0 : Below b w (w.alloc (.cells (vlB v) 34)) := hbw.mono (Nat.le_of_lt h.lt)
  obtain ⟨r, hr⟩ : ∃ r, placeS 34 v = r := ⟨_, rfl⟩
  have hu : outC 34 v em x y 0 = .int .i64 r := by rw [← hr]; rfl
  have C0 : ∀ W, Calls Try.prog 26 #[.int .i64 34, vlV v] W fun e w' => e = .returned (.int .i64 r) ∧ Below W.heap.size W w' := fun W => by rw [← hr]; exact place17_any 34 (by decide) v W
  have HU := Lib.hid hu
  clear hr hu
  unfold vlV vlB at *
  obtain ⟨k, n, d, nm⟩ := v
  simp only at hx0 hm0 hb0 HU C0 ⊢
  generalize hW : w.alloc (.cells #[.int .i64 k, .int .i64 n, .int .i64 d, .string ⟨nm.toArray⟩] 34) = W at *
  have d0 : W.cell? ⟨w.heap.size, 0, none⟩ = some (.int .i64 k) := cell_of hx0 rfl
  have d1 : W.cell? ⟨w.heap.size, 1, none⟩ = some (.int .i64 n) := cell_of hx0 rfl
  have d2 : W.cell? ⟨w.heap.size, 2, none⟩ = some (.int .i64 d) := cell_of hx0 rfl
  have d3 : W.cell? ⟨w.heap.size, 3, none⟩ = some (.string ⟨nm.toArray⟩) := cell_of hx0 rfl
  have HM := Lib.hid hm0
  have HB := Lib.hid hb0
  have CC := Lib.hid C0
  clear C0
  clear h he hx0 hm0 hb0 hbw
  go_enter Try.func16, Try.ntmps16
  go_wp2_with fail
  refine (CC.out _).mono ?_
  rintro e w2 ⟨rfl, hb2⟩
  have HM2 := Lib.hid (HM.out.below hb2)
  have HB2 := Lib.hid (HB.out.trans (hb2.mono (Nat.le_of_lt HM.out.lt)))
  clear hb2
  obtain ⟨s0, t0⟩ := HM2.out.at_ 51 (by decide)
  go_wp2_with fail
  refine bodyPost_end (results_none rfl _ _ _) rfl ?_
  exact ⟨rfl, HB2.out.setCell (p := ⟨b, 51, none⟩) (Nat.le_refl b) _, HM2.out.put1 34 (by decide) rfl _ _ HU.out⟩

set_option maxRecDepth 100000 in
set_option maxHeartbeats 4000000 in
theorem put_35 (b : Nat) (v : Val) (cc : Nat → Value) (em x y : Int) (w : World) (h : Mk w b cc x y) (he : cc 53 = .int .i64 em) : Calls Try.prog 16 #[.pointer (some ⟨b, 0, none⟩), .int .i64 35, vlV v] w (PutIs w b (putF cc 35 v em x y) x y) := by
  unfold PutIs
  have hx0 := heap_alloc_new w (.cells (vlB v) 34)
  have hbw := (below_one7h w (.cells (vlB v) 34))
  have hm0 := h.below hbw
  have hb0 : Below b w (w.alloc (.cells (vlB v) 34)) := hbw.mono (Nat.le_of_lt h.lt)
  have HU : Hid (outC 35 v em x y 0 = .string ⟨v.name.toArray⟩) := rfl
  unfold vlV vlB at *
  obtain ⟨k, n, d, nm⟩ := v
  simp only at hx0 hm0 hb0 HU ⊢
  generalize hW : w.alloc (.cells #[.int .i64 k, .int .i64 n, .int .i64 d, .string ⟨nm.toArray⟩] 34) = W at *
  have d0 : W.cell? ⟨w.heap.size, 0, none⟩ = some (.int .i64 k) := cell_of hx0 rfl
  have d1 : W.cell? ⟨w.heap.size, 1, none⟩ = some (.int .i64 n) := cell_of hx0 rfl
  have d2 : W.cell? ⟨w.heap.size, 2, none⟩ = some (.int .i64 d) := cell_of hx0 rfl
  have d3 : W.cell? ⟨w.heap.size, 3, none⟩ = some (.string ⟨nm.toArray⟩) := cell_of hx0 rfl
  have HM := Lib.hid hm0
  have HB := Lib.hid hb0
  clear h he hx0 hm0 hb0 hbw
  go_enter Try.func16, Try.ntmps16
  obtain ⟨s0, t0⟩ := HM.out.at_ 52 (by decide)
  go_wp2_with fail
  refine bodyPost_end (results_none rfl _ _ _) rfl ?_
  exact ⟨rfl, HB.out.setCell (p := ⟨b, 52, none⟩) (Nat.le_refl b) _, HM.out.put1 35 (by decide) rfl _ _ HU.out⟩

set_option maxRecDepth 100000 in
set_option maxHeartbeats 4000000 in
theorem put_37 (b : Nat) (v : Val) (cc : Nat → Value) (em x y : Int) (w : World) (h : Mk w b cc x y) (he : cc 53 = .int .i64 em) : Calls Try.prog 16 #[.pointer (some ⟨b, 0, none⟩), .int .i64 37, vlV v] w (PutIs w b (putF cc 37 v em x y) x y) := by
  unfold PutIs
  have hx0 := heap_alloc_new w (.cells (vlB v) 34)
  have hbw := (below_one7h w (.cells (vlB v) 34))
  have hm0 := h.below hbw
  have hb0 : Below b w (w.alloc (.cells (vlB v) 34)) := hbw.mono (Nat.le_of_lt h.lt)
  obtain ⟨r, hr⟩ : ∃ r, lineS v = r := ⟨_, rfl⟩
  have hu : outC 37 v em x y 0 = .int .i64 r := by rw [← hr]; rfl
  have C0 : ∀ W, Calls Try.prog 30 #[vlV v] W fun e w' => e = .returned (.int .i64 r) ∧ Below W.heap.size W w' := fun W => by rw [← hr]; exact line17_any v W
  have HU := Lib.hid hu
  clear hr hu
  unfold vlV vlB at *
  obtain ⟨k, n, d, nm⟩ := v
  simp only at hx0 hm0 hb0 HU C0 ⊢
  generalize hW : w.alloc (.cells #[.int .i64 k, .int .i64 n, .int .i64 d, .string ⟨nm.toArray⟩] 34) = W at *
  have d0 : W.cell? ⟨w.heap.size, 0, none⟩ = some (.int .i64 k) := cell_of hx0 rfl
  have d1 : W.cell? ⟨w.heap.size, 1, none⟩ = some (.int .i64 n) := cell_of hx0 rfl
  have d2 : W.cell? ⟨w.heap.size, 2, none⟩ = some (.int .i64 d) := cell_of hx0 rfl
  have d3 : W.cell? ⟨w.heap.size, 3, none⟩ = some (.string ⟨nm.toArray⟩) := cell_of hx0 rfl
  have HM := Lib.hid hm0
  have HB := Lib.hid hb0
  have CC := Lib.hid C0
  clear C0
  clear h he hx0 hm0 hb0 hbw
  go_enter Try.func16, Try.ntmps16
  go_wp2_with fail
  refine (CC.out _).mono ?_
  rintro e w2 ⟨rfl, hb2⟩
  have HM2 := Lib.hid (HM.out.below hb2)
  have HB2 := Lib.hid (HB.out.trans (hb2.mono (Nat.le_of_lt HM.out.lt)))
  clear hb2
  obtain ⟨s0, t0⟩ := HM2.out.at_ 54 (by decide)
  go_wp2_with fail
  refine bodyPost_end (results_none rfl _ _ _) rfl ?_
  exact ⟨rfl, HB2.out.setCell (p := ⟨b, 54, none⟩) (Nat.le_refl b) _, HM2.out.put1 37 (by decide) rfl _ _ HU.out⟩
end Go.Proofs.Ytlngipglhlhhbaa
