/- Layer 17: what is put into a maker. (Written by gen_stl5.py.) -/
import Derived.Test.YtlngipglhlhhbaaStlW4
namespace Go.Proofs.Ytlngipglhlhhbaa
open Go.RowKit TreN LexP FixP SynP ValP PropP FixM
set_option linter.unusedVariables false

theorem Mb.drewY {w : World} {b : Nat} {f x y : Int} (h : Mb w b f x y) : Mb w.drew b f x y := ⟨h.f, h.x, h.y⟩
theorem Mk.drewY {W : World} {b : Nat} {c : Nat → Value} {x y : Int} (h : Mk W b c x y) : Mk W.drew b c x y := ⟨h.at_, h.x, h.y⟩
def PutIs (w : World) (b : Nat) (c : Nat → Value) (x y : Int) (e : Ending) (w' : World) : Prop := e = .returned (.tuple #[]) ∧ Below b w w' ∧ Mk w' b c x y

set_option maxRecDepth 100000 in
set_option maxHeartbeats 4000000 in
theorem flex_22 (b : Nat) (v : Val) (cc : Nat → Value) (em x y : Int) (w : World) (h : Mk w b cc x y) (he : cc 53 = .int .i64 em) : Calls Try.prog 31 #[.pointer (some ⟨b, 0, none⟩), .int .i64 22, vlV v] w (PutIs w b (putF cc 22 v em x y) x y) := by
  unfold PutIs
  have hx0 := heap_alloc_new w (.cells (vlB v) 34)
  have hbw := (below_one7h w (.cells (vlB v) 34))
  have hm0 := h.below hbw
  have hb0 : Below b w (w.alloc (.cells (vlB v) 34)) := hbw.mono (Nat.le_of_lt h.lt)
  obtain ⟨r, hr⟩ : ∃ r, placeS 22 v = r := ⟨_, rfl⟩
  have hu : outC 22 v em x y 0 = .int .i64 r := by rw [← hr]; rfl
  have C0 : ∀ W, Calls Try.prog 26 #[.int .i64 22, vlV v] W fun e w' => e = .returned (.int .i64 r) ∧ Below W.heap.size W w' := fun W => by rw [← hr]; exact place17_any 22 (by decide) v W
  have HU := Lib.hid hu
  clear hr hu
  unfold vlV vlB at *
  obtain ⟨k, n, d, nm⟩ := v
  simp only at hx0 hm0 hb0 HU C0 ⊢
  generalize hW : w.alloc (.cells #[.int .i64 k, .int .i64 n, .int .i64 d, .string ⟨nm.toArray⟩] 34) = W at *
  have d0 : W.cell? ⟨w.heap.size, 0, none⟩ = some (.int .i64 k) := cell_of hx0 rfl
  have d1 : W.cell? ⟨w.heap.size, 1, none⟩ = some (.int .i64 n) := cell_of hx0 rfl
  have d2 : W.cell? ⟨w.heap.size, 2, none⟩ = some (.int .i64 d) := cell_of hx0 rfl
  have d3 : W.cell? ⟨w.heap.size, 3, none⟩ = some (.string ⟨nm.toArray⟩) := cell_of hx0 rfl
  have HM := Lib.hid hm0
  have HB := Lib.hid hb0
  have CC := Lib.hid C0
  clear C0
  clear h he hx0 hm0 hb0 hbw
  go_enter Try.func31, Try.ntmps31
  go_wp2_with fail
  refine (CC.out _).mono ?_
  rintro e w2 ⟨rfl, hb2⟩
  have HM2 := Lib.hid (HM.out.below hb2)
  have HB2 := Lib.hid (HB.out.trans (hb2.mono (Nat.le_of_lt HM.out.lt)))
  clear hb2
  obtain ⟨s0, t0⟩ := HM2.out.at_ 36 (by decide)
  go_wp2_with fail
  refine bodyPost_end (results_none rfl _ _ _) rfl ?_
  exact ⟨rfl, HB2.out.setCell (p := ⟨b, 36, none⟩) (Nat.le_refl b) _, HM2.out.put1 22 (by decide) rfl _ _ HU.out⟩

set_option maxRecDepth 100000 in
set_option maxHeartbeats 4000000 in
theorem flex_23 (b : Nat) (v : Val) (cc : Nat → Value) (em x y : Int) (w : World) (h : Mk w b cc x y) (he : cc 53 = .int .i64 em) : Calls Try.prog 31 #[.pointer (some ⟨b, 0, none⟩), .int .i64 23, vlV v] w (PutIs w b (putF cc 23 v em x y) x y) := by
  unfold PutIs
  have hx0 := heap_alloc_new w (.cells (vlB v) 34)
  have hbw := (below_one7h w (.cells (vlB v) 34))
  have hm0 := h.below hbw
  have hb0 : Below b w (w.alloc (.cells (vlB v) 34)) := hbw.mono (Nat.le_of_lt h.lt)
  obtain ⟨r, hr⟩ : ∃ r, placeS 23 v = r := ⟨_, rfl⟩
  have hu : outC 23 v em x y 0 = .int .i64 r := by rw [← hr]; rfl
  have C0 : ∀ W, Calls Try.prog 26 #[.int .i64 23, vlV v] W fun e w' => e = .returned (.int .i64 r) ∧ Below W.heap.size W w' := fun W => by rw [← hr]; exact place17_any 23 (by decide) v W
  have HU := Lib.hid hu
  clear hr hu
  unfold vlV vlB at *
  obtain ⟨k, n, d, nm⟩ := v
  simp only at hx0 hm0 hb0 HU C0 ⊢
  generalize hW : w.alloc (.cells #[.int .i64 k, .int .i64 n, .int .i64 d, .string ⟨nm.toArray⟩] 34) = W at *
  have d0 : W.cell? ⟨w.heap.size, 0, none⟩ = some (.int .i64 k) := cell_of hx0 rfl
  have d1 : W.cell? ⟨w.heap.size, 1, none⟩ = some (.int .i64 n) := cell_of hx0 rfl
  have d2 : W.cell? ⟨w.heap.size, 2, none⟩ = some (.int .i64 d) := cell_of hx0 rfl
  have d3 : W.cell? ⟨w.heap.size, 3, none⟩ = some (.string ⟨nm.toArray⟩) := cell_of hx0 rfl
  have HM := Lib.hid hm0
  have HB := Lib.hid hb0
  have CC := Lib.hid C0
  clear C0
  clear h he hx0 hm0 hb0 hbw
  go_enter Try.func31, Try.ntmps31
  go_wp2_with fail
  refine (CC.out _).mono ?_
  rintro e w2 ⟨rfl, hb2⟩
  have HM2 := Lib.hid (HM.out.below hb2)
  have HB2 := Lib.hid (HB.out.trans (hb2.mono (Nat.le_of_lt HM.out.lt)))
  clear hb2
  obtain ⟨s0, t0⟩ := HM2.out.at_ 37 (by decide)
  go_wp2_with fail
  refine bodyPost_end (results_none rfl _ _ _) rfl ?_
  exact ⟨rfl, HB2.out.setCell (p := ⟨b, 37, none⟩) (Nat.le_refl b) _, HM2.out.put1 23 (by decide) rfl _ _ HU.out⟩

set_option maxRecDepth 100000 in
set_option maxHeartbeats 4000000 in
theorem flex_24 (b : Nat) (v : Val) (cc : Nat → Value) (em x y : Int) (w : World) (h : Mk w b cc x y) (he : cc 53 = .int .i64 em) : Calls Try.prog 31 #[.pointer (some ⟨b, 0, none⟩), .int .i64 24, vlV v] w (PutIs w b (putF cc 24 v em x y) x y) := by
  unfold PutIs
  have hx0 := heap_alloc_new w (.cells (vlB v) 34)
  have hbw := (below_one7h w (.cells (vlB v) 34))
  have hm0 := h.below hbw
  have hb0 : Below b w (w.alloc (.cells (vlB v) 34)) := hbw.mono (Nat.le_of_lt h.lt)
  have HU : Hid (outC 24 v em x y 0 = .int .i64 v.n) := rfl
  unfold vlV vlB at *
  obtain ⟨k, n, d, nm⟩ := v
  simp only at hx0 hm0 hb0 HU ⊢
  generalize hW : w.alloc (.cells #[.int .i64 k, .int .i64 n, .int .i64 d, .string ⟨nm.toArray⟩] 34) = W at *
  have d0 : W.cell? ⟨w.heap.size, 0, none⟩ = some (.int .i64 k) := cell_of hx0 rfl
  have d1 : W.cell? ⟨w.heap.size, 1, none⟩ = some (.int .i64 n) := cell_of hx0 rfl
  have d2 : W.cell? ⟨w.heap.size, 2, none⟩ = some (.int .i64 d) := cell_of hx0 rfl
  have d3 : W.cell? ⟨w.heap.size, 3, none⟩ = some (.string ⟨nm.toArray⟩) := cell_of hx0 rfl
  have HM := Lib.hid hm0
  have HB := Lib.hid hb0
  clear h he hx0 hm0 hb0 hbw
  go_enter Try.func31, Try.ntmps31
  obtain ⟨s0, t0⟩ := HM.out.at_ 38 (by decide)
  go_wp2_with fail
  refine bodyPost_end (results_none rfl _ _ _) rfl ?_
  exact ⟨rfl, HB.out.setCell (p := ⟨b, 38, none⟩) (Nat.le_refl b) _, HM.out.put1 24 (by decide) rfl _ _ HU.out⟩

set_option maxRecDepth 100000 in
set_option maxHeartbeats 4000000 in
theorem flex_25 (b : Nat) (v : Val) (cc : Nat → Value) (em x y : Int) (w : World) (h : Mk w b cc x y) (he : cc 53 = .int .i64 em) : Calls Try.prog 31 #[.pointer (some ⟨b, 0, none⟩), .int .i64 25, vlV v] w (PutIs w b (putF cc 25 v em x y) x y) := by
  unfold PutIs
  have hx0 := heap_alloc_new w (.cells (vlB v) 34)
  have hbw := (below_one7h w (.cells (vlB v) 34))
  have hm0 := h.below hbw
  have hb0 : Below b w (w.alloc (.cells (vlB v) 34)) := hbw.mono (Nat.le_of_lt h.lt)
  have HU : Hid (outC 25 v em x y 0 = .int .i64 v.n) := rfl
  unfold vlV vlB at *
  obtain ⟨k, n, d, nm⟩ := v
  simp only at hx0 hm0 hb0 HU ⊢
  generalize hW : w.alloc (.cells #[.int .i64 k, .int .i64 n, .int .i64 d, .string ⟨nm.toArray⟩] 34) = W at *
  have d0 : W.cell? ⟨w.heap.size, 0, none⟩ = some (.int .i64 k) := cell_of hx0 rfl
  have d1 : W.cell? ⟨w.heap.size, 1, none⟩ = some (.int .i64 n) := cell_of hx0 rfl
  have d2 : W.cell? ⟨w.heap.size, 2, none⟩ = some (.int .i64 d) := cell_of hx0 rfl
  have d3 : W.cell? ⟨w.heap.size, 3, none⟩ = some (.string ⟨nm.toArray⟩) := cell_of hx0 rfl
  have HM := Lib.hid hm0
  have HB := Lib.hid hb0
  clear h he hx0 hm0 hb0 hbw
  go_enter Try.func31, Try.ntmps31
  obtain ⟨s0, t0⟩ := HM.out.at_ 39 (by decide)
  go_wp2_with fail
  refine bodyPost_end (results_none rfl _ _ _) rfl ?_
  exact ⟨rfl, HB.out.setCell (p := ⟨b, 39, none⟩) (Nat.le_refl b) _, HM.out.put1 25 (by decide) rfl _ _ HU.out⟩

set_option maxRecDepth 100000 in
set_option maxHeartbeats 4000000 in
theorem flex_26 (b : Nat) (v : Val) (cc : Nat → Value) (em x y : Int) (w : World) (h : Mk w b cc x y) (he : cc 53 = .int .i64 em) : Calls Try.prog 31 #[.pointer (some ⟨b, 0, none⟩), .int .i64 26, vlV v] w (PutIs w b (putF cc 26 v em x y) x y) := by
  unfold PutIs
  have hx0 := heap_alloc_new w (.cells (vlB v) 34)
  have hbw := (below_one7h w (.cells (vlB v) 34))
  have hm0 := h.below hbw
  have hb0 : Below b w (w.alloc (.cells (vlB v) 34)) := hbw.mono (Nat.le_of_lt h.lt)
  obtain ⟨r, hr⟩ : ∃ r, sizK1 v = r := ⟨_, rfl⟩
  obtain ⟨q, hq⟩ : ∃ q, sizN1 v (upS v em x y) = q := ⟨_, rfl⟩
  have hu0 : outC 26 v em x y 0 = .int .i64 r := by rw [← hr]; rfl
  have hu1 : outC 26 v em x y 1 = .int .i64 q := by rw [← hq]; rfl
  have C0 : ∀ W, Mb W b em x y → Calls Try.prog 27 #[vlV v, .func (.func 25) #[.pointer (some ⟨b, 0, none⟩)] #[]] W fun e w' => e = .returned (.agg #[.int .i64 r, .int .i64 q]) ∧ Below W.heap.size W w' := fun W hW => by rw [← hr, ← hq]; exact size_up b v em x y W hW
  have HU0 := Lib.hid hu0
  have HU1 := Lib.hid hu1
  clear hr hq hu0 hu1
  unfold vlV vlB at *
  obtain ⟨k, n, d, nm⟩ := v
  simp only at hx0 hm0 hb0 HU0 HU1 C0 ⊢
  generalize hW : w.alloc (.cells #[.int .i64 k, .int .i64 n, .int .i64 d, .string ⟨nm.toArray⟩] 34) = W at *
  have d0 : W.cell? ⟨w.heap.size, 0, none⟩ = some (.int .i64 k) := cell_of hx0 rfl
  have d1 : W.cell? ⟨w.heap.size, 1, none⟩ = some (.int .i64 n) := cell_of hx0 rfl
  have d2 : W.cell? ⟨w.heap.size, 2, none⟩ = some (.int .i64 d) := cell_of hx0 rfl
  have d3 : W.cell? ⟨w.heap.size, 3, none⟩ = some (.string ⟨nm.toArray⟩) := cell_of hx0 rfl
  have HM := Lib.hid hm0
  have HB := Lib.hid hb0
  have CC := Lib.hid (C0 W (HM.out.mb he))
  clear C0
  clear h he hx0 hm0 hb0 hbw
  go_enter Try.func31, Try.ntmps31
  go_wp2_with fail
  refine (CC.out).mono ?_
  rintro e w2 ⟨rfl, hb2⟩
  have HM2 := Lib.hid (HM.out.below hb2)
  have HB2 := Lib.hid (HB.out.trans (hb2.mono (Nat.le_of_lt HM.out.lt)))
  clear hb2
  obtain ⟨s0, t0⟩ := HM2.out.at_ 40 (by decide)
  obtain ⟨s1, t1⟩ := HM2.out.at_ 41 (by decide)
  go_wp2_with fail
  refine bodyPost_end (results_none rfl _ _ _) rfl ?_
  exact ⟨rfl, (HB2.out.setCell (p := ⟨b, 40, none⟩) (Nat.le_refl b) _).setCell (p := ⟨b, 41, none⟩) (Nat.le_refl b) _, HM2.out.put2 26 (by decide) rfl _ _ _ HU0.out HU1.out⟩

set_option maxRecDepth 100000 in
set_option maxHeartbeats 4000000 in
theorem flex_27 (b : Nat) (v : Val) (cc : Nat → Value) (em x y : Int) (w : World) (h : Mk w b cc x y) (he : cc 53 = .int .i64 em) (hn1 : -1073741824 ≤ v.n) (hn2 : v.n ≤ 1073741824) : Calls Try.prog 31 #[.pointer (some ⟨b, 0, none⟩), .int .i64 27, vlV v] w (PutIs w b (putF cc 27 v em x y) x y) := by
  unfold PutIs
  have hx0 := heap_alloc_new w (.cells (vlB v) 34)
  have hbw := (below_one7h w (.cells (vlB v) 34))
  have hm0 := h.below hbw
  have hb0 : Below b w (w.alloc (.cells (vlB v) 34)) := hbw.mono (Nat.le_of_lt h.lt)
  have HU : Hid (outC 27 v em x y 0 = .int .i64 (v.n.tdiv 1000)) := rfl
  unfold vlV vlB at *
  obtain ⟨k, n, d, nm⟩ := v
  simp only at hx0 hm0 hb0 HU hn1 hn2 ⊢
  generalize hW : w.alloc (.cells #[.int .i64 k, .int .i64 n, .int .i64 d, .string ⟨nm.toArray⟩] 34) = W at *
  have d0 : W.cell? ⟨w.heap.size, 0, none⟩ = some (.int .i64 k) := cell_of hx0 rfl
  have d1 : W.cell? ⟨w.heap.size, 1, none⟩ = some (.int .i64 n) := cell_of hx0 rfl
  have d2 : W.cell? ⟨w.heap.size, 2, none⟩ = some (.int .i64 d) := cell_of hx0 rfl
  have d3 : W.cell? ⟨w.heap.size, 3, none⟩ = some (.string ⟨nm.toArray⟩) := cell_of hx0 rfl
  have HM := Lib.hid hm0
  have HB := Lib.hid hb0
  clear h he hx0 hm0 hb0 hbw
  go_enter Try.func31, Try.ntmps31
  obtain ⟨s0, t0⟩ := HM.out.at_ 42 (by decide)
  go_wp2_with fail
  refine bodyPost_end (results_none rfl _ _ _) rfl ?_
  exact ⟨rfl, HB.out.setCell (p := ⟨b, 42, none⟩) (Nat.le_refl b) _, HM.out.put1 27 (by decide) rfl _ _ HU.out⟩

set_option maxRecDepth 100000 in
set_option maxHeartbeats 4000000 in
theorem flex_28 (b : Nat) (v : Val) (cc : Nat → Value) (em x y : Int) (w : World) (h : Mk w b cc x y) (he : cc 53 = .int .i64 em) : Calls Try.prog 31 #[.pointer (some ⟨b, 0, none⟩), .int .i64 28, vlV v] w (PutIs w b (putF cc 28 v em x y) x y) := by
  unfold PutIs
  have hx0 := heap_alloc_new w (.cells (vlB v) 34)
  have hbw := (below_one7h w (.cells (vlB v) 34))
  have hm0 := h.below hbw
  have hb0 : Below b w (w.alloc (.cells (vlB v) 34)) := hbw.mono (Nat.le_of_lt h.lt)
  obtain ⟨r, hr⟩ : ∃ r, placeS 28 v = r := ⟨_, rfl⟩
  have hu : outC 28 v em x y 0 = .int .i64 r := by rw [← hr]; rfl
  have C0 : ∀ W, Calls Try.prog 26 #[.int .i64 28, vlV v] W fun e w' => e = .returned (.int .i64 r) ∧ Below W.heap.size W w' := fun W => by rw [← hr]; exact place17_any 28 (by decide) v W
  have HU := Lib.hid hu
  clear hr hu
  unfold vlV vlB at *
  obtain ⟨k, n, d, nm⟩ := v
  simp only at hx0 hm0 hb0 HU C0 ⊢
  generalize hW : w.alloc (.cells #[.int .i64 k, .int .i64 n, .int .i64 d, .string ⟨nm.toArray⟩] 34) = W at *
  have d0 : W.cell? ⟨w.heap.size, 0, none⟩ = some (.int .i64 k) := cell_of hx0 rfl
  have d1 : W.cell? ⟨w.heap.size, 1, none⟩ = some (.int .i64 n) := cell_of hx0 rfl
  have d2 : W.cell? ⟨w.heap.size, 2, none⟩ = some (.int .i64 d) := cell_of hx0 rfl
  have d3 : W.cell? ⟨w.heap.size, 3, none⟩ = some (.string ⟨nm.toArray⟩) := cell_of hx0 rfl
  have HM := Lib.hid hm0
  have HB := Lib.hid hb0
  have CC := Lib.hid C0
  clear C0
  clear h he hx0 hm0 hb0 hbw
  go_enter Try.func31, Try.ntmps31
  go_wp2_with fail
  refine (CC.out _).mono ?_
  rintro e w2 ⟨rfl, hb2⟩
  have HM2 := Lib.hid (HM.out.below hb2)
  have HB2 := Lib.hid (HB.out.trans (hb2.mono (Nat.le_of_lt HM.out.lt)))
  clear hb2
  obtain ⟨s0, t0⟩ := HM2.out.at_ 43 (by decide)
  go_wp2_with fail
  refine bodyPost_end (results_none rfl _ _ _) rfl ?_
  exact ⟨rfl, HB2.out.setCell (p := ⟨b, 43, none⟩) (Nat.le_refl b) _, HM2.out.put1 28 (by decide) rfl _ _ HU.out⟩

set_option maxRecDepth 100000 in
set_option maxHeartbeats 4000000 in
theorem flex_29 (b : Nat) (v : Val) (cc : Nat → Value) (em x y : Int) (w : World) (h : Mk w b cc x y) (he : cc 53 = .int .i64 em) : Calls Try.prog 31 #[.pointer (some ⟨b, 0, none⟩), .int .i64 29, vlV v] w (PutIs w b (putF cc 29 v em x y) x y) := by
  unfold PutIs
  have hx0 := heap_alloc_new w (.cells (vlB v) 34)
  have hbw := (below_one7h w (.cells (vlB v) 34))
  have hm0 := h.below hbw
  have hb0 : Below b w (w.alloc (.cells (vlB v) 34)) := hbw.mono (Nat.le_of_lt h.lt)
  obtain ⟨r, hr⟩ : ∃ r, placeS 29 v = r := ⟨_, rfl⟩
  have hu : outC 29 v em x y 0 = .int .i64 r := by rw [← hr]; rfl
  have C0 : ∀ W, Calls Try.prog 26 #[.int .i64 29, vlV v] W fun e w' => e = .returned (.int .i64 r) ∧ Below W.heap.size W w' := fun W => by rw [← hr]; exact place17_any 29 (by decide) v W
  have HU := Lib.hid hu
  clear hr hu
  unfold vlV vlB at *
  obtain ⟨k, n, d, nm⟩ := v
  simp only at hx0 hm0 hb0 HU C0 ⊢
  generalize hW : w.alloc (.cells #[.int .i64 k, .int .i64 n, .int .i64 d, .string ⟨nm.toArray⟩] 34) = W at *
  have d0 : W.cell? ⟨w.heap.size, 0, none⟩ = some (.int .i64 k) := cell_of hx0 rfl
  have d1 : W.cell? ⟨w.heap.size, 1, none⟩ = some (.int .i64 n) := cell_of hx0 rfl
  have d2 : W.cell? ⟨w.heap.size, 2, none⟩ = some (.int .i64 d) := cell_of hx0 rfl
  have d3 : W.cell? ⟨w.heap.size, 3, none⟩ = some (.string ⟨nm.toArray⟩) := cell_of hx0 rfl
  have HM := Lib.hid hm0
  have HB := Lib.hid hb0
  have CC := Lib.hid C0
  clear C0
  clear h he hx0 hm0 hb0 hbw
  go_enter Try.func31, Try.ntmps31
  go_wp2_with fail
  refine (CC.out _).mono ?_
  rintro e w2 ⟨rfl, hb2⟩
  have HM2 := Lib.hid (HM.out.below hb2)
  have HB2 := Lib.hid (HB.out.trans (hb2.mono (Nat.le_of_lt HM.out.lt)))
  clear hb2
  obtain ⟨s0, t0⟩ := HM2.out.at_ 44 (by decide)
  go_wp2_with fail
  refine bodyPost_end (results_none rfl _ _ _) rfl ?_
  exact ⟨rfl, HB2.out.setCell (p := ⟨b, 44, none⟩) (Nat.le_refl b) _, HM2.out.put1 29 (by decide) rfl _ _ HU.out⟩

set_option maxRecDepth 100000 in
set_option maxHeartbeats 4000000 in
theorem flex_30 (b : Nat) (v : Val) (cc : Nat → Value) (em x y : Int) (w : World) (h : Mk w b cc x y) (he : cc 53 = .int .i64 em) : Calls Try.prog 31 #[.pointer (some ⟨b, 0, none⟩), .int .i64 30, vlV v] w (PutIs w b (putF cc 30 v em x y) x y) := by
  unfold PutIs
  have hx0 := heap_alloc_new w (.cells (vlB v) 34)
  have hbw := (below_one7h w (.cells (vlB v) 34))
  have hm0 := h.below hbw
  have hb0 : Below b w (w.alloc (.cells (vlB v) 34)) := hbw.mono (Nat.le_of_lt h.lt)
  obtain ⟨r, hr⟩ : ∃ r, placeS 30 v = r := ⟨_, rfl⟩
  have hu : outC 30 v em x y 0 = .int .i64 r := by rw [← hr]; rfl
  have C0 : ∀ W, Calls Try.prog 26 #[.int .i64 30, vlV v] W fun e w' => e = .returned (.int .i64 r) ∧ Below W.heap.size W w' := fun W => by rw [← hr]; exact place17_any 30 (by decide) v W
  have HU := Lib.hid hu
  clear hr hu
  unfold vlV vlB at *
  obtain ⟨k, n, d, nm⟩ := v
  simp only at hx0 hm0 hb0 HU C0 ⊢
  generalize hW : w.alloc (.cells #[.int .i64 k, .int .i64 n, .int .i64 d, .string ⟨nm.toArray⟩] 34) = W at *
  have d0 : W.cell? ⟨w.heap.size, 0, none⟩ = some (.int .i64 k) := cell_of hx0 rfl
  have d1 : W.cell? ⟨w.heap.size, 1, none⟩ = some (.int .i64 n) := cell_of hx0 rfl
  have d2 : W.cell? ⟨w.heap.size, 2, none⟩ = some (.int .i64 d) := cell_of hx0 rfl
  have d3 : W.cell? ⟨w.heap.size, 3, none⟩ = some (.string ⟨nm.toArray⟩) := cell_of hx0 rfl
  have HM := Lib.hid hm0
  have HB := Lib.hid hb0
  have CC := Lib.hid C0
  clear C0
  clear h he hx0 hm0 hb0 hbw
  go_enter Try.func31, Try.ntmps31
  go_wp2_with fail
  refine (CC.out _).mono ?_
  rintro e w2 ⟨rfl, hb2⟩
  have HM2 := Lib.hid (HM.out.below hb2)
  have HB2 := Lib.hid (HB.out.trans (hb2.mono (Nat.le_of_lt HM.out.lt)))
  clear hb2
  obtain ⟨s0, t0⟩ := HM2.out.at_ 45 (by decide)
  go_wp2_with fail
  refine bodyPost_end (results_none rfl _ _ _) rfl ?_
  exact ⟨rfl, HB2.out.setCell (p := ⟨b, 45, none⟩) (Nat.le_refl b) _, HM2.out.put1 30 (by decide) rfl _ _ HU.out⟩

set_option maxRecDepth 100000 in
set_option maxHeartbeats 4000000 in
theorem flex_31 (b : Nat) (v : Val) (cc : Nat → Value) (em x y : Int) (w : World) (h : Mk w b cc x y) (he : cc 53 = .int .i64 em) : Calls Try.prog 31 #[.pointer (some ⟨b, 0, none⟩), .int .i64 31, vlV v] w (PutIs w b (putF cc 31 v em x y) x y) := by
  unfold PutIs
  have hx0 := heap_alloc_new w (.cells (vlB v) 34)
  have hbw := (below_one7h w (.cells (vlB v) 34))
  have hm0 := h.below hbw
  have hb0 : Below b w (w.alloc (.cells (vlB v) 34)) := hbw.mono (Nat.le_of_lt h.lt)
  obtain ⟨r, hr⟩ : ∃ r, placeS 31 v = r := ⟨_, rfl⟩
  have hu : outC 31 v em x y 0 = .int .i64 r := by rw [← hr]; rfl
  have C0 : ∀ W, Calls Try.prog 26 #[.int .i64 31, vlV v] W fun e w' => e = .returned (.int .i64 r) ∧ Below W.heap.size W w' := fun W => by rw [← hr]; exact place17_any 31 (by decide) v W
  have HU := Lib.hid hu
  clear hr hu
  unfold vlV vlB at *
  obtain ⟨k, n, d, nm⟩ := v
  simp only at hx0 hm0 hb0 HU C0 ⊢
  generalize hW : w.alloc (.cells #[.int .i64 k, .int .i64 n, .int .i64 d, .string ⟨nm.toArray⟩] 34) = W at *
  have d0 : W.cell? ⟨w.heap.size, 0, none⟩ = some (.int .i64 k) := cell_of hx0 rfl
  have d1 : W.cell? ⟨w.heap.size, 1, none⟩ = some (.int .i64 n) := cell_of hx0 rfl
  have d2 : W.cell? ⟨w.heap.size, 2, none⟩ = some (.int .i64 d) := cell_of hx0 rfl
  have d3 : W.cell? ⟨w.heap.size, 3, none⟩ = some (.string ⟨nm.toArray⟩) := cell_of hx0 rfl
  have HM := Lib.hid hm0
  have HB := Lib.hid hb0
  have CC := Lib.hid C0
  clear C0
  clear h he hx0 hm0 hb0 hbw
  go_enter Try.func31, Try.ntmps31
  go_wp2_with fail
  refine (CC.out _).mono ?_
  rintro e w2 ⟨rfl, hb2⟩
  have HM2 := Lib.hid (HM.out.below hb2)
  have HB2 := Lib.hid (HB.out.trans (hb2.mono (Nat.le_of_lt HM.out.lt)))
  clear hb2
  obtain ⟨s0, t0⟩ := HM2.out.at_ 46 (by decide)
  go_wp2_with fail
  refine bodyPost_end (results_none rfl _ _ _) rfl ?_
  exact ⟨rfl, HB2.out.setCell (p := ⟨b, 46, none⟩) (Nat.le_refl b) _, HM2.out.put1 31 (by decide) rfl _ _ HU.out⟩

set_option maxRecDepth 100000 in
set_option maxHeartbeats 4000000 in
theorem flex_32 (b : Nat) (v : Val) (cc : Nat → Value) (em x y : Int) (w : World) (h : Mk w b cc x y) (he : cc 53 = .int .i64 em) : Calls Try.prog 31 #[.pointer (some ⟨b, 0, none⟩), .int .i64 32, vlV v] w (PutIs w b (putF cc 32 v em x y) x y) := by
  unfold PutIs
  have hx0 := heap_alloc_new w (.cells (vlB v) 34)
  have hbw := (below_one7h w (.cells (vlB v) 34))
  have hm0 := h.below hbw
  have hb0 : Below b w (w.alloc (.cells (vlB v) 34)) := hbw.mono (Nat.le_of_lt h.lt)
  obtain ⟨r, hr⟩ : ∃ r, sizK1 v = r := ⟨_, rfl⟩
  obtain ⟨q, hq⟩ : ∃ q, sizN1 v (upS v em x y) = q := ⟨_, rfl⟩
  have hu0 : outC 32 v em x y 0 = .int .i64 r := by rw [← hr]; rfl
  have hu1 : outC 32 v em x y 1 = .int .i64 q := by rw [← hq]; rfl
  have C0 : ∀ W, Mb W b em x y → Calls Try.prog 27 #[vlV v, .func (.func 25) #[.pointer (some ⟨b, 0, none⟩)] #[]] W fun e w' => e = .returned (.agg #[.int .i64 r, .int .i64 q]) ∧ Below W.heap.size W w' := fun W hW => by rw [← hr, ← hq]; exact size_up b v em x y W hW
  have HU0 := Lib.hid hu0
  have HU1 := Lib.hid hu1
  clear hr hq hu0 hu1
  unfold vlV vlB at *
  obtain ⟨k, n, d, nm⟩ := v
  simp only at hx0 hm0 hb0 HU0 HU1 C0 ⊢
  generalize hW : w.alloc (.cells #[.int .i64 k, .int .i64 n, .int .i64 d, .string ⟨nm.toArray⟩] 34) = W at *
  have d0 : W.cell? ⟨w.heap.size, 0, none⟩ = some (.int .i64 k) := cell_of hx0 rfl
  have d1 : W.cell? ⟨w.heap.size, 1, none⟩ = some (.int .i64 n) := cell_of hx0 rfl
  have d2 : W.cell? ⟨w.heap.size, 2, none⟩ = some (.int .i64 d) := cell_of hx0 rfl
  have d3 : W.cell? ⟨w.heap.size, 3, none⟩ = some (.string ⟨nm.toArray⟩) := cell_of hx0 rfl
  have HM := Lib.hid hm0
  have HB := Lib.hid hb0
  have CC := Lib.hid (C0 W (HM.out.mb he))
  clear C0
  clear h he hx0 hm0 hb0 hbw
  go_enter Try.func31, Try.ntmps31
  go_wp2_with fail
  refine (CC.out).mono ?_
  rintro e w2 ⟨rfl, hb2⟩
  have HM2 := Lib.hid (HM.out.below hb2)
  have HB2 := Lib.hid (HB.out.trans (hb2.mono (Nat.le_of_lt HM.out.lt)))
  clear hb2
  obtain ⟨s0, t0⟩ := HM2.out.at_ 47 (by decide)
  obtain ⟨s1, t1⟩ := HM2.out.at_ 48 (by decide)
  go_wp2_with fail
  refine bodyPost_end (results_none rfl _ _ _) rfl ?_
  exact ⟨rfl, (HB2.out.setCell (p := ⟨b, 47, none⟩) (Nat.le_refl b) _).setCell (p := ⟨b, 48, none⟩) (Nat.le_refl b) _, HM2.out.put2 32 (by decide) rfl _ _ _ HU0.out HU1.out⟩

set_option maxRecDepth 100000 in
set_option maxHeartbeats 4000000 in
theorem flex_33 (b : Nat) (v : Val) (cc : Nat → Value) (em x y : Int) (w : World) (h : Mk w b cc x y) (he : cc 53 = .int .i64 em) : Calls Try.prog 31 #[.pointer (some ⟨b, 0, none⟩), .int .i64 33, vlV v] w (PutIs w b (putF cc 33 v em x y) x y) := by
  unfold PutIs
  have hx0 := heap_alloc_new w (.cells (vlB v) 34)
  have hbw := (below_one7h w (.cells (vlB v) 34))
  have hm0 := h.below hbw
  have hb0 : Below b w (w.alloc (.cells (vlB v) 34)) := hbw.mono (Nat.le_of_lt h.lt)
  obtain ⟨r, hr⟩ : ∃ r, sizK1 v = r := ⟨_, rfl⟩
  obtain ⟨q, hq⟩ : ∃ q, sizN1 v (upS v em x y) = q := ⟨_, rfl⟩
  have hu0 : outC 33 v em x y 0 = .int .i64 r := by rw [← hr]; rfl
  have hu1 : outC 33 v em x y 1 = .int .i64 q := by rw [← hq]; rfl
  have C0 : ∀ W, Mb W b em x y → Calls Try.prog 27 #[vlV v, .func (.func 25) #[.pointer (some ⟨b, 0, none⟩)] #[]] W fun e w' => e = .returned (.agg #[.int .i64 r, .int .i64 q]) ∧ Below W.heap.size W w' := fun W hW => by rw [← hr, ← hq]; exact size_up b v em x y W hW
  have HU0 := Lib.hid hu0
  have HU1 := Lib.hid hu1
  clear hr hq hu0 hu1
  unfold vlV vlB at *
  obtain ⟨k, n, d, nm⟩ := v
  simp only at hx0 hm0 hb0 HU0 HU1 C0 ⊢
  generalize hW : w.alloc (.cells #[.int .i64 k, .int .i64 n, .int .i64 d, .string ⟨nm.toArray⟩] 34) = W at *
  have d0 : W.cell? ⟨w.heap.size, 0, none⟩ = some (.int .i64 k) := cell_of hx0 rfl
  have d1 : W.cell? ⟨w.heap.size, 1, none⟩ = some (.int .i64 n) := cell_of hx0 rfl
  have d2 : W.cell? ⟨w.heap.size, 2, none⟩ = some (.int .i64 d) := cell_of hx0 rfl
  have d3 : W.cell? ⟨w.heap.size, 3, none⟩ = some (.string ⟨nm.toArray⟩) := cell_of hx0 rfl
  have HM := Lib.hid hm0
  have HB := Lib.hid hb0
  have CC := Lib.hid (C0 W (HM.out.mb he))
  clear C0
  clear h he hx0 hm0 hb0 hbw
  go_enter Try.func31, Try.ntmps31
  go_wp2_with fail
  refine (CC.out).mono ?_
  rintro e w2 ⟨rfl, hb2⟩
  have HM2 := Lib.hid (HM.out.below hb2)
  have HB2 := Lib.hid (HB.out.trans (hb2.mono (Nat.le_of_lt HM.out.lt)))
  clear hb2
  obtain ⟨s0, t0⟩ := HM2.out.at_ 49 (by decide)
  obtain ⟨s1, t1⟩ := HM2.out.at_ 50 (by decide)
  go_wp2_with fail
  refine bodyPost_end (results_none rfl _ _ _) rfl ?_
  exact ⟨rfl, (HB2.out.setCell (p := ⟨b, 49, none⟩) (Nat.le_refl b) _).setCell (p := ⟨b, 50, none⟩) (Nat.le_refl b) _, HM2.out.put2 33 (by decide) rfl _ _ _ HU0.out HU1.out⟩
end Go.Proofs.Ytlngipglhlhhbaa
