/- Joined texts: PropR3 PropR4. -/
import Derived.Test.YthfabalnioggcaaPropFi
import Derived.Test.YthfabalnioggcaaPropRa
namespace Go.Proofs.Ythfabalnioggcaa
open Go.RowKit TreN LexP FixP SynP ValP PropP FixM
set_option linter.unusedVariables false

set_option maxRecDepth 100000 in
theorem wordR10_any (s : List UInt8) (w : World) : Calls Try.prog 87 #[.string ⟨s.toArray⟩] w fun e w' => e = .returned (.agg #[.int .i64 1, .int .i64 (wordP s : Nat), .int .i64 0, .string ⟨#[]⟩]) ∧ Below w.heap.size w w' := by
  have C := refPlace_any (w.heap.size + 1) wordsL 31 31 s ((w.alloc (.cells #[.int .i64 0, .int .i64 0, .int .i64 0, .string ⟨#[]⟩] 80)).alloc (.cells (txcs wL) 9)) rfl (by omega) (by have := TxAt.made (w.alloc (.cells #[.int .i64 0, .int .i64 0, .int .i64 0, .string ⟨#[]⟩] 80)) wL; rw [show (w.alloc (.cells #[.int .i64 0, .int .i64 0, .int .i64 0, .string ⟨#[]⟩] 80)).heap.size = w.heap.size + 1 by simp] at this; exact this)
  obtain ⟨q, hq⟩ : ∃ q : Int, ((plc wordsL s 1 : Nat) : Int) = q := ⟨_, rfl⟩
  have hq2 : ((wordP s : Nat) : Int) = q := hq
  rw [hq] at C
  rw [hq2]
  have CC := Lib.hid C
  clear hq hq2 C
  go_enter Try.func87, Try.ntmps87
  go_wp2_with fail
  refine (refWords_any _).mono ?_
  rintro e w1 ⟨rfl, hw1⟩
  have hb1 : Below (w.alloc (.cells #[.int .i64 0, .int .i64 0, .int .i64 0, .string ⟨#[]⟩] 80)).heap.size (w.alloc (.cells #[.int .i64 0, .int .i64 0, .int .i64 0, .string ⟨#[]⟩] 80)) w1 := by rw [hw1]; exact below_oneP _ _
  have C2 : Hid (Calls Try.prog 89 #[.slice (some ⟨w.heap.size + 1, 0, none⟩) 31 31, .string ⟨s.toArray⟩] w1 fun e w' => e = .returned (.int .i64 q) ∧ w' = w1) := Lib.hid (by rw [hw1]; exact CC.out)
  clear hw1
  go_wp2_with fail
  refine C2.out.mono ?_
  rintro e w' ⟨rfl, hw⟩
  have hw := hw.symm
  subst hw
  have hx1 : w1.heap[w.heap.size]? = some (.cells #[.int .i64 0, .int .i64 0, .int .i64 0, .string ⟨#[]⟩] 80 (0, 0)) := (hb1.block _ (by simp)).trans (heap_alloc_new w _)
  have k3 : Below w.heap.size w w1 := (below_oneP w (.cells #[.int .i64 0, .int .i64 0, .int .i64 0, .string ⟨#[]⟩] 80)).trans (hb1.mono (by simp))
  obtain ⟨x1, x2, x3, x4, v0, v1, v2, v3, ⟨p0, q0, r0⟩, ⟨p1, q1, r1⟩, ⟨p2, q2, r2⟩, ⟨p3, q3, r3⟩, h4⟩ := four_store w1 w.heap.size 80 _ 0 1 2 3 (.int .i64 1) (.int .i64 q) (.int .i64 0) (.string ⟨#[]⟩) hx1 (by decide) (by decide) (by decide) (by decide)
  have e0 := cell_of (k := 0) h4.here rfl
  have e1 := cell_of (k := 1) h4.here rfl
  have e2 := cell_of (k := 2) h4.here rfl
  have e3 := cell_of (k := 3) h4.here rfl
  have HB := Lib.hid (h4.below w.heap.size w (by omega) k3)
  clear hb1 hx1 k3 h4
  go_wp2_with fail
  exact bodyPost_ret (v := .agg #[.int .i64 1, .int .i64 q, .int .i64 0, .string ⟨#[]⟩]) (by simp [results, Try.results87, go_sem, e0, e1, e2, e3]) rfl ⟨rfl, HB.out⟩
set_option maxRecDepth 100000 in
theorem FirstR1_any (w : World) : Calls Try.prog 79 #[.int .i64 1] w fun e w' => e = .returned (.agg #[.int .i64 1, .int .i64 3, .int .i64 0, .string ⟨#[]⟩]) ∧ Below w.heap.size w w' := by
  have CC := Lib.hid (fun W => (show Calls Try.prog 87 #[.string ⟨[98, 108, 111, 99, 107].toArray⟩] W (fun e w' => e = .returned (.agg #[.int .i64 1, .int .i64 3, .int .i64 0, .string ⟨#[]⟩]) ∧ Below W.heap.size W w') from wordR10_any [98, 108, 111, 99, 107] W))
  go_enter Try.func79, Try.ntmps79
  go_wp2_with fail
  refine (CC.out _).mono ?_
  rintro e w1 ⟨rfl, hb1⟩
  have hx1 : w1.heap[w.heap.size]? = some (.cells #[.int .i64 0, .int .i64 0, .int .i64 0, .string ⟨#[]⟩] 80 (0, 0)) := (hb1.block _ (by simp)).trans (heap_alloc_new w _)
  have k3 : Below w.heap.size w w1 := (below_oneP w (.cells #[.int .i64 0, .int .i64 0, .int .i64 0, .string ⟨#[]⟩] 80)).trans (hb1.mono (by simp))
  obtain ⟨x1, x2, x3, x4, v0, v1, v2, v3, ⟨p0, q0, r0⟩, ⟨p1, q1, r1⟩, ⟨p2, q2, r2⟩, ⟨p3, q3, r3⟩, h4⟩ := four_store w1 w.heap.size 80 _ 0 1 2 3 (.int .i64 1) (.int .i64 3) (.int .i64 0) (.string ⟨#[]⟩) hx1 (by decide) (by decide) (by decide) (by decide)
  have e0 := cell_of (k := 0) h4.here rfl
  have e1 := cell_of (k := 1) h4.here rfl
  have e2 := cell_of (k := 2) h4.here rfl
  have e3 := cell_of (k := 3) h4.here rfl
  have HB := Lib.hid (h4.below w.heap.size w (by omega) k3)
  clear hb1 hx1 k3 h4
  go_wp2_with fail
  exact bodyPost_ret (v := .agg #[.int .i64 1, .int .i64 3, .int .i64 0, .string ⟨#[]⟩]) (by simp [results, Try.results79, go_sem, e0, e1, e2, e3]) rfl ⟨rfl, HB.out⟩
set_option maxRecDepth 100000 in
theorem FirstR2_any (w : World) : Calls Try.prog 79 #[.int .i64 2] w fun e w' => e = .returned (.agg #[.int .i64 1, .int .i64 5, .int .i64 0, .string ⟨#[]⟩]) ∧ Below w.heap.size w w' := by
  have CC := Lib.hid (fun W => (show Calls Try.prog 87 #[.string ⟨[99, 111, 110, 116, 101, 110, 116, 45, 98, 111, 120].toArray⟩] W (fun e w' => e = .returned (.agg #[.int .i64 1, .int .i64 5, .int .i64 0, .string ⟨#[]⟩]) ∧ Below W.heap.size W w') from wordR10_any [99, 111, 110, 116, 101, 110, 116, 45, 98, 111, 120] W))
  go_enter Try.func79, Try.ntmps79
  go_wp2_with fail
  refine (CC.out _).mono ?_
  rintro e w1 ⟨rfl, hb1⟩
  have hx1 : w1.heap[w.heap.size]? = some (.cells #[.int .i64 0, .int .i64 0, .int .i64 0, .string ⟨#[]⟩] 80 (0, 0)) := (hb1.block _ (by simp)).trans (heap_alloc_new w _)
  have k3 : Below w.heap.size w w1 := (below_oneP w (.cells #[.int .i64 0, .int .i64 0, .int .i64 0, .string ⟨#[]⟩] 80)).trans (hb1.mono (by simp))
  obtain ⟨x1, x2, x3, x4, v0, v1, v2, v3, ⟨p0, q0, r0⟩, ⟨p1, q1, r1⟩, ⟨p2, q2, r2⟩, ⟨p3, q3, r3⟩, h4⟩ := four_store w1 w.heap.size 80 _ 0 1 2 3 (.int .i64 1) (.int .i64 5) (.int .i64 0) (.string ⟨#[]⟩) hx1 (by decide) (by decide) (by decide) (by decide)
  have e0 := cell_of (k := 0) h4.here rfl
  have e1 := cell_of (k := 1) h4.here rfl
  have e2 := cell_of (k := 2) h4.here rfl
  have e3 := cell_of (k := 3) h4.here rfl
  have HB := Lib.hid (h4.below w.heap.size w (by omega) k3)
  clear hb1 hx1 k3 h4
  go_wp2_with fail
  exact bodyPost_ret (v := .agg #[.int .i64 1, .int .i64 5, .int .i64 0, .string ⟨#[]⟩]) (by simp [results, Try.results79, go_sem, e0, e1, e2, e3]) rfl ⟨rfl, HB.out⟩
set_option maxRecDepth 100000 in
theorem FirstR3_any (w : World) : Calls Try.prog 79 #[.int .i64 3] w fun e w' => e = .returned (.agg #[.int .i64 1, .int .i64 1, .int .i64 0, .string ⟨#[]⟩]) ∧ Below w.heap.size w w' := by
  have CC := Lib.hid (fun W => (show Calls Try.prog 87 #[.string ⟨[97, 117, 116, 111].toArray⟩] W (fun e w' => e = .returned (.agg #[.int .i64 1, .int .i64 1, .int .i64 0, .string ⟨#[]⟩]) ∧ Below W.heap.size W w') from wordR10_any [97, 117, 116, 111] W))
  go_enter Try.func79, Try.ntmps79
  go_wp2_with fail
  refine (CC.out _).mono ?_
  rintro e w1 ⟨rfl, hb1⟩
  have hx1 : w1.heap[w.heap.size]? = some (.cells #[.int .i64 0, .int .i64 0, .int .i64 0, .string ⟨#[]⟩] 80 (0, 0)) := (hb1.block _ (by simp)).trans (heap_alloc_new w _)
  have k3 : Below w.heap.size w w1 := (below_oneP w (.cells #[.int .i64 0, .int .i64 0, .int .i64 0, .string ⟨#[]⟩] 80)).trans (hb1.mono (by simp))
  obtain ⟨x1, x2, x3, x4, v0, v1, v2, v3, ⟨p0, q0, r0⟩, ⟨p1, q1, r1⟩, ⟨p2, q2, r2⟩, ⟨p3, q3, r3⟩, h4⟩ := four_store w1 w.heap.size 80 _ 0 1 2 3 (.int .i64 1) (.int .i64 1) (.int .i64 0) (.string ⟨#[]⟩) hx1 (by decide) (by decide) (by decide) (by decide)
  have e0 := cell_of (k := 0) h4.here rfl
  have e1 := cell_of (k := 1) h4.here rfl
  have e2 := cell_of (k := 2) h4.here rfl
  have e3 := cell_of (k := 3) h4.here rfl
  have HB := Lib.hid (h4.below w.heap.size w (by omega) k3)
  clear hb1 hx1 k3 h4
  go_wp2_with fail
  exact bodyPost_ret (v := .agg #[.int .i64 1, .int .i64 1, .int .i64 0, .string ⟨#[]⟩]) (by simp [results, Try.results79, go_sem, e0, e1, e2, e3]) rfl ⟨rfl, HB.out⟩
set_option maxRecDepth 100000 in
theorem FirstR4_any (w : World) : Calls Try.prog 79 #[.int .i64 4] w fun e w' => e = .returned (.agg #[.int .i64 1, .int .i64 1, .int .i64 0, .string ⟨#[]⟩]) ∧ Below w.heap.size w w' := by
  have CC := Lib.hid (fun W => (show Calls Try.prog 87 #[.string ⟨[97, 117, 116, 111].toArray⟩] W (fun e w' => e = .returned (.agg #[.int .i64 1, .int .i64 1, .int .i64 0, .string ⟨#[]⟩]) ∧ Below W.heap.size W w') from wordR10_any [97, 117, 116, 111] W))
  go_enter Try.func79, Try.ntmps79
  go_wp2_with fail
  refine (CC.out _).mono ?_
  rintro e w1 ⟨rfl, hb1⟩
  have hx1 : w1.heap[w.heap.size]? = some (.cells #[.int .i64 0, .int .i64 0, .int .i64 0, .string ⟨#[]⟩] 80 (0, 0)) := (hb1.block _ (by simp)).trans (heap_alloc_new w _)
  have k3 : Below w.heap.size w w1 := (below_oneP w (.cells #[.int .i64 0, .int .i64 0, .int .i64 0, .string ⟨#[]⟩] 80)).trans (hb1.mono (by simp))
  obtain ⟨x1, x2, x3, x4, v0, v1, v2, v3, ⟨p0, q0, r0⟩, ⟨p1, q1, r1⟩, ⟨p2, q2, r2⟩, ⟨p3, q3, r3⟩, h4⟩ := four_store w1 w.heap.size 80 _ 0 1 2 3 (.int .i64 1) (.int .i64 1) (.int .i64 0) (.string ⟨#[]⟩) hx1 (by decide) (by decide) (by decide) (by decide)
  have e0 := cell_of (k := 0) h4.here rfl
  have e1 := cell_of (k := 1) h4.here rfl
  have e2 := cell_of (k := 2) h4.here rfl
  have e3 := cell_of (k := 3) h4.here rfl
  have HB := Lib.hid (h4.below w.heap.size w (by omega) k3)
  clear hb1 hx1 k3 h4
  go_wp2_with fail
  exact bodyPost_ret (v := .agg #[.int .i64 1, .int .i64 1, .int .i64 0, .string ⟨#[]⟩]) (by simp [results, Try.results79, go_sem, e0, e1, e2, e3]) rfl ⟨rfl, HB.out⟩
set_option maxRecDepth 100000 in
theorem FirstR5_any (w : World) : Calls Try.prog 79 #[.int .i64 5] w fun e w' => e = .returned (.agg #[.int .i64 1, .int .i64 1, .int .i64 0, .string ⟨#[]⟩]) ∧ Below w.heap.size w w' := by
  have CC := Lib.hid (fun W => (show Calls Try.prog 87 #[.string ⟨[97, 117, 116, 111].toArray⟩] W (fun e w' => e = .returned (.agg #[.int .i64 1, .int .i64 1, .int .i64 0, .string ⟨#[]⟩]) ∧ Below W.heap.size W w') from wordR10_any [97, 117, 116, 111] W))
  go_enter Try.func79, Try.ntmps79
  go_wp2_with fail
  refine (CC.out _).mono ?_
  rintro e w1 ⟨rfl, hb1⟩
  have hx1 : w1.heap[w.heap.size]? = some (.cells #[.int .i64 0, .int .i64 0, .int .i64 0, .string ⟨#[]⟩] 80 (0, 0)) := (hb1.block _ (by simp)).trans (heap_alloc_new w _)
  have k3 : Below w.heap.size w w1 := (below_oneP w (.cells #[.int .i64 0, .int .i64 0, .int .i64 0, .string ⟨#[]⟩] 80)).trans (hb1.mono (by simp))
  obtain ⟨x1, x2, x3, x4, v0, v1, v2, v3, ⟨p0, q0, r0⟩, ⟨p1, q1, r1⟩, ⟨p2, q2, r2⟩, ⟨p3, q3, r3⟩, h4⟩ := four_store w1 w.heap.size 80 _ 0 1 2 3 (.int .i64 1) (.int .i64 1) (.int .i64 0) (.string ⟨#[]⟩) hx1 (by decide) (by decide) (by decide) (by decide)
  have e0 := cell_of (k := 0) h4.here rfl
  have e1 := cell_of (k := 1) h4.here rfl
  have e2 := cell_of (k := 2) h4.here rfl
  have e3 := cell_of (k := 3) h4.here rfl
  have HB := Lib.hid (h4.below w.heap.size w (by omega) k3)
  clear hb1 hx1 k3 h4
  go_wp2_with fail
  exact bodyPost_ret (v := .agg #[.int .i64 1, .int .i64 1, .int .i64 0, .string ⟨#[]⟩]) (by simp [results, Try.results79, go_sem, e0, e1, e2, e3]) rfl ⟨rfl, HB.out⟩
set_option maxRecDepth 100000 in
theorem FirstR6_any (w : World) : Calls Try.prog 79 #[.int .i64 6] w fun e w' => e = .returned (.agg #[.int .i64 1, .int .i64 1, .int .i64 0, .string ⟨#[]⟩]) ∧ Below w.heap.size w w' := by
  have CC := Lib.hid (fun W => (show Calls Try.prog 87 #[.string ⟨[97, 117, 116, 111].toArray⟩] W (fun e w' => e = .returned (.agg #[.int .i64 1, .int .i64 1, .int .i64 0, .string ⟨#[]⟩]) ∧ Below W.heap.size W w') from wordR10_any [97, 117, 116, 111] W))
  go_enter Try.func79, Try.ntmps79
  go_wp2_with fail
  refine (CC.out _).mono ?_
  rintro e w1 ⟨rfl, hb1⟩
  have hx1 : w1.heap[w.heap.size]? = some (.cells #[.int .i64 0, .int .i64 0, .int .i64 0, .string ⟨#[]⟩] 80 (0, 0)) := (hb1.block _ (by simp)).trans (heap_alloc_new w _)
  have k3 : Below w.heap.size w w1 := (below_oneP w (.cells #[.int .i64 0, .int .i64 0, .int .i64 0, .string ⟨#[]⟩] 80)).trans (hb1.mono (by simp))
  obtain ⟨x1, x2, x3, x4, v0, v1, v2, v3, ⟨p0, q0, r0⟩, ⟨p1, q1, r1⟩, ⟨p2, q2, r2⟩, ⟨p3, q3, r3⟩, h4⟩ := four_store w1 w.heap.size 80 _ 0 1 2 3 (.int .i64 1) (.int .i64 1) (.int .i64 0) (.string ⟨#[]⟩) hx1 (by decide) (by decide) (by decide) (by decide)
  have e0 := cell_of (k := 0) h4.here rfl
  have e1 := cell_of (k := 1) h4.here rfl
  have e2 := cell_of (k := 2) h4.here rfl
  have e3 := cell_of (k := 3) h4.here rfl
  have HB := Lib.hid (h4.below w.heap.size w (by omega) k3)
  clear hb1 hx1 k3 h4
  go_wp2_with fail
  exact bodyPost_ret (v := .agg #[.int .i64 1, .int .i64 1, .int .i64 0, .string ⟨#[]⟩]) (by simp [results, Try.results79, go_sem, e0, e1, e2, e3]) rfl ⟨rfl, HB.out⟩
set_option maxRecDepth 100000 in
theorem FirstR7_any (w : World) : Calls Try.prog 79 #[.int .i64 7] w fun e w' => e = .returned (.agg #[.int .i64 1, .int .i64 2, .int .i64 0, .string ⟨#[]⟩]) ∧ Below w.heap.size w w' := by
  have CC := Lib.hid (fun W => (show Calls Try.prog 87 #[.string ⟨[110, 111, 110, 101].toArray⟩] W (fun e w' => e = .returned (.agg #[.int .i64 1, .int .i64 2, .int .i64 0, .string ⟨#[]⟩]) ∧ Below W.heap.size W w') from wordR10_any [110, 111, 110, 101] W))
  go_enter Try.func79, Try.ntmps79
  go_wp2_with fail
  refine (CC.out _).mono ?_
  rintro e w1 ⟨rfl, hb1⟩
  have hx1 : w1.heap[w.heap.size]? = some (.cells #[.int .i64 0, .int .i64 0, .int .i64 0, .string ⟨#[]⟩] 80 (0, 0)) := (hb1.block _ (by simp)).trans (heap_alloc_new w _)
  have k3 : Below w.heap.size w w1 := (below_oneP w (.cells #[.int .i64 0, .int .i64 0, .int .i64 0, .string ⟨#[]⟩] 80)).trans (hb1.mono (by simp))
  obtain ⟨x1, x2, x3, x4, v0, v1, v2, v3, ⟨p0, q0, r0⟩, ⟨p1, q1, r1⟩, ⟨p2, q2, r2⟩, ⟨p3, q3, r3⟩, h4⟩ := four_store w1 w.heap.size 80 _ 0 1 2 3 (.int .i64 1) (.int .i64 2) (.int .i64 0) (.string ⟨#[]⟩) hx1 (by decide) (by decide) (by decide) (by decide)
  have e0 := cell_of (k := 0) h4.here rfl
  have e1 := cell_of (k := 1) h4.here rfl
  have e2 := cell_of (k := 2) h4.here rfl
  have e3 := cell_of (k := 3) h4.here rfl
  have HB := Lib.hid (h4.below w.heap.size w (by omega) k3)
  clear hb1 hx1 k3 h4
  go_wp2_with fail
  exact bodyPost_ret (v := .agg #[.int .i64 1, .int .i64 2, .int .i64 0, .string ⟨#[]⟩]) (by simp [results, Try.results79, go_sem, e0, e1, e2, e3]) rfl ⟨rfl, HB.out⟩
set_option maxRecDepth 100000 in
theorem FirstR8_any (w : World) : Calls Try.prog 79 #[.int .i64 8] w fun e w' => e = .returned (.agg #[.int .i64 1, .int .i64 2, .int .i64 0, .string ⟨#[]⟩]) ∧ Below w.heap.size w w' := by
  have CC := Lib.hid (fun W => (show Calls Try.prog 87 #[.string ⟨[110, 111, 110, 101].toArray⟩] W (fun e w' => e = .returned (.agg #[.int .i64 1, .int .i64 2, .int .i64 0, .string ⟨#[]⟩]) ∧ Below W.heap.size W w') from wordR10_any [110, 111, 110, 101] W))
  go_enter Try.func79, Try.ntmps79
  go_wp2_with fail
  refine (CC.out _).mono ?_
  rintro e w1 ⟨rfl, hb1⟩
  have hx1 : w1.heap[w.heap.size]? = some (.cells #[.int .i64 0, .int .i64 0, .int .i64 0, .string ⟨#[]⟩] 80 (0, 0)) := (hb1.block _ (by simp)).trans (heap_alloc_new w _)
  have k3 : Below w.heap.size w w1 := (below_oneP w (.cells #[.int .i64 0, .int .i64 0, .int .i64 0, .string ⟨#[]⟩] 80)).trans (hb1.mono (by simp))
  obtain ⟨x1, x2, x3, x4, v0, v1, v2, v3, ⟨p0, q0, r0⟩, ⟨p1, q1, r1⟩, ⟨p2, q2, r2⟩, ⟨p3, q3, r3⟩, h4⟩ := four_store w1 w.heap.size 80 _ 0 1 2 3 (.int .i64 1) (.int .i64 2) (.int .i64 0) (.string ⟨#[]⟩) hx1 (by decide) (by decide) (by decide) (by decide)
  have e0 := cell_of (k := 0) h4.here rfl
  have e1 := cell_of (k := 1) h4.here rfl
  have e2 := cell_of (k := 2) h4.here rfl
  have e3 := cell_of (k := 3) h4.here rfl
  have HB := Lib.hid (h4.below w.heap.size w (by omega) k3)
  clear hb1 hx1 k3 h4
  go_wp2_with fail
  exact bodyPost_ret (v := .agg #[.int .i64 1, .int .i64 2, .int .i64 0, .string ⟨#[]⟩]) (by simp [results, Try.results79, go_sem, e0, e1, e2, e3]) rfl ⟨rfl, HB.out⟩
set_option maxRecDepth 100000 in
theorem FirstR9_any (w : World) : Calls Try.prog 79 #[.int .i64 9] w fun e w' => e = .returned (.agg #[.int .i64 2, .int .i64 0, .int .i64 1, .string ⟨#[]⟩]) ∧ Below w.heap.size w w' := by
  go_enter Try.func79, Try.ntmps79
  go_wp2_with fail
  exact bodyPost_ret (v := .agg #[.int .i64 2, .int .i64 0, .int .i64 1, .string ⟨#[]⟩]) (by simp [results, Try.results79, go_sem]) rfl ⟨rfl, (Below.refl _ _).alloc (Nat.le_refl _) _⟩
set_option maxRecDepth 100000 in
theorem FirstR10_any (w : World) : Calls Try.prog 79 #[.int .i64 10] w fun e w' => e = .returned (.agg #[.int .i64 2, .int .i64 0, .int .i64 1, .string ⟨#[]⟩]) ∧ Below w.heap.size w w' := by
  go_enter Try.func79, Try.ntmps79
  go_wp2_with fail
  exact bodyPost_ret (v := .agg #[.int .i64 2, .int .i64 0, .int .i64 1, .string ⟨#[]⟩]) (by simp [results, Try.results79, go_sem]) rfl ⟨rfl, (Below.refl _ _).alloc (Nat.le_refl _) _⟩
set_option maxRecDepth 100000 in
theorem FirstR11_any (w : World) : Calls Try.prog 79 #[.int .i64 11] w fun e w' => e = .returned (.agg #[.int .i64 2, .int .i64 0, .int .i64 1, .string ⟨#[]⟩]) ∧ Below w.heap.size w w' := by
  go_enter Try.func79, Try.ntmps79
  go_wp2_with fail
  exact bodyPost_ret (v := .agg #[.int .i64 2, .int .i64 0, .int .i64 1, .string ⟨#[]⟩]) (by simp [results, Try.results79, go_sem]) rfl ⟨rfl, (Below.refl _ _).alloc (Nat.le_refl _) _⟩
set_option maxRecDepth 100000 in
theorem FirstR12_any (w : World) : Calls Try.prog 79 #[.int .i64 12] w fun e w' => e = .returned (.agg #[.int .i64 2, .int .i64 0, .int .i64 1, .string ⟨#[]⟩]) ∧ Below w.heap.size w w' := by
  go_enter Try.func79, Try.ntmps79
  go_wp2_with fail
  exact bodyPost_ret (v := .agg #[.int .i64 2, .int .i64 0, .int .i64 1, .string ⟨#[]⟩]) (by simp [results, Try.results79, go_sem]) rfl ⟨rfl, (Below.refl _ _).alloc (Nat.le_refl _) _⟩
set_option maxRecDepth 100000 in
theorem FirstR13_any (w : World) : Calls Try.prog 79 #[.int .i64 13] w fun e w' => e = .returned (.agg #[.int .i64 2, .int .i64 0, .int .i64 1, .string ⟨#[]⟩]) ∧ Below w.heap.size w w' := by
  go_enter Try.func79, Try.ntmps79
  go_wp2_with fail
  exact bodyPost_ret (v := .agg #[.int .i64 2, .int .i64 0, .int .i64 1, .string ⟨#[]⟩]) (by simp [results, Try.results79, go_sem]) rfl ⟨rfl, (Below.refl _ _).alloc (Nat.le_refl _) _⟩
set_option maxRecDepth 100000 in
theorem FirstR14_any (w : World) : Calls Try.prog 79 #[.int .i64 14] w fun e w' => e = .returned (.agg #[.int .i64 2, .int .i64 0, .int .i64 1, .string ⟨#[]⟩]) ∧ Below w.heap.size w w' := by
  go_enter Try.func79, Try.ntmps79
  go_wp2_with fail
  exact bodyPost_ret (v := .agg #[.int .i64 2, .int .i64 0, .int .i64 1, .string ⟨#[]⟩]) (by simp [results, Try.results79, go_sem]) rfl ⟨rfl, (Below.refl _ _).alloc (Nat.le_refl _) _⟩
set_option maxRecDepth 100000 in
theorem FirstR15_any (w : World) : Calls Try.prog 79 #[.int .i64 15] w fun e w' => e = .returned (.agg #[.int .i64 2, .int .i64 0, .int .i64 1, .string ⟨#[]⟩]) ∧ Below w.heap.size w w' := by
  go_enter Try.func79, Try.ntmps79
  go_wp2_with fail
  exact bodyPost_ret (v := .agg #[.int .i64 2, .int .i64 0, .int .i64 1, .string ⟨#[]⟩]) (by simp [results, Try.results79, go_sem]) rfl ⟨rfl, (Below.refl _ _).alloc (Nat.le_refl _) _⟩
set_option maxRecDepth 100000 in
theorem FirstR16_any (w : World) : Calls Try.prog 79 #[.int .i64 16] w fun e w' => e = .returned (.agg #[.int .i64 2, .int .i64 0, .int .i64 1, .string ⟨#[]⟩]) ∧ Below w.heap.size w w' := by
  go_enter Try.func79, Try.ntmps79
  go_wp2_with fail
  exact bodyPost_ret (v := .agg #[.int .i64 2, .int .i64 0, .int .i64 1, .string ⟨#[]⟩]) (by simp [results, Try.results79, go_sem]) rfl ⟨rfl, (Below.refl _ _).alloc (Nat.le_refl _) _⟩
set_option maxRecDepth 100000 in
theorem FirstR17_any (w : World) : Calls Try.prog 79 #[.int .i64 17] w fun e w' => e = .returned (.agg #[.int .i64 2, .int .i64 0, .int .i64 1, .string ⟨#[]⟩]) ∧ Below w.heap.size w w' := by
  go_enter Try.func79, Try.ntmps79
  go_wp2_with fail
  exact bodyPost_ret (v := .agg #[.int .i64 2, .int .i64 0, .int .i64 1, .string ⟨#[]⟩]) (by simp [results, Try.results79, go_sem]) rfl ⟨rfl, (Below.refl _ _).alloc (Nat.le_refl _) _⟩
set_option maxRecDepth 100000 in
theorem FirstR18_any (w : World) : Calls Try.prog 79 #[.int .i64 18] w fun e w' => e = .returned (.agg #[.int .i64 2, .int .i64 0, .int .i64 1, .string ⟨#[]⟩]) ∧ Below w.heap.size w w' := by
  go_enter Try.func79, Try.ntmps79
  go_wp2_with fail
  exact bodyPost_ret (v := .agg #[.int .i64 2, .int .i64 0, .int .i64 1, .string ⟨#[]⟩]) (by simp [results, Try.results79, go_sem]) rfl ⟨rfl, (Below.refl _ _).alloc (Nat.le_refl _) _⟩
set_option maxRecDepth 100000 in
theorem FirstR19_any (w : World) : Calls Try.prog 79 #[.int .i64 19] w fun e w' => e = .returned (.agg #[.int .i64 2, .int .i64 0, .int .i64 1, .string ⟨#[]⟩]) ∧ Below w.heap.size w w' := by
  go_enter Try.func79, Try.ntmps79
  go_wp2_with fail
  exact bodyPost_ret (v := .agg #[.int .i64 2, .int .i64 0, .int .i64 1, .string ⟨#[]⟩]) (by simp [results, Try.results79, go_sem]) rfl ⟨rfl, (Below.refl _ _).alloc (Nat.le_refl _) _⟩
set_option maxRecDepth 100000 in
theorem FirstR20_any (w : World) : Calls Try.prog 79 #[.int .i64 20] w fun e w' => e = .returned (.agg #[.int .i64 2, .int .i64 0, .int .i64 1, .string ⟨#[]⟩]) ∧ Below w.heap.size w w' := by
  go_enter Try.func79, Try.ntmps79
  go_wp2_with fail
  exact bodyPost_ret (v := .agg #[.int .i64 2, .int .i64 0, .int .i64 1, .string ⟨#[]⟩]) (by simp [results, Try.results79, go_sem]) rfl ⟨rfl, (Below.refl _ _).alloc (Nat.le_refl _) _⟩
set_option maxRecDepth 100000 in
theorem FirstR21_any (w : World) : Calls Try.prog 79 #[.int .i64 21] w fun e w' => e = .returned (.agg #[.int .i64 1, .int .i64 1, .int .i64 0, .string ⟨#[]⟩]) ∧ Below w.heap.size w w' := by
  have CC := Lib.hid (fun W => (show Calls Try.prog 87 #[.string ⟨[97, 117, 116, 111].toArray⟩] W (fun e w' => e = .returned (.agg #[.int .i64 1, .int .i64 1, .int .i64 0, .string ⟨#[]⟩]) ∧ Below W.heap.size W w') from wordR10_any [97, 117, 116, 111] W))
  go_enter Try.func79, Try.ntmps79
  go_wp2_with fail
  refine (CC.out _).mono ?_
  rintro e w1 ⟨rfl, hb1⟩
  have hx1 : w1.heap[w.heap.size]? = some (.cells #[.int .i64 0, .int .i64 0, .int .i64 0, .string ⟨#[]⟩] 80 (0, 0)) := (hb1.block _ (by simp)).trans (heap_alloc_new w _)
  have k3 : Below w.heap.size w w1 := (below_oneP w (.cells #[.int .i64 0, .int .i64 0, .int .i64 0, .string ⟨#[]⟩] 80)).trans (hb1.mono (by simp))
  obtain ⟨x1, x2, x3, x4, v0, v1, v2, v3, ⟨p0, q0, r0⟩, ⟨p1, q1, r1⟩, ⟨p2, q2, r2⟩, ⟨p3, q3, r3⟩, h4⟩ := four_store w1 w.heap.size 80 _ 0 1 2 3 (.int .i64 1) (.int .i64 1) (.int .i64 0) (.string ⟨#[]⟩) hx1 (by decide) (by decide) (by decide) (by decide)
  have e0 := cell_of (k := 0) h4.here rfl
  have e1 := cell_of (k := 1) h4.here rfl
  have e2 := cell_of (k := 2) h4.here rfl
  have e3 := cell_of (k := 3) h4.here rfl
  have HB := Lib.hid (h4.below w.heap.size w (by omega) k3)
  clear hb1 hx1 k3 h4
  go_wp2_with fail
  exact bodyPost_ret (v := .agg #[.int .i64 1, .int .i64 1, .int .i64 0, .string ⟨#[]⟩]) (by simp [results, Try.results79, go_sem, e0, e1, e2, e3]) rfl ⟨rfl, HB.out⟩
set_option maxRecDepth 100000 in
theorem FirstR22_any (w : World) : Calls Try.prog 79 #[.int .i64 22] w fun e w' => e = .returned (.agg #[.int .i64 1, .int .i64 10, .int .i64 0, .string ⟨#[]⟩]) ∧ Below w.heap.size w w' := by
  have CC := Lib.hid (fun W => (show Calls Try.prog 87 #[.string ⟨[114, 111, 119].toArray⟩] W (fun e w' => e = .returned (.agg #[.int .i64 1, .int .i64 10, .int .i64 0, .string ⟨#[]⟩]) ∧ Below W.heap.size W w') from wordR10_any [114, 111, 119] W))
  go_enter Try.func79, Try.ntmps79
  go_wp2_with fail
  refine (CC.out _).mono ?_
  rintro e w1 ⟨rfl, hb1⟩
  have hx1 : w1.heap[w.heap.size]? = some (.cells #[.int .i64 0, .int .i64 0, .int .i64 0, .string ⟨#[]⟩] 80 (0, 0)) := (hb1.block _ (by simp)).trans (heap_alloc_new w _)
  have k3 : Below w.heap.size w w1 := (below_oneP w (.cells #[.int .i64 0, .int .i64 0, .int .i64 0, .string ⟨#[]⟩] 80)).trans (hb1.mono (by simp))
  obtain ⟨x1, x2, x3, x4, v0, v1, v2, v3, ⟨p0, q0, r0⟩, ⟨p1, q1, r1⟩, ⟨p2, q2, r2⟩, ⟨p3, q3, r3⟩, h4⟩ := four_store w1 w.heap.size 80 _ 0 1 2 3 (.int .i64 1) (.int .i64 10) (.int .i64 0) (.string ⟨#[]⟩) hx1 (by decide) (by decide) (by decide) (by decide)
  have e0 := cell_of (k := 0) h4.here rfl
  have e1 := cell_of (k := 1) h4.here rfl
  have e2 := cell_of (k := 2) h4.here rfl
  have e3 := cell_of (k := 3) h4.here rfl
  have HB := Lib.hid (h4.below w.heap.size w (by omega) k3)
  clear hb1 hx1 k3 h4
  go_wp2_with fail
  exact bodyPost_ret (v := .agg #[.int .i64 1, .int .i64 10, .int .i64 0, .string ⟨#[]⟩]) (by simp [results, Try.results79, go_sem, e0, e1, e2, e3]) rfl ⟨rfl, HB.out⟩
set_option maxRecDepth 100000 in
theorem FirstR23_any (w : World) : Calls Try.prog 79 #[.int .i64 23] w fun e w' => e = .returned (.agg #[.int .i64 1, .int .i64 14, .int .i64 0, .string ⟨#[]⟩]) ∧ Below w.heap.size w w' := by
  have CC := Lib.hid (fun W => (show Calls Try.prog 87 #[.string ⟨[110, 111, 119, 114, 97, 112].toArray⟩] W (fun e w' => e = .returned (.agg #[.int .i64 1, .int .i64 14, .int .i64 0, .string ⟨#[]⟩]) ∧ Below W.heap.size W w') from wordR10_any [110, 111, 119, 114, 97, 112] W))
  go_enter Try.func79, Try.ntmps79
  go_wp2_with fail
  refine (CC.out _).mono ?_
  rintro e w1 ⟨rfl, hb1⟩
  have hx1 : w1.heap[w.heap.size]? = some (.cells #[.int .i64 0, .int .i64 0, .int .i64 0, .string ⟨#[]⟩] 80 (0, 0)) := (hb1.block _ (by simp)).trans (heap_alloc_new w _)
  have k3 : Below w.heap.size w w1 := (below_oneP w (.cells #[.int .i64 0, .int .i64 0, .int .i64 0, .string ⟨#[]⟩] 80)).trans (hb1.mono (by simp))
  obtain ⟨x1, x2, x3, x4, v0, v1, v2, v3, ⟨p0, q0, r0⟩, ⟨p1, q1, r1⟩, ⟨p2, q2, r2⟩, ⟨p3, q3, r3⟩, h4⟩ := four_store w1 w.heap.size 80 _ 0 1 2 3 (.int .i64 1) (.int .i64 14) (.int .i64 0) (.string ⟨#[]⟩) hx1 (by decide) (by decide) (by decide) (by decide)
  have e0 := cell_of (k := 0) h4.here rfl
  have e1 := cell_of (k := 1) h4.here rfl
  have e2 := cell_of (k := 2) h4.here rfl
  have e3 := cell_of (k := 3) h4.here rfl
  have HB := Lib.hid (h4.below w.heap.size w (by omega) k3)
  clear hb1 hx1 k3 h4
  go_wp2_with fail
  exact bodyPost_ret (v := .agg #[.int .i64 1, .int .i64 14, .int .i64 0, .string ⟨#[]⟩]) (by simp [results, Try.results79, go_sem, e0, e1, e2, e3]) rfl ⟨rfl, HB.out⟩
set_option maxRecDepth 100000 in
theorem FirstR24_any (w : World) : Calls Try.prog 79 #[.int .i64 24] w fun e w' => e = .returned (.agg #[.int .i64 4, .int .i64 0, .int .i64 0, .string ⟨#[]⟩]) ∧ Below w.heap.size w w' := by
  go_enter Try.func79, Try.ntmps79
  go_wp2_with fail
  exact bodyPost_ret (v := .agg #[.int .i64 4, .int .i64 0, .int .i64 0, .string ⟨#[]⟩]) (by simp [results, Try.results79, go_sem]) rfl ⟨rfl, (Below.refl _ _).alloc (Nat.le_refl _) _⟩
set_option maxRecDepth 100000 in
theorem FirstR25_any (w : World) : Calls Try.prog 79 #[.int .i64 25] w fun e w' => e = .returned (.agg #[.int .i64 4, .int .i64 1000, .int .i64 0, .string ⟨#[]⟩]) ∧ Below w.heap.size w w' := by
  go_enter Try.func79, Try.ntmps79
  go_wp2_with fail
  exact bodyPost_ret (v := .agg #[.int .i64 4, .int .i64 1000, .int .i64 0, .string ⟨#[]⟩]) (by simp [results, Try.results79, go_sem]) rfl ⟨rfl, (Below.refl _ _).alloc (Nat.le_refl _) _⟩
set_option maxRecDepth 100000 in
theorem FirstR26_any (w : World) : Calls Try.prog 79 #[.int .i64 26] w fun e w' => e = .returned (.agg #[.int .i64 1, .int .i64 1, .int .i64 0, .string ⟨#[]⟩]) ∧ Below w.heap.size w w' := by
  have CC := Lib.hid (fun W => (show Calls Try.prog 87 #[.string ⟨[97, 117, 116, 111].toArray⟩] W (fun e w' => e = .returned (.agg #[.int .i64 1, .int .i64 1, .int .i64 0, .string ⟨#[]⟩]) ∧ Below W.heap.size W w') from wordR10_any [97, 117, 116, 111] W))
  go_enter Try.func79, Try.ntmps79
  go_wp2_with fail
  refine (CC.out _).mono ?_
  rintro e w1 ⟨rfl, hb1⟩
  have hx1 : w1.heap[w.heap.size]? = some (.cells #[.int .i64 0, .int .i64 0, .int .i64 0, .string ⟨#[]⟩] 80 (0, 0)) := (hb1.block _ (by simp)).trans (heap_alloc_new w _)
  have k3 : Below w.heap.size w w1 := (below_oneP w (.cells #[.int .i64 0, .int .i64 0, .int .i64 0, .string ⟨#[]⟩] 80)).trans (hb1.mono (by simp))
  obtain ⟨x1, x2, x3, x4, v0, v1, v2, v3, ⟨p0, q0, r0⟩, ⟨p1, q1, r1⟩, ⟨p2, q2, r2⟩, ⟨p3, q3, r3⟩, h4⟩ := four_store w1 w.heap.size 80 _ 0 1 2 3 (.int .i64 1) (.int .i64 1) (.int .i64 0) (.string ⟨#[]⟩) hx1 (by decide) (by decide) (by decide) (by decide)
  have e0 := cell_of (k := 0) h4.here rfl
  have e1 := cell_of (k := 1) h4.here rfl
  have e2 := cell_of (k := 2) h4.here rfl
  have e3 := cell_of (k := 3) h4.here rfl
  have HB := Lib.hid (h4.below w.heap.size w (by omega) k3)
  clear hb1 hx1 k3 h4
  go_wp2_with fail
  exact bodyPost_ret (v := .agg #[.int .i64 1, .int .i64 1, .int .i64 0, .string ⟨#[]⟩]) (by simp [results, Try.results79, go_sem, e0, e1, e2, e3]) rfl ⟨rfl, HB.out⟩
set_option maxRecDepth 100000 in
theorem FirstR27_any (w : World) : Calls Try.prog 79 #[.int .i64 27] w fun e w' => e = .returned (.agg #[.int .i64 4, .int .i64 0, .int .i64 0, .string ⟨#[]⟩]) ∧ Below w.heap.size w w' := by
  go_enter Try.func79, Try.ntmps79
  go_wp2_with fail
  exact bodyPost_ret (v := .agg #[.int .i64 4, .int .i64 0, .int .i64 0, .string ⟨#[]⟩]) (by simp [results, Try.results79, go_sem]) rfl ⟨rfl, (Below.refl _ _).alloc (Nat.le_refl _) _⟩
set_option maxRecDepth 100000 in
theorem FirstR28_any (w : World) : Calls Try.prog 79 #[.int .i64 28] w fun e w' => e = .returned (.agg #[.int .i64 1, .int .i64 17, .int .i64 0, .string ⟨#[]⟩]) ∧ Below w.heap.size w w' := by
  have CC := Lib.hid (fun W => (show Calls Try.prog 87 #[.string ⟨[115, 116, 97, 114, 116].toArray⟩] W (fun e w' => e = .returned (.agg #[.int .i64 1, .int .i64 17, .int .i64 0, .string ⟨#[]⟩]) ∧ Below W.heap.size W w') from wordR10_any [115, 116, 97, 114, 116] W))
  go_enter Try.func79, Try.ntmps79
  go_wp2_with fail
  refine (CC.out _).mono ?_
  rintro e w1 ⟨rfl, hb1⟩
  have hx1 : w1.heap[w.heap.size]? = some (.cells #[.int .i64 0, .int .i64 0, .int .i64 0, .string ⟨#[]⟩] 80 (0, 0)) := (hb1.block _ (by simp)).trans (heap_alloc_new w _)
  have k3 : Below w.heap.size w w1 := (below_oneP w (.cells #[.int .i64 0, .int .i64 0, .int .i64 0, .string ⟨#[]⟩] 80)).trans (hb1.mono (by simp))
  obtain ⟨x1, x2, x3, x4, v0, v1, v2, v3, ⟨p0, q0, r0⟩, ⟨p1, q1, r1⟩, ⟨p2, q2, r2⟩, ⟨p3, q3, r3⟩, h4⟩ := four_store w1 w.heap.size 80 _ 0 1 2 3 (.int .i64 1) (.int .i64 17) (.int .i64 0) (.string ⟨#[]⟩) hx1 (by decide) (by decide) (by decide) (by decide)
  have e0 := cell_of (k := 0) h4.here rfl
  have e1 := cell_of (k := 1) h4.here rfl
  have e2 := cell_of (k := 2) h4.here rfl
  have e3 := cell_of (k := 3) h4.here rfl
  have HB := Lib.hid (h4.below w.heap.size w (by omega) k3)
  clear hb1 hx1 k3 h4
  go_wp2_with fail
  exact bodyPost_ret (v := .agg #[.int .i64 1, .int .i64 17, .int .i64 0, .string ⟨#[]⟩]) (by simp [results, Try.results79, go_sem, e0, e1, e2, e3]) rfl ⟨rfl, HB.out⟩
set_option maxRecDepth 100000 in
theorem FirstR29_any (w : World) : Calls Try.prog 79 #[.int .i64 29] w fun e w' => e = .returned (.agg #[.int .i64 1, .int .i64 20, .int .i64 0, .string ⟨#[]⟩]) ∧ Below w.heap.size w w' := by
  have CC := Lib.hid (fun W => (show Calls Try.prog 87 #[.string ⟨[115, 116, 114, 101, 116, 99, 104].toArray⟩] W (fun e w' => e = .returned (.agg #[.int .i64 1, .int .i64 20, .int .i64 0, .string ⟨#[]⟩]) ∧ Below W.heap.size W w') from wordR10_any [115, 116, 114, 101, 116, 99, 104] W))
  go_enter Try.func79, Try.ntmps79
  go_wp2_with fail
  refine (CC.out _).mono ?_
  rintro e w1 ⟨rfl, hb1⟩
  have hx1 : w1.heap[w.heap.size]? = some (.cells #[.int .i64 0, .int .i64 0, .int .i64 0, .string ⟨#[]⟩] 80 (0, 0)) := (hb1.block _ (by simp)).trans (heap_alloc_new w _)
  have k3 : Below w.heap.size w w1 := (below_oneP w (.cells #[.int .i64 0, .int .i64 0, .int .i64 0, .string ⟨#[]⟩] 80)).trans (hb1.mono (by simp))
  obtain ⟨x1, x2, x3, x4, v0, v1, v2, v3, ⟨p0, q0, r0⟩, ⟨p1, q1, r1⟩, ⟨p2, q2, r2⟩, ⟨p3, q3, r3⟩, h4⟩ := four_store w1 w.heap.size 80 _ 0 1 2 3 (.int .i64 1) (.int .i64 20) (.int .i64 0) (.string ⟨#[]⟩) hx1 (by decide) (by decide) (by decide) (by decide)
  have e0 := cell_of (k := 0) h4.here rfl
  have e1 := cell_of (k := 1) h4.here rfl
  have e2 := cell_of (k := 2) h4.here rfl
  have e3 := cell_of (k := 3) h4.here rfl
  have HB := Lib.hid (h4.below w.heap.size w (by omega) k3)
  clear hb1 hx1 k3 h4
  go_wp2_with fail
  exact bodyPost_ret (v := .agg #[.int .i64 1, .int .i64 20, .int .i64 0, .string ⟨#[]⟩]) (by simp [results, Try.results79, go_sem, e0, e1, e2, e3]) rfl ⟨rfl, HB.out⟩
set_option maxRecDepth 100000 in
theorem FirstR30_any (w : World) : Calls Try.prog 79 #[.int .i64 30] w fun e w' => e = .returned (.agg #[.int .i64 1, .int .i64 1, .int .i64 0, .string ⟨#[]⟩]) ∧ Below w.heap.size w w' := by
  have CC := Lib.hid (fun W => (show Calls Try.prog 87 #[.string ⟨[97, 117, 116, 111].toArray⟩] W (fun e w' => e = .returned (.agg #[.int .i64 1, .int .i64 1, .int .i64 0, .string ⟨#[]⟩]) ∧ Below W.heap.size W w') from wordR10_any [97, 117, 116, 111] W))
  go_enter Try.func79, Try.ntmps79
  go_wp2_with fail
  refine (CC.out _).mono ?_
  rintro e w1 ⟨rfl, hb1⟩
  have hx1 : w1.heap[w.heap.size]? = some (.cells #[.int .i64 0, .int .i64 0, .int .i64 0, .string ⟨#[]⟩] 80 (0, 0)) := (hb1.block _ (by simp)).trans (heap_alloc_new w _)
  have k3 : Below w.heap.size w w1 := (below_oneP w (.cells #[.int .i64 0, .int .i64 0, .int .i64 0, .string ⟨#[]⟩] 80)).trans (hb1.mono (by simp))
  obtain ⟨x1, x2, x3, x4, v0, v1, v2, v3, ⟨p0, q0, r0⟩, ⟨p1, q1, r1⟩, ⟨p2, q2, r2⟩, ⟨p3, q3, r3⟩, h4⟩ := four_store w1 w.heap.size 80 _ 0 1 2 3 (.int .i64 1) (.int .i64 1) (.int .i64 0) (.string ⟨#[]⟩) hx1 (by decide) (by decide) (by decide) (by decide)
  have e0 := cell_of (k := 0) h4.here rfl
  have e1 := cell_of (k := 1) h4.here rfl
  have e2 := cell_of (k := 2) h4.here rfl
  have e3 := cell_of (k := 3) h4.here rfl
  have HB := Lib.hid (h4.below w.heap.size w (by omega) k3)
  clear hb1 hx1 k3 h4
  go_wp2_with fail
  exact bodyPost_ret (v := .agg #[.int .i64 1, .int .i64 1, .int .i64 0, .string ⟨#[]⟩]) (by simp [results, Try.results79, go_sem, e0, e1, e2, e3]) rfl ⟨rfl, HB.out⟩
set_option maxRecDepth 100000 in
theorem FirstR31_any (w : World) : Calls Try.prog 79 #[.int .i64 31] w fun e w' => e = .returned (.agg #[.int .i64 1, .int .i64 20, .int .i64 0, .string ⟨#[]⟩]) ∧ Below w.heap.size w w' := by
  have CC := Lib.hid (fun W => (show Calls Try.prog 87 #[.string ⟨[115, 116, 114, 101, 116, 99, 104].toArray⟩] W (fun e w' => e = .returned (.agg #[.int .i64 1, .int .i64 20, .int .i64 0, .string ⟨#[]⟩]) ∧ Below W.heap.size W w') from wordR10_any [115, 116, 114, 101, 116, 99, 104] W))
  go_enter Try.func79, Try.ntmps79
  go_wp2_with fail
  refine (CC.out _).mono ?_
  rintro e w1 ⟨rfl, hb1⟩
  have hx1 : w1.heap[w.heap.size]? = some (.cells #[.int .i64 0, .int .i64 0, .int .i64 0, .string ⟨#[]⟩] 80 (0, 0)) := (hb1.block _ (by simp)).trans (heap_alloc_new w _)
  have k3 : Below w.heap.size w w1 := (below_oneP w (.cells #[.int .i64 0, .int .i64 0, .int .i64 0, .string ⟨#[]⟩] 80)).trans (hb1.mono (by simp))
  obtain ⟨x1, x2, x3, x4, v0, v1, v2, v3, ⟨p0, q0, r0⟩, ⟨p1, q1, r1⟩, ⟨p2, q2, r2⟩, ⟨p3, q3, r3⟩, h4⟩ := four_store w1 w.heap.size 80 _ 0 1 2 3 (.int .i64 1) (.int .i64 20) (.int .i64 0) (.string ⟨#[]⟩) hx1 (by decide) (by decide) (by decide) (by decide)
  have e0 := cell_of (k := 0) h4.here rfl
  have e1 := cell_of (k := 1) h4.here rfl
  have e2 := cell_of (k := 2) h4.here rfl
  have e3 := cell_of (k := 3) h4.here rfl
  have HB := Lib.hid (h4.below w.heap.size w (by omega) k3)
  clear hb1 hx1 k3 h4
  go_wp2_with fail
  exact bodyPost_ret (v := .agg #[.int .i64 1, .int .i64 20, .int .i64 0, .string ⟨#[]⟩]) (by simp [results, Try.results79, go_sem, e0, e1, e2, e3]) rfl ⟨rfl, HB.out⟩
set_option maxRecDepth 100000 in
theorem FirstR32_any (w : World) : Calls Try.prog 79 #[.int .i64 32] w fun e w' => e = .returned (.agg #[.int .i64 1, .int .i64 24, .int .i64 0, .string ⟨#[]⟩]) ∧ Below w.heap.size w w' := by
  have CC := Lib.hid (fun W => (show Calls Try.prog 87 #[.string ⟨[110, 111, 114, 109, 97, 108].toArray⟩] W (fun e w' => e = .returned (.agg #[.int .i64 1, .int .i64 24, .int .i64 0, .string ⟨#[]⟩]) ∧ Below W.heap.size W w') from wordR10_any [110, 111, 114, 109, 97, 108] W))
  go_enter Try.func79, Try.ntmps79
  go_wp2_with fail
  refine (CC.out _).mono ?_
  rintro e w1 ⟨rfl, hb1⟩
  have hx1 : w1.heap[w.heap.size]? = some (.cells #[.int .i64 0, .int .i64 0, .int .i64 0, .string ⟨#[]⟩] 80 (0, 0)) := (hb1.block _ (by simp)).trans (heap_alloc_new w _)
  have k3 : Below w.heap.size w w1 := (below_oneP w (.cells #[.int .i64 0, .int .i64 0, .int .i64 0, .string ⟨#[]⟩] 80)).trans (hb1.mono (by simp))
  obtain ⟨x1, x2, x3, x4, v0, v1, v2, v3, ⟨p0, q0, r0⟩, ⟨p1, q1, r1⟩, ⟨p2, q2, r2⟩, ⟨p3, q3, r3⟩, h4⟩ := four_store w1 w.heap.size 80 _ 0 1 2 3 (.int .i64 1) (.int .i64 24) (.int .i64 0) (.string ⟨#[]⟩) hx1 (by decide) (by decide) (by decide) (by decide)
  have e0 := cell_of (k := 0) h4.here rfl
  have e1 := cell_of (k := 1) h4.here rfl
  have e2 := cell_of (k := 2) h4.here rfl
  have e3 := cell_of (k := 3) h4.here rfl
  have HB := Lib.hid (h4.below w.heap.size w (by omega) k3)
  clear hb1 hx1 k3 h4
  go_wp2_with fail
  exact bodyPost_ret (v := .agg #[.int .i64 1, .int .i64 24, .int .i64 0, .string ⟨#[]⟩]) (by simp [results, Try.results79, go_sem, e0, e1, e2, e3]) rfl ⟨rfl, HB.out⟩
set_option maxRecDepth 100000 in
theorem FirstR33_any (w : World) : Calls Try.prog 79 #[.int .i64 33] w fun e w' => e = .returned (.agg #[.int .i64 1, .int .i64 24, .int .i64 0, .string ⟨#[]⟩]) ∧ Below w.heap.size w w' := by
  have CC := Lib.hid (fun W => (show Calls Try.prog 87 #[.string ⟨[110, 111, 114, 109, 97, 108].toArray⟩] W (fun e w' => e = .returned (.agg #[.int .i64 1, .int .i64 24, .int .i64 0, .string ⟨#[]⟩]) ∧ Below W.heap.size W w') from wordR10_any [110, 111, 114, 109, 97, 108] W))
  go_enter Try.func79, Try.ntmps79
  go_wp2_with fail
  refine (CC.out _).mono ?_
  rintro e w1 ⟨rfl, hb1⟩
  have hx1 : w1.heap[w.heap.size]? = some (.cells #[.int .i64 0, .int .i64 0, .int .i64 0, .string ⟨#[]⟩] 80 (0, 0)) := (hb1.block _ (by simp)).trans (heap_alloc_new w _)
  have k3 : Below w.heap.size w w1 := (below_oneP w (.cells #[.int .i64 0, .int .i64 0, .int .i64 0, .string ⟨#[]⟩] 80)).trans (hb1.mono (by simp))
  obtain ⟨x1, x2, x3, x4, v0, v1, v2, v3, ⟨p0, q0, r0⟩, ⟨p1, q1, r1⟩, ⟨p2, q2, r2⟩, ⟨p3, q3, r3⟩, h4⟩ := four_store w1 w.heap.size 80 _ 0 1 2 3 (.int .i64 1) (.int .i64 24) (.int .i64 0) (.string ⟨#[]⟩) hx1 (by decide) (by decide) (by decide) (by decide)
  have e0 := cell_of (k := 0) h4.here rfl
  have e1 := cell_of (k := 1) h4.here rfl
  have e2 := cell_of (k := 2) h4.here rfl
  have e3 := cell_of (k := 3) h4.here rfl
  have HB := Lib.hid (h4.below w.heap.size w (by omega) k3)
  clear hb1 hx1 k3 h4
  go_wp2_with fail
  exact bodyPost_ret (v := .agg #[.int .i64 1, .int .i64 24, .int .i64 0, .string ⟨#[]⟩]) (by simp [results, Try.results79, go_sem, e0, e1, e2, e3]) rfl ⟨rfl, HB.out⟩
set_option maxRecDepth 100000 in
theorem FirstR34_any (w : World) : Calls Try.prog 79 #[.int .i64 34] w fun e w' => e = .returned (.agg #[.int .i64 1, .int .i64 24, .int .i64 0, .string ⟨#[]⟩]) ∧ Below w.heap.size w w' := by
  have CC := Lib.hid (fun W => (show Calls Try.prog 87 #[.string ⟨[110, 111, 114, 109, 97, 108].toArray⟩] W (fun e w' => e = .returned (.agg #[.int .i64 1, .int .i64 24, .int .i64 0, .string ⟨#[]⟩]) ∧ Below W.heap.size W w') from wordR10_any [110, 111, 114, 109, 97, 108] W))
  go_enter Try.func79, Try.ntmps79
  go_wp2_with fail
  refine (CC.out _).mono ?_
  rintro e w1 ⟨rfl, hb1⟩
  have hx1 : w1.heap[w.heap.size]? = some (.cells #[.int .i64 0, .int .i64 0, .int .i64 0, .string ⟨#[]⟩] 80 (0, 0)) := (hb1.block _ (by simp)).trans (heap_alloc_new w _)
  have k3 : Below w.heap.size w w1 := (below_oneP w (.cells #[.int .i64 0, .int .i64 0, .int .i64 0, .string ⟨#[]⟩] 80)).trans (hb1.mono (by simp))
  obtain ⟨x1, x2, x3, x4, v0, v1, v2, v3, ⟨p0, q0, r0⟩, ⟨p1, q1, r1⟩, ⟨p2, q2, r2⟩, ⟨p3, q3, r3⟩, h4⟩ := four_store w1 w.heap.size 80 _ 0 1 2 3 (.int .i64 1) (.int .i64 24) (.int .i64 0) (.string ⟨#[]⟩) hx1 (by decide) (by decide) (by decide) (by decide)
  have e0 := cell_of (k := 0) h4.here rfl
  have e1 := cell_of (k := 1) h4.here rfl
  have e2 := cell_of (k := 2) h4.here rfl
  have e3 := cell_of (k := 3) h4.here rfl
  have HB := Lib.hid (h4.below w.heap.size w (by omega) k3)
  clear hb1 hx1 k3 h4
  go_wp2_with fail
  exact bodyPost_ret (v := .agg #[.int .i64 1, .int .i64 24, .int .i64 0, .string ⟨#[]⟩]) (by simp [results, Try.results79, go_sem, e0, e1, e2, e3]) rfl ⟨rfl, HB.out⟩
set_option maxRecDepth 100000 in
theorem FirstR35_any (w : World) : Calls Try.prog 79 #[.int .i64 35] w fun e w' => e = .returned (.agg #[.int .i64 1, .int .i64 2, .int .i64 0, .string ⟨#[]⟩]) ∧ Below w.heap.size w w' := by
  have CC := Lib.hid (fun W => (show Calls Try.prog 87 #[.string ⟨[110, 111, 110, 101].toArray⟩] W (fun e w' => e = .returned (.agg #[.int .i64 1, .int .i64 2, .int .i64 0, .string ⟨#[]⟩]) ∧ Below W.heap.size W w') from wordR10_any [110, 111, 110, 101] W))
  go_enter Try.func79, Try.ntmps79
  go_wp2_with fail
  refine (CC.out _).mono ?_
  rintro e w1 ⟨rfl, hb1⟩
  have hx1 : w1.heap[w.heap.size]? = some (.cells #[.int .i64 0, .int .i64 0, .int .i64 0, .string ⟨#[]⟩] 80 (0, 0)) := (hb1.block _ (by simp)).trans (heap_alloc_new w _)
  have k3 : Below w.heap.size w w1 := (below_oneP w (.cells #[.int .i64 0, .int .i64 0, .int .i64 0, .string ⟨#[]⟩] 80)).trans (hb1.mono (by simp))
  obtain ⟨x1, x2, x3, x4, v0, v1, v2, v3, ⟨p0, q0, r0⟩, ⟨p1, q1, r1⟩, ⟨p2, q2, r2⟩, ⟨p3, q3, r3⟩, h4⟩ := four_store w1 w.heap.size 80 _ 0 1 2 3 (.int .i64 1) (.int .i64 2) (.int .i64 0) (.string ⟨#[]⟩) hx1 (by decide) (by decide) (by decide) (by decide)
  have e0 := cell_of (k := 0) h4.here rfl
  have e1 := cell_of (k := 1) h4.here rfl
  have e2 := cell_of (k := 2) h4.here rfl
  have e3 := cell_of (k := 3) h4.here rfl
  have HB := Lib.hid (h4.below w.heap.size w (by omega) k3)
  clear hb1 hx1 k3 h4
  go_wp2_with fail
  exact bodyPost_ret (v := .agg #[.int .i64 1, .int .i64 2, .int .i64 0, .string ⟨#[]⟩]) (by simp [results, Try.results79, go_sem, e0, e1, e2, e3]) rfl ⟨rfl, HB.out⟩
set_option maxRecDepth 100000 in
theorem FirstR36_any (w : World) : Calls Try.prog 79 #[.int .i64 36] w fun e w' => e = .returned (.agg #[.int .i64 2, .int .i64 16000, .int .i64 1, .string ⟨#[]⟩]) ∧ Below w.heap.size w w' := by
  go_enter Try.func79, Try.ntmps79
  go_wp2_with fail
  exact bodyPost_ret (v := .agg #[.int .i64 2, .int .i64 16000, .int .i64 1, .string ⟨#[]⟩]) (by simp [results, Try.results79, go_sem]) rfl ⟨rfl, (Below.refl _ _).alloc (Nat.le_refl _) _⟩
set_option maxRecDepth 100000 in
theorem FirstR37_any (w : World) : Calls Try.prog 79 #[.int .i64 37] w fun e w' => e = .returned (.agg #[.int .i64 1, .int .i64 24, .int .i64 0, .string ⟨#[]⟩]) ∧ Below w.heap.size w w' := by
  have CC := Lib.hid (fun W => (show Calls Try.prog 87 #[.string ⟨[110, 111, 114, 109, 97, 108].toArray⟩] W (fun e w' => e = .returned (.agg #[.int .i64 1, .int .i64 24, .int .i64 0, .string ⟨#[]⟩]) ∧ Below W.heap.size W w') from wordR10_any [110, 111, 114, 109, 97, 108] W))
  go_enter Try.func79, Try.ntmps79
  go_wp2_with fail
  refine (CC.out _).mono ?_
  rintro e w1 ⟨rfl, hb1⟩
  have hx1 : w1.heap[w.heap.size]? = some (.cells #[.int .i64 0, .int .i64 0, .int .i64 0, .string ⟨#[]⟩] 80 (0, 0)) := (hb1.block _ (by simp)).trans (heap_alloc_new w _)
  have k3 : Below w.heap.size w w1 := (below_oneP w (.cells #[.int .i64 0, .int .i64 0, .int .i64 0, .string ⟨#[]⟩] 80)).trans (hb1.mono (by simp))
  obtain ⟨x1, x2, x3, x4, v0, v1, v2, v3, ⟨p0, q0, r0⟩, ⟨p1, q1, r1⟩, ⟨p2, q2, r2⟩, ⟨p3, q3, r3⟩, h4⟩ := four_store w1 w.heap.size 80 _ 0 1 2 3 (.int .i64 1) (.int .i64 24) (.int .i64 0) (.string ⟨#[]⟩) hx1 (by decide) (by decide) (by decide) (by decide)
  have e0 := cell_of (k := 0) h4.here rfl
  have e1 := cell_of (k := 1) h4.here rfl
  have e2 := cell_of (k := 2) h4.here rfl
  have e3 := cell_of (k := 3) h4.here rfl
  have HB := Lib.hid (h4.below w.heap.size w (by omega) k3)
  clear hb1 hx1 k3 h4
  go_wp2_with fail
  exact bodyPost_ret (v := .agg #[.int .i64 1, .int .i64 24, .int .i64 0, .string ⟨#[]⟩]) (by simp [results, Try.results79, go_sem, e0, e1, e2, e3]) rfl ⟨rfl, HB.out⟩
theorem FirstRP_any (p : Int) (h1 : 1 ≤ p) (h2 : p ≤ 37) (w : World) : Calls Try.prog 79 #[.int .i64 p] w fun e w' => e = .returned (retV (firstZ p)) ∧ Below w.heap.size w w' := by
  have h : p = 1 ∨ p = 2 ∨ p = 3 ∨ p = 4 ∨ p = 5 ∨ p = 6 ∨ p = 7 ∨ p = 8 ∨ p = 9 ∨ p = 10 ∨ p = 11 ∨ p = 12 ∨ p = 13 ∨ p = 14 ∨ p = 15 ∨ p = 16 ∨ p = 17 ∨ p = 18 ∨ p = 19 ∨ p = 20 ∨ p = 21 ∨ p = 22 ∨ p = 23 ∨ p = 24 ∨ p = 25 ∨ p = 26 ∨ p = 27 ∨ p = 28 ∨ p = 29 ∨ p = 30 ∨ p = 31 ∨ p = 32 ∨ p = 33 ∨ p = 34 ∨ p = 35 ∨ p = 36 ∨ p = 37 := by omega
  rcases h with rfl | rfl | rfl | rfl | rfl | rfl | rfl | rfl | rfl | rfl | rfl | rfl | rfl | rfl | rfl | rfl | rfl | rfl | rfl | rfl | rfl | rfl | rfl | rfl | rfl | rfl | rfl | rfl | rfl | rfl | rfl | rfl | rfl | rfl | rfl | rfl | rfl
  · exact FirstR1_any w
  · exact FirstR2_any w
  · exact FirstR3_any w
  · exact FirstR4_any w
  · exact FirstR5_any w
  · exact FirstR6_any w
  · exact FirstR7_any w
  · exact FirstR8_any w
  · exact FirstR9_any w
  · exact FirstR10_any w
  · exact FirstR11_any w
  · exact FirstR12_any w
  · exact FirstR13_any w
  · exact FirstR14_any w
  · exact FirstR15_any w
  · exact FirstR16_any w
  · exact FirstR17_any w
  · exact FirstR18_any w
  · exact FirstR19_any w
  · exact FirstR20_any w
  · exact FirstR21_any w
  · exact FirstR22_any w
  · exact FirstR23_any w
  · exact FirstR24_any w
  · exact FirstR25_any w
  · exact FirstR26_any w
  · exact FirstR27_any w
  · exact FirstR28_any w
  · exact FirstR29_any w
  · exact FirstR30_any w
  · exact FirstR31_any w
  · exact FirstR32_any w
  · exact FirstR33_any w
  · exact FirstR34_any w
  · exact FirstR35_any w
  · exact FirstR36_any w
  · exact FirstR37_any w
end Go.Proofs.Ythfabalnioggcaa

namespace Go.Proofs.Ythfabalnioggcaa
open Go.RowKit TreN LexP FixP SynP ValP PropP FixM
set_option linter.unusedVariables false

end Go.Proofs.Ythfabalnioggcaa
