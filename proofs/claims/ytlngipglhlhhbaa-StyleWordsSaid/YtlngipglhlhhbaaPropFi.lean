/- Joined texts: PropW9 PropWA PropWB PropWC. -/
import Derived.Test.YtlngipglhlhhbaaPropTkc
import Derived.Test.YtlngipglhlhhbaaValWe
namespace Go.Proofs.Ytlngipglhlhhbaa
open Go.RowKit TreN LexP FixP SynP ValP PropP FixM
set_option linter.unusedVariables false

set_option maxRecDepth 100000 in
theorem px10_any (n : Int) (w : World) : Calls Try.prog 37 #[.int .i64 n] w fun e w' => e = .returned (.agg #[.int .i64 2, .int .i64 n, .int .i64 1, .string ⟨#[]⟩]) ∧ Below w.heap.size w w' := by
  go_enter Try.func37, Try.ntmps37
  go_wp2_with fail
  exact bodyPost_ret (v := .agg #[.int .i64 2, .int .i64 n, .int .i64 1, .string ⟨#[]⟩]) (by simp [results, Try.results37, go_sem]) rfl ⟨rfl, (Below.refl _ _).alloc (Nat.le_refl _) _⟩
set_option maxRecDepth 100000 in
theorem number10_any (n : Int) (w : World) : Calls Try.prog 38 #[.int .i64 n] w fun e w' => e = .returned (.agg #[.int .i64 4, .int .i64 n, .int .i64 0, .string ⟨#[]⟩]) ∧ Below w.heap.size w w' := by
  go_enter Try.func38, Try.ntmps38
  go_wp2_with fail
  exact bodyPost_ret (v := .agg #[.int .i64 4, .int .i64 n, .int .i64 0, .string ⟨#[]⟩]) (by simp [results, Try.results38, go_sem]) rfl ⟨rfl, (Below.refl _ _).alloc (Nat.le_refl _) _⟩
set_option maxRecDepth 100000 in
theorem word10_any (s : List UInt8) (w : World) : Calls Try.prog 36 #[.string ⟨s.toArray⟩] w fun e w' => e = .returned (.agg #[.int .i64 1, .int .i64 (wordP s : Nat), .int .i64 0, .string ⟨#[]⟩]) ∧ Below w.heap.size w w' := by
  have C := fun W => Word_any s W
  obtain ⟨q, hq⟩ : ∃ q : Int, ((wordP s : Nat) : Int) = q := ⟨_, rfl⟩
  rw [hq] at C ⊢
  have CC := Lib.hid C
  clear hq C
  go_enter Try.func36, Try.ntmps36
  go_wp2_with fail
  refine (CC.out _).mono ?_
  rintro e w1 ⟨rfl, hb1⟩
  have hx1 : w1.heap[w.heap.size]? = some (.cells #[.int .i64 0, .int .i64 0, .int .i64 0, .string ⟨#[]⟩] 34 (0, 0)) := (hb1.block _ (by simp)).trans (heap_alloc_new w _)
  have k3 : Below w.heap.size w w1 := (below_oneP w (.cells #[.int .i64 0, .int .i64 0, .int .i64 0, .string ⟨#[]⟩] 34)).trans (hb1.mono (by simp))
  obtain ⟨x1, x2, x3, x4, v0, v1, v2, v3, ⟨p0, q0, r0⟩, ⟨p1, q1, r1⟩, ⟨p2, q2, r2⟩, ⟨p3, q3, r3⟩, h4⟩ := four_store w1 w.heap.size 34 _ 0 1 2 3 (.int .i64 1) (.int .i64 q) (.int .i64 0) (.string ⟨#[]⟩) hx1 (by decide) (by decide) (by decide) (by decide)
  have e0 := cell_of (k := 0) h4.here rfl
  have e1 := cell_of (k := 1) h4.here rfl
  have e2 := cell_of (k := 2) h4.here rfl
  have e3 := cell_of (k := 3) h4.here rfl
  have HB := Lib.hid (h4.below w.heap.size w (by omega) k3)
  clear hb1 hx1 k3 h4
  go_wp2_with fail
  exact bodyPost_ret (v := .agg #[.int .i64 1, .int .i64 q, .int .i64 0, .string ⟨#[]⟩]) (by simp [results, Try.results36, go_sem, e0, e1, e2, e3]) rfl ⟨rfl, HB.out⟩
end Go.Proofs.Ytlngipglhlhhbaa

namespace Go.Proofs.Ytlngipglhlhhbaa
open Go.RowKit TreN LexP FixP SynP ValP PropP FixM
set_option linter.unusedVariables false

set_option maxRecDepth 100000 in
theorem First1_any (w : World) : Calls Try.prog 23 #[.int .i64 1] w fun e w' => e = .returned (.agg #[.int .i64 1, .int .i64 3, .int .i64 0, .string ⟨#[]⟩]) ∧ Below w.heap.size w w' := by
  have CC := Lib.hid (fun W => (show Calls Try.prog 36 #[.string ⟨[98, 108, 111, 99, 107].toArray⟩] W (fun e w' => e = .returned (.agg #[.int .i64 1, .int .i64 3, .int .i64 0, .string ⟨#[]⟩]) ∧ Below W.heap.size W w') from word10_any [98, 108, 111, 99, 107] W))
  go_enter Try.func23, Try.ntmps23
  go_wp2_with fail
  refine (CC.out _).mono ?_
  rintro e w1 ⟨rfl, hb1⟩
  have hx1 : w1.heap[w.heap.size]? = some (.cells #[.int .i64 0, .int .i64 0, .int .i64 0, .string ⟨#[]⟩] 34 (0, 0)) := (hb1.block _ (by simp)).trans (heap_alloc_new w _)
  have k3 : Below w.heap.size w w1 := (below_oneP w (.cells #[.int .i64 0, .int .i64 0, .int .i64 0, .string ⟨#[]⟩] 34)).trans (hb1.mono (by simp))
  obtain ⟨x1, x2, x3, x4, v0, v1, v2, v3, ⟨p0, q0, r0⟩, ⟨p1, q1, r1⟩, ⟨p2, q2, r2⟩, ⟨p3, q3, r3⟩, h4⟩ := four_store w1 w.heap.size 34 _ 0 1 2 3 (.int .i64 1) (.int .i64 3) (.int .i64 0) (.string ⟨#[]⟩) hx1 (by decide) (by decide) (by decide) (by decide)
  have e0 := cell_of (k := 0) h4.here rfl
  have e1 := cell_of (k := 1) h4.here rfl
  have e2 := cell_of (k := 2) h4.here rfl
  have e3 := cell_of (k := 3) h4.here rfl
  have HB := Lib.hid (h4.below w.heap.size w (by omega) k3)
  clear hb1 hx1 k3 h4
  go_wp2_with fail
  exact bodyPost_ret (v := .agg #[.int .i64 1, .int .i64 3, .int .i64 0, .string ⟨#[]⟩]) (by simp [results, Try.results23, go_sem, e0, e1, e2, e3]) rfl ⟨rfl, HB.out⟩
set_option maxRecDepth 100000 in
theorem First2_any (w : World) : Calls Try.prog 23 #[.int .i64 2] w fun e w' => e = .returned (.agg #[.int .i64 1, .int .i64 5, .int .i64 0, .string ⟨#[]⟩]) ∧ Below w.heap.size w w' := by
  have CC := Lib.hid (fun W => (show Calls Try.prog 36 #[.string ⟨[99, 111, 110, 116, 101, 110, 116, 45, 98, 111, 120].toArray⟩] W (fun e w' => e = .returned (.agg #[.int .i64 1, .int .i64 5, .int .i64 0, .string ⟨#[]⟩]) ∧ Below W.heap.size W w') from word10_any [99, 111, 110, 116, 101, 110, 116, 45, 98, 111, 120] W))
  go_enter Try.func23, Try.ntmps23
  go_wp2_with fail
  refine (CC.out _).mono ?_
  rintro e w1 ⟨rfl, hb1⟩
  have hx1 : w1.heap[w.heap.size]? = some (.cells #[.int .i64 0, .int .i64 0, .int .i64 0, .string ⟨#[]⟩] 34 (0, 0)) := (hb1.block _ (by simp)).trans (heap_alloc_new w _)
  have k3 : Below w.heap.size w w1 := (below_oneP w (.cells #[.int .i64 0, .int .i64 0, .int .i64 0, .string ⟨#[]⟩] 34)).trans (hb1.mono (by simp))
  obtain ⟨x1, x2, x3, x4, v0, v1, v2, v3, ⟨p0, q0, r0⟩, ⟨p1, q1, r1⟩, ⟨p2, q2, r2⟩, ⟨p3, q3, r3⟩, h4⟩ := four_store w1 w.heap.size 34 _ 0 1 2 3 (.int .i64 1) (.int .i64 5) (.int .i64 0) (.string ⟨#[]⟩) hx1 (by decide) (by decide) (by decide) (by decide)
  have e0 := cell_of (k := 0) h4.here rfl
  have e1 := cell_of (k := 1) h4.here rfl
  have e2 := cell_of (k := 2) h4.here rfl
  have e3 := cell_of (k := 3) h4.here rfl
  have HB := Lib.hid (h4.below w.heap.size w (by omega) k3)
  clear hb1 hx1 k3 h4
  go_wp2_with fail
  exact bodyPost_ret (v := .agg #[.int .i64 1, .int .i64 5, .int .i64 0, .string ⟨#[]⟩]) (by simp [results, Try.results23, go_sem, e0, e1, e2, e3]) rfl ⟨rfl, HB.out⟩
set_option maxRecDepth 100000 in
theorem First3_any (w : World) : Calls Try.prog 23 #[.int .i64 3] w fun e w' => e = .returned (.agg #[.int .i64 1, .int .i64 1, .int .i64 0, .string ⟨#[]⟩]) ∧ Below w.heap.size w w' := by
  have CC := Lib.hid (fun W => (show Calls Try.prog 36 #[.string ⟨[97, 117, 116, 111].toArray⟩] W (fun e w' => e = .returned (.agg #[.int .i64 1, .int .i64 1, .int .i64 0, .string ⟨#[]⟩]) ∧ Below W.heap.size W w') from word10_any [97, 117, 116, 111] W))
  go_enter Try.func23, Try.ntmps23
  go_wp2_with fail
  refine (CC.out _).mono ?_
  rintro e w1 ⟨rfl, hb1⟩
  have hx1 : w1.heap[w.heap.size]? = some (.cells #[.int .i64 0, .int .i64 0, .int .i64 0, .string ⟨#[]⟩] 34 (0, 0)) := (hb1.block _ (by simp)).trans (heap_alloc_new w _)
  have k3 : Below w.heap.size w w1 := (below_oneP w (.cells #[.int .i64 0, .int .i64 0, .int .i64 0, .string ⟨#[]⟩] 34)).trans (hb1.mono (by simp))
  obtain ⟨x1, x2, x3, x4, v0, v1, v2, v3, ⟨p0, q0, r0⟩, ⟨p1, q1, r1⟩, ⟨p2, q2, r2⟩, ⟨p3, q3, r3⟩, h4⟩ := four_store w1 w.heap.size 34 _ 0 1 2 3 (.int .i64 1) (.int .i64 1) (.int .i64 0) (.string ⟨#[]⟩) hx1 (by decide) (by decide) (by decide) (by decide)
  have e0 := cell_of (k := 0) h4.here rfl
  have e1 := cell_of (k := 1) h4.here rfl
  have e2 := cell_of (k := 2) h4.here rfl
  have e3 := cell_of (k := 3) h4.here rfl
  have HB := Lib.hid (h4.below w.heap.size w (by omega) k3)
  clear hb1 hx1 k3 h4
  go_wp2_with fail
  exact bodyPost_ret (v := .agg #[.int .i64 1, .int .i64 1, .int .i64 0, .string ⟨#[]⟩]) (by simp [results, Try.results23, go_sem, e0, e1, e2, e3]) rfl ⟨rfl, HB.out⟩
set_option maxRecDepth 100000 in
theorem First4_any (w : World) : Calls Try.prog 23 #[.int .i64 4] w fun e w' => e = .returned (.agg #[.int .i64 1, .int .i64 1, .int .i64 0, .string ⟨#[]⟩]) ∧ Below w.heap.size w w' := by
  have CC := Lib.hid (fun W => (show Calls Try.prog 36 #[.string ⟨[97, 117, 116, 111].toArray⟩] W (fun e w' => e = .returned (.agg #[.int .i64 1, .int .i64 1, .int .i64 0, .string ⟨#[]⟩]) ∧ Below W.heap.size W w') from word10_any [97, 117, 116, 111] W))
  go_enter Try.func23, Try.ntmps23
  go_wp2_with fail
  refine (CC.out _).mono ?_
  rintro e w1 ⟨rfl, hb1⟩
  have hx1 : w1.heap[w.heap.size]? = some (.cells #[.int .i64 0, .int .i64 0, .int .i64 0, .string ⟨#[]⟩] 34 (0, 0)) := (hb1.block _ (by simp)).trans (heap_alloc_new w _)
  have k3 : Below w.heap.size w w1 := (below_oneP w (.cells #[.int .i64 0, .int .i64 0, .int .i64 0, .string ⟨#[]⟩] 34)).trans (hb1.mono (by simp))
  obtain ⟨x1, x2, x3, x4, v0, v1, v2, v3, ⟨p0, q0, r0⟩, ⟨p1, q1, r1⟩, ⟨p2, q2, r2⟩, ⟨p3, q3, r3⟩, h4⟩ := four_store w1 w.heap.size 34 _ 0 1 2 3 (.int .i64 1) (.int .i64 1) (.int .i64 0) (.string ⟨#[]⟩) hx1 (by decide) (by decide) (by decide) (by decide)
  have e0 := cell_of (k := 0) h4.here rfl
  have e1 := cell_of (k := 1) h4.here rfl
  have e2 := cell_of (k := 2) h4.here rfl
  have e3 := cell_of (k := 3) h4.here rfl
  have HB := Lib.hid (h4.below w.heap.size w (by omega) k3)
  clear hb1 hx1 k3 h4
  go_wp2_with fail
  exact bodyPost_ret (v := .agg #[.int .i64 1, .int .i64 1, .int .i64 0, .string ⟨#[]⟩]) (by simp [results, Try.results23, go_sem, e0, e1, e2, e3]) rfl ⟨rfl, HB.out⟩
set_option maxRecDepth 100000 in
theorem First5_any (w : World) : Calls Try.prog 23 #[.int .i64 5] w fun e w' => e = .returned (.agg #[.int .i64 1, .int .i64 1, .int .i64 0, .string ⟨#[]⟩]) ∧ Below w.heap.size w w' := by
  have CC := Lib.hid (fun W => (show Calls Try.prog 36 #[.string ⟨[97, 117, 116, 111].toArray⟩] W (fun e w' => e = .returned (.agg #[.int .i64 1, .int .i64 1, .int .i64 0, .string ⟨#[]⟩]) ∧ Below W.heap.size W w') from word10_any [97, 117, 116, 111] W))
  go_enter Try.func23, Try.ntmps23
  go_wp2_with fail
  refine (CC.out _).mono ?_
  rintro e w1 ⟨rfl, hb1⟩
  have hx1 : w1.heap[w.heap.size]? = some (.cells #[.int .i64 0, .int .i64 0, .int .i64 0, .string ⟨#[]⟩] 34 (0, 0)) := (hb1.block _ (by simp)).trans (heap_alloc_new w _)
  have k3 : Below w.heap.size w w1 := (below_oneP w (.cells #[.int .i64 0, .int .i64 0, .int .i64 0, .string ⟨#[]⟩] 34)).trans (hb1.mono (by simp))
  obtain ⟨x1, x2, x3, x4, v0, v1, v2, v3, ⟨p0, q0, r0⟩, ⟨p1, q1, r1⟩, ⟨p2, q2, r2⟩, ⟨p3, q3, r3⟩, h4⟩ := four_store w1 w.heap.size 34 _ 0 1 2 3 (.int .i64 1) (.int .i64 1) (.int .i64 0) (.string ⟨#[]⟩) hx1 (by decide) (by decide) (by decide) (by decide)
  have e0 := cell_of (k := 0) h4.here rfl
  have e1 := cell_of (k := 1) h4.here rfl
  have e2 := cell_of (k := 2) h4.here rfl
  have e3 := cell_of (k := 3) h4.here rfl
  have HB := Lib.hid (h4.below w.heap.size w (by omega) k3)
  clear hb1 hx1 k3 h4
  go_wp2_with fail
  exact bodyPost_ret (v := .agg #[.int .i64 1, .int .i64 1, .int .i64 0, .string ⟨#[]⟩]) (by simp [results, Try.results23, go_sem, e0, e1, e2, e3]) rfl ⟨rfl, HB.out⟩
set_option maxRecDepth 100000 in
theorem First6_any (w : World) : Calls Try.prog 23 #[.int .i64 6] w fun e w' => e = .returned (.agg #[.int .i64 1, .int .i64 1, .int .i64 0, .string ⟨#[]⟩]) ∧ Below w.heap.size w w' := by
  have CC := Lib.hid (fun W => (show Calls Try.prog 36 #[.string ⟨[97, 117, 116, 111].toArray⟩] W (fun e w' => e = .returned (.agg #[.int .i64 1, .int .i64 1, .int .i64 0, .string ⟨#[]⟩]) ∧ Below W.heap.size W w') from word10_any [97, 117, 116, 111] W))
  go_enter Try.func23, Try.ntmps23
  go_wp2_with fail
  refine (CC.out _).mono ?_
  rintro e w1 ⟨rfl, hb1⟩
  have hx1 : w1.heap[w.heap.size]? = some (.cells #[.int .i64 0, .int .i64 0, .int .i64 0, .string ⟨#[]⟩] 34 (0, 0)) := (hb1.block _ (by simp)).trans (heap_alloc_new w _)
  have k3 : Below w.heap.size w w1 := (below_oneP w (.cells #[.int .i64 0, .int .i64 0, .int .i64 0, .string ⟨#[]⟩] 34)).trans (hb1.mono (by simp))
  obtain ⟨x1, x2, x3, x4, v0, v1, v2, v3, ⟨p0, q0, r0⟩, ⟨p1, q1, r1⟩, ⟨p2, q2, r2⟩, ⟨p3, q3, r3⟩, h4⟩ := four_store w1 w.heap.size 34 _ 0 1 2 3 (.int .i64 1) (.int .i64 1) (.int .i64 0) (.string ⟨#[]⟩) hx1 (by decide) (by decide) (by decide) (by decide)
  have e0 := cell_of (k := 0) h4.here rfl
  have e1 := cell_of (k := 1) h4.here rfl
  have e2 := cell_of (k := 2) h4.here rfl
  have e3 := cell_of (k := 3) h4.here rfl
  have HB := Lib.hid (h4.below w.heap.size w (by omega) k3)
  clear hb1 hx1 k3 h4
  go_wp2_with fail
  exact bodyPost_ret (v := .agg #[.int .i64 1, .int .i64 1, .int .i64 0, .string ⟨#[]⟩]) (by simp [results, Try.results23, go_sem, e0, e1, e2, e3]) rfl ⟨rfl, HB.out⟩
set_option maxRecDepth 100000 in
theorem First7_any (w : World) : Calls Try.prog 23 #[.int .i64 7] w fun e w' => e = .returned (.agg #[.int .i64 1, .int .i64 2, .int .i64 0, .string ⟨#[]⟩]) ∧ Below w.heap.size w w' := by
  have CC := Lib.hid (fun W => (show Calls Try.prog 36 #[.string ⟨[110, 111, 110, 101].toArray⟩] W (fun e w' => e = .returned (.agg #[.int .i64 1, .int .i64 2, .int .i64 0, .string ⟨#[]⟩]) ∧ Below W.heap.size W w') from word10_any [110, 111, 110, 101] W))
  go_enter Try.func23, Try.ntmps23
  go_wp2_with fail
  refine (CC.out _).mono ?_
  rintro e w1 ⟨rfl, hb1⟩
  have hx1 : w1.heap[w.heap.size]? = some (.cells #[.int .i64 0, .int .i64 0, .int .i64 0, .string ⟨#[]⟩] 34 (0, 0)) := (hb1.block _ (by simp)).trans (heap_alloc_new w _)
  have k3 : Below w.heap.size w w1 := (below_oneP w (.cells #[.int .i64 0, .int .i64 0, .int .i64 0, .string ⟨#[]⟩] 34)).trans (hb1.mono (by simp))
  obtain ⟨x1, x2, x3, x4, v0, v1, v2, v3, ⟨p0, q0, r0⟩, ⟨p1, q1, r1⟩, ⟨p2, q2, r2⟩, ⟨p3, q3, r3⟩, h4⟩ := four_store w1 w.heap.size 34 _ 0 1 2 3 (.int .i64 1) (.int .i64 2) (.int .i64 0) (.string ⟨#[]⟩) hx1 (by decide) (by decide) (by decide) (by decide)
  have e0 := cell_of (k := 0) h4.here rfl
  have e1 := cell_of (k := 1) h4.here rfl
  have e2 := cell_of (k := 2) h4.here rfl
  have e3 := cell_of (k := 3) h4.here rfl
  have HB := Lib.hid (h4.below w.heap.size w (by omega) k3)
  clear hb1 hx1 k3 h4
  go_wp2_with fail
  exact bodyPost_ret (v := .agg #[.int .i64 1, .int .i64 2, .int .i64 0, .string ⟨#[]⟩]) (by simp [results, Try.results23, go_sem, e0, e1, e2, e3]) rfl ⟨rfl, HB.out⟩
set_option maxRecDepth 100000 in
theorem First8_any (w : World) : Calls Try.prog 23 #[.int .i64 8] w fun e w' => e = .returned (.agg #[.int .i64 1, .int .i64 2, .int .i64 0, .string ⟨#[]⟩]) ∧ Below w.heap.size w w' := by
  have CC := Lib.hid (fun W => (show Calls Try.prog 36 #[.string ⟨[110, 111, 110, 101].toArray⟩] W (fun e w' => e = .returned (.agg #[.int .i64 1, .int .i64 2, .int .i64 0, .string ⟨#[]⟩]) ∧ Below W.heap.size W w') from word10_any [110, 111, 110, 101] W))
  go_enter Try.func23, Try.ntmps23
  go_wp2_with fail
  refine (CC.out _).mono ?_
  rintro e w1 ⟨rfl, hb1⟩
  have hx1 : w1.heap[w.heap.size]? = some (.cells #[.int .i64 0, .int .i64 0, .int .i64 0, .string ⟨#[]⟩] 34 (0, 0)) := (hb1.block _ (by simp)).trans (heap_alloc_new w _)
  have k3 : Below w.heap.size w w1 := (below_oneP w (.cells #[.int .i64 0, .int .i64 0, .int .i64 0, .string ⟨#[]⟩] 34)).trans (hb1.mono (by simp))
  obtain ⟨x1, x2, x3, x4, v0, v1, v2, v3, ⟨p0, q0, r0⟩, ⟨p1, q1, r1⟩, ⟨p2, q2, r2⟩, ⟨p3, q3, r3⟩, h4⟩ := four_store w1 w.heap.size 34 _ 0 1 2 3 (.int .i64 1) (.int .i64 2) (.int .i64 0) (.string ⟨#[]⟩) hx1 (by decide) (by decide) (by decide) (by decide)
  have e0 := cell_of (k := 0) h4.here rfl
  have e1 := cell_of (k := 1) h4.here rfl
  have e2 := cell_of (k := 2) h4.here rfl
  have e3 := cell_of (k := 3) h4.here rfl
  have HB := Lib.hid (h4.below w.heap.size w (by omega) k3)
  clear hb1 hx1 k3 h4
  go_wp2_with fail
  exact bodyPost_ret (v := .agg #[.int .i64 1, .int .i64 2, .int .i64 0, .string ⟨#[]⟩]) (by simp [results, Try.results23, go_sem, e0, e1, e2, e3]) rfl ⟨rfl, HB.out⟩
set_option maxRecDepth 100000 in
theorem First9_any (w : World) : Calls Try.prog 23 #[.int .i64 9] w fun e w' => e = .returned (.agg #[.int .i64 2, .int .i64 0, .int .i64 1, .string ⟨#[]⟩]) ∧ Below w.heap.size w w' := by
  have CC := Lib.hid (fun W => (show Calls Try.prog 37 #[.int .i64 0] W (fun e w' => e = .returned (.agg #[.int .i64 2, .int .i64 0, .int .i64 1, .string ⟨#[]⟩]) ∧ Below W.heap.size W w') from px10_any 0 W))
  go_enter Try.func23, Try.ntmps23
  go_wp2_with fail
  refine (CC.out _).mono ?_
  rintro e w1 ⟨rfl, hb1⟩
  have hx1 : w1.heap[w.heap.size]? = some (.cells #[.int .i64 0, .int .i64 0, .int .i64 0, .string ⟨#[]⟩] 34 (0, 0)) := (hb1.block _ (by simp)).trans (heap_alloc_new w _)
  have k3 : Below w.heap.size w w1 := (below_oneP w (.cells #[.int .i64 0, .int .i64 0, .int .i64 0, .string ⟨#[]⟩] 34)).trans (hb1.mono (by simp))
  obtain ⟨x1, x2, x3, x4, v0, v1, v2, v3, ⟨p0, q0, r0⟩, ⟨p1, q1, r1⟩, ⟨p2, q2, r2⟩, ⟨p3, q3, r3⟩, h4⟩ := four_store w1 w.heap.size 34 _ 0 1 2 3 (.int .i64 2) (.int .i64 0) (.int .i64 1) (.string ⟨#[]⟩) hx1 (by decide) (by decide) (by decide) (by decide)
  have e0 := cell_of (k := 0) h4.here rfl
  have e1 := cell_of (k := 1) h4.here rfl
  have e2 := cell_of (k := 2) h4.here rfl
  have e3 := cell_of (k := 3) h4.here rfl
  have HB := Lib.hid (h4.below w.heap.size w (by omega) k3)
  clear hb1 hx1 k3 h4
  go_wp2_with fail
  exact bodyPost_ret (v := .agg #[.int .i64 2, .int .i64 0, .int .i64 1, .string ⟨#[]⟩]) (by simp [results, Try.results23, go_sem, e0, e1, e2, e3]) rfl ⟨rfl, HB.out⟩
set_option maxRecDepth 100000 in
theorem First10_any (w : World) : Calls Try.prog 23 #[.int .i64 10] w fun e w' => e = .returned (.agg #[.int .i64 2, .int .i64 0, .int .i64 1, .string ⟨#[]⟩]) ∧ Below w.heap.size w w' := by
  have CC := Lib.hid (fun W => (show Calls Try.prog 37 #[.int .i64 0] W (fun e w' => e = .returned (.agg #[.int .i64 2, .int .i64 0, .int .i64 1, .string ⟨#[]⟩]) ∧ Below W.heap.size W w') from px10_any 0 W))
  go_enter Try.func23, Try.ntmps23
  go_wp2_with fail
  refine (CC.out _).mono ?_
  rintro e w1 ⟨rfl, hb1⟩
  have hx1 : w1.heap[w.heap.size]? = some (.cells #[.int .i64 0, .int .i64 0, .int .i64 0, .string ⟨#[]⟩] 34 (0, 0)) := (hb1.block _ (by simp)).trans (heap_alloc_new w _)
  have k3 : Below w.heap.size w w1 := (below_oneP w (.cells #[.int .i64 0, .int .i64 0, .int .i64 0, .string ⟨#[]⟩] 34)).trans (hb1.mono (by simp))
  obtain ⟨x1, x2, x3, x4, v0, v1, v2, v3, ⟨p0, q0, r0⟩, ⟨p1, q1, r1⟩, ⟨p2, q2, r2⟩, ⟨p3, q3, r3⟩, h4⟩ := four_store w1 w.heap.size 34 _ 0 1 2 3 (.int .i64 2) (.int .i64 0) (.int .i64 1) (.string ⟨#[]⟩) hx1 (by decide) (by decide) (by decide) (by decide)
  have e0 := cell_of (k := 0) h4.here rfl
  have e1 := cell_of (k := 1) h4.here rfl
  have e2 := cell_of (k := 2) h4.here rfl
  have e3 := cell_of (k := 3) h4.here rfl
  have HB := Lib.hid (h4.below w.heap.size w (by omega) k3)
  clear hb1 hx1 k3 h4
  go_wp2_with fail
  exact bodyPost_ret (v := .agg #[.int .i64 2, .int .i64 0, .int .i64 1, .string ⟨#[]⟩]) (by simp [results, Try.results23, go_sem, e0, e1, e2, e3]) rfl ⟨rfl, HB.out⟩
set_option maxRecDepth 100000 in
theorem First11_any (w : World) : Calls Try.prog 23 #[.int .i64 11] w fun e w' => e = .returned (.agg #[.int .i64 2, .int .i64 0, .int .i64 1, .string ⟨#[]⟩]) ∧ Below w.heap.size w w' := by
  have CC := Lib.hid (fun W => (show Calls Try.prog 37 #[.int .i64 0] W (fun e w' => e = .returned (.agg #[.int .i64 2, .int .i64 0, .int .i64 1, .string ⟨#[]⟩]) ∧ Below W.heap.size W w') from px10_any 0 W))
  go_enter Try.func23, Try.ntmps23
  go_wp2_with fail
  refine (CC.out _).mono ?_
  rintro e w1 ⟨rfl, hb1⟩
  have hx1 : w1.heap[w.heap.size]? = some (.cells #[.int .i64 0, .int .i64 0, .int .i64 0, .string ⟨#[]⟩] 34 (0, 0)) := (hb1.block _ (by simp)).trans (heap_alloc_new w _)
  have k3 : Below w.heap.size w w1 := (below_oneP w (.cells #[.int .i64 0, .int .i64 0, .int .i64 0, .string ⟨#[]⟩] 34)).trans (hb1.mono (by simp))
  obtain ⟨x1, x2, x3, x4, v0, v1, v2, v3, ⟨p0, q0, r0⟩, ⟨p1, q1, r1⟩, ⟨p2, q2, r2⟩, ⟨p3, q3, r3⟩, h4⟩ := four_store w1 w.heap.size 34 _ 0 1 2 3 (.int .i64 2) (.int .i64 0) (.int .i64 1) (.string ⟨#[]⟩) hx1 (by decide) (by decide) (by decide) (by decide)
  have e0 := cell_of (k := 0) h4.here rfl
  have e1 := cell_of (k := 1) h4.here rfl
  have e2 := cell_of (k := 2) h4.here rfl
  have e3 := cell_of (k := 3) h4.here rfl
  have HB := Lib.hid (h4.below w.heap.size w (by omega) k3)
  clear hb1 hx1 k3 h4
  go_wp2_with fail
  exact bodyPost_ret (v := .agg #[.int .i64 2, .int .i64 0, .int .i64 1, .string ⟨#[]⟩]) (by simp [results, Try.results23, go_sem, e0, e1, e2, e3]) rfl ⟨rfl, HB.out⟩
set_option maxRecDepth 100000 in
theorem First12_any (w : World) : Calls Try.prog 23 #[.int .i64 12] w fun e w' => e = .returned (.agg #[.int .i64 2, .int .i64 0, .int .i64 1, .string ⟨#[]⟩]) ∧ Below w.heap.size w w' := by
  have CC := Lib.hid (fun W => (show Calls Try.prog 37 #[.int .i64 0] W (fun e w' => e = .returned (.agg #[.int .i64 2, .int .i64 0, .int .i64 1, .string ⟨#[]⟩]) ∧ Below W.heap.size W w') from px10_any 0 W))
  go_enter Try.func23, Try.ntmps23
  go_wp2_with fail
  refine (CC.out _).mono ?_
  rintro e w1 ⟨rfl, hb1⟩
  have hx1 : w1.heap[w.heap.size]? = some (.cells #[.int .i64 0, .int .i64 0, .int .i64 0, .string ⟨#[]⟩] 34 (0, 0)) := (hb1.block _ (by simp)).trans (heap_alloc_new w _)
  have k3 : Below w.heap.size w w1 := (below_oneP w (.cells #[.int .i64 0, .int .i64 0, .int .i64 0, .string ⟨#[]⟩] 34)).trans (hb1.mono (by simp))
  obtain ⟨x1, x2, x3, x4, v0, v1, v2, v3, ⟨p0, q0, r0⟩, ⟨p1, q1, r1⟩, ⟨p2, q2, r2⟩, ⟨p3, q3, r3⟩, h4⟩ := four_store w1 w.heap.size 34 _ 0 1 2 3 (.int .i64 2) (.int .i64 0) (.int .i64 1) (.string ⟨#[]⟩) hx1 (by decide) (by decide) (by decide) (by decide)
  have e0 := cell_of (k := 0) h4.here rfl
  have e1 := cell_of (k := 1) h4.here rfl
  have e2 := cell_of (k := 2) h4.here rfl
  have e3 := cell_of (k := 3) h4.here rfl
  have HB := Lib.hid (h4.below w.heap.size w (by omega) k3)
  clear hb1 hx1 k3 h4
  go_wp2_with fail
  exact bodyPost_ret (v := .agg #[.int .i64 2, .int .i64 0, .int .i64 1, .string ⟨#[]⟩]) (by simp [results, Try.results23, go_sem, e0, e1, e2, e3]) rfl ⟨rfl, HB.out⟩
set_option maxRecDepth 100000 in
theorem First13_any (w : World) : Calls Try.prog 23 #[.int .i64 13] w fun e w' => e = .returned (.agg #[.int .i64 2, .int .i64 0, .int .i64 1, .string ⟨#[]⟩]) ∧ Below w.heap.size w w' := by
  have CC := Lib.hid (fun W => (show Calls Try.prog 37 #[.int .i64 0] W (fun e w' => e = .returned (.agg #[.int .i64 2, .int .i64 0, .int .i64 1, .string ⟨#[]⟩]) ∧ Below W.heap.size W w') from px10_any 0 W))
  go_enter Try.func23, Try.ntmps23
  go_wp2_with fail
  refine (CC.out _).mono ?_
  rintro e w1 ⟨rfl, hb1⟩
  have hx1 : w1.heap[w.heap.size]? = some (.cells #[.int .i64 0, .int .i64 0, .int .i64 0, .string ⟨#[]⟩] 34 (0, 0)) := (hb1.block _ (by simp)).trans (heap_alloc_new w _)
  have k3 : Below w.heap.size w w1 := (below_oneP w (.cells #[.int .i64 0, .int .i64 0, .int .i64 0, .string ⟨#[]⟩] 34)).trans (hb1.mono (by simp))
  obtain ⟨x1, x2, x3, x4, v0, v1, v2, v3, ⟨p0, q0, r0⟩, ⟨p1, q1, r1⟩, ⟨p2, q2, r2⟩, ⟨p3, q3, r3⟩, h4⟩ := four_store w1 w.heap.size 34 _ 0 1 2 3 (.int .i64 2) (.int .i64 0) (.int .i64 1) (.string ⟨#[]⟩) hx1 (by decide) (by decide) (by decide) (by decide)
  have e0 := cell_of (k := 0) h4.here rfl
  have e1 := cell_of (k := 1) h4.here rfl
  have e2 := cell_of (k := 2) h4.here rfl
  have e3 := cell_of (k := 3) h4.here rfl
  have HB := Lib.hid (h4.below w.heap.size w (by omega) k3)
  clear hb1 hx1 k3 h4
  go_wp2_with fail
  exact bodyPost_ret (v := .agg #[.int .i64 2, .int .i64 0, .int .i64 1, .string ⟨#[]⟩]) (by simp [results, Try.results23, go_sem, e0, e1, e2, e3]) rfl ⟨rfl, HB.out⟩
set_option maxRecDepth 100000 in
theorem First14_any (w : World) : Calls Try.prog 23 #[.int .i64 14] w fun e w' => e = .returned (.agg #[.int .i64 2, .int .i64 0, .int .i64 1, .string ⟨#[]⟩]) ∧ Below w.heap.size w w' := by
  have CC := Lib.hid (fun W => (show Calls Try.prog 37 #[.int .i64 0] W (fun e w' => e = .returned (.agg #[.int .i64 2, .int .i64 0, .int .i64 1, .string ⟨#[]⟩]) ∧ Below W.heap.size W w') from px10_any 0 W))
  go_enter Try.func23, Try.ntmps23
  go_wp2_with fail
  refine (CC.out _).mono ?_
  rintro e w1 ⟨rfl, hb1⟩
  have hx1 : w1.heap[w.heap.size]? = some (.cells #[.int .i64 0, .int .i64 0, .int .i64 0, .string ⟨#[]⟩] 34 (0, 0)) := (hb1.block _ (by simp)).trans (heap_alloc_new w _)
  have k3 : Below w.heap.size w w1 := (below_oneP w (.cells #[.int .i64 0, .int .i64 0, .int .i64 0, .string ⟨#[]⟩] 34)).trans (hb1.mono (by simp))
  obtain ⟨x1, x2, x3, x4, v0, v1, v2, v3, ⟨p0, q0, r0⟩, ⟨p1, q1, r1⟩, ⟨p2, q2, r2⟩, ⟨p3, q3, r3⟩, h4⟩ := four_store w1 w.heap.size 34 _ 0 1 2 3 (.int .i64 2) (.int .i64 0) (.int .i64 1) (.string ⟨#[]⟩) hx1 (by decide) (by decide) (by decide) (by decide)
  have e0 := cell_of (k := 0) h4.here rfl
  have e1 := cell_of (k := 1) h4.here rfl
  have e2 := cell_of (k := 2) h4.here rfl
  have e3 := cell_of (k := 3) h4.here rfl
  have HB := Lib.hid (h4.below w.heap.size w (by omega) k3)
  clear hb1 hx1 k3 h4
  go_wp2_with fail
  exact bodyPost_ret (v := .agg #[.int .i64 2, .int .i64 0, .int .i64 1, .string ⟨#[]⟩]) (by simp [results, Try.results23, go_sem, e0, e1, e2, e3]) rfl ⟨rfl, HB.out⟩
set_option maxRecDepth 100000 in
theorem First15_any (w : World) : Calls Try.prog 23 #[.int .i64 15] w fun e w' => e = .returned (.agg #[.int .i64 2, .int .i64 0, .int .i64 1, .string ⟨#[]⟩]) ∧ Below w.heap.size w w' := by
  have CC := Lib.hid (fun W => (show Calls Try.prog 37 #[.int .i64 0] W (fun e w' => e = .returned (.agg #[.int .i64 2, .int .i64 0, .int .i64 1, .string ⟨#[]⟩]) ∧ Below W.heap.size W w') from px10_any 0 W))
  go_enter Try.func23, Try.ntmps23
  go_wp2_with fail
  refine (CC.out _).mono ?_
  rintro e w1 ⟨rfl, hb1⟩
  have hx1 : w1.heap[w.heap.size]? = some (.cells #[.int .i64 0, .int .i64 0, .int .i64 0, .string ⟨#[]⟩] 34 (0, 0)) := (hb1.block _ (by simp)).trans (heap_alloc_new w _)
  have k3 : Below w.heap.size w w1 := (below_oneP w (.cells #[.int .i64 0, .int .i64 0, .int .i64 0, .string ⟨#[]⟩] 34)).trans (hb1.mono (by simp))
  obtain ⟨x1, x2, x3, x4, v0, v1, v2, v3, ⟨p0, q0, r0⟩, ⟨p1, q1, r1⟩, ⟨p2, q2, r2⟩, ⟨p3, q3, r3⟩, h4⟩ := four_store w1 w.heap.size 34 _ 0 1 2 3 (.int .i64 2) (.int .i64 0) (.int .i64 1) (.string ⟨#[]⟩) hx1 (by decide) (by decide) (by decide) (by decide)
  have e0 := cell_of (k := 0) h4.here rfl
  have e1 := cell_of (k := 1) h4.here rfl
  have e2 := cell_of (k := 2) h4.here rfl
  have e3 := cell_of (k := 3) h4.here rfl
  have HB := Lib.hid (h4.below w.heap.size w (by omega) k3)
  clear hb1 hx1 k3 h4
  go_wp2_with fail
  exact bodyPost_ret (v := .agg #[.int .i64 2, .int .i64 0, .int .i64 1, .string ⟨#[]⟩]) (by simp [results, Try.results23, go_sem, e0, e1, e2, e3]) rfl ⟨rfl, HB.out⟩
set_option maxRecDepth 100000 in
theorem First16_any (w : World) : Calls Try.prog 23 #[.int .i64 16] w fun e w' => e = .returned (.agg #[.int .i64 2, .int .i64 0, .int .i64 1, .string ⟨#[]⟩]) ∧ Below w.heap.size w w' := by
  have CC := Lib.hid (fun W => (show Calls Try.prog 37 #[.int .i64 0] W (fun e w' => e = .returned (.agg #[.int .i64 2, .int .i64 0, .int .i64 1, .string ⟨#[]⟩]) ∧ Below W.heap.size W w') from px10_any 0 W))
  go_enter Try.func23, Try.ntmps23
  go_wp2_with fail
  refine (CC.out _).mono ?_
  rintro e w1 ⟨rfl, hb1⟩
  have hx1 : w1.heap[w.heap.size]? = some (.cells #[.int .i64 0, .int .i64 0, .int .i64 0, .string ⟨#[]⟩] 34 (0, 0)) := (hb1.block _ (by simp)).trans (heap_alloc_new w _)
  have k3 : Below w.heap.size w w1 := (below_oneP w (.cells #[.int .i64 0, .int .i64 0, .int .i64 0, .string ⟨#[]⟩] 34)).trans (hb1.mono (by simp))
  obtain ⟨x1, x2, x3, x4, v0, v1, v2, v3, ⟨p0, q0, r0⟩, ⟨p1, q1, r1⟩, ⟨p2, q2, r2⟩, ⟨p3, q3, r3⟩, h4⟩ := four_store w1 w.heap.size 34 _ 0 1 2 3 (.int .i64 2) (.int .i64 0) (.int .i64 1) (.string ⟨#[]⟩) hx1 (by decide) (by decide) (by decide) (by decide)
  have e0 := cell_of (k := 0) h4.here rfl
  have e1 := cell_of (k := 1) h4.here rfl
  have e2 := cell_of (k := 2) h4.here rfl
  have e3 := cell_of (k := 3) h4.here rfl
  have HB := Lib.hid (h4.below w.heap.size w (by omega) k3)
  clear hb1 hx1 k3 h4
  go_wp2_with fail
  exact bodyPost_ret (v := .agg #[.int .i64 2, .int .i64 0, .int .i64 1, .string ⟨#[]⟩]) (by simp [results, Try.results23, go_sem, e0, e1, e2, e3]) rfl ⟨rfl, HB.out⟩
set_option maxRecDepth 100000 in
theorem First17_any (w : World) : Calls Try.prog 23 #[.int .i64 17] w fun e w' => e = .returned (.agg #[.int .i64 2, .int .i64 0, .int .i64 1, .string ⟨#[]⟩]) ∧ Below w.heap.size w w' := by
  have CC := Lib.hid (fun W => (show Calls Try.prog 37 #[.int .i64 0] W (fun e w' => e = .returned (.agg #[.int .i64 2, .int .i64 0, .int .i64 1, .string ⟨#[]⟩]) ∧ Below W.heap.size W w') from px10_any 0 W))
  go_enter Try.func23, Try.ntmps23
  go_wp2_with fail
  refine (CC.out _).mono ?_
  rintro e w1 ⟨rfl, hb1⟩
  have hx1 : w1.heap[w.heap.size]? = some (.cells #[.int .i64 0, .int .i64 0, .int .i64 0, .string ⟨#[]⟩] 34 (0, 0)) := (hb1.block _ (by simp)).trans (heap_alloc_new w _)
  have k3 : Below w.heap.size w w1 := (below_oneP w (.cells #[.int .i64 0, .int .i64 0, .int .i64 0, .string ⟨#[]⟩] 34)).trans (hb1.mono (by simp))
  obtain ⟨x1, x2, x3, x4, v0, v1, v2, v3, ⟨p0, q0, r0⟩, ⟨p1, q1, r1⟩, ⟨p2, q2, r2⟩, ⟨p3, q3, r3⟩, h4⟩ := four_store w1 w.heap.size 34 _ 0 1 2 3 (.int .i64 2) (.int .i64 0) (.int .i64 1) (.string ⟨#[]⟩) hx1 (by decide) (by decide) (by decide) (by decide)
  have e0 := cell_of (k := 0) h4.here rfl
  have e1 := cell_of (k := 1) h4.here rfl
  have e2 := cell_of (k := 2) h4.here rfl
  have e3 := cell_of (k := 3) h4.here rfl
  have HB := Lib.hid (h4.below w.heap.size w (by omega) k3)
  clear hb1 hx1 k3 h4
  go_wp2_with fail
  exact bodyPost_ret (v := .agg #[.int .i64 2, .int .i64 0, .int .i64 1, .string ⟨#[]⟩]) (by simp [results, Try.results23, go_sem, e0, e1, e2, e3]) rfl ⟨rfl, HB.out⟩
set_option maxRecDepth 100000 in
theorem First18_any (w : World) : Calls Try.prog 23 #[.int .i64 18] w fun e w' => e = .returned (.agg #[.int .i64 2, .int .i64 0, .int .i64 1, .string ⟨#[]⟩]) ∧ Below w.heap.size w w' := by
  have CC := Lib.hid (fun W => (show Calls Try.prog 37 #[.int .i64 0] W (fun e w' => e = .returned (.agg #[.int .i64 2, .int .i64 0, .int .i64 1, .string ⟨#[]⟩]) ∧ Below W.heap.size W w') from px10_any 0 W))
  go_enter Try.func23, Try.ntmps23
  go_wp2_with fail
  refine (CC.out _).mono ?_
  rintro e w1 ⟨rfl, hb1⟩
  have hx1 : w1.heap[w.heap.size]? = some (.cells #[.int .i64 0, .int .i64 0, .int .i64 0, .string ⟨#[]⟩] 34 (0, 0)) := (hb1.block _ (by simp)).trans (heap_alloc_new w _)
  have k3 : Below w.heap.size w w1 := (below_oneP w (.cells #[.int .i64 0, .int .i64 0, .int .i64 0, .string ⟨#[]⟩] 34)).trans (hb1.mono (by simp))
  obtain ⟨x1, x2, x3, x4, v0, v1, v2, v3, ⟨p0, q0, r0⟩, ⟨p1, q1, r1⟩, ⟨p2, q2, r2⟩, ⟨p3, q3, r3⟩, h4⟩ := four_store w1 w.heap.size 34 _ 0 1 2 3 (.int .i64 2) (.int .i64 0) (.int .i64 1) (.string ⟨#[]⟩) hx1 (by decide) (by decide) (by decide) (by decide)
  have e0 := cell_of (k := 0) h4.here rfl
  have e1 := cell_of (k := 1) h4.here rfl
  have e2 := cell_of (k := 2) h4.here rfl
  have e3 := cell_of (k := 3) h4.here rfl
  have HB := Lib.hid (h4.below w.heap.size w (by omega) k3)
  clear hb1 hx1 k3 h4
  go_wp2_with fail
  exact bodyPost_ret (v := .agg #[.int .i64 2, .int .i64 0, .int .i64 1, .string ⟨#[]⟩]) (by simp [results, Try.results23, go_sem, e0, e1, e2, e3]) rfl ⟨rfl, HB.out⟩
set_option maxRecDepth 100000 in
theorem First19_any (w : World) : Calls Try.prog 23 #[.int .i64 19] w fun e w' => e = .returned (.agg #[.int .i64 2, .int .i64 0, .int .i64 1, .string ⟨#[]⟩]) ∧ Below w.heap.size w w' := by
  have CC := Lib.hid (fun W => (show Calls Try.prog 37 #[.int .i64 0] W (fun e w' => e = .returned (.agg #[.int .i64 2, .int .i64 0, .int .i64 1, .string ⟨#[]⟩]) ∧ Below W.heap.size W w') from px10_any 0 W))
  go_enter Try.func23, Try.ntmps23
  go_wp2_with fail
  refine (CC.out _).mono ?_
  rintro e w1 ⟨rfl, hb1⟩
  have hx1 : w1.heap[w.heap.size]? = some (.cells #[.int .i64 0, .int .i64 0, .int .i64 0, .string ⟨#[]⟩] 34 (0, 0)) := (hb1.block _ (by simp)).trans (heap_alloc_new w _)
  have k3 : Below w.heap.size w w1 := (below_oneP w (.cells #[.int .i64 0, .int .i64 0, .int .i64 0, .string ⟨#[]⟩] 34)).trans (hb1.mono (by simp))
  obtain ⟨x1, x2, x3, x4, v0, v1, v2, v3, ⟨p0, q0, r0⟩, ⟨p1, q1, r1⟩, ⟨p2, q2, r2⟩, ⟨p3, q3, r3⟩, h4⟩ := four_store w1 w.heap.size 34 _ 0 1 2 3 (.int .i64 2) (.int .i64 0) (.int .i64 1) (.string ⟨#[]⟩) hx1 (by decide) (by decide) (by decide) (by decide)
  have e0 := cell_of (k := 0) h4.here rfl
  have e1 := cell_of (k := 1) h4.here rfl
  have e2 := cell_of (k := 2) h4.here rfl
  have e3 := cell_of (k := 3) h4.here rfl
  have HB := Lib.hid (h4.below w.heap.size w (by omega) k3)
  clear hb1 hx1 k3 h4
  go_wp2_with fail
  exact bodyPost_ret (v := .agg #[.int .i64 2, .int .i64 0, .int .i64 1, .string ⟨#[]⟩]) (by simp [results, Try.results23, go_sem, e0, e1, e2, e3]) rfl ⟨rfl, HB.out⟩
end Go.Proofs.Ytlngipglhlhhbaa

namespace Go.Proofs.Ytlngipglhlhhbaa
open Go.RowKit TreN LexP FixP SynP ValP PropP FixM
set_option linter.unusedVariables false

set_option maxRecDepth 100000 in
theorem First20_any (w : World) : Calls Try.prog 23 #[.int .i64 20] w fun e w' => e = .returned (.agg #[.int .i64 2, .int .i64 0, .int .i64 1, .string ⟨#[]⟩]) ∧ Below w.heap.size w w' := by
  have CC := Lib.hid (fun W => (show Calls Try.prog 37 #[.int .i64 0] W (fun e w' => e = .returned (.agg #[.int .i64 2, .int .i64 0, .int .i64 1, .string ⟨#[]⟩]) ∧ Below W.heap.size W w') from px10_any 0 W))
  go_enter Try.func23, Try.ntmps23
  go_wp2_with fail
  refine (CC.out _).mono ?_
  rintro e w1 ⟨rfl, hb1⟩
  have hx1 : w1.heap[w.heap.size]? = some (.cells #[.int .i64 0, .int .i64 0, .int .i64 0, .string ⟨#[]⟩] 34 (0, 0)) := (hb1.block _ (by simp)).trans (heap_alloc_new w _)
  have k3 : Below w.heap.size w w1 := (below_oneP w (.cells #[.int .i64 0, .int .i64 0, .int .i64 0, .string ⟨#[]⟩] 34)).trans (hb1.mono (by simp))
  obtain ⟨x1, x2, x3, x4, v0, v1, v2, v3, ⟨p0, q0, r0⟩, ⟨p1, q1, r1⟩, ⟨p2, q2, r2⟩, ⟨p3, q3, r3⟩, h4⟩ := four_store w1 w.heap.size 34 _ 0 1 2 3 (.int .i64 2) (.int .i64 0) (.int .i64 1) (.string ⟨#[]⟩) hx1 (by decide) (by decide) (by decide) (by decide)
  have e0 := cell_of (k := 0) h4.here rfl
  have e1 := cell_of (k := 1) h4.here rfl
  have e2 := cell_of (k := 2) h4.here rfl
  have e3 := cell_of (k := 3) h4.here rfl
  have HB := Lib.hid (h4.below w.heap.size w (by omega) k3)
  clear hb1 hx1 k3 h4
  go_wp2_with fail
  exact bodyPost_ret (v := .agg #[.int .i64 2, .int .i64 0, .int .i64 1, .string ⟨#[]⟩]) (by simp [results, Try.results23, go_sem, e0, e1, e2, e3]) rfl ⟨rfl, HB.out⟩
set_option maxRecDepth 100000 in
theorem First21_any (w : World) : Calls Try.prog 23 #[.int .i64 21] w fun e w' => e = .returned (.agg #[.int .i64 1, .int .i64 1, .int .i64 0, .string ⟨#[]⟩]) ∧ Below w.heap.size w w' := by
  have CC := Lib.hid (fun W => (show Calls Try.prog 36 #[.string ⟨[97, 117, 116, 111].toArray⟩] W (fun e w' => e = .returned (.agg #[.int .i64 1, .int .i64 1, .int .i64 0, .string ⟨#[]⟩]) ∧ Below W.heap.size W w') from word10_any [97, 117, 116, 111] W))
  go_enter Try.func23, Try.ntmps23
  go_wp2_with fail
  refine (CC.out _).mono ?_
  rintro e w1 ⟨rfl, hb1⟩
  have hx1 : w1.heap[w.heap.size]? = some (.cells #[.int .i64 0, .int .i64 0, .int .i64 0, .string ⟨#[]⟩] 34 (0, 0)) := (hb1.block _ (by simp)).trans (heap_alloc_new w _)
  have k3 : Below w.heap.size w w1 := (below_oneP w (.cells #[.int .i64 0, .int .i64 0, .int .i64 0, .string ⟨#[]⟩] 34)).trans (hb1.mono (by simp))
  obtain ⟨x1, x2, x3, x4, v0, v1, v2, v3, ⟨p0, q0, r0⟩, ⟨p1, q1, r1⟩, ⟨p2, q2, r2⟩, ⟨p3, q3, r3⟩, h4⟩ := four_store w1 w.heap.size 34 _ 0 1 2 3 (.int .i64 1) (.int .i64 1) (.int .i64 0) (.string ⟨#[]⟩) hx1 (by decide) (by decide) (by decide) (by decide)
  have e0 := cell_of (k := 0) h4.here rfl
  have e1 := cell_of (k := 1) h4.here rfl
  have e2 := cell_of (k := 2) h4.here rfl
  have e3 := cell_of (k := 3) h4.here rfl
  have HB := Lib.hid (h4.below w.heap.size w (by omega) k3)
  clear hb1 hx1 k3 h4
  go_wp2_with fail
  exact bodyPost_ret (v := .agg #[.int .i64 1, .int .i64 1, .int .i64 0, .string ⟨#[]⟩]) (by simp [results, Try.results23, go_sem, e0, e1, e2, e3]) rfl ⟨rfl, HB.out⟩
set_option maxRecDepth 100000 in
theorem First22_any (w : World) : Calls Try.prog 23 #[.int .i64 22] w fun e w' => e = .returned (.agg #[.int .i64 1, .int .i64 10, .int .i64 0, .string ⟨#[]⟩]) ∧ Below w.heap.size w w' := by
  have CC := Lib.hid (fun W => (show Calls Try.prog 36 #[.string ⟨[114, 111, 119].toArray⟩] W (fun e w' => e = .returned (.agg #[.int .i64 1, .int .i64 10, .int .i64 0, .string ⟨#[]⟩]) ∧ Below W.heap.size W w') from word10_any [114, 111, 119] W))
  go_enter Try.func23, Try.ntmps23
  go_wp2_with fail
  refine (CC.out _).mono ?_
  rintro e w1 ⟨rfl, hb1⟩
  have hx1 : w1.heap[w.heap.size]? = some (.cells #[.int .i64 0, .int .i64 0, .int .i64 0, .string ⟨#[]⟩] 34 (0, 0)) := (hb1.block _ (by simp)).trans (heap_alloc_new w _)
  have k3 : Below w.heap.size w w1 := (below_oneP w (.cells #[.int .i64 0, .int .i64 0, .int .i64 0, .string ⟨#[]⟩] 34)).trans (hb1.mono (by simp))
  obtain ⟨x1, x2, x3, x4, v0, v1, v2, v3, ⟨p0, q0, r0⟩, ⟨p1, q1, r1⟩, ⟨p2, q2, r2⟩, ⟨p3, q3, r3⟩, h4⟩ := four_store w1 w.heap.size 34 _ 0 1 2 3 (.int .i64 1) (.int .i64 10) (.int .i64 0) (.string ⟨#[]⟩) hx1 (by decide) (by decide) (by decide) (by decide)
  have e0 := cell_of (k := 0) h4.here rfl
  have e1 := cell_of (k := 1) h4.here rfl
  have e2 := cell_of (k := 2) h4.here rfl
  have e3 := cell_of (k := 3) h4.here rfl
  have HB := Lib.hid (h4.below w.heap.size w (by omega) k3)
  clear hb1 hx1 k3 h4
  go_wp2_with fail
  exact bodyPost_ret (v := .agg #[.int .i64 1, .int .i64 10, .int .i64 0, .string ⟨#[]⟩]) (by simp [results, Try.results23, go_sem, e0, e1, e2, e3]) rfl ⟨rfl, HB.out⟩
set_option maxRecDepth 100000 in
theorem First23_any (w : World) : Calls Try.prog 23 #[.int .i64 23] w fun e w' => e = .returned (.agg #[.int .i64 1, .int .i64 14, .int .i64 0, .string ⟨#[]⟩]) ∧ Below w.heap.size w w' := by
  have CC := Lib.hid (fun W => (show Calls Try.prog 36 #[.string ⟨[110, 111, 119, 114, 97, 112].toArray⟩] W (fun e w' => e = .returned (.agg #[.int .i64 1, .int .i64 14, .int .i64 0, .string ⟨#[]⟩]) ∧ Below W.heap.size W w') from word10_any [110, 111, 119, 114, 97, 112] W))
  go_enter Try.func23, Try.ntmps23
  go_wp2_with fail
  refine (CC.out _).mono ?_
  rintro e w1 ⟨rfl, hb1⟩
  have hx1 : w1.heap[w.heap.size]? = some (.cells #[.int .i64 0, .int .i64 0, .int .i64 0, .string ⟨#[]⟩] 34 (0, 0)) := (hb1.block _ (by simp)).trans (heap_alloc_new w _)
  have k3 : Below w.heap.size w w1 := (below_oneP w (.cells #[.int .i64 0, .int .i64 0, .int .i64 0, .string ⟨#[]⟩] 34)).trans (hb1.mono (by simp))
  obtain ⟨x1, x2, x3, x4, v0, v1, v2, v3, ⟨p0, q0, r0⟩, ⟨p1, q1, r1⟩, ⟨p2, q2, r2⟩, ⟨p3, q3, r3⟩, h4⟩ := four_store w1 w.heap.size 34 _ 0 1 2 3 (.int .i64 1) (.int .i64 14) (.int .i64 0) (.string ⟨#[]⟩) hx1 (by decide) (by decide) (by decide) (by decide)
  have e0 := cell_of (k := 0) h4.here rfl
  have e1 := cell_of (k := 1) h4.here rfl
  have e2 := cell_of (k := 2) h4.here rfl
  have e3 := cell_of (k := 3) h4.here rfl
  have HB := Lib.hid (h4.below w.heap.size w (by omega) k3)
  clear hb1 hx1 k3 h4
  go_wp2_with fail
  exact bodyPost_ret (v := .agg #[.int .i64 1, .int .i64 14, .int .i64 0, .string ⟨#[]⟩]) (by simp [results, Try.results23, go_sem, e0, e1, e2, e3]) rfl ⟨rfl, HB.out⟩
set_option maxRecDepth 100000 in
theorem First24_any (w : World) : Calls Try.prog 23 #[.int .i64 24] w fun e w' => e = .returned (.agg #[.int .i64 4, .int .i64 0, .int .i64 0, .string ⟨#[]⟩]) ∧ Below w.heap.size w w' := by
  have CC := Lib.hid (fun W => (show Calls Try.prog 38 #[.int .i64 0] W (fun e w' => e = .returned (.agg #[.int .i64 4, .int .i64 0, .int .i64 0, .string ⟨#[]⟩]) ∧ Below W.heap.size W w') from number10_any 0 W))
  go_enter Try.func23, Try.ntmps23
  go_wp2_with fail
  refine (CC.out _).mono ?_
  rintro e w1 ⟨rfl, hb1⟩
  have hx1 : w1.heap[w.heap.size]? = some (.cells #[.int .i64 0, .int .i64 0, .int .i64 0, .string ⟨#[]⟩] 34 (0, 0)) := (hb1.block _ (by simp)).trans (heap_alloc_new w _)
  have k3 : Below w.heap.size w w1 := (below_oneP w (.cells #[.int .i64 0, .int .i64 0, .int .i64 0, .string ⟨#[]⟩] 34)).trans (hb1.mono (by simp))
  obtain ⟨x1, x2, x3, x4, v0, v1, v2, v3, ⟨p0, q0, r0⟩, ⟨p1, q1, r1⟩, ⟨p2, q2, r2⟩, ⟨p3, q3, r3⟩, h4⟩ := four_store w1 w.heap.size 34 _ 0 1 2 3 (.int .i64 4) (.int .i64 0) (.int .i64 0) (.string ⟨#[]⟩) hx1 (by decide) (by decide) (by decide) (by decide)
  have e0 := cell_of (k := 0) h4.here rfl
  have e1 := cell_of (k := 1) h4.here rfl
  have e2 := cell_of (k := 2) h4.here rfl
  have e3 := cell_of (k := 3) h4.here rfl
  have HB := Lib.hid (h4.below w.heap.size w (by omega) k3)
  clear hb1 hx1 k3 h4
  go_wp2_with fail
  exact bodyPost_ret (v := .agg #[.int .i64 4, .int .i64 0, .int .i64 0, .string ⟨#[]⟩]) (by simp [results, Try.results23, go_sem, e0, e1, e2, e3]) rfl ⟨rfl, HB.out⟩
set_option maxRecDepth 100000 in
theorem First25_any (w : World) : Calls Try.prog 23 #[.int .i64 25] w fun e w' => e = .returned (.agg #[.int .i64 4, .int .i64 1000, .int .i64 0, .string ⟨#[]⟩]) ∧ Below w.heap.size w w' := by
  have CC := Lib.hid (fun W => (show Calls Try.prog 38 #[.int .i64 1000] W (fun e w' => e = .returned (.agg #[.int .i64 4, .int .i64 1000, .int .i64 0, .string ⟨#[]⟩]) ∧ Below W.heap.size W w') from number10_any 1000 W))
  go_enter Try.func23, Try.ntmps23
  go_wp2_with fail
  refine (CC.out _).mono ?_
  rintro e w1 ⟨rfl, hb1⟩
  have hx1 : w1.heap[w.heap.size]? = some (.cells #[.int .i64 0, .int .i64 0, .int .i64 0, .string ⟨#[]⟩] 34 (0, 0)) := (hb1.block _ (by simp)).trans (heap_alloc_new w _)
  have k3 : Below w.heap.size w w1 := (below_oneP w (.cells #[.int .i64 0, .int .i64 0, .int .i64 0, .string ⟨#[]⟩] 34)).trans (hb1.mono (by simp))
  obtain ⟨x1, x2, x3, x4, v0, v1, v2, v3, ⟨p0, q0, r0⟩, ⟨p1, q1, r1⟩, ⟨p2, q2, r2⟩, ⟨p3, q3, r3⟩, h4⟩ := four_store w1 w.heap.size 34 _ 0 1 2 3 (.int .i64 4) (.int .i64 1000) (.int .i64 0) (.string ⟨#[]⟩) hx1 (by decide) (by decide) (by decide) (by decide)
  have e0 := cell_of (k := 0) h4.here rfl
  have e1 := cell_of (k := 1) h4.here rfl
  have e2 := cell_of (k := 2) h4.here rfl
  have e3 := cell_of (k := 3) h4.here rfl
  have HB := Lib.hid (h4.below w.heap.size w (by omega) k3)
  clear hb1 hx1 k3 h4
  go_wp2_with fail
  exact bodyPost_ret (v := .agg #[.int .i64 4, .int .i64 1000, .int .i64 0, .string ⟨#[]⟩]) (by simp [results, Try.results23, go_sem, e0, e1, e2, e3]) rfl ⟨rfl, HB.out⟩
set_option maxRecDepth 100000 in
theorem First26_any (w : World) : Calls Try.prog 23 #[.int .i64 26] w fun e w' => e = .returned (.agg #[.int .i64 1, .int .i64 1, .int .i64 0, .string ⟨#[]⟩]) ∧ Below w.heap.size w w' := by
  have CC := Lib.hid (fun W => (show Calls Try.prog 36 #[.string ⟨[97, 117, 116, 111].toArray⟩] W (fun e w' => e = .returned (.agg #[.int .i64 1, .int .i64 1, .int .i64 0, .string ⟨#[]⟩]) ∧ Below W.heap.size W w') from word10_any [97, 117, 116, 111] W))
  go_enter Try.func23, Try.ntmps23
  go_wp2_with fail
  refine (CC.out _).mono ?_
  rintro e w1 ⟨rfl, hb1⟩
  have hx1 : w1.heap[w.heap.size]? = some (.cells #[.int .i64 0, .int .i64 0, .int .i64 0, .string ⟨#[]⟩] 34 (0, 0)) := (hb1.block _ (by simp)).trans (heap_alloc_new w _)
  have k3 : Below w.heap.size w w1 := (below_oneP w (.cells #[.int .i64 0, .int .i64 0, .int .i64 0, .string ⟨#[]⟩] 34)).trans (hb1.mono (by simp))
  obtain ⟨x1, x2, x3, x4, v0, v1, v2, v3, ⟨p0, q0, r0⟩, ⟨p1, q1, r1⟩, ⟨p2, q2, r2⟩, ⟨p3, q3, r3⟩, h4⟩ := four_store w1 w.heap.size 34 _ 0 1 2 3 (.int .i64 1) (.int .i64 1) (.int .i64 0) (.string ⟨#[]⟩) hx1 (by decide) (by decide) (by decide) (by decide)
  have e0 := cell_of (k := 0) h4.here rfl
  have e1 := cell_of (k := 1) h4.here rfl
  have e2 := cell_of (k := 2) h4.here rfl
  have e3 := cell_of (k := 3) h4.here rfl
  have HB := Lib.hid (h4.below w.heap.size w (by omega) k3)
  clear hb1 hx1 k3 h4
  go_wp2_with fail
  exact bodyPost_ret (v := .agg #[.int .i64 1, .int .i64 1, .int .i64 0, .string ⟨#[]⟩]) (by simp [results, Try.results23, go_sem, e0, e1, e2, e3]) rfl ⟨rfl, HB.out⟩
set_option maxRecDepth 100000 in
theorem First27_any (w : World) : Calls Try.prog 23 #[.int .i64 27] w fun e w' => e = .returned (.agg #[.int .i64 4, .int .i64 0, .int .i64 0, .string ⟨#[]⟩]) ∧ Below w.heap.size w w' := by
  have CC := Lib.hid (fun W => (show Calls Try.prog 38 #[.int .i64 0] W (fun e w' => e = .returned (.agg #[.int .i64 4, .int .i64 0, .int .i64 0, .string ⟨#[]⟩]) ∧ Below W.heap.size W w') from number10_any 0 W))
  go_enter Try.func23, Try.ntmps23
  go_wp2_with fail
  refine (CC.out _).mono ?_
  rintro e w1 ⟨rfl, hb1⟩
  have hx1 : w1.heap[w.heap.size]? = some (.cells #[.int .i64 0, .int .i64 0, .int .i64 0, .string ⟨#[]⟩] 34 (0, 0)) := (hb1.block _ (by simp)).trans (heap_alloc_new w _)
  have k3 : Below w.heap.size w w1 := (below_oneP w (.cells #[.int .i64 0, .int .i64 0, .int .i64 0, .string ⟨#[]⟩] 34)).trans (hb1.mono (by simp))
  obtain ⟨x1, x2, x3, x4, v0, v1, v2, v3, ⟨p0, q0, r0⟩, ⟨p1, q1, r1⟩, ⟨p2, q2, r2⟩, ⟨p3, q3, r3⟩, h4⟩ := four_store w1 w.heap.size 34 _ 0 1 2 3 (.int .i64 4) (.int .i64 0) (.int .i64 0) (.string ⟨#[]⟩) hx1 (by decide) (by decide) (by decide) (by decide)
  have e0 := cell_of (k := 0) h4.here rfl
  have e1 := cell_of (k := 1) h4.here rfl
  have e2 := cell_of (k := 2) h4.here rfl
  have e3 := cell_of (k := 3) h4.here rfl
  have HB := Lib.hid (h4.below w.heap.size w (by omega) k3)
  clear hb1 hx1 k3 h4
  go_wp2_with fail
  exact bodyPost_ret (v := .agg #[.int .i64 4, .int .i64 0, .int .i64 0, .string ⟨#[]⟩]) (by simp [results, Try.results23, go_sem, e0, e1, e2, e3]) rfl ⟨rfl, HB.out⟩
set_option maxRecDepth 100000 in
theorem First28_any (w : World) : Calls Try.prog 23 #[.int .i64 28] w fun e w' => e = .returned (.agg #[.int .i64 1, .int .i64 17, .int .i64 0, .string ⟨#[]⟩]) ∧ Below w.heap.size w w' := by
  have CC := Lib.hid (fun W => (show Calls Try.prog 36 #[.string ⟨[115, 116, 97, 114, 116].toArray⟩] W (fun e w' => e = .returned (.agg #[.int .i64 1, .int .i64 17, .int .i64 0, .string ⟨#[]⟩]) ∧ Below W.heap.size W w') from word10_any [115, 116, 97, 114, 116] W))
  go_enter Try.func23, Try.ntmps23
  go_wp2_with fail
  refine (CC.out _).mono ?_
  rintro e w1 ⟨rfl, hb1⟩
  have hx1 : w1.heap[w.heap.size]? = some (.cells #[.int .i64 0, .int .i64 0, .int .i64 0, .string ⟨#[]⟩] 34 (0, 0)) := (hb1.block _ (by simp)).trans (heap_alloc_new w _)
  have k3 : Below w.heap.size w w1 := (below_oneP w (.cells #[.int .i64 0, .int .i64 0, .int .i64 0, .string ⟨#[]⟩] 34)).trans (hb1.mono (by simp))
  obtain ⟨x1, x2, x3, x4, v0, v1, v2, v3, ⟨p0, q0, r0⟩, ⟨p1, q1, r1⟩, ⟨p2, q2, r2⟩, ⟨p3, q3, r3⟩, h4⟩ := four_store w1 w.heap.size 34 _ 0 1 2 3 (.int .i64 1) (.int .i64 17) (.int .i64 0) (.string ⟨#[]⟩) hx1 (by decide) (by decide) (by decide) (by decide)
  have e0 := cell_of (k := 0) h4.here rfl
  have e1 := cell_of (k := 1) h4.here rfl
  have e2 := cell_of (k := 2) h4.here rfl
  have e3 := cell_of (k := 3) h4.here rfl
  have HB := Lib.hid (h4.below w.heap.size w (by omega) k3)
  clear hb1 hx1 k3 h4
  go_wp2_with fail
  exact bodyPost_ret (v := .agg #[.int .i64 1, .int .i64 17, .int .i64 0, .string ⟨#[]⟩]) (by simp [results, Try.results23, go_sem, e0, e1, e2, e3]) rfl ⟨rfl, HB.out⟩
set_option maxRecDepth 100000 in
theorem First29_any (w : World) : Calls Try.prog 23 #[.int .i64 29] w fun e w' => e = .returned (.agg #[.int .i64 1, .int .i64 20, .int .i64 0, .string ⟨#[]⟩]) ∧ Below w.heap.size w w' := by
  have CC := Lib.hid (fun W => (show Calls Try.prog 36 #[.string ⟨[115, 116, 114, 101, 116, 99, 104].toArray⟩] W (fun e w' => e = .returned (.agg #[.int .i64 1, .int .i64 20, .int .i64 0, .string ⟨#[]⟩]) ∧ Below W.heap.size W w') from word10_any [115, 116, 114, 101, 116, 99, 104] W))
  go_enter Try.func23, Try.ntmps23
  go_wp2_with fail
  refine (CC.out _).mono ?_
  rintro e w1 ⟨rfl, hb1⟩
  have hx1 : w1.heap[w.heap.size]? = some (.cells #[.int .i64 0, .int .i64 0, .int .i64 0, .string ⟨#[]⟩] 34 (0, 0)) := (hb1.block _ (by simp)).trans (heap_alloc_new w _)
  have k3 : Below w.heap.size w w1 := (below_oneP w (.cells #[.int .i64 0, .int .i64 0, .int .i64 0, .string ⟨#[]⟩] 34)).trans (hb1.mono (by simp))
  obtain ⟨x1, x2, x3, x4, v0, v1, v2, v3, ⟨p0, q0, r0⟩, ⟨p1, q1, r1⟩, ⟨p2, q2, r2⟩, ⟨p3, q3, r3⟩, h4⟩ := four_store w1 w.heap.size 34 _ 0 1 2 3 (.int .i64 1) (.int .i64 20) (.int .i64 0) (.string ⟨#[]⟩) hx1 (by decide) (by decide) (by decide) (by decide)
  have e0 := cell_of (k := 0) h4.here rfl
  have e1 := cell_of (k := 1) h4.here rfl
  have e2 := cell_of (k := 2) h4.here rfl
  have e3 := cell_of (k := 3) h4.here rfl
  have HB := Lib.hid (h4.below w.heap.size w (by omega) k3)
  clear hb1 hx1 k3 h4
  go_wp2_with fail
  exact bodyPost_ret (v := .agg #[.int .i64 1, .int .i64 20, .int .i64 0, .string ⟨#[]⟩]) (by simp [results, Try.results23, go_sem, e0, e1, e2, e3]) rfl ⟨rfl, HB.out⟩
set_option maxRecDepth 100000 in
theorem First30_any (w : World) : Calls Try.prog 23 #[.int .i64 30] w fun e w' => e = .returned (.agg #[.int .i64 1, .int .i64 1, .int .i64 0, .string ⟨#[]⟩]) ∧ Below w.heap.size w w' := by
  have CC := Lib.hid (fun W => (show Calls Try.prog 36 #[.string ⟨[97, 117, 116, 111].toArray⟩] W (fun e w' => e = .returned (.agg #[.int .i64 1, .int .i64 1, .int .i64 0, .string ⟨#[]⟩]) ∧ Below W.heap.size W w') from word10_any [97, 117, 116, 111] W))
  go_enter Try.func23, Try.ntmps23
  go_wp2_with fail
  refine (CC.out _).mono ?_
  rintro e w1 ⟨rfl, hb1⟩
  have hx1 : w1.heap[w.heap.size]? = some (.cells #[.int .i64 0, .int .i64 0, .int .i64 0, .string ⟨#[]⟩] 34 (0, 0)) := (hb1.block _ (by simp)).trans (heap_alloc_new w _)
  have k3 : Below w.heap.size w w1 := (below_oneP w (.cells #[.int .i64 0, .int .i64 0, .int .i64 0, .string ⟨#[]⟩] 34)).trans (hb1.mono (by simp))
  obtain ⟨x1, x2, x3, x4, v0, v1, v2, v3, ⟨p0, q0, r0⟩, ⟨p1, q1, r1⟩, ⟨p2, q2, r2⟩, ⟨p3, q3, r3⟩, h4⟩ := four_store w1 w.heap.size 34 _ 0 1 2 3 (.int .i64 1) (.int .i64 1) (.int .i64 0) (.string ⟨#[]⟩) hx1 (by decide) (by decide) (by decide) (by decide)
  have e0 := cell_of (k := 0) h4.here rfl
  have e1 := cell_of (k := 1) h4.here rfl
  have e2 := cell_of (k := 2) h4.here rfl
  have e3 := cell_of (k := 3) h4.here rfl
  have HB := Lib.hid (h4.below w.heap.size w (by omega) k3)
  clear hb1 hx1 k3 h4
  go_wp2_with fail
  exact bodyPost_ret (v := .agg #[.int .i64 1, .int .i64 1, .int .i64 0, .string ⟨#[]⟩]) (by simp [results, Try.results23, go_sem, e0, e1, e2, e3]) rfl ⟨rfl, HB.out⟩
set_option maxRecDepth 100000 in
theorem First31_any (w : World) : Calls Try.prog 23 #[.int .i64 31] w fun e w' => e = .returned (.agg #[.int .i64 1, .int .i64 20, .int .i64 0, .string ⟨#[]⟩]) ∧ Below w.heap.size w w' := by
  have CC := Lib.hid (fun W => (show Calls Try.prog 36 #[.string ⟨[115, 116, 114, 101, 116, 99, 104].toArray⟩] W (fun e w' => e = .returned (.agg #[.int .i64 1, .int .i64 20, .int .i64 0, .string ⟨#[]⟩]) ∧ Below W.heap.size W w') from word10_any [115, 116, 114, 101, 116, 99, 104] W))
  go_enter Try.func23, Try.ntmps23
  go_wp2_with fail
  refine (CC.out _).mono ?_
  rintro e w1 ⟨rfl, hb1⟩
  have hx1 : w1.heap[w.heap.size]? = some (.cells #[.int .i64 0, .int .i64 0, .int .i64 0, .string ⟨#[]⟩] 34 (0, 0)) := (hb1.block _ (by simp)).trans (heap_alloc_new w _)
  have k3 : Below w.heap.size w w1 := (below_oneP w (.cells #[.int .i64 0, .int .i64 0, .int .i64 0, .string ⟨#[]⟩] 34)).trans (hb1.mono (by simp))
  obtain ⟨x1, x2, x3, x4, v0, v1, v2, v3, ⟨p0, q0, r0⟩, ⟨p1, q1, r1⟩, ⟨p2, q2, r2⟩, ⟨p3, q3, r3⟩, h4⟩ := four_store w1 w.heap.size 34 _ 0 1 2 3 (.int .i64 1) (.int .i64 20) (.int .i64 0) (.string ⟨#[]⟩) hx1 (by decide) (by decide) (by decide) (by decide)
  have e0 := cell_of (k := 0) h4.here rfl
  have e1 := cell_of (k := 1) h4.here rfl
  have e2 := cell_of (k := 2) h4.here rfl
  have e3 := cell_of (k := 3) h4.here rfl
  have HB := Lib.hid (h4.below w.heap.size w (by omega) k3)
  clear hb1 hx1 k3 h4
  go_wp2_with fail
  exact bodyPost_ret (v := .agg #[.int .i64 1, .int .i64 20, .int .i64 0, .string ⟨#[]⟩]) (by simp [results, Try.results23, go_sem, e0, e1, e2, e3]) rfl ⟨rfl, HB.out⟩
set_option maxRecDepth 100000 in
theorem First32_any (w : World) : Calls Try.prog 23 #[.int .i64 32] w fun e w' => e = .returned (.agg #[.int .i64 1, .int .i64 24, .int .i64 0, .string ⟨#[]⟩]) ∧ Below w.heap.size w w' := by
  have CC := Lib.hid (fun W => (show Calls Try.prog 36 #[.string ⟨[110, 111, 114, 109, 97, 108].toArray⟩] W (fun e w' => e = .returned (.agg #[.int .i64 1, .int .i64 24, .int .i64 0, .string ⟨#[]⟩]) ∧ Below W.heap.size W w') from word10_any [110, 111, 114, 109, 97, 108] W))
  go_enter Try.func23, Try.ntmps23
  go_wp2_with fail
  refine (CC.out _).mono ?_
  rintro e w1 ⟨rfl, hb1⟩
  have hx1 : w1.heap[w.heap.size]? = some (.cells #[.int .i64 0, .int .i64 0, .int .i64 0, .string ⟨#[]⟩] 34 (0, 0)) := (hb1.block _ (by simp)).trans (heap_alloc_new w _)
  have k3 : Below w.heap.size w w1 := (below_oneP w (.cells #[.int .i64 0, .int .i64 0, .int .i64 0, .string ⟨#[]⟩] 34)).trans (hb1.mono (by simp))
  obtain ⟨x1, x2, x3, x4, v0, v1, v2, v3, ⟨p0, q0, r0⟩, ⟨p1, q1, r1⟩, ⟨p2, q2, r2⟩, ⟨p3, q3, r3⟩, h4⟩ := four_store w1 w.heap.size 34 _ 0 1 2 3 (.int .i64 1) (.int .i64 24) (.int .i64 0) (.string ⟨#[]⟩) hx1 (by decide) (by decide) (by decide) (by decide)
  have e0 := cell_of (k := 0) h4.here rfl
  have e1 := cell_of (k := 1) h4.here rfl
  have e2 := cell_of (k := 2) h4.here rfl
  have e3 := cell_of (k := 3) h4.here rfl
  have HB := Lib.hid (h4.below w.heap.size w (by omega) k3)
  clear hb1 hx1 k3 h4
  go_wp2_with fail
  exact bodyPost_ret (v := .agg #[.int .i64 1, .int .i64 24, .int .i64 0, .string ⟨#[]⟩]) (by simp [results, Try.results23, go_sem, e0, e1, e2, e3]) rfl ⟨rfl, HB.out⟩
set_option maxRecDepth 100000 in
theorem First33_any (w : World) : Calls Try.prog 23 #[.int .i64 33] w fun e w' => e = .returned (.agg #[.int .i64 1, .int .i64 24, .int .i64 0, .string ⟨#[]⟩]) ∧ Below w.heap.size w w' := by
  have CC := Lib.hid (fun W => (show Calls Try.prog 36 #[.string ⟨[110, 111, 114, 109, 97, 108].toArray⟩] W (fun e w' => e = .returned (.agg #[.int .i64 1, .int .i64 24, .int .i64 0, .string ⟨#[]⟩]) ∧ Below W.heap.size W w') from word10_any [110, 111, 114, 109, 97, 108] W))
  go_enter Try.func23, Try.ntmps23
  go_wp2_with fail
  refine (CC.out _).mono ?_
  rintro e w1 ⟨rfl, hb1⟩
  have hx1 : w1.heap[w.heap.size]? = some (.cells #[.int .i64 0, .int .i64 0, .int .i64 0, .string ⟨#[]⟩] 34 (0, 0)) := (hb1.block _ (by simp)).trans (heap_alloc_new w _)
  have k3 : Below w.heap.size w w1 := (below_oneP w (.cells #[.int .i64 0, .int .i64 0, .int .i64 0, .string ⟨#[]⟩] 34)).trans (hb1.mono (by simp))
  obtain ⟨x1, x2, x3, x4, v0, v1, v2, v3, ⟨p0, q0, r0⟩, ⟨p1, q1, r1⟩, ⟨p2, q2, r2⟩, ⟨p3, q3, r3⟩, h4⟩ := four_store w1 w.heap.size 34 _ 0 1 2 3 (.int .i64 1) (.int .i64 24) (.int .i64 0) (.string ⟨#[]⟩) hx1 (by decide) (by decide) (by decide) (by decide)
  have e0 := cell_of (k := 0) h4.here rfl
  have e1 := cell_of (k := 1) h4.here rfl
  have e2 := cell_of (k := 2) h4.here rfl
  have e3 := cell_of (k := 3) h4.here rfl
  have HB := Lib.hid (h4.below w.heap.size w (by omega) k3)
  clear hb1 hx1 k3 h4
  go_wp2_with fail
  exact bodyPost_ret (v := .agg #[.int .i64 1, .int .i64 24, .int .i64 0, .string ⟨#[]⟩]) (by simp [results, Try.results23, go_sem, e0, e1, e2, e3]) rfl ⟨rfl, HB.out⟩
set_option maxRecDepth 100000 in
theorem First34_any (w : World) : Calls Try.prog 23 #[.int .i64 34] w fun e w' => e = .returned (.agg #[.int .i64 1, .int .i64 24, .int .i64 0, .string ⟨#[]⟩]) ∧ Below w.heap.size w w' := by
  have CC := Lib.hid (fun W => (show Calls Try.prog 36 #[.string ⟨[110, 111, 114, 109, 97, 108].toArray⟩] W (fun e w' => e = .returned (.agg #[.int .i64 1, .int .i64 24, .int .i64 0, .string ⟨#[]⟩]) ∧ Below W.heap.size W w') from word10_any [110, 111, 114, 109, 97, 108] W))
  go_enter Try.func23, Try.ntmps23
  go_wp2_with fail
  refine (CC.out _).mono ?_
  rintro e w1 ⟨rfl, hb1⟩
  have hx1 : w1.heap[w.heap.size]? = some (.cells #[.int .i64 0, .int .i64 0, .int .i64 0, .string ⟨#[]⟩] 34 (0, 0)) := (hb1.block _ (by simp)).trans (heap_alloc_new w _)
  have k3 : Below w.heap.size w w1 := (below_oneP w (.cells #[.int .i64 0, .int .i64 0, .int .i64 0, .string ⟨#[]⟩] 34)).trans (hb1.mono (by simp))
  obtain ⟨x1, x2, x3, x4, v0, v1, v2, v3, ⟨p0, q0, r0⟩, ⟨p1, q1, r1⟩, ⟨p2, q2, r2⟩, ⟨p3, q3, r3⟩, h4⟩ := four_store w1 w.heap.size 34 _ 0 1 2 3 (.int .i64 1) (.int .i64 24) (.int .i64 0) (.string ⟨#[]⟩) hx1 (by decide) (by decide) (by decide) (by decide)
  have e0 := cell_of (k := 0) h4.here rfl
  have e1 := cell_of (k := 1) h4.here rfl
  have e2 := cell_of (k := 2) h4.here rfl
  have e3 := cell_of (k := 3) h4.here rfl
  have HB := Lib.hid (h4.below w.heap.size w (by omega) k3)
  clear hb1 hx1 k3 h4
  go_wp2_with fail
  exact bodyPost_ret (v := .agg #[.int .i64 1, .int .i64 24, .int .i64 0, .string ⟨#[]⟩]) (by simp [results, Try.results23, go_sem, e0, e1, e2, e3]) rfl ⟨rfl, HB.out⟩
set_option maxRecDepth 100000 in
theorem First35_any (w : World) : Calls Try.prog 23 #[.int .i64 35] w fun e w' => e = .returned (.agg #[.int .i64 1, .int .i64 2, .int .i64 0, .string ⟨#[]⟩]) ∧ Below w.heap.size w w' := by
  have CC := Lib.hid (fun W => (show Calls Try.prog 36 #[.string ⟨[110, 111, 110, 101].toArray⟩] W (fun e w' => e = .returned (.agg #[.int .i64 1, .int .i64 2, .int .i64 0, .string ⟨#[]⟩]) ∧ Below W.heap.size W w') from word10_any [110, 111, 110, 101] W))
  go_enter Try.func23, Try.ntmps23
  go_wp2_with fail
  refine (CC.out _).mono ?_
  rintro e w1 ⟨rfl, hb1⟩
  have hx1 : w1.heap[w.heap.size]? = some (.cells #[.int .i64 0, .int .i64 0, .int .i64 0, .string ⟨#[]⟩] 34 (0, 0)) := (hb1.block _ (by simp)).trans (heap_alloc_new w _)
  have k3 : Below w.heap.size w w1 := (below_oneP w (.cells #[.int .i64 0, .int .i64 0, .int .i64 0, .string ⟨#[]⟩] 34)).trans (hb1.mono (by simp))
  obtain ⟨x1, x2, x3, x4, v0, v1, v2, v3, ⟨p0, q0, r0⟩, ⟨p1, q1, r1⟩, ⟨p2, q2, r2⟩, ⟨p3, q3, r3⟩, h4⟩ := four_store w1 w.heap.size 34 _ 0 1 2 3 (.int .i64 1) (.int .i64 2) (.int .i64 0) (.string ⟨#[]⟩) hx1 (by decide) (by decide) (by decide) (by decide)
  have e0 := cell_of (k := 0) h4.here rfl
  have e1 := cell_of (k := 1) h4.here rfl
  have e2 := cell_of (k := 2) h4.here rfl
  have e3 := cell_of (k := 3) h4.here rfl
  have HB := Lib.hid (h4.below w.heap.size w (by omega) k3)
  clear hb1 hx1 k3 h4
  go_wp2_with fail
  exact bodyPost_ret (v := .agg #[.int .i64 1, .int .i64 2, .int .i64 0, .string ⟨#[]⟩]) (by simp [results, Try.results23, go_sem, e0, e1, e2, e3]) rfl ⟨rfl, HB.out⟩
set_option maxRecDepth 100000 in
theorem First36_any (w : World) : Calls Try.prog 23 #[.int .i64 36] w fun e w' => e = .returned (.agg #[.int .i64 2, .int .i64 16000, .int .i64 1, .string ⟨#[]⟩]) ∧ Below w.heap.size w w' := by
  have CC := Lib.hid (fun W => (show Calls Try.prog 37 #[.int .i64 16000] W (fun e w' => e = .returned (.agg #[.int .i64 2, .int .i64 16000, .int .i64 1, .string ⟨#[]⟩]) ∧ Below W.heap.size W w') from px10_any 16000 W))
  go_enter Try.func23, Try.ntmps23
  go_wp2_with fail
  refine (CC.out _).mono ?_
  rintro e w1 ⟨rfl, hb1⟩
  have hx1 : w1.heap[w.heap.size]? = some (.cells #[.int .i64 0, .int .i64 0, .int .i64 0, .string ⟨#[]⟩] 34 (0, 0)) := (hb1.block _ (by simp)).trans (heap_alloc_new w _)
  have k3 : Below w.heap.size w w1 := (below_oneP w (.cells #[.int .i64 0, .int .i64 0, .int .i64 0, .string ⟨#[]⟩] 34)).trans (hb1.mono (by simp))
  obtain ⟨x1, x2, x3, x4, v0, v1, v2, v3, ⟨p0, q0, r0⟩, ⟨p1, q1, r1⟩, ⟨p2, q2, r2⟩, ⟨p3, q3, r3⟩, h4⟩ := four_store w1 w.heap.size 34 _ 0 1 2 3 (.int .i64 2) (.int .i64 16000) (.int .i64 1) (.string ⟨#[]⟩) hx1 (by decide) (by decide) (by decide) (by decide)
  have e0 := cell_of (k := 0) h4.here rfl
  have e1 := cell_of (k := 1) h4.here rfl
  have e2 := cell_of (k := 2) h4.here rfl
  have e3 := cell_of (k := 3) h4.here rfl
  have HB := Lib.hid (h4.below w.heap.size w (by omega) k3)
  clear hb1 hx1 k3 h4
  go_wp2_with fail
  exact bodyPost_ret (v := .agg #[.int .i64 2, .int .i64 16000, .int .i64 1, .string ⟨#[]⟩]) (by simp [results, Try.results23, go_sem, e0, e1, e2, e3]) rfl ⟨rfl, HB.out⟩
set_option maxRecDepth 100000 in
theorem First37_any (w : World) : Calls Try.prog 23 #[.int .i64 37] w fun e w' => e = .returned (.agg #[.int .i64 1, .int .i64 24, .int .i64 0, .string ⟨#[]⟩]) ∧ Below w.heap.size w w' := by
  have CC := Lib.hid (fun W => (show Calls Try.prog 36 #[.string ⟨[110, 111, 114, 109, 97, 108].toArray⟩] W (fun e w' => e = .returned (.agg #[.int .i64 1, .int .i64 24, .int .i64 0, .string ⟨#[]⟩]) ∧ Below W.heap.size W w') from word10_any [110, 111, 114, 109, 97, 108] W))
  go_enter Try.func23, Try.ntmps23
  go_wp2_with fail
  refine (CC.out _).mono ?_
  rintro e w1 ⟨rfl, hb1⟩
  have hx1 : w1.heap[w.heap.size]? = some (.cells #[.int .i64 0, .int .i64 0, .int .i64 0, .string ⟨#[]⟩] 34 (0, 0)) := (hb1.block _ (by simp)).trans (heap_alloc_new w _)
  have k3 : Below w.heap.size w w1 := (below_oneP w (.cells #[.int .i64 0, .int .i64 0, .int .i64 0, .string ⟨#[]⟩] 34)).trans (hb1.mono (by simp))
  obtain ⟨x1, x2, x3, x4, v0, v1, v2, v3, ⟨p0, q0, r0⟩, ⟨p1, q1, r1⟩, ⟨p2, q2, r2⟩, ⟨p3, q3, r3⟩, h4⟩ := four_store w1 w.heap.size 34 _ 0 1 2 3 (.int .i64 1) (.int .i64 24) (.int .i64 0) (.string ⟨#[]⟩) hx1 (by decide) (by decide) (by decide) (by decide)
  have e0 := cell_of (k := 0) h4.here rfl
  have e1 := cell_of (k := 1) h4.here rfl
  have e2 := cell_of (k := 2) h4.here rfl
  have e3 := cell_of (k := 3) h4.here rfl
  have HB := Lib.hid (h4.below w.heap.size w (by omega) k3)
  clear hb1 hx1 k3 h4
  go_wp2_with fail
  exact bodyPost_ret (v := .agg #[.int .i64 1, .int .i64 24, .int .i64 0, .string ⟨#[]⟩]) (by simp [results, Try.results23, go_sem, e0, e1, e2, e3]) rfl ⟨rfl, HB.out⟩
end Go.Proofs.Ytlngipglhlhhbaa

namespace Go.Proofs.Ytlngipglhlhhbaa
open Go.RowKit TreN LexP FixP SynP ValP PropP FixM
set_option linter.unusedVariables false

def retV (v : Val) : Value := .agg #[.int .i64 v.kind, .int .i64 v.n, .int .i64 v.d, .string ⟨v.name.toArray⟩]
theorem First10_in (p : Int) (h1 : 1 ≤ p) (h2 : p ≤ 37) (w : World) : Calls Try.prog 23 #[.int .i64 p] w fun e w' => e = .returned (retV (firstZ p)) ∧ Below w.heap.size w w' := by
  have h : p = 1 ∨ p = 2 ∨ p = 3 ∨ p = 4 ∨ p = 5 ∨ p = 6 ∨ p = 7 ∨ p = 8 ∨ p = 9 ∨ p = 10 ∨ p = 11 ∨ p = 12 ∨ p = 13 ∨ p = 14 ∨ p = 15 ∨ p = 16 ∨ p = 17 ∨ p = 18 ∨ p = 19 ∨ p = 20 ∨ p = 21 ∨ p = 22 ∨ p = 23 ∨ p = 24 ∨ p = 25 ∨ p = 26 ∨ p = 27 ∨ p = 28 ∨ p = 29 ∨ p = 30 ∨ p = 31 ∨ p = 32 ∨ p = 33 ∨ p = 34 ∨ p = 35 ∨ p = 36 ∨ p = 37 := by omega
  rcases h with rfl | rfl | rfl | rfl | rfl | rfl | rfl | rfl | rfl | rfl | rfl | rfl | rfl | rfl | rfl | rfl | rfl | rfl | rfl | rfl | rfl | rfl | rfl | rfl | rfl | rfl | rfl | rfl | rfl | rfl | rfl | rfl | rfl | rfl | rfl | rfl | rfl
  · exact First1_any w
  · exact First2_any w
  · exact First3_any w
  · exact First4_any w
  · exact First5_any w
  · exact First6_any w
  · exact First7_any w
  · exact First8_any w
  · exact First9_any w
  · exact First10_any w
  · exact First11_any w
  · exact First12_any w
  · exact First13_any w
  · exact First14_any w
  · exact First15_any w
  · exact First16_any w
  · exact First17_any w
  · exact First18_any w
  · exact First19_any w
  · exact First20_any w
  · exact First21_any w
  · exact First22_any w
  · exact First23_any w
  · exact First24_any w
  · exact First25_any w
  · exact First26_any w
  · exact First27_any w
  · exact First28_any w
  · exact First29_any w
  · exact First30_any w
  · exact First31_any w
  · exact First32_any w
  · exact First33_any w
  · exact First34_any w
  · exact First35_any w
  · exact First36_any w
  · exact First37_any w
set_option maxRecDepth 100000 in
theorem First10_out (p : Int) (h : ¬ (1 ≤ p ∧ p ≤ 37)) (w : World) : Calls Try.prog 23 #[.int .i64 p] w fun e w' => e = .returned (retV (firstZ p)) ∧ Below w.heap.size w w' := by
  have hz : firstZ p = zeroV := by unfold firstZ; rw [if_neg h]
  rw [hz]
  have z1 : (p == 1) = false := by rw [beq_eq_false_iff_ne]; omega
  have z2 : (p == 2) = false := by rw [beq_eq_false_iff_ne]; omega
  have z3 : (p == 3) = false := by rw [beq_eq_false_iff_ne]; omega
  have z4 : (p == 4) = false := by rw [beq_eq_false_iff_ne]; omega
  have z5 : (p == 5) = false := by rw [beq_eq_false_iff_ne]; omega
  have z6 : (p == 6) = false := by rw [beq_eq_false_iff_ne]; omega
  have z7 : (p == 7) = false := by rw [beq_eq_false_iff_ne]; omega
  have z8 : (p == 8) = false := by rw [beq_eq_false_iff_ne]; omega
  have z9 : (p == 9) = false := by rw [beq_eq_false_iff_ne]; omega
  have z10 : (p == 10) = false := by rw [beq_eq_false_iff_ne]; omega
  have z11 : (p == 11) = false := by rw [beq_eq_false_iff_ne]; omega
  have z12 : (p == 12) = false := by rw [beq_eq_false_iff_ne]; omega
  have z13 : (p == 13) = false := by rw [beq_eq_false_iff_ne]; omega
  have z14 : (p == 14) = false := by rw [beq_eq_false_iff_ne]; omega
  have z15 : (p == 15) = false := by rw [beq_eq_false_iff_ne]; omega
  have z16 : (p == 16) = false := by rw [beq_eq_false_iff_ne]; omega
  have z17 : (p == 17) = false := by rw [beq_eq_false_iff_ne]; omega
  have z18 : (p == 18) = false := by rw [beq_eq_false_iff_ne]; omega
  have z19 : (p == 19) = false := by rw [beq_eq_false_iff_ne]; omega
  have z20 : (p == 20) = false := by rw [beq_eq_false_iff_ne]; omega
  have z21 : (p == 21) = false := by rw [beq_eq_false_iff_ne]; omega
  have z22 : (p == 22) = false := by rw [beq_eq_false_iff_ne]; omega
  have z23 : (p == 23) = false := by rw [beq_eq_false_iff_ne]; omega
  have z24 : (p == 24) = false := by rw [beq_eq_false_iff_ne]; omega
  have z25 : (p == 25) = false := by rw [beq_eq_false_iff_ne]; omega
  have z26 : (p == 26) = false := by rw [beq_eq_false_iff_ne]; omega
  have z27 : (p == 27) = false := by rw [beq_eq_false_iff_ne]; omega
  have z28 : (p == 28) = false := by rw [beq_eq_false_iff_ne]; omega
  have z29 : (p == 29) = false := by rw [beq_eq_false_iff_ne]; omega
  have z30 : (p == 30) = false := by rw [beq_eq_false_iff_ne]; omega
  have z31 : (p == 31) = false := by rw [beq_eq_false_iff_ne]; omega
  have z32 : (p == 32) = false := by rw [beq_eq_false_iff_ne]; omega
  have z33 : (p == 33) = false := by rw [beq_eq_false_iff_ne]; omega
  have z34 : (p == 34) = false := by rw [beq_eq_false_iff_ne]; omega
  have z35 : (p == 35) = false := by rw [beq_eq_false_iff_ne]; omega
  have z36 : (p == 36) = false := by rw [beq_eq_false_iff_ne]; omega
  have z37 : (p == 37) = false := by rw [beq_eq_false_iff_ne]; omega
  clear h hz
  go_enter Try.func23, Try.ntmps23
  go_wp2_with fail
  exact bodyPost_ret (v := .agg #[.int .i64 0, .int .i64 0, .int .i64 0, .string ⟨#[]⟩]) (by simp [results, Try.results23, go_sem]) rfl ⟨rfl, (Below.refl _ _).alloc (Nat.le_refl _) _⟩
theorem FirstP_any (p : Int) (w : World) : Calls Try.prog 23 #[.int .i64 p] w fun e w' => e = .returned (retV (firstZ p)) ∧ Below w.heap.size w w' := by
  by_cases h : 1 ≤ p ∧ p ≤ 37
  · exact First10_in p h.1 h.2 w
  · exact First10_out p h w
set_option maxRecDepth 100000 in
theorem Inherits10_any (p : Int) (w : World) : Calls Try.prog 22 #[.int .i64 p] w fun e w' => e = .returned (.bool (decide (p = 36 ∨ p = 37))) ∧ w' = w := by
  by_cases h : p = 36
  · subst h
    go_enter Try.func22, Try.ntmps22
    go_wp2_with fail
    go_ret
    exact ⟨rfl, rfl⟩
  · have z : (p == 36) = false := by rw [beq_eq_false_iff_ne]; exact h
    by_cases h2 : p = 37
    · subst h2
      go_enter Try.func22, Try.ntmps22
      go_wp2_with fail
      go_ret
      exact ⟨rfl, rfl⟩
    · have z2 : (p == 37) = false := by rw [beq_eq_false_iff_ne]; exact h2
      have HF : Hid (false = decide (p = 36 ∨ p = 37)) := Lib.hid (by rw [decide_eq_false]; omega)
      clear h h2
      go_enter Try.func22, Try.ntmps22
      go_wp2_with fail
      go_ret
      exact ⟨ret_bool HF.out, rfl⟩
end Go.Proofs.Ytlngipglhlhhbaa
