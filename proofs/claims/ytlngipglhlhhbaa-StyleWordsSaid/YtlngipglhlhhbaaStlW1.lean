/- Layer 17: words, sizes' words, ratios, lines, what a length measures in a maker. (Written by gen_stl1.py.) -/
import Derived.Test.YtlngipglhlhhbaaStlP
import Derived.Test.YtlngipglhlhhbaaMsrC
import Derived.Test.YtlngipglhlhhbaaValW1
import Derived.StillTailTactics
import Derived.Deep.QuietTactic
namespace Go.Proofs.Ytlngipglhlhhbaa
open Go.RowKit TreN LexP FixP SynP ValP PropP FixM
set_option linter.unusedVariables false

theorem below_drewY {B : Nat} {a w : World} (h : Below B a w) (q : Nat) : Below B a (w.drewN q) := h.trans ⟨rfl, rfl, rfl, Nat.le_refl _, fun _ _ => rfl⟩
def vlV (v : Val) : Value := .agg #[.int .i64 v.kind, .int .i64 v.n, .int .i64 v.d, .string ⟨v.name.toArray⟩]
def vlB (v : Val) : Array Value := #[.int .i64 v.kind, .int .i64 v.n, .int .i64 v.d, .string ⟨v.name.toArray⟩]
set_option maxRecDepth 100000 in
set_option maxHeartbeats 1000000 in
theorem wordS_any (v : Val) (w : World) : Calls Try.prog 21 #[vlV v] w fun e w' => e = .returned (.string ⟨(wordS v).toArray⟩) ∧ Below w.heap.size w w' := by
  have HB := Lib.hid (below_one7h w (.cells (vlB v) 34))
  unfold vlV vlB at *
  obtain ⟨k, n, d, nm⟩ := v
  by_cases h : k = 1
  · subst h
    have hs : wordS ⟨1, n, d, nm⟩ = txtP wordsL n := rfl
    rw [hs]
    have T := Lib.hid (fun W => Text9_any n W)
    obtain ⟨x, hx⟩ : ∃ x, txtP wordsL n = x := ⟨_, rfl⟩
    rw [hx] at T ⊢
    clear hs hx
    simp only at HB ⊢
    go_enter Try.func21, Try.ntmps21
    go_wp2_with fail
    refine (T.out _).mono ?_
    rintro e w' ⟨rfl, hb⟩
    have HB2 := Lib.hid (HB.out.trans (hb.mono HB.out.size))
    clear hb
    go_wp2_with fail
    go_ret
    exact ⟨rfl, HB2.out⟩
  · have hs : wordS ⟨k, n, d, nm⟩ = [] := by unfold wordS; rw [if_neg h]
    rw [hs]
    have hz : (k == 1) = false := by rw [beq_eq_false_iff_ne]; exact h
    clear hs
    simp only at HB ⊢
    go_enter Try.func21, Try.ntmps21
    go_wp2_with fail
    go_ret
    exact ⟨rfl, HB.out⟩

set_option maxRecDepth 100000 in
set_option maxHeartbeats 2000000 in
theorem called17_any (s : List UInt8) (w : World) : Calls Try.prog 42 #[.string ⟨s.toArray⟩] w fun e w' => e = .returned (.int .i64 (callS s)) ∧ w = w' := by
  obtain ⟨r, hr⟩ : ∃ r, callS s = r := ⟨_, rfl⟩
  rw [hr]
  unfold callS at hr
  by_cases h1 : s = noneT
  · rw [if_pos h1] at hr; subst hr; subst h1
    unfold noneT at *
    go_enter Try.func42, Try.ntmps42
    go_wp2_with fail
    go_ret
    exact ⟨rfl, rfl⟩
  rw [if_neg h1] at hr
  have z0 : (s == [110, 111, 110, 101]) = false := by rw [beq_eq_false_iff_ne]; exact h1
  clear h1
  by_cases h1 : s = minT
  · rw [if_pos h1] at hr; subst hr; subst h1
    unfold minT at *
    go_enter Try.func42, Try.ntmps42
    go_wp2_with fail
    go_ret
    exact ⟨rfl, rfl⟩
  rw [if_neg h1] at hr
  have z1 : (s == [109, 105, 110, 45, 99, 111, 110, 116, 101, 110, 116]) = false := by rw [beq_eq_false_iff_ne]; exact h1
  clear h1
  by_cases h1 : s = maxT
  · rw [if_pos (Or.inl h1)] at hr; subst hr; subst h1
    unfold maxT at *
    go_enter Try.func42, Try.ntmps42
    go_wp2_with fail
    go_ret
    exact ⟨rfl, rfl⟩
  have z2 : (s == [109, 97, 120, 45, 99, 111, 110, 116, 101, 110, 116]) = false := by rw [beq_eq_false_iff_ne]; exact h1
  by_cases h2 : s = conT
  · rw [if_pos (Or.inr h2)] at hr; subst hr; subst h2; clear h1
    unfold conT at *
    go_enter Try.func42, Try.ntmps42
    go_wp2_with fail
    go_ret
    exact ⟨rfl, rfl⟩
  have z3 : (s == [99, 111, 110, 116, 101, 110, 116]) = false := by rw [beq_eq_false_iff_ne]; exact h2
  rw [if_neg (fun c => c.elim h1 h2)] at hr
  clear h1 h2
  by_cases h1 : s = fitT
  · rw [if_pos h1] at hr; subst hr; subst h1
    unfold fitT at *
    go_enter Try.func42, Try.ntmps42
    go_wp2_with fail
    go_ret
    exact ⟨rfl, rfl⟩
  rw [if_neg h1] at hr
  have z4 : (s == [102, 105, 116, 45, 99, 111, 110, 116, 101, 110, 116]) = false := by rw [beq_eq_false_iff_ne]; exact h1
  clear h1
  by_cases h1 : s = norT
  · rw [if_pos h1] at hr; subst hr; subst h1
    unfold norT at *
    go_enter Try.func42, Try.ntmps42
    go_wp2_with fail
    go_ret
    exact ⟨rfl, rfl⟩
  rw [if_neg h1] at hr
  have z5 : (s == [110, 111, 114, 109, 97, 108]) = false := by rw [beq_eq_false_iff_ne]; exact h1
  clear h1
  subst hr
  go_enter Try.func42, Try.ntmps42
  go_wp2_with fail
  go_ret
  exact ⟨rfl, rfl⟩

set_option maxRecDepth 100000 in
set_option maxHeartbeats 1000000 in
theorem ratio17_any (v : Val) (w : World) : Calls Try.prog 29 #[vlV v] w fun e w' => e = .returned (.tuple #[.int .i64 (ratN v), .int .i64 (ratD v)]) ∧ Below w.heap.size w w' := by
  have HB := Lib.hid (below_one7h w (.cells (vlB v) 34))
  unfold vlV vlB at *
  obtain ⟨k, n, d, nm⟩ := v
  unfold ratN ratD
  simp only at HB ⊢
  by_cases h : k = 4
  · subst h
    rw [if_pos rfl, if_pos rfl]
    go_enter Try.func29, Try.ntmps29
    go_wp2_with fail
    go_ret2
    exact ⟨rfl, HB.out⟩
  · have hz : (k == 4) = false := by rw [beq_eq_false_iff_ne]; exact h
    rw [if_neg h, if_neg h]
    by_cases h5 : k = 5
    · subst h5
      rw [if_pos rfl, if_pos rfl]
      have hx0 := heap_alloc_new w (.cells #[.int .i64 5, .int .i64 n, .int .i64 d, .string ⟨nm.toArray⟩] 34)
      generalize hW : w.alloc (.cells #[.int .i64 5, .int .i64 n, .int .i64 d, .string ⟨nm.toArray⟩] 34) = W at *
      have c0 : W.cell? ⟨w.heap.size, 0, none⟩ = some (.int .i64 5) := cell_of hx0 rfl
      have c1 : W.cell? ⟨w.heap.size, 1, none⟩ = some (.int .i64 n) := cell_of hx0 rfl
      have c2 : W.cell? ⟨w.heap.size, 2, none⟩ = some (.int .i64 d) := cell_of hx0 rfl
      clear hx0
      go_enter Try.func29, Try.ntmps29
      go_wp2_with fail
      go_quiet (fail)
      go_wp2_with fail
      go_ret2
      exact ⟨rfl, below_drewY HB.out _⟩
    · have hz5 : (k == 5) = false := by rw [beq_eq_false_iff_ne]; exact h5
      rw [if_neg h5, if_neg h5]
      go_enter Try.func29, Try.ntmps29
      go_wp2_with fail
      go_ret2
      exact ⟨rfl, HB.out⟩
set_option maxRecDepth 100000 in
set_option maxHeartbeats 1000000 in
theorem line17_any (v : Val) (w : World) : Calls Try.prog 30 #[vlV v] w fun e w' => e = .returned (.int .i64 (lineS v)) ∧ Below w.heap.size w w' := by
  have HB := Lib.hid (below_one7h w (.cells (vlB v) 34))
  unfold vlV vlB at *
  obtain ⟨k, n, d, nm⟩ := v
  unfold lineS
  simp only at HB ⊢
  by_cases h : k = 4
  · subst h
    rw [if_pos rfl]
    go_enter Try.func30, Try.ntmps30
    go_wp2_with fail
    go_ret
    exact ⟨rfl, HB.out⟩
  · have hz : (k == 4) = false := by rw [beq_eq_false_iff_ne]; exact h
    rw [if_neg h]
    go_enter Try.func30, Try.ntmps30
    go_wp2_with fail
    go_ret
    exact ⟨rfl, HB.out⟩

/-- what a length is measured by, in a maker -/
structure Mb (w : World) (b : Nat) (f x y : Int) : Prop where
  f : w.cell? ⟨b, 53, none⟩ = some (.int .i64 f)
  x : w.cell? ⟨b, 55, none⟩ = some (.int .i64 x)
  y : w.cell? ⟨b, 56, none⟩ = some (.int .i64 y)
theorem Mb.lt {w : World} {b : Nat} {f x y : Int} (h : Mb w b f x y) : b < w.heap.size := World.block_lt_of_cell? w _ h.f
theorem Mb.below {w w' : World} {b : Nat} {f x y : Int} (h : Mb w b f x y) (hb : Below w.heap.size w w') : Mb w' b f x y :=
  ⟨(hb.cell (p := ⟨b, 53, none⟩) h.lt).trans h.f, (hb.cell (p := ⟨b, 55, none⟩) h.lt).trans h.x, (hb.cell (p := ⟨b, 56, none⟩) h.lt).trans h.y⟩
set_option maxRecDepth 100000 in
set_option maxHeartbeats 1000000 in
theorem measure17_any (b : Nat) (v : Val) (f x y : Int) (w : World) (h : Mb w b f x y) : Calls Try.prog 28 #[.pointer (some ⟨b, 0, none⟩), vlV v] w fun e w' => e = .returned (.int .i64 (msS v f x y)) ∧ Below w.heap.size w w' := by
  have hb1 := below_one7h w (.cells (vlB v) 34)
  have h1 := h.below hb1
  have HB := Lib.hid hb1
  unfold vlV vlB at *
  have C := Lib.hid (fun W => Measure_any v.kind v.n v.d f x y v.name W)
  have hm : measS v.kind v.n v.d f x y = msS v f x y := rfl
  rw [hm] at C
  generalize msS v f x y = r at C ⊢
  obtain ⟨k, n, d, nm⟩ := v
  simp only at HB C h1 ⊢
  obtain ⟨c1, c2, c3⟩ := h1
  clear h hb1 hm
  have hx0 := heap_alloc_new w (.cells #[.int .i64 k, .int .i64 n, .int .i64 d, .string ⟨nm.toArray⟩] 34)
  generalize hW : w.alloc (.cells #[.int .i64 k, .int .i64 n, .int .i64 d, .string ⟨nm.toArray⟩] 34) = W at *
  have d0 : W.cell? ⟨w.heap.size, 0, none⟩ = some (.int .i64 k) := cell_of hx0 rfl
  have d1 : W.cell? ⟨w.heap.size, 1, none⟩ = some (.int .i64 n) := cell_of hx0 rfl
  have d2 : W.cell? ⟨w.heap.size, 2, none⟩ = some (.int .i64 d) := cell_of hx0 rfl
  have d3 : W.cell? ⟨w.heap.size, 3, none⟩ = some (.string ⟨nm.toArray⟩) := cell_of hx0 rfl
  clear hx0
  go_enter Try.func28, Try.ntmps28
  go_wp2_with fail
  refine wp_region_still_tail 14 (by kernel_rfl) (by kernel_rfl) ?_
  simp only [List.take_succ_cons, List.take_zero, List.drop_succ_cons, List.drop_zero]
  repeat still_step
  refine wpStill_nil ?_
  change wpList _ _ _ _ _ W.drew
  have HBD : Hid (Below w.heap.size w W.drew) := HB.out.drew
  generalize W.drew = W2 at HBD ⊢
  clear HB
  have HB := HBD
  go_wp2_with fail
  refine (C.out _).mono ?_
  rintro e w' ⟨rfl, hb⟩
  have HB2 := Lib.hid (HB.out.trans (hb.mono HB.out.size))
  clear hb
  go_wp2_with fail
  go_ret
  exact ⟨rfl, HB2.out⟩
set_option maxRecDepth 100000 in
set_option maxHeartbeats 1000000 in
theorem up17_any (b : Nat) (v : Val) (f x y : Int) (w : World) (h : Mb w b f x y) : Calls Try.prog 25 #[.pointer (some ⟨b, 0, none⟩), vlV v] w fun e w' => e = .returned (.int .i64 (upS v f x y)) ∧ Below w.heap.size w w' := by
  have hb1 := below_one7h w (.cells (vlB v) 34)
  have HB := Lib.hid hb1
  have C0 := measure17_any b v f x y _ (h.below hb1)
  unfold upS
  generalize msS v f x y = r at C0 ⊢
  unfold vlV vlB at *
  obtain ⟨k, n, d, nm⟩ := v
  simp only at HB C0 ⊢
  have C := Lib.hid C0
  clear h hb1 C0
  go_enter Try.func25, Try.ntmps25
  go_wp2_with fail
  refine C.out.mono ?_
  rintro e w' ⟨rfl, hb⟩
  have HB2 := Lib.hid (HB.out.trans (hb.mono HB.out.size))
  clear hb
  go_wp2_with fail
  go_ret
  exact ⟨rfl, HB2.out⟩
set_option maxRecDepth 100000 in
set_option maxHeartbeats 1000000 in
theorem font17_any (b : Nat) (v : Val) (f x y : Int) (w : World) (h : Mb w b f x y) : Calls Try.prog 15 #[.pointer (some ⟨b, 0, none⟩), vlV v] w fun e w' => e = .returned (.int .i64 (fontS v f x y)) ∧ Below w.heap.size w w' := by
  have hb1 := below_one7h w (.cells (vlB v) 34)
  have HB := Lib.hid hb1
  have C0 := up17_any b v f x y _ (h.below hb1)
  have P := Lib.hid (fun W => Percent_any f v.n W)
  have h1 := (h.below hb1).f
  have hf : fontS v f x y = if v.kind = 3 then max 0 (PT f v.n 100000) else upS v f x y := rfl
  rw [hf]
  generalize upS v f x y = r at C0 ⊢
  unfold vlV vlB at *
  obtain ⟨k, n, d, nm⟩ := v
  simp only at HB C0 P h1 ⊢
  have C := Lib.hid C0
  clear h hb1 C0 hf
  by_cases hk : k = 3
  · subst hk
    rw [if_pos rfl]
    generalize PT f n 100000 = q at P ⊢
    have hx0 := heap_alloc_new w (.cells #[.int .i64 3, .int .i64 n, .int .i64 d, .string ⟨nm.toArray⟩] 34)
    generalize hW : w.alloc (.cells #[.int .i64 3, .int .i64 n, .int .i64 d, .string ⟨nm.toArray⟩] 34) = W at *
    have d0 : W.cell? ⟨w.heap.size, 0, none⟩ = some (.int .i64 3) := cell_of hx0 rfl
    have d1 : W.cell? ⟨w.heap.size, 1, none⟩ = some (.int .i64 n) := cell_of hx0 rfl
    clear hx0 C
    go_enter Try.func15, Try.ntmps15
    go_wp2_with fail
    refine wp_region_still_tail 7 (by kernel_rfl) (by kernel_rfl) ?_
    simp only [List.take_succ_cons, List.take_zero, List.drop_succ_cons, List.drop_zero]
    repeat still_step
    refine wpStill_nil ?_
    change wpList _ _ _ _ _ W.drew
    have HBD : Hid (Below w.heap.size w W.drew) := HB.out.drew
    generalize W.drew = W2 at HBD ⊢
    clear HB
    have HB := HBD
    go_wp2_with fail
    refine (P.out _).mono ?_
    rintro e w' ⟨rfl, rfl⟩
    go_wp2_with fail
    go_ret
    exact ⟨rfl, HB.out⟩
  · have hz : (k == 3) = false := by rw [beq_eq_false_iff_ne]; exact hk
    rw [if_neg hk]
    go_enter Try.func15, Try.ntmps15
    go_wp2_with fail
    refine C.out.mono ?_
    rintro e w' ⟨rfl, hb⟩
    have HB2 := Lib.hid (HB.out.trans (hb.mono HB.out.size))
    clear hb
    go_wp2_with fail
    go_ret
    exact ⟨rfl, HB2.out⟩
end Go.Proofs.Ytlngipglhlhhbaa
