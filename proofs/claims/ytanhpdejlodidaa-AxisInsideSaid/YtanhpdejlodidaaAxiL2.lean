/- The walks of layer 3's laws: where something stands. -/
import Derived.Test.YtanhpdejlodidaaAxiW3
import Derived.StillTailTactics
namespace Go.Proofs.Ytanhpdejlodidaa
open Go.RowKit FixM AxiF

theorem Of_still (x y : Int) (w : World) :
    Calls Try.prog 19 #[.int .i64 x, .int .i64 y] w fun e w' => e = .returned (.complex .f64 (floatOfInt .f64 (H x)) (floatOfInt .f64 (H y))) ∧ w' = w := (Of_any x y w).mono fun _ _ h => ⟨h.1, h.2.symm⟩
theorem X_still (a b : Nat) (w : World) :
    Calls Try.prog 20 #[.complex .f64 a b] w fun e w' => e = .returned (.int .i64 (wholeS a)) ∧ w' = w := (X_any a b w).mono fun _ _ h => ⟨h.1, h.2.symm⟩
theorem Y_still (a b : Nat) (w : World) :
    Calls Try.prog 22 #[.complex .f64 a b] w fun e w' => e = .returned (.int .i64 (wholeS b)) ∧ w' = w := (Y_any a b w).mono fun _ _ h => ⟨h.1, h.2.symm⟩

/-- a box of two numbers -/
def box2 (w : World) (x y : Int) : World := w.alloc (.cells #[.int .i64 x, .int .i64 y] 45)
def box6 (w : World) (r0 r1 a0 a1 s0 s1 : Int) : World := box2 (box2 (box2 w r0 r1) a0 a1) s0 s1
theorem box6_below (w : World) (r0 r1 a0 a1 s0 s1 : Int) : Below w.heap.size w (box6 w r0 r1 a0 a1 s0 s1) := by
  unfold box6 box2
  exact (((Below.refl _ _).alloc (by simp) _).alloc (by simp) _).alloc (by simp; omega) _
theorem box6_size (w : World) (r0 r1 a0 a1 s0 s1 : Int) : w.heap.size + 3 ≤ (box6 w r0 r1 a0 a1 s0 s1).heap.size := by unfold box6 box2; simp
theorem box6_cells (w : World) (r0 r1 a0 a1 s0 s1 : Int) :
    (box6 w r0 r1 a0 a1 s0 s1).cell? ⟨w.heap.size, 0, none⟩ = some (.int .i64 r0) ∧ (box6 w r0 r1 a0 a1 s0 s1).cell? ⟨w.heap.size, 1, none⟩ = some (.int .i64 r1) ∧
    (box6 w r0 r1 a0 a1 s0 s1).cell? ⟨w.heap.size + 1, 0, none⟩ = some (.int .i64 a0) ∧ (box6 w r0 r1 a0 a1 s0 s1).cell? ⟨w.heap.size + 1, 1, none⟩ = some (.int .i64 a1) ∧
    (box6 w r0 r1 a0 a1 s0 s1).cell? ⟨w.heap.size + 2, 0, none⟩ = some (.int .i64 s0) ∧ (box6 w r0 r1 a0 a1 s0 s1).cell? ⟨w.heap.size + 2, 1, none⟩ = some (.int .i64 s1) := by
  unfold box6 box2
  refine ⟨?_, ?_, ?_, ?_, ?_, ?_⟩
  · rw [World.cell?_alloc_past _ _ _ (by simp; omega), World.cell?_alloc_past _ _ _ (by simp), World.cell?_alloc_at _ _ _ _ rfl]; rfl
  · rw [World.cell?_alloc_past _ _ _ (by simp; omega), World.cell?_alloc_past _ _ _ (by simp), World.cell?_alloc_at _ _ _ _ rfl]; rfl
  · rw [World.cell?_alloc_past _ _ _ (by simp), World.cell?_alloc_at _ _ _ _ (by simp)]; rfl
  · rw [World.cell?_alloc_past _ _ _ (by simp), World.cell?_alloc_at _ _ _ _ (by simp)]; rfl
  · rw [World.cell?_alloc_at _ _ _ _ (by simp)]; rfl
  · rw [World.cell?_alloc_at _ _ _ _ (by simp)]; rfl

theorem whole_flX (way a b : Int) (ha : wholeS (floatOfInt .f64 a) = a) (hb : wholeS (floatOfInt .f64 b) = b) : wholeS (floatOfInt .f64 (flX way a b)) = flX way a b := by
  unfold flX; split <;> assumption
theorem whole_putX (way : Int) (t : Bool) (rm rc am ac sm sc : Int) : wholeS (floatOfInt .f64 (putX way t rm rc am ac sm sc)) = putX way t rm rc am ac sm sc := whole_flX _ _ _ (whole_side _ _ _ _) (whole_side _ _ _ _)
theorem whole_putY (way : Int) (t : Bool) (rm rc am ac sm sc : Int) : wholeS (floatOfInt .f64 (putY way t rm rc am ac sm sc)) = putY way t rm rc am ac sm sc := whole_flX _ _ _ (whole_side _ _ _ _) (whole_side _ _ _ _)

set_option maxRecDepth 100000 in
set_option maxHeartbeats 4000000 in
theorem AxisPuts_walk (way : Int) (t : Bool) (r0 r1 a0 a1 s0 s1 : Int) (w : World) :
    Calls Try.prog 9 #[.int .i64 way, .bool t, .agg #[.int .i64 r0, .int .i64 r1], .agg #[.int .i64 a0, .int .i64 a1], .agg #[.int .i64 s0, .int .i64 s1]] w fun e w' => e = .returned (.bool true) ∧ Below w.heap.size w w' := by
  have e1 := whole_putX way t r0 r1 a0 a1 s0 s1
  have e2 := whole_putY way t r0 r1 a0 a1 s0 s1
  obtain ⟨c1, c2, c3, c4, c5, c6⟩ := box6_cells w r0 r1 a0 a1 s0 s1
  have hb0 := Lib.hid (box6_below w r0 r1 a0 a1 s0 s1)
  have hbx : (((w.alloc (.cells #[.int .i64 r0, .int .i64 r1] 45)).alloc (.cells #[.int .i64 a0, .int .i64 a1] 45)).alloc (.cells #[.int .i64 s0, .int .i64 s1] 45)) = box6 w r0 r1 a0 a1 s0 s1 := rfl
  have hsz := Lib.hid (box6_size w r0 r1 a0 a1 s0 s1)
  generalize box6 w r0 r1 a0 a1 s0 s1 = wb at c1 c2 c3 c4 c5 c6 hb0 hbx hsz
  have HE1 := Lib.hid e1
  have HE2 := Lib.hid e2
  clear e1 e2
  go_enter Try.func9, Try.ntmps9
  go_wp2_with fail
  clear hbx
  refine wp_region_still_tail 17 (by kernel_rfl) (by kernel_rfl) ?_
  simp only [List.take_succ_cons, List.take_zero, List.drop_succ_cons, List.drop_zero]
  repeat (first | still_step | (refine wpStill_step (fun K hK => ?_); go_simp; refine ⟨_, Of_still _ _ _, hK _ ?_⟩; clear hK K))
  refine wpStill_nil ?_
  change wpList _ _ _ _ _ wb.drew
  have hcd : ∀ p, wb.drew.cell? p = wb.cell? p := fun _ => rfl
  have hbd : Below w.heap.size w wb.drew := hb0.out.drew
  have hszd : w.heap.size + 3 ≤ wb.drew.heap.size := hsz.out
  generalize wb.drew = wd at hcd hbd hszd ⊢
  have HCD := Lib.hid hcd
  have HBD := Lib.hid hbd
  have HC := Lib.hid (And.intro c1 (And.intro c2 (And.intro c3 (And.intro c4 (And.intro c5 c6)))))
  clear hcd hbd c1 c2 c3 c4 c5 c6 hb0
  go_wp2_with fail
  refine (Put_any _ _ _ _ _ _ _ _ _).mono ?_
  rintro e w1 ⟨rfl, hb⟩
  obtain ⟨d1, d2, d3, d4, d5, d6⟩ := HC.out
  have bc : ∀ b o, b < wd.heap.size → w1.cell? ⟨b, o, none⟩ = wb.cell? ⟨b, o, none⟩ := fun b o h => (hb.cell (p := ⟨b, o, none⟩) h).trans (HCD.out _)
  rw [← bc _ _ (by omega)] at d1 d2 d3 d4 d5 d6
  have hbw : Below w.heap.size w w1 := HBD.out.trans (hb.mono (by omega))
  have HBW := Lib.hid hbw
  clear bc hb hbw HC
  go_wp2_with (first
    | (go_at_call 29; refine (refPut_any _ _ _ _ _ _ _ _ _).mono ?_; rintro e w' ⟨rfl, rfl⟩)
    | (go_at_call 20; refine (X_any _ _ _).mono ?_; rintro e w' ⟨rfl, rfl⟩; rw [HE1.out])
    | (go_at_call 22; refine (Y_any _ _ _).mono ?_; rintro e w' ⟨rfl, rfl⟩; rw [HE2.out])
    | (go_at_call 23; refine (known3_any _).mono ?_; rintro e w' ⟨rfl, hb⟩))
  go_ret
  exact ⟨rfl, HBW.out.trans (Below.mono (by assumption) HBW.out.size)⟩

/-- does something begin and end in a room? -/
def insB (r a s : Int) : Bool := decide (0 ≤ a) && (decide (0 ≤ s) && (decide (0 ≤ r) && (decide (r ≤ 1073741824) && (decide (a ≤ r) && decide (s ≤ r - a)))))
theorem insB_iff (r a s : Int) : insB r a s = true ↔ 0 ≤ a ∧ 0 ≤ s ∧ 0 ≤ r ∧ r ≤ 1073741824 ∧ a ≤ r ∧ s ≤ r - a := by
  unfold insB; simp only [Bool.and_eq_true, decide_eq_true_eq]

set_option maxHeartbeats 1000000 in
theorem inside_any (r a s : Int) (w : World) :
    Calls Try.prog 30 #[.int .i64 r, .int .i64 a, .int .i64 s] w fun e w' => e = .returned (.bool (insB r a s)) ∧ w = w' := by
  by_cases h : 0 ≤ a ∧ 0 ≤ s ∧ 0 ≤ r ∧ r ≤ 1073741824 ∧ a ≤ r
  · obtain ⟨h1, h2, h3, h4, h5⟩ := h
    have he : insB r a s = decide (s ≤ r - a) := by unfold insB; simp [h1, h2, h3, h4, h5]
    rw [he]
    clear he
    go_enter Try.func30, Try.ntmps30
    go_wp2_with fail
    all_goals go_ret
    all_goals (refine ⟨?_, rfl⟩; first | rfl | simp_all)
  · have he : insB r a s = false := by
      cases hb : insB r a s
      · rfl
      · exact absurd ((insB_iff r a s).1 hb) (by omega)
    rw [he]
    have hx : a < 0 ∨ (0 ≤ a ∧ s < 0) ∨ (0 ≤ a ∧ 0 ≤ s ∧ r < 0) ∨ (0 ≤ a ∧ 0 ≤ s ∧ 0 ≤ r ∧ 1073741824 < r) ∨ (0 ≤ a ∧ 0 ≤ s ∧ 0 ≤ r ∧ r ≤ 1073741824 ∧ r < a) := by omega
    clear he h
    rcases hx with h | ⟨h1, h⟩ | ⟨h1, h2, h⟩ | ⟨h1, h2, h3, h⟩ | ⟨h1, h2, h3, h4, h⟩
    all_goals
      go_enter Try.func30, Try.ntmps30
      go_wp2_with fail
      go_ret
      exact ⟨rfl, rfl⟩
end Go.Proofs.Ytanhpdejlodidaa
