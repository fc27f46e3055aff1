/- The walks of layer 21: an item: held, clamped, what it wishes and weighs. -/
import Derived.Test.YtaegajlffiepoaaFixPt
import Derived.Test.YtaegajlffiepoaaFlxP
import Derived.Laws.EntriesVeiled
import Derived.Lib.QuietBelow
import Derived.StillTailTactics
import Derived.BigQuiet
import Derived.Deep.RegionWith
import Derived.Deep.CutBlock
import Derived.Deep.DeepCutAuto
namespace Go.Proofs.Ytaegajlffiepoaa
open Go.RowKit FixM ShaD Go.Sort
set_option linter.unusedVariables false

theorem below_one21 (w : World) (o : Obj) : Below w.heap.size w (w.alloc o) := (Below.refl _ _).alloc (Nat.le_refl _) _

set_option maxRecDepth 100000 in
set_option maxHeartbeats 400000 in
theorem atLeast0_any (x : Int) (w : World) : Calls Try.prog 48 #[.int .i64 x] w fun e w' => e = .returned (.int .i64 (WT x)) ∧ w = w' := by
  go_enter Try.func48, Try.ntmps48
  go_wp2_with (go_at_call 32; refine (Hold_any _ _).mono ?_; rintro e w' ⟨rfl, rfl⟩)
  all_goals go_ret
  all_goals (refine ⟨ret_intF ?_, rfl⟩; unfold WT; omega)

set_option maxRecDepth 100000 in
set_option maxHeartbeats 400000 in
theorem held21_any (x : Int) (w : World) : Calls Try.prog 54 #[.int .i64 x] w fun e w' => e = .returned (.int .i64 (H x)) ∧ w = w' := by
  go_enter Try.func54, Try.ntmps54
  go_wp2_with fail
  all_goals go_ret
  all_goals (refine ⟨ret_intF ?_, rfl⟩; unfold H; repeat' split <;> omega)

set_option maxRecDepth 100000 in
set_option maxHeartbeats 400000 in
theorem unsigned_any (x : Int) (w : World) (h0 : -4611686018427387904 ≤ x) (h1 : x ≤ 4611686018427387904) : Calls Try.prog 55 #[.int .i64 x] w fun e w' => e = .returned (.int .i64 (absI x)) ∧ w = w' := by
  go_enter Try.func55, Try.ntmps55
  go_wp2_with fail
  all_goals go_ret
  all_goals (refine ⟨ret_intF ?_, rfl⟩; unfold absI; omega)

set_option maxRecDepth 100000 in
set_option maxHeartbeats 1000000 in
theorem clamp21_any (t : It) (n : Int) (w : World) : Calls Try.prog 49 #[.agg #[.int .i64 t.b, .int .i64 t.l, .int .i64 t.m, .int .i64 t.g, .int .i64 t.i, .int .i64 t.gr, .int .i64 t.sh], .int .i64 n] w fun e w' => e = .returned (.int .i64 (clI t n)) ∧ Below w.heap.size w w' := by
  have hz : clI t n = max (if 0 ≤ t.m then min n t.m else n) t.l := rfl
  obtain ⟨x, hx⟩ : ∃ x, clI t n = x := ⟨_, rfl⟩
  rw [hx] at hz ⊢
  obtain ⟨tb, tl, tm, tg, ti, tgr, tsh⟩ := t
  simp only at hz ⊢
  have HZ := Lib.hid hz
  clear hz hx
  by_cases h : 0 ≤ tm
  all_goals
    go_enter Try.func49, Try.ntmps49
    go_wp2_with fail
    all_goals go_ret
    all_goals
      have hz := HZ.out
      refine ⟨ret_intF ?_, below_one21 _ _⟩
      split at hz <;> omega

set_option maxRecDepth 100000 in
set_option maxHeartbeats 1000000 in
theorem wish21_any (t : It) (w : World) : Calls Try.prog 31 #[.agg #[.int .i64 t.b, .int .i64 t.l, .int .i64 t.m, .int .i64 t.g, .int .i64 t.i, .int .i64 t.gr, .int .i64 t.sh]] w fun e w' => e = .returned (.int .i64 (wsh t)) ∧ Below w.heap.size w w' := by
  have C := Lib.hid (fun W => clamp21_any t t.b W)
  have hz : clI t t.b = wsh t := rfl
  rw [hz] at C
  have HB := Lib.hid (below_one21 w)
  obtain ⟨x, hx⟩ : ∃ x, wsh t = x := ⟨_, rfl⟩
  rw [hx] at C ⊢
  clear hz hx
  go_enter Try.func31, Try.ntmps31
  go_wp2_with (go_at_call 49; refine (C.out _).mono ?_; rintro e w' ⟨rfl, hb⟩; have HB2 := Lib.hid hb; clear hb)
  go_ret
  exact ⟨rfl, (HB.out _).trans (HB2.out.mono (by simp))⟩

set_option maxRecDepth 100000 in
set_option maxHeartbeats 1000000 in
theorem long21_any (t : It) (w : World) : Calls Try.prog 36 #[.agg #[.int .i64 t.b, .int .i64 t.l, .int .i64 t.m, .int .i64 t.g, .int .i64 t.i, .int .i64 t.gr, .int .i64 t.sh]] w fun e w' => e = .returned (.bool (decide (wsh t < t.b))) ∧ Below w.heap.size w w' := by
  have C := fun W => wish21_any t W
  obtain ⟨x, hx⟩ : ∃ x, wsh t = x := ⟨_, rfl⟩
  rw [hx]
  rw [hx] at C
  clear hx
  obtain ⟨W, hW⟩ : ∃ W, w.alloc (.cells #[.int .i64 t.b, .int .i64 t.l, .int .i64 t.m, .int .i64 t.g, .int .i64 t.i, .int .i64 t.gr, .int .i64 t.sh] 34) = W := ⟨_, rfl⟩
  have hbw : Below w.heap.size w W := by rw [← hW]; exact below_one21 w _
  have c0 : W.cell? ⟨w.heap.size, 0, none⟩ = some (.int .i64 t.b) := by rw [← hW, World.cell?_alloc_at _ _ _ _ rfl]; rfl
  have c1 : W.cell? ⟨w.heap.size, 1, none⟩ = some (.int .i64 t.l) := by rw [← hW, World.cell?_alloc_at _ _ _ _ rfl]; rfl
  have c2 : W.cell? ⟨w.heap.size, 2, none⟩ = some (.int .i64 t.m) := by rw [← hW, World.cell?_alloc_at _ _ _ _ rfl]; rfl
  have c3 : W.cell? ⟨w.heap.size, 3, none⟩ = some (.int .i64 t.g) := by rw [← hW, World.cell?_alloc_at _ _ _ _ rfl]; rfl
  have c4 : W.cell? ⟨w.heap.size, 4, none⟩ = some (.int .i64 t.i) := by rw [← hW, World.cell?_alloc_at _ _ _ _ rfl]; rfl
  have c5 : W.cell? ⟨w.heap.size, 5, none⟩ = some (.int .i64 t.gr) := by rw [← hW, World.cell?_alloc_at _ _ _ _ rfl]; rfl
  have c6 : W.cell? ⟨w.heap.size, 6, none⟩ = some (.int .i64 t.sh) := by rw [← hW, World.cell?_alloc_at _ _ _ _ rfl]; rfl
  have cW := fun (dd : Nat) (os : Array Obj) => Calls.regrown_of (C (grow (redrawn W dd) os))
  have HB := Lib.hid hbw
  clear C hbw
  go_enter Try.func36, Try.ntmps36
  go_upto_region 1 with fail
  have k0 := cell_regrown c0
  have k1 := cell_regrown c1
  have k2 := cell_regrown c2
  have k3 := cell_regrown c3
  have k4 := cell_regrown c4
  have k5 := cell_regrown c5
  have k6 := cell_regrown c6
  clear hW c0 c1 c2 c3 c4 c5 c6
  refine wp_region_quiet_below (by kernel_rfl) (by kernel_rfl) ?_
  repeat (quiet_step (first | with_reducible exact cW _ _))
  refine wpQuiet_nil ?_
  intro _ hw'
  obtain ⟨⟨dq, osq⟩, hw''⟩ := hw'
  subst hw''
  have hbX := below_regrown W dq osq
  have HX := Lib.hid (HB.out.trans (hbX.mono HB.out.size))
  clear k0 k1 k2 k3 k4 k5 k6 cW hbX
  go_wp2_with fail
  go_ret
  exact ⟨rfl, HX.out⟩

set_option maxRecDepth 100000 in
set_option maxHeartbeats 1000000 in
theorem short21_any (t : It) (w : World) : Calls Try.prog 33 #[.agg #[.int .i64 t.b, .int .i64 t.l, .int .i64 t.m, .int .i64 t.g, .int .i64 t.i, .int .i64 t.gr, .int .i64 t.sh]] w fun e w' => e = .returned (.bool (decide (t.b < wsh t))) ∧ Below w.heap.size w w' := by
  have C := fun W => wish21_any t W
  obtain ⟨x, hx⟩ : ∃ x, wsh t = x := ⟨_, rfl⟩
  rw [hx]
  rw [hx] at C
  clear hx
  obtain ⟨W, hW⟩ : ∃ W, w.alloc (.cells #[.int .i64 t.b, .int .i64 t.l, .int .i64 t.m, .int .i64 t.g, .int .i64 t.i, .int .i64 t.gr, .int .i64 t.sh] 34) = W := ⟨_, rfl⟩
  have hbw : Below w.heap.size w W := by rw [← hW]; exact below_one21 w _
  have c0 : W.cell? ⟨w.heap.size, 0, none⟩ = some (.int .i64 t.b) := by rw [← hW, World.cell?_alloc_at _ _ _ _ rfl]; rfl
  have c1 : W.cell? ⟨w.heap.size, 1, none⟩ = some (.int .i64 t.l) := by rw [← hW, World.cell?_alloc_at _ _ _ _ rfl]; rfl
  have c2 : W.cell? ⟨w.heap.size, 2, none⟩ = some (.int .i64 t.m) := by rw [← hW, World.cell?_alloc_at _ _ _ _ rfl]; rfl
  have c3 : W.cell? ⟨w.heap.size, 3, none⟩ = some (.int .i64 t.g) := by rw [← hW, World.cell?_alloc_at _ _ _ _ rfl]; rfl
  have c4 : W.cell? ⟨w.heap.size, 4, none⟩ = some (.int .i64 t.i) := by rw [← hW, World.cell?_alloc_at _ _ _ _ rfl]; rfl
  have c5 : W.cell? ⟨w.heap.size, 5, none⟩ = some (.int .i64 t.gr) := by rw [← hW, World.cell?_alloc_at _ _ _ _ rfl]; rfl
  have c6 : W.cell? ⟨w.heap.size, 6, none⟩ = some (.int .i64 t.sh) := by rw [← hW, World.cell?_alloc_at _ _ _ _ rfl]; rfl
  have cW := fun (dd : Nat) (os : Array Obj) => Calls.regrown_of (C (grow (redrawn W dd) os))
  have HB := Lib.hid hbw
  clear C hbw
  go_enter Try.func33, Try.ntmps33
  go_upto_region 1 with fail
  have k0 := cell_regrown c0
  have k1 := cell_regrown c1
  have k2 := cell_regrown c2
  have k3 := cell_regrown c3
  have k4 := cell_regrown c4
  have k5 := cell_regrown c5
  have k6 := cell_regrown c6
  clear hW c0 c1 c2 c3 c4 c5 c6
  refine wp_region_quiet_below (by kernel_rfl) (by kernel_rfl) ?_
  repeat (quiet_step (first | with_reducible exact cW _ _))
  refine wpQuiet_nil ?_
  intro _ hw'
  obtain ⟨⟨dq, osq⟩, hw''⟩ := hw'
  subst hw''
  have hbX := below_regrown W dq osq
  have HX := Lib.hid (HB.out.trans (hbX.mono HB.out.size))
  clear k0 k1 k2 k3 k4 k5 k6 cW hbX
  go_wp2_with fail
  go_ret
  exact ⟨rfl, HX.out⟩

set_option maxRecDepth 100000 in
set_option maxHeartbeats 1000000 in
theorem grows21_any (t : It) (w : World) : Calls Try.prog 37 #[.agg #[.int .i64 t.b, .int .i64 t.l, .int .i64 t.m, .int .i64 t.g, .int .i64 t.i, .int .i64 t.gr, .int .i64 t.sh]] w fun e w' => e = .returned (.int .i64 t.gr) ∧ Below w.heap.size w w' := by
  go_enter Try.func37, Try.ntmps37
  go_wp2_with fail
  go_ret
  exact ⟨rfl, below_one21 _ _⟩

set_option maxRecDepth 100000 in
set_option maxHeartbeats 1000000 in
theorem shrinks21_any (t : It) (w : World) : Calls Try.prog 34 #[.agg #[.int .i64 t.b, .int .i64 t.l, .int .i64 t.m, .int .i64 t.g, .int .i64 t.i, .int .i64 t.gr, .int .i64 t.sh]] w fun e w' => e = .returned (.int .i64 t.sh) ∧ Below w.heap.size w w' := by
  go_enter Try.func34, Try.ntmps34
  go_wp2_with fail
  go_ret
  exact ⟨rfl, below_one21 _ _⟩

set_option maxRecDepth 100000 in
set_option maxHeartbeats 1000000 in
theorem yields21_any (t : It) (w : World) : Calls Try.prog 35 #[.agg #[.int .i64 t.b, .int .i64 t.l, .int .i64 t.m, .int .i64 t.g, .int .i64 t.i, .int .i64 t.gr, .int .i64 t.sh]] w fun e w' => e = .returned (.int .i64 (PT t.i t.sh 1000)) ∧ Below w.heap.size w w' := by
  obtain ⟨x, hx⟩ : ∃ x, PT t.i t.sh 1000 = x := ⟨_, rfl⟩
  have C := Lib.hid (fun W => Part_any t.i t.sh 1000 W)
  rw [hx] at C ⊢
  clear hx
  go_enter Try.func35, Try.ntmps35
  go_wp2_with (go_at_call 51; refine (C.out _).mono ?_; rintro e w' ⟨rfl, rfl⟩)
  go_ret
  exact ⟨rfl, below_one21 _ _⟩

set_option maxRecDepth 100000 in
set_option maxHeartbeats 1000000 in
theorem hold21_any (t : It) (w : World) : Calls Try.prog 30 #[.agg #[.int .i64 t.b, .int .i64 t.l, .int .i64 t.m, .int .i64 t.g, .int .i64 t.i, .int .i64 t.gr, .int .i64 t.sh]] w fun e w' => e = .returned (.agg #[.int .i64 (H t.b), .int .i64 (WT t.l), .int .i64 (H t.m), .int .i64 (H t.g), .int .i64 (WT t.i), .int .i64 (WT t.gr), .int .i64 (WT t.sh)]) ∧ Below w.heap.size w w' := by
  have d0 : ∀ W : World, Calls Try.prog 32 #[.int .i64 t.b] W fun e w' => e = .returned (.int .i64 (H t.b)) ∧ w' = W := (fun W => (Hold_any t.b W).mono fun e w' h => ⟨h.1, h.2.symm⟩)
  have d1 : ∀ W : World, Calls Try.prog 48 #[.int .i64 t.l] W fun e w' => e = .returned (.int .i64 (WT t.l)) ∧ w' = W := (fun W => (atLeast0_any t.l W).mono fun e w' h => ⟨h.1, h.2.symm⟩)
  have d2 : ∀ W : World, Calls Try.prog 32 #[.int .i64 t.m] W fun e w' => e = .returned (.int .i64 (H t.m)) ∧ w' = W := (fun W => (Hold_any t.m W).mono fun e w' h => ⟨h.1, h.2.symm⟩)
  have d3 : ∀ W : World, Calls Try.prog 32 #[.int .i64 t.g] W fun e w' => e = .returned (.int .i64 (H t.g)) ∧ w' = W := (fun W => (Hold_any t.g W).mono fun e w' h => ⟨h.1, h.2.symm⟩)
  have d4 : ∀ W : World, Calls Try.prog 48 #[.int .i64 t.i] W fun e w' => e = .returned (.int .i64 (WT t.i)) ∧ w' = W := (fun W => (atLeast0_any t.i W).mono fun e w' h => ⟨h.1, h.2.symm⟩)
  have d5 : ∀ W : World, Calls Try.prog 48 #[.int .i64 t.gr] W fun e w' => e = .returned (.int .i64 (WT t.gr)) ∧ w' = W := (fun W => (atLeast0_any t.gr W).mono fun e w' h => ⟨h.1, h.2.symm⟩)
  have d6 : ∀ W : World, Calls Try.prog 48 #[.int .i64 t.sh] W fun e w' => e = .returned (.int .i64 (WT t.sh)) ∧ w' = W := (fun W => (atLeast0_any t.sh W).mono fun e w' h => ⟨h.1, h.2.symm⟩)
  have D0 := Lib.hid d0
  have D1 := Lib.hid d1
  have D2 := Lib.hid d2
  have D3 := Lib.hid d3
  have D4 := Lib.hid d4
  have D5 := Lib.hid d5
  have D6 := Lib.hid d6
  clear d0 d1 d2 d3 d4 d5 d6
  obtain ⟨W, hW⟩ : ∃ W, w.alloc (.cells #[.int .i64 t.b, .int .i64 t.l, .int .i64 t.m, .int .i64 t.g, .int .i64 t.i, .int .i64 t.gr, .int .i64 t.sh] 34) = W := ⟨_, rfl⟩
  have hbw : Below w.heap.size w W := by rw [← hW]; exact below_one21 w _
  have c0 : W.cell? ⟨w.heap.size, 0, none⟩ = some (.int .i64 t.b) := by rw [← hW, World.cell?_alloc_at _ _ _ _ rfl]; rfl
  have c1 : W.cell? ⟨w.heap.size, 1, none⟩ = some (.int .i64 t.l) := by rw [← hW, World.cell?_alloc_at _ _ _ _ rfl]; rfl
  have c2 : W.cell? ⟨w.heap.size, 2, none⟩ = some (.int .i64 t.m) := by rw [← hW, World.cell?_alloc_at _ _ _ _ rfl]; rfl
  have c3 : W.cell? ⟨w.heap.size, 3, none⟩ = some (.int .i64 t.g) := by rw [← hW, World.cell?_alloc_at _ _ _ _ rfl]; rfl
  have c4 : W.cell? ⟨w.heap.size, 4, none⟩ = some (.int .i64 t.i) := by rw [← hW, World.cell?_alloc_at _ _ _ _ rfl]; rfl
  have c5 : W.cell? ⟨w.heap.size, 5, none⟩ = some (.int .i64 t.gr) := by rw [← hW, World.cell?_alloc_at _ _ _ _ rfl]; rfl
  have c6 : W.cell? ⟨w.heap.size, 6, none⟩ = some (.int .i64 t.sh) := by rw [← hW, World.cell?_alloc_at _ _ _ _ rfl]; rfl
  go_enter Try.func30, Try.ntmps30
  go_upto_region 1 with fail
  generalize hW2 : W.alloc (.cells #[.int .i64 0, .int .i64 0, .int .i64 0, .int .i64 0, .int .i64 0, .int .i64 0, .int .i64 0] 34) = W2
  have e0 : ∀ j, W2.cell? ⟨w.heap.size, j, none⟩ = W.cell? ⟨w.heap.size, j, none⟩ := fun j => by
    rw [← hW2, World.cell?_alloc_past _ _ _ (by rw [← hW]; simp)]
  have q0 := (e0 0).trans c0
  have q1 := (e0 1).trans c1
  have q2 := (e0 2).trans c2
  have q3 := (e0 3).trans c3
  have q4 := (e0 4).trans c4
  have q5 := (e0 5).trans c5
  have q6 := (e0 6).trans c6
  clear c0 c1 c2 c3 c4 c5 c6 e0
  have HW2 := Lib.hid hW2
  have hb2 : Below w.heap.size w W2 := by rw [← hW2]; exact hbw.alloc hbw.size _
  have HB2 := Lib.hid hb2
  have HBW := Lib.hid hbw
  have HSW : Hid (w.heap.size ≤ W.heap.size) := hbw.size
  clear hW hW2 hbw hb2
  refine wp_region_still_tail 22 (by kernel_rfl) (by kernel_rfl) ?_
  simp only [List.take_succ_cons, List.take_zero, List.drop_succ_cons, List.drop_zero]
  still_step
  still_step
  still_call (D0.out _)
  still_step
  still_step
  still_call (D1.out _)
  still_step
  still_step
  still_call (D2.out _)
  still_step
  still_step
  still_call (D3.out _)
  still_step
  still_step
  still_call (D4.out _)
  still_step
  still_step
  still_call (D5.out _)
  still_step
  still_step
  still_call (D6.out _)
  still_step
  refine wpStill_nil ?_
  change wpList _ _ _ _ _ W2.drew
  clear q0 q1 q2 q3 q4 q5 q6
  rw [← HW2.out]
  go_wp2_with fail
  exact bodyPost_ret (v := .agg #[.int .i64 (H t.b), .int .i64 (WT t.l), .int .i64 (H t.m), .int .i64 (H t.g), .int .i64 (WT t.i), .int .i64 (WT t.gr), .int .i64 (WT t.sh)]) (by simp [results, Try.results30, go_sem]) rfl ⟨rfl, (HBW.out.alloc HSW.out _).drew⟩

set_option maxRecDepth 100000 in
set_option maxHeartbeats 1000000 in
theorem Wish21_any (t : It) (w : World) : Calls Try.prog 17 #[.agg #[.int .i64 t.b, .int .i64 t.l, .int .i64 t.m, .int .i64 t.g, .int .i64 t.i, .int .i64 t.gr, .int .i64 t.sh]] w fun e w' => e = .returned (.int .i64 (wsh (hI t))) ∧ Below w.heap.size w w' := by
  have C := Lib.hid (fun W => hold21_any t W)
  have D := Lib.hid (fun W => wish21_any (hI t) W)
  have HB := Lib.hid (below_one21 w)
  obtain ⟨x, hx⟩ : ∃ x, wsh (hI t) = x := ⟨_, rfl⟩
  rw [hx] at D ⊢
  clear hx
  go_enter Try.func17, Try.ntmps17
  go_wp2_with fail
  refine (C.out _).mono ?_
  rintro e w1 ⟨rfl, hb1⟩
  have HB1 := Lib.hid ((HB.out _).trans (hb1.mono (by simp)))
  clear hb1
  go_wp2_with fail
  refine (D.out _).mono ?_
  rintro e w2 ⟨rfl, hb2⟩
  have HB2 := Lib.hid (HB1.out.trans (hb2.mono HB1.out.size))
  clear hb2
  go_wp2_with fail
  go_ret
  exact ⟨rfl, HB2.out⟩
end Go.Proofs.Ytaegajlffiepoaa
