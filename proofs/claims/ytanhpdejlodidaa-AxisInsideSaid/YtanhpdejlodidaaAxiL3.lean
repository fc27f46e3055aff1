/- The walks of layer 3's laws: what begins and ends in a room stands in it; the parts of any complex number. -/
import Derived.Test.YtanhpdejlodidaaAxiL2
namespace Go.Proofs.Ytanhpdejlodidaa
open Go.RowKit FixM AxiF

theorem ins_side (b : Bool) (r a s : Int) (h : insB r a s = true) : insB r (sideS b r a s) s = true := by
  obtain ⟨h1, h2, h3, h4, h5, h6⟩ := (insB_iff r a s).1 h
  rw [insB_iff]
  have e1 : H r = r := H_id (by omega) (by omega)
  have e2 : H a = a := H_id (by omega) (by omega)
  have e3 : H s = s := H_id (by omega) (by omega)
  unfold sideS farS
  rw [e1, e2, e3, H_id (x := r - a) (by omega) (by omega), H_id (x := r - a - s) (by omega) (by omega)]
  split <;> omega

theorem flX_flX (way a b : Int) : flX way (flX way a b) (flX way b a) = a := by unfold flX; cases upB way <;> simp

theorem inside_still (r a s : Int) (v : Bool) (hv : insB r a s = v) (w : World) :
    Calls Try.prog 30 #[.int .i64 r, .int .i64 a, .int .i64 s] w fun e w' => e = .returned (.bool v) ∧ w' = w := by
  subst hv
  exact (inside_any r a s w).mono fun _ _ h => ⟨h.1, h.2.symm⟩
theorem Flow_back (way : Int) (t : Bool) (r0 r1 a0 a1 s0 s1 : Int) (w : World) :
    Calls Try.prog 26 #[.int .i64 way, .complex .f64 (floatOfInt .f64 (putX way t r0 r1 a0 a1 s0 s1)) (floatOfInt .f64 (putY way t r0 r1 a0 a1 s0 s1))] w fun e w' => e = .returned (.complex .f64 (floatOfInt .f64 (sideS (backB way) r0 a0 s0)) (floatOfInt .f64 (sideS t r1 a1 s1))) ∧ w = w' := by
  have h := Flow_any way (floatOfInt .f64 (putX way t r0 r1 a0 a1 s0 s1)) (floatOfInt .f64 (putY way t r0 r1 a0 a1 s0 s1)) w
  rw [whole_putX, whole_putY] at h
  unfold putX putY at h
  rw [flX_flX, flX_flX] at h
  exact h
theorem X_side (b c : Bool) (r a s r' a' s' : Int) (w : World) :
    Calls Try.prog 20 #[.complex .f64 (floatOfInt .f64 (sideS b r a s)) (floatOfInt .f64 (sideS c r' a' s'))] w fun e w' => e = .returned (.int .i64 (sideS b r a s)) ∧ w' = w := by
  have h := X_still (floatOfInt .f64 (sideS b r a s)) (floatOfInt .f64 (sideS c r' a' s')) w
  rw [whole_side] at h
  exact h
theorem Y_side (b c : Bool) (r a s r' a' s' : Int) (w : World) :
    Calls Try.prog 22 #[.complex .f64 (floatOfInt .f64 (sideS b r a s)) (floatOfInt .f64 (sideS c r' a' s'))] w fun e w' => e = .returned (.int .i64 (sideS c r' a' s')) ∧ w' = w := by
  have h := Y_still (floatOfInt .f64 (sideS b r a s)) (floatOfInt .f64 (sideS c r' a' s')) w
  rw [whole_side] at h
  exact h

set_option maxRecDepth 100000 in
set_option maxHeartbeats 4000000 in
theorem AxisInside_no (way : Int) (t : Bool) (r0 r1 a0 a1 s0 s1 : Int) (w : World) (h : insB r0 a0 s0 = false ∨ (insB r0 a0 s0 = true ∧ insB r1 a1 s1 = false)) :
    Calls Try.prog 10 #[.int .i64 way, .bool t, .agg #[.int .i64 r0, .int .i64 r1], .agg #[.int .i64 a0, .int .i64 a1], .agg #[.int .i64 s0, .int .i64 s1]] w fun e w' => e = .returned (.bool true) ∧ Below w.heap.size w w' := by
  obtain ⟨c1, c2, c3, c4, c5, c6⟩ := box6_cells w r0 r1 a0 a1 s0 s1
  have hb0 := Lib.hid (box6_below w r0 r1 a0 a1 s0 s1)
  have hbx : (((w.alloc (.cells #[.int .i64 r0, .int .i64 r1] 45)).alloc (.cells #[.int .i64 a0, .int .i64 a1] 45)).alloc (.cells #[.int .i64 s0, .int .i64 s1] 45)) = box6 w r0 r1 a0 a1 s0 s1 := rfl
  generalize box6 w r0 r1 a0 a1 s0 s1 = wb at c1 c2 c3 c4 c5 c6 hb0 hbx
  have HH := Lib.hid h
  clear h
  rcases HH.out with h | ⟨h, h'⟩
  · have HI := Lib.hid h
    clear h
    go_enter Try.func10, Try.ntmps10
    go_wp2_with (first
      | (go_at_call 30; refine (inside_any _ _ _ _).mono ?_; rintro e w' ⟨rfl, rfl⟩; rw [HI.out])
      | (go_at_call 23; refine (known3_any _).mono ?_; rintro e w' ⟨rfl, hb⟩))
    go_ret
    exact ⟨rfl, hb0.out.trans (Below.mono (by assumption) hb0.out.size)⟩
  · have HI := Lib.hid h
    have HJ := Lib.hid h'
    clear h h'
    go_enter Try.func10, Try.ntmps10
    go_wp2_with (first
      | (go_at_call 30; refine (inside_any _ _ _ _).mono ?_; rintro e w' ⟨rfl, rfl⟩; first | rw [HI.out] | rw [HJ.out])
      | (go_at_call 23; refine (known3_any _).mono ?_; rintro e w' ⟨rfl, hb⟩))
    go_ret
    exact ⟨rfl, hb0.out.trans (Below.mono (by assumption) hb0.out.size)⟩

set_option maxRecDepth 100000 in
set_option maxHeartbeats 8000000 in
theorem AxisInside_yes (way : Int) (t : Bool) (r0 r1 a0 a1 s0 s1 : Int) (w : World) (h : insB r0 a0 s0 = true) (h' : insB r1 a1 s1 = true) :
    Calls Try.prog 10 #[.int .i64 way, .bool t, .agg #[.int .i64 r0, .int .i64 r1], .agg #[.int .i64 a0, .int .i64 a1], .agg #[.int .i64 s0, .int .i64 s1]] w fun e w' => e = .returned (.bool true) ∧ Below w.heap.size w w' := by
  obtain ⟨c1, c2, c3, c4, c5, c6⟩ := box6_cells w r0 r1 a0 a1 s0 s1
  have hb0 := Lib.hid (box6_below w r0 r1 a0 a1 s0 s1)
  have hbx : (((w.alloc (.cells #[.int .i64 r0, .int .i64 r1] 45)).alloc (.cells #[.int .i64 a0, .int .i64 a1] 45)).alloc (.cells #[.int .i64 s0, .int .i64 s1] 45)) = box6 w r0 r1 a0 a1 s0 s1 := rfl
  have hsz := Lib.hid (box6_size w r0 r1 a0 a1 s0 s1)
  generalize box6 w r0 r1 a0 a1 s0 s1 = wb at c1 c2 c3 c4 c5 c6 hb0 hbx hsz
  have HI := Lib.hid h
  have HJ := Lib.hid h'
  have HK := Lib.hid (ins_side (backB way) r0 a0 s0 h)
  have HL := Lib.hid (ins_side t r1 a1 s1 h')
  clear h h'
  go_enter Try.func10, Try.ntmps10
  go_wp2_with (go_at_call 30; refine (inside_any _ _ _ _).mono ?_; rintro e w' ⟨rfl, rfl⟩; first | rw [HI.out] | rw [HJ.out])
  clear hbx
  refine wp_region_still_tail 17 (by kernel_rfl) (by kernel_rfl) ?_
  simp only [List.take_succ_cons, List.take_zero, List.drop_succ_cons, List.drop_zero]
  repeat (first | still_step | (refine wpStill_step (fun K hK => ?_); go_simp; refine ⟨_, Of_still _ _ _, hK _ ?_⟩; clear hK K))
  refine wpStill_nil ?_
  change wpList _ _ _ _ _ wb.drew
  have hcd : ∀ p, wb.drew.cell? p = wb.cell? p := fun _ => rfl
  have hbd : Below w.heap.size w wb.drew := hb0.out.drew
  have hszd : w.heap.size + 3 ≤ wb.drew.heap.size := hsz.out
  generalize wb.drew = wd at hcd hbd hszd ⊢
  have HCD := Lib.hid hcd
  have HBD := Lib.hid hbd
  have HC := Lib.hid (And.intro c1 (And.intro c2 (And.intro c3 (And.intro c4 (And.intro c5 c6)))))
  clear hcd hbd c1 c2 c3 c4 c5 c6 hb0
  go_wp2_with fail
  refine (Put_any _ _ _ _ _ _ _ _ _).mono ?_
  rintro e w1 ⟨rfl, hb⟩
  obtain ⟨d1, d2, d3, d4, d5, d6⟩ := HC.out
  have bc : ∀ b o, b < wd.heap.size → w1.cell? ⟨b, o, none⟩ = wb.cell? ⟨b, o, none⟩ := fun b o h => (hb.cell (p := ⟨b, o, none⟩) h).trans (HCD.out _)
  rw [← bc _ _ (by omega)] at d1 d2 d3 d4 d5 d6
  have hbw : Below w.heap.size w w1 := HBD.out.trans (hb.mono (by omega))
  have HBW := Lib.hid hbw
  clear bc hb hbw HC d3 d4
  go_wp2_with fail
  refine (Flow_back _ _ _ _ _ _ _ _ _).mono ?_
  rintro e w' ⟨rfl, rfl⟩
  go_wp2_with fail
  refine wp_region_still_tail 17 (by kernel_rfl) (by kernel_rfl) ?_
  simp only [List.take_succ_cons, List.take_zero, List.drop_succ_cons, List.drop_zero]
  still_step
  still_step
  still_step
  refine wpStill_step (fun K hK => ?_)
  go_simp
  refine ⟨_, X_side _ _ _ _ _ _ _ _ _, hK _ ?_⟩
  clear hK K
  still_step
  still_step
  refine wpStill_step (fun K hK => ?_)
  go_simp
  refine ⟨_, inside_still _ _ _ _ HK.out _, hK _ ?_⟩
  clear hK K
  still_step
  still_step
  still_step
  still_step
  refine wpStill_step (fun K hK => ?_)
  go_simp
  refine ⟨_, Y_side _ _ _ _ _ _ _ _ _, hK _ ?_⟩
  clear hK K
  still_step
  still_step
  refine wpStill_step (fun K hK => ?_)
  go_simp
  refine ⟨_, inside_still _ _ _ _ HL.out _, hK _ ?_⟩
  clear hK K
  still_step
  still_step
  refine wpStill_nil ?_
  change wpList _ _ _ _ _ w1.drew
  have hbd : Below w.heap.size w w1.drew := HBW.out.drew
  generalize w1.drew = w2 at hbd ⊢
  have HB2 := Lib.hid hbd
  clear hbd
  go_wp2_with (go_at_call 23; refine (known3_any _).mono ?_; rintro e w' ⟨rfl, hb⟩)
  go_ret
  exact ⟨rfl, HB2.out.trans (Below.mono (by assumption) HB2.out.size)⟩

theorem AxisInside_walk (way : Int) (t : Bool) (r0 r1 a0 a1 s0 s1 : Int) (w : World) :
    Calls Try.prog 10 #[.int .i64 way, .bool t, .agg #[.int .i64 r0, .int .i64 r1], .agg #[.int .i64 a0, .int .i64 a1], .agg #[.int .i64 s0, .int .i64 s1]] w fun e w' => e = .returned (.bool true) ∧ Below w.heap.size w w' := by
  cases h : insB r0 a0 s0
  · exact AxisInside_no way t r0 r1 a0 a1 s0 s1 w (Or.inl h)
  · cases h' : insB r1 a1 s1
    · exact AxisInside_no way t r0 r1 a0 a1 s0 s1 w (Or.inr ⟨h, h'⟩)
    · exact AxisInside_yes way t r0 r1 a0 a1 s0 s1 w h h'
end Go.Proofs.Ytanhpdejlodidaa
