/- The walks of layer 3: what must come of fixed calls; the reference; the laws of vectors. -/
import Derived.Test.YtanhpdejlodidaaAxiW2
namespace Go.Proofs.Ytanhpdejlodidaa
open Go.RowKit FixM AxiF

theorem eq_H (x : Int) : (FloatKind.f64.format.order (floatOfInt .f64 (H x)) (floatOfInt .f64 (H x)) == some .eq) = true := by
  have := H_bd x
  rw [eq_F _ _ (by omega) (by omega) (by omega) (by omega)]; simp

set_option maxRecDepth 100000 in
set_option maxHeartbeats 4000000 in
theorem known3_any (w : World) : Calls Try.prog 23 #[] w fun e w' => e = .returned (.bool true) ∧ Below w.heap.size w w' := by
  have e1 : (FloatKind.f64.format.order (floatOfInt .f64 (wholeS (floatOfInt .f64 (H 5)))) (floatOfInt .f64 (H 5)) == some .eq) = true := by rw [whole_H]; exact eq_H 5
  have e2 : (FloatKind.f64.format.order (floatOfInt .f64 (wholeS (floatOfInt .f64 (H 3)))) (floatOfInt .f64 (H 3)) == some .eq) = true := by rw [whole_H]; exact eq_H 3
  have e3 : wholeS (floatOfInt .f64 (putX 1 false 100 50 10 5 20 7)) = 70 := whole_F 70 (by decide) (by decide)
  have e4 : wholeS (floatOfInt .f64 (putY 1 false 100 50 10 5 20 7)) = 5 := whole_F 5 (by decide) (by decide)
  have e5 : wholeS (floatOfInt .f64 (H 3)) = 3 := whole_H 3
  go_enter Try.func23, Try.ntmps23
  go_wp2_with (first
    | (go_at_call 19; refine (Of_any _ _ _).mono ?_; rintro e w' ⟨rfl, rfl⟩)
    | (go_at_call 28; refine (Put_any _ _ _ _ _ _ _ _ _).mono ?_; rintro e w' ⟨rfl, hb⟩)
    | (go_at_call 24; refine (Swap_any _ _ _).mono ?_; rintro e w' ⟨rfl, rfl⟩)
    | (go_at_call 20; refine (X_any _ _ _).mono ?_; rintro e w' ⟨rfl, rfl⟩)
    | (go_at_call 22; refine (Y_any _ _ _).mono ?_; rintro e w' ⟨rfl, rfl⟩))
  go_ret
  exact ⟨rfl, by assumption⟩

set_option maxHeartbeats 400000 in
theorem refUpright_any (way : Int) (w : World) : Calls Try.prog 39 #[.int .i64 way] w fun e w' => e = .returned (.bool (upB way)) ∧ w = w' := by
  go_enter Try.func39, Try.ntmps39
  go_wp2_with fail
  all_goals go_ret
  all_goals (refine ⟨?_, rfl⟩; unfold upB; first | rfl | simp_all)

set_option maxHeartbeats 400000 in
theorem refBack_any (way : Int) (w : World) : Calls Try.prog 42 #[.int .i64 way] w fun e w' => e = .returned (.bool (backB way)) ∧ w = w' := by
  go_enter Try.func42, Try.ntmps42
  go_wp2_with fail
  all_goals go_ret
  all_goals (refine ⟨?_, rfl⟩; unfold backB; first | rfl | simp_all)

theorem ret_two {a b c d : Int} (h1 : a = c) (h2 : b = d) : Ending.returned (.tuple #[.int .i64 a, .int .i64 b]) = .returned (.tuple #[.int .i64 c, .int .i64 d]) := by rw [h1, h2]

set_option maxHeartbeats 400000 in
theorem refFlow_any (way x y : Int) (w : World) :
    Calls Try.prog 27 #[.int .i64 way, .int .i64 x, .int .i64 y] w fun e w' => e = .returned (.tuple #[.int .i64 (flX way (H x) (H y)), .int .i64 (flX way (H y) (H x))]) ∧ w = w' := by
  cases hu : upB way
  all_goals
    have hf : ∀ a b : Int, flX way a b = if upB way = true then b else a := fun a b => rfl
    rw [hu] at hf
    have HF := Lib.hid hf
    have HU := Lib.hid hu
    clear hf hu
    go_enter Try.func27, Try.ntmps27
    go_wp2_with (first
      | (go_at_call 39; refine (refUpright_any _ _).mono ?_; rintro e w' ⟨rfl, rfl⟩; rw [HU.out])
      | (go_at_call 21; refine (refHold_any _ _).mono ?_; rintro e w' ⟨rfl, rfl⟩))
    go_ret2
    exact ⟨ret_two (by simp only [HF.out, if_true, if_false, Bool.false_eq_true]) (by simp only [HF.out, if_true, if_false, Bool.false_eq_true]), rfl⟩

set_option maxHeartbeats 400000 in
theorem refFar_any (r a s : Int) (w : World) :
    Calls Try.prog 43 #[.int .i64 r, .int .i64 a, .int .i64 s] w fun e w' => e = .returned (.int .i64 (farS r a s)) ∧ w = w' := by
  have h1 := H_bd r
  have h2 := H_bd a
  have h3 := H_bd s
  have h4 := H_bd (H r - H a)
  go_enter Try.func43, Try.ntmps43
  go_wp2_with (go_at_call 21; refine (refHold_any _ _).mono ?_; rintro e w' ⟨rfl, rfl⟩)
  go_ret
  exact ⟨rfl, rfl⟩

set_option maxHeartbeats 1000000 in
theorem refPut_any (way : Int) (t : Bool) (rm rc am ac sm sc : Int) (w : World) :
    Calls Try.prog 29 #[.int .i64 way, .bool t, .int .i64 rm, .int .i64 rc, .int .i64 am, .int .i64 ac, .int .i64 sm, .int .i64 sc] w
      fun e w' => e = .returned (.tuple #[.int .i64 (putX way t rm rc am ac sm sc), .int .i64 (putY way t rm rc am ac sm sc)]) ∧ w = w' := by
  have hx : putX way t rm rc am ac sm sc = flX way (H (sideS (backB way) rm am sm)) (H (sideS t rc ac sc)) := by rw [H_side, H_side]; rfl
  have hy : putY way t rm rc am ac sm sc = flX way (H (sideS t rc ac sc)) (H (sideS (backB way) rm am sm)) := by rw [H_side, H_side]; rfl
  have HX := Lib.hid hx
  have HY := Lib.hid hy
  clear hx hy
  cases hb : backB way
  all_goals
    rw [hb] at HX HY
    have HB := Lib.hid hb
    clear hb
    cases t
    all_goals
      go_enter Try.func29, Try.ntmps29
      go_wp2_with (first
        | (go_at_call 21; refine (refHold_any _ _).mono ?_; rintro e w' ⟨rfl, rfl⟩)
        | (go_at_call 42; refine (refBack_any _ _).mono ?_; rintro e w' ⟨rfl, rfl⟩; rw [HB.out])
        | (go_at_call 43; refine (refFar_any _ _ _ _).mono ?_; rintro e w' ⟨rfl, rfl⟩)
        | (go_at_call 27; refine (refFlow_any _ _ _ _).mono ?_; rintro e w' ⟨rfl, rfl⟩))
      go_ret2
      exact ⟨ret_two (by simp only [HX.out, sideS, if_true, if_false, Bool.false_eq_true]) (by simp only [HY.out, sideS, if_true, if_false, Bool.false_eq_true]), rfl⟩
end Go.Proofs.Ytanhpdejlodidaa
