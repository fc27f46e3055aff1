/- The walks of layer 3: vectors and their parts. -/
import Derived.Test.YtanhpdejlodidaaFixA
import Derived.Test.YtanhpdejlodidaaAxiG
namespace Go.Proofs.Ytanhpdejlodidaa
open Go.RowKit FixM AxiF

set_option maxHeartbeats 400000 in
theorem isnan_any (b : Nat) (w : World) :
    Calls Try.prog 50 #[.float .f64 b] w fun e w' => e = .returned (.bool (nanB b)) ∧ w = w' := by
  go_enter Try.func50, Try.ntmps50
  go_wp2_with fail
  go_ret
  exact ⟨rfl, rfl⟩

theorem und_float : Try.prog.underlying 36 = some (.float .f64) := by kernel_rfl
theorem und_int : Try.prog.underlying 3 = some (.int .i64) := by kernel_rfl

set_option maxHeartbeats 1000000 in
theorem whole_any (b : Nat) (w : World) :
    Calls Try.prog 36 #[.float .f64 b] w fun e w' => e = .returned (.int .i64 (wholeS b)) ∧ w = w' := by
  cases hn : nanB b with
  | true =>
    have hz := whole_nan b hn
    have HZ := Lib.hid hz
    have HN := Lib.hid hn
    clear hz hn
    go_enter Try.func36, Try.ntmps36
    go_wp2_with fail
    refine (isnan_any _ _).mono ?_
    rintro e w' ⟨rfl, rfl⟩
    rw [HN.out]
    go_wp2_with fail
    go_ret
    exact ⟨ret_int HZ.out.symm, rfl⟩
  | false =>
    obtain ⟨b1, b2, e1, e2, e3⟩ := clamp_num b hn
    have HN := Lib.hid hn
    have E1 := Lib.hid e1
    have E2 := Lib.hid e2
    have E3 := Lib.hid e3
    clear hn e1 e2 e3
    have r1 : ∀ (w : World) (ts : Array TypeId) (t : TypeId), (Builtin.min_ ts t #[.float .f64 b, .float .f64 4742290407621132288]).run Try.prog w = .ok (.float .f64 b1) w := fun w ts t => run_fmin w ts t _ _ _ _ E1.out
    have r2 : ∀ (w : World) (ts : Array TypeId) (t : TypeId), (Builtin.max_ ts t #[.float .f64 13965662444475908096, .float .f64 b1]).run Try.prog w = .ok (.float .f64 b2) w := fun w ts t => run_fmax w ts t _ _ _ _ E2.out
    have r3 : ∀ w : World, (convert 36 3 (.float .f64 b2)).run Try.prog w = .ok (.int .i64 (wholeS b)) w := fun w => run_convert_float_int w _ _ _ _ _ _ (by rw [und_float]; rfl) und_int E3.out
    go_enter Try.func36, Try.ntmps36
    go_wp2_with fail
    refine (isnan_any _ _).mono ?_
    rintro e w' ⟨rfl, rfl⟩
    rw [HN.out]
    go_wp2_with fail
    go_ret
    exact ⟨rfl, rfl⟩

set_option maxHeartbeats 400000 in
theorem Of_any (x y : Int) (w : World) :
    Calls Try.prog 19 #[.int .i64 x, .int .i64 y] w fun e w' => e = .returned (.complex .f64 (floatOfInt .f64 (H x)) (floatOfInt .f64 (H y))) ∧ w = w' := by
  go_enter Try.func19, Try.ntmps19
  go_wp2_with (go_at_call 31; refine (Hold_any _ _).mono ?_; rintro e w' ⟨rfl, rfl⟩)
  go_ret
  exact ⟨rfl, rfl⟩

set_option maxHeartbeats 400000 in
theorem X_any (a b : Nat) (w : World) :
    Calls Try.prog 20 #[.complex .f64 a b] w fun e w' => e = .returned (.int .i64 (wholeS a)) ∧ w = w' := by
  go_enter Try.func20, Try.ntmps20
  go_wp2_with (go_at_call 36; refine (whole_any _ _).mono ?_; rintro e w' ⟨rfl, rfl⟩)
  go_ret
  exact ⟨rfl, rfl⟩

set_option maxHeartbeats 400000 in
theorem Y_any (a b : Nat) (w : World) :
    Calls Try.prog 22 #[.complex .f64 a b] w fun e w' => e = .returned (.int .i64 (wholeS b)) ∧ w = w' := by
  go_enter Try.func22, Try.ntmps22
  go_wp2_with (go_at_call 36; refine (whole_any _ _).mono ?_; rintro e w' ⟨rfl, rfl⟩)
  go_ret
  exact ⟨rfl, rfl⟩

theorem ret_cpl {a b c d : Nat} (h1 : a = c) (h2 : b = d) : Ending.returned (.complex .f64 a b) = .returned (.complex .f64 c d) := by rw [h1, h2]

set_option maxHeartbeats 400000 in
theorem tidy_any (a b : Nat) (w : World) :
    Calls Try.prog 37 #[.complex .f64 a b] w fun e w' => e = .returned (.complex .f64 (floatOfInt .f64 (wholeS a)) (floatOfInt .f64 (wholeS b))) ∧ w = w' := by
  go_enter Try.func37, Try.ntmps37
  go_wp2_with (first
    | (go_at_call 20; refine (X_any _ _ _).mono ?_; rintro e w' ⟨rfl, rfl⟩)
    | (go_at_call 22; refine (Y_any _ _ _).mono ?_; rintro e w' ⟨rfl, rfl⟩)
    | (go_at_call 19; refine (Of_any _ _ _).mono ?_; rintro e w' ⟨rfl, rfl⟩))
  go_ret
  exact ⟨ret_cpl (by rw [H_whole]) (by rw [H_whole]), rfl⟩

set_option maxHeartbeats 400000 in
theorem join_add (a b c d : Nat) (w : World) :
    Calls Try.prog 38 #[.complex .f64 a b, .complex .f64 c d, .func (.func 35) #[] #[]] w fun e w' => e = .returned (.complex .f64 (floatOfInt .f64 (H (wholeS a + wholeS c))) (floatOfInt .f64 (H (wholeS b + wholeS d)))) ∧ w = w' := by
  go_enter Try.func38, Try.ntmps38
  go_wp2_with (first
    | (go_at_call 20; refine (X_any _ _ _).mono ?_; rintro e w' ⟨rfl, rfl⟩)
    | (go_at_call 22; refine (Y_any _ _ _).mono ?_; rintro e w' ⟨rfl, rfl⟩)
    | (go_at_call 35; refine (Add_any _ _ _).mono ?_; rintro e w' ⟨rfl, rfl⟩)
    | (go_at_call 19; refine (Of_any _ _ _).mono ?_; rintro e w' ⟨rfl, rfl⟩))
  go_ret
  exact ⟨ret_cpl (by rw [H_H, H_whole, H_whole]) (by rw [H_H, H_whole, H_whole]), rfl⟩

set_option maxHeartbeats 400000 in
theorem join_sub (a b c d : Nat) (w : World) :
    Calls Try.prog 38 #[.complex .f64 a b, .complex .f64 c d, .func (.func 40) #[] #[]] w fun e w' => e = .returned (.complex .f64 (floatOfInt .f64 (H (wholeS a - wholeS c))) (floatOfInt .f64 (H (wholeS b - wholeS d)))) ∧ w = w' := by
  go_enter Try.func38, Try.ntmps38
  go_wp2_with (first
    | (go_at_call 20; refine (X_any _ _ _).mono ?_; rintro e w' ⟨rfl, rfl⟩)
    | (go_at_call 22; refine (Y_any _ _ _).mono ?_; rintro e w' ⟨rfl, rfl⟩)
    | (go_at_call 40; refine (Sub_any _ _ _).mono ?_; rintro e w' ⟨rfl, rfl⟩)
    | (go_at_call 19; refine (Of_any _ _ _).mono ?_; rintro e w' ⟨rfl, rfl⟩))
  go_ret
  exact ⟨ret_cpl (by rw [H_H, H_whole, H_whole]) (by rw [H_H, H_whole, H_whole]), rfl⟩

set_option maxHeartbeats 400000 in
theorem Plus_any (a b c d : Nat) (w : World) :
    Calls Try.prog 25 #[.complex .f64 a b, .complex .f64 c d] w fun e w' => e = .returned (.complex .f64 (floatOfInt .f64 (H (wholeS a + wholeS c))) (floatOfInt .f64 (H (wholeS b + wholeS d)))) ∧ w = w' := by
  go_enter Try.func25, Try.ntmps25
  go_wp2_with (go_at_call 38; refine (join_add _ _ _ _ _).mono ?_; rintro e w' ⟨rfl, rfl⟩)
  go_ret
  exact ⟨rfl, rfl⟩

set_option maxHeartbeats 1000000 in
theorem Swap_any (a b : Nat) (w : World) :
    Calls Try.prog 24 #[.complex .f64 a b] w fun e w' => e = .returned (.complex .f64 (floatOfInt .f64 (wholeS b)) (floatOfInt .f64 (wholeS a))) ∧ w = w' := by
  have ha := wholeS_bd a
  have hb := wholeS_bd b
  have hs := swap_bits (wholeS a) (wholeS b) ha.1 ha.2 hb.1 hb.2
  have hm : ∀ w : World, (binOp .mul 31 (.complex .f64 0 4607182418800017408) (.complex .f64 (floatOfInt .f64 (wholeS a)) (Op.negFloat .f64 (floatOfInt .f64 (wholeS b))))).run Try.prog w = .ok (.complex .f64 (floatOfInt .f64 (wholeS b)) (floatOfInt .f64 (wholeS a))) w := fun w => run_complex_mul w _ _ _ _ _ _ _ hs
  have hneg : ∀ (b : Nat) (w : World), (Op.unary .neg (.float .f64 b)).run Try.prog w = .ok (.float .f64 (Op.negFloat .f64 b)) w := fun _ _ => rfl
  clear hs ha hb
  go_enter Try.func24, Try.ntmps24
  go_wp2_with (go_at_call 37; refine (tidy_any _ _ _).mono ?_; rintro e w' ⟨rfl, rfl⟩)
  go_ret
  exact ⟨rfl, rfl⟩

/-- goes a line along y? -/
def upB (way : Int) : Bool := decide (way = 2) || decide (way = 3)
/-- of two lengths the one that stands behind the turn -/
def flX (way x y : Int) : Int := if upB way = true then y else x

set_option maxHeartbeats 1000000 in
theorem Flow_any (way : Int) (a b : Nat) (w : World) :
    Calls Try.prog 26 #[.int .i64 way, .complex .f64 a b] w fun e w' => e = .returned (.complex .f64 (floatOfInt .f64 (flX way (wholeS a) (wholeS b))) (floatOfInt .f64 (flX way (wholeS b) (wholeS a)))) ∧ w = w' := by
  by_cases h2 : way = 2
  · subst h2
    go_enter Try.func26, Try.ntmps26
    go_wp2_with (go_at_call 24; refine (Swap_any _ _ _).mono ?_; rintro e w' ⟨rfl, rfl⟩)
    go_ret
    exact ⟨rfl, rfl⟩
  · by_cases h3 : way = 3
    · subst h3
      go_enter Try.func26, Try.ntmps26
      go_wp2_with (go_at_call 24; refine (Swap_any _ _ _).mono ?_; rintro e w' ⟨rfl, rfl⟩)
      go_ret
      exact ⟨rfl, rfl⟩
    · have hu : upB way = false := by unfold upB; simp [h2, h3]
      have e2 : (way == 2) = false := by simpa using h2
      have e3 : (way == 3) = false := by simpa using h3
      have hu : ∀ x y : Int, flX way x y = x := fun x y => by unfold flX; rw [hu]; rfl
      rw [hu, hu]
      have HU := Lib.hid hu
      clear hu
      go_enter Try.func26, Try.ntmps26
      go_wp2_with (go_at_call 37; refine (tidy_any _ _ _).mono ?_; rintro e w' ⟨rfl, rfl⟩)
      go_ret
      exact ⟨rfl, rfl⟩
end Go.Proofs.Ytanhpdejlodidaa
