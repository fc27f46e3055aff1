/- The walks of layer 1's numbers: hold, add, take away, parts. -/
import Derived.Test.YtpkhmagjdlpbjaaProg
import Derived.Test.YtpkhmagjdlpbjaaFixM
import Derived.WalkKit
import Derived.WalkSpells
import Derived.WalkLawsBesides
import Derived.Deep.QuietTactic
import Derived.BigQuiet
import Derived.Lib.Hide
namespace Go.Proofs.Ytpkhmagjdlpbjaa
open Go.RowKit FixM

theorem ret_int {k : IntKind} {a b : Int} (h : a = b) : Ending.returned (.int k a) = .returned (.int k b) := by rw [h]

set_option maxHeartbeats 400000 in
theorem hold_any (x : Int) (w : World) :
    Calls Try.prog 36 #[.int .i64 x] w fun e w' => e = .returned (.int .i64 (H x)) ∧ w = w' := by
  go_enter Try.func36, Try.ntmps36
  go_wp2
  all_goals go_ret
  all_goals (refine ⟨ret_int ?_, rfl⟩; unfold H; repeat' split <;> omega)

set_option maxHeartbeats 400000 in
theorem refHold_any (x : Int) (w : World) :
    Calls Try.prog 15 #[.int .i64 x] w fun e w' => e = .returned (.int .i64 (H x)) ∧ w = w' := by
  go_enter Try.func15, Try.ntmps15
  go_wp2
  all_goals go_ret
  all_goals (refine ⟨ret_int ?_, rfl⟩; unfold H; repeat' split <;> omega)

set_option maxHeartbeats 400000 in
theorem Hold_any (x : Int) (w : World) :
    Calls Try.prog 16 #[.int .i64 x] w fun e w' => e = .returned (.int .i64 (H x)) ∧ w = w' := by
  go_enter Try.func16, Try.ntmps16
  go_wp2_with (go_at_call 36; refine (hold_any _ _).mono ?_; rintro e w' ⟨rfl, rfl⟩)
  go_ret
  exact ⟨rfl, rfl⟩

set_option maxHeartbeats 400000 in
theorem Add_any (a b : Int) (w : World) :
    Calls Try.prog 17 #[.int .i64 a, .int .i64 b] w fun e w' => e = .returned (.int .i64 (H (H a + H b))) ∧ w = w' := by
  have ha := H_bd a
  have hb := H_bd b
  go_enter Try.func17, Try.ntmps17
  go_wp2_with (first
    | (go_at_call 16; refine (Hold_any _ _).mono ?_; rintro e w' ⟨rfl, rfl⟩)
    | (go_at_call 36; refine (hold_any _ _).mono ?_; rintro e w' ⟨rfl, rfl⟩))
  go_ret
  exact ⟨rfl, rfl⟩

set_option maxHeartbeats 400000 in
theorem Sub_any (a b : Int) (w : World) :
    Calls Try.prog 18 #[.int .i64 a, .int .i64 b] w fun e w' => e = .returned (.int .i64 (H (H a - H b))) ∧ w = w' := by
  have ha := H_bd a
  have hb := H_bd b
  go_enter Try.func18, Try.ntmps18
  go_wp2_with (first
    | (go_at_call 16; refine (Hold_any _ _).mono ?_; rintro e w' ⟨rfl, rfl⟩)
    | (go_at_call 36; refine (hold_any _ _).mono ?_; rintro e w' ⟨rfl, rfl⟩))
  go_ret
  exact ⟨rfl, rfl⟩

set_option maxHeartbeats 400000 in
theorem Clamp_any (x lo hi : Int) (w : World) :
    Calls Try.prog 24 #[.int .i64 x, .int .i64 lo, .int .i64 hi] w fun e w' => e = .returned (.int .i64 (max (H lo) (min (H x) (H hi)))) ∧ w = w' := by
  go_enter Try.func24, Try.ntmps24
  go_wp2_with (go_at_call 16; refine (Hold_any _ _).mono ?_; rintro e w' ⟨rfl, rfl⟩)
  all_goals go_ret
  all_goals (refine ⟨ret_int ?_, rfl⟩; omega)

set_option maxHeartbeats 400000 in
theorem floor_any (p d : Int) (w : World) (h1 : -1152921504606846976 ≤ p) (h2 : p ≤ 1152921504606846976) (hd : d ≠ 0) :
    Calls Try.prog 37 #[.int .i64 p, .int .i64 d] w fun e w' => e = .returned (.int .i64 (FL p d)) ∧ w = w' := by
  have hb := tdiv_bd p d _ h1 h2
  go_enter Try.func37, Try.ntmps37
  go_wp2
  all_goals go_ret
  all_goals refine ⟨ret_int ?_, rfl⟩
  all_goals rw [FL_go p d hd]
  all_goals simp_all

set_option maxHeartbeats 400000 in
theorem Floor_pos (p d : Int) (w : World) (h1 : -1152921504606846976 ≤ p) (h2 : p ≤ 1152921504606846976) (hd : 0 < d) (hd2 : d ≤ 1073741824) :
    Calls Try.prog 38 #[.int .i64 p, .int .i64 d] w fun e w' => e = .returned (.int .i64 (FL p d)) ∧ w = w' := by
  have hf := FL_bd p d _ (by omega) h1 h2
  have hr := ref_form p d hd
  rw [FL_pos p d hd] at hf ⊢
  have hb : 0 ≤ p ∨ -1152921504606846977 ≤ -((d - 1 - p) / d) ∧ -((d - 1 - p) / d) ≤ 1152921504606846977 := by omega
  have hw : wrap64 (-((d - 1 - p) / d)) = p / d := by rw [IntWalk.wrap64_in _ ⟨by omega, by omega⟩, hr]
  have HW := Lib.hid hw
  clear hf hr hb hw
  go_enter Try.func38, Try.ntmps38
  go_wp2_with fail
  all_goals go_ret
  all_goals refine ⟨ret_int ?_, rfl⟩
  · rfl
  · exact HW.out

set_option maxHeartbeats 400000 in
theorem Floor_any (p d : Int) (w : World) (h1 : -1152921504606846976 ≤ p) (h2 : p ≤ 1152921504606846976) (hd : d ≠ 0) (hd1 : -1073741824 ≤ d) (hd2 : d ≤ 1073741824) :
    Calls Try.prog 38 #[.int .i64 p, .int .i64 d] w fun e w' => e = .returned (.int .i64 (FL p d)) ∧ w = w' := by
  by_cases h : 0 < d
  · exact Floor_pos p d w h1 h2 h hd2
  · have hn : d < 0 := by omega
    clear h hd
    rw [← FL_neg_neg]
    go_enter Try.func38, Try.ntmps38
    go_wp2_with (go_at_call 38; refine (Floor_pos (-p) (-d) _ (by omega) (by omega) (by omega) (by omega)).mono ?_; rintro e w' ⟨rfl, rfl⟩)
    go_ret
    exact ⟨rfl, rfl⟩

set_option maxHeartbeats 400000 in
theorem Part_any (a n d : Int) (w : World) :
    Calls Try.prog 20 #[.int .i64 a, .int .i64 n, .int .i64 d] w fun e w' => e = .returned (.int .i64 (PT a n d)) ∧ w = w' := by
  have hb := prod_bd a n
  have ha := H_bd a
  have hn := H_bd n
  by_cases h : d = 0
  · subst h
    go_enter Try.func20, Try.ntmps20
    go_wp2_with fail
    go_ret
    exact ⟨rfl, rfl⟩
  · have hd : H d ≠ 0 := fun e => h (H_zero.1 e)
    have hp : PT a n d = H (FL (H a * H n) (H d)) := by unfold PT; rw [if_neg h]
    have HP := Lib.hid hp
    have HD := Lib.hid hd
    have HB := Lib.hid hb
    clear hp hd
    go_enter Try.func20, Try.ntmps20
    go_wp2_with (first
      | (go_at_call 16; refine (Hold_any _ _).mono ?_; rintro e w' ⟨rfl, rfl⟩)
      | (go_at_call 37; refine (floor_any _ _ _ HB.out.1 HB.out.2 HD.out).mono ?_; rintro e w' ⟨rfl, rfl⟩)
      | (go_at_call 36; refine (hold_any _ _).mono ?_; rintro e w' ⟨rfl, rfl⟩))
    go_ret
    exact ⟨ret_int HP.out.symm, rfl⟩

set_option maxHeartbeats 400000 in
theorem refPart_any (a n d : Int) (w : World) :
    Calls Try.prog 21 #[.int .i64 a, .int .i64 n, .int .i64 d] w fun e w' => e = .returned (.int .i64 (PT a n d)) ∧ w = w' := by
  have hb := prod_bd a n
  have ha := H_bd a
  have hn := H_bd n
  have hdd := H_bd d
  by_cases h : d = 0
  · subst h
    have h0 : (H 0 == 0) = true := by decide
    go_enter Try.func21, Try.ntmps21
    go_wp2_with (go_at_call 15; refine (refHold_any _ _).mono ?_; rintro e w' ⟨rfl, rfl⟩)
    go_ret
    exact ⟨rfl, rfl⟩
  · have hd : H d ≠ 0 := fun e => h (H_zero.1 e)
    have hd0 : (H d == 0) = false := by simpa using hd
    have hp : PT a n d = H (FL (H a * H n) (H d)) := by unfold PT; rw [if_neg h]
    have HP := Lib.hid hp
    have HD := Lib.hid hd
    have HB := Lib.hid hb
    clear hp hd
    go_enter Try.func21, Try.ntmps21
    go_wp2_with (first
      | (go_at_call 15; refine (refHold_any _ _).mono ?_; rintro e w' ⟨rfl, rfl⟩)
      | (go_at_call 38; refine (Floor_any _ _ _ HB.out.1 HB.out.2 HD.out hdd.1 hdd.2).mono ?_; rintro e w' ⟨rfl, rfl⟩))
    go_ret
    exact ⟨ret_int HP.out.symm, rfl⟩

set_option maxHeartbeats 400000 in
theorem Px_any (n : Int) (w : World) :
    Calls Try.prog 22 #[.int .i64 n] w fun e w' => e = .returned (.int .i64 (PT n 64 1000)) ∧ w = w' := by
  go_enter Try.func22, Try.ntmps22
  go_wp2_with (go_at_call 20; refine (Part_any _ _ _ _).mono ?_; rintro e w' ⟨rfl, rfl⟩)
  go_ret
  exact ⟨rfl, rfl⟩

set_option maxHeartbeats 400000 in
theorem Percent_any (b n : Int) (w : World) :
    Calls Try.prog 23 #[.int .i64 b, .int .i64 n] w fun e w' => e = .returned (.int .i64 (PT b n 100000)) ∧ w = w' := by
  go_enter Try.func23, Try.ntmps23
  go_wp2_with (go_at_call 20; refine (Part_any _ _ _ _).mono ?_; rintro e w' ⟨rfl, rfl⟩)
  go_ret
  exact ⟨rfl, rfl⟩
end Go.Proofs.Ytpkhmagjdlpbjaa
