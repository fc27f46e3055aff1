/- Parts of layer 1, for seats that hold and add by FixA. -/
import Derived.Test.YtaegajlffiepoaaFixA
namespace Go.Proofs.Ytaegajlffiepoaa
open Go.RowKit FixM

set_option maxRecDepth 100000 in
set_option maxHeartbeats 400000 in
theorem floor_any (p d : Int) (w : World) (h1 : -1152921504606846976 ≤ p) (h2 : p ≤ 1152921504606846976) (hd : d ≠ 0) :
    Calls Try.prog 58 #[.int .i64 p, .int .i64 d] w fun e w' => e = .returned (.int .i64 (FL p d)) ∧ w = w' := by
  have hb := tdiv_bd p d _ h1 h2
  go_enter Try.func58, Try.ntmps58
  go_wp2
  all_goals go_ret
  all_goals refine ⟨ret_intF ?_, rfl⟩
  all_goals rw [FL_go p d hd]
  all_goals simp_all

set_option maxRecDepth 100000 in
set_option maxHeartbeats 400000 in
theorem Floor_pos (p d : Int) (w : World) (h1 : -1152921504606846976 ≤ p) (h2 : p ≤ 1152921504606846976) (hd : 0 < d) (hd2 : d ≤ 1073741824) :
    Calls Try.prog 57 #[.int .i64 p, .int .i64 d] w fun e w' => e = .returned (.int .i64 (FL p d)) ∧ w = w' := by
  have hf := FL_bd p d _ (by omega) h1 h2
  have hr := ref_form p d hd
  rw [FL_pos p d hd] at hf ⊢
  have hb : 0 ≤ p ∨ -1152921504606846977 ≤ -((d - 1 - p) / d) ∧ -((d - 1 - p) / d) ≤ 1152921504606846977 := by omega
  have hw : wrap64 (-((d - 1 - p) / d)) = p / d := by rw [IntWalk.wrap64_in _ ⟨by omega, by omega⟩, hr]
  have HW := Lib.hid hw
  clear hf hr hb hw
  go_enter Try.func57, Try.ntmps57
  go_wp2_with fail
  all_goals go_ret
  all_goals refine ⟨ret_intF ?_, rfl⟩
  · rfl
  · exact HW.out

set_option maxRecDepth 100000 in
set_option maxHeartbeats 400000 in
theorem Floor_any (p d : Int) (w : World) (h1 : -1152921504606846976 ≤ p) (h2 : p ≤ 1152921504606846976) (hd : d ≠ 0) (hd1 : -1073741824 ≤ d) (hd2 : d ≤ 1073741824) :
    Calls Try.prog 57 #[.int .i64 p, .int .i64 d] w fun e w' => e = .returned (.int .i64 (FL p d)) ∧ w = w' := by
  by_cases h : 0 < d
  · exact Floor_pos p d w h1 h2 h hd2
  · have hn : d < 0 := by omega
    clear h hd
    rw [← FL_neg_neg]
    go_enter Try.func57, Try.ntmps57
    go_wp2_with (go_at_call 57; refine (Floor_pos (-p) (-d) _ (by omega) (by omega) (by omega) (by omega)).mono ?_; rintro e w' ⟨rfl, rfl⟩)
    go_ret
    exact ⟨rfl, rfl⟩

set_option maxRecDepth 100000 in
set_option maxHeartbeats 400000 in
theorem Part_any (a n d : Int) (w : World) :
    Calls Try.prog 51 #[.int .i64 a, .int .i64 n, .int .i64 d] w fun e w' => e = .returned (.int .i64 (PT a n d)) ∧ w = w' := by
  have hb := prod_bd a n
  have ha := H_bd a
  have hn := H_bd n
  by_cases h : d = 0
  · subst h
    go_enter Try.func51, Try.ntmps51
    go_wp2_with fail
    go_ret
    exact ⟨rfl, rfl⟩
  · have hd : H d ≠ 0 := fun e => h (H_zero.1 e)
    have hp : PT a n d = H (FL (H a * H n) (H d)) := by unfold PT; rw [if_neg h]
    have HP := Lib.hid hp
    have HD := Lib.hid hd
    have HB := Lib.hid hb
    clear hp hd
    go_enter Try.func51, Try.ntmps51
    go_wp2_with (first
      | (go_at_call 32; refine (Hold_any _ _).mono ?_; rintro e w' ⟨rfl, rfl⟩)
      | (go_at_call 58; refine (floor_any _ _ _ HB.out.1 HB.out.2 HD.out).mono ?_; rintro e w' ⟨rfl, rfl⟩)
      | (go_at_call 50; refine (hold_any _ _).mono ?_; rintro e w' ⟨rfl, rfl⟩))
    go_ret
    exact ⟨ret_intF HP.out.symm, rfl⟩

set_option maxRecDepth 100000 in
set_option maxHeartbeats 400000 in
theorem refPart_any (a n d : Int) (w : World) :
    Calls Try.prog 45 #[.int .i64 a, .int .i64 n, .int .i64 d] w fun e w' => e = .returned (.int .i64 (PT a n d)) ∧ w = w' := by
  have hb := prod_bd a n
  have ha := H_bd a
  have hn := H_bd n
  have hdd := H_bd d
  by_cases h : d = 0
  · subst h
    have h0 : (H 0 == 0) = true := by decide
    go_enter Try.func45, Try.ntmps45
    go_wp2_with (go_at_call 21; refine (refHold_any _ _).mono ?_; rintro e w' ⟨rfl, rfl⟩)
    go_ret
    exact ⟨rfl, rfl⟩
  · have hd : H d ≠ 0 := fun e => h (H_zero.1 e)
    have hd0 : (H d == 0) = false := by simpa using hd
    have hp : PT a n d = H (FL (H a * H n) (H d)) := by unfold PT; rw [if_neg h]
    have HP := Lib.hid hp
    have HD := Lib.hid hd
    have HB := Lib.hid hb
    clear hp hd
    go_enter Try.func45, Try.ntmps45
    go_wp2_with (first
      | (go_at_call 21; refine (refHold_any _ _).mono ?_; rintro e w' ⟨rfl, rfl⟩)
      | (go_at_call 57; refine (Floor_any _ _ _ HB.out.1 HB.out.2 HD.out hdd.1 hdd.2).mono ?_; rintro e w' ⟨rfl, rfl⟩))
    go_ret
    exact ⟨ret_intF HP.out.symm, rfl⟩
end Go.Proofs.Ytaegajlffiepoaa
