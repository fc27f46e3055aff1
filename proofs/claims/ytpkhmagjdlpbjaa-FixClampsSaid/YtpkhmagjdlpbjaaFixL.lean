/- The laws of layer 1: their walks. -/
import Derived.Test.YtpkhmagjdlpbjaaFixW8
namespace Go.Proofs.Ytpkhmagjdlpbjaa
open Go.RowKit FixM FixP

set_option maxHeartbeats 400000 in
theorem FixHolds_walk (a b : Int) (w : World) : Calls Try.prog 3 #[.int .i64 a, .int .i64 b] w fun e w' => e = .returned (.bool true) ∧ Grown w w' := by
  have ha := H_bd a
  have hb := H_bd b
  have hh : H (H (H a + H b)) = H (H a + H b) := H_H _
  go_enter Try.func3, Try.ntmps3
  go_wp2_with (first
    | (go_at_call 15; refine (refHold_any _ _).mono ?_; rintro e w' ⟨rfl, rfl⟩)
    | (go_at_call 16; refine (Hold_any _ _).mono ?_; rintro e w' ⟨rfl, rfl⟩)
    | (go_at_call 17; refine (Add_any _ _ _).mono ?_; rintro e w' ⟨rfl, rfl⟩)
    | (go_at_call 18; refine (Sub_any _ _ _).mono ?_; rintro e w' ⟨rfl, rfl⟩)
    | (go_at_call 19; refine (known_any _).mono ?_; rintro e w' ⟨rfl, hg⟩))
  go_ret
  exact ⟨rfl, hg⟩

set_option maxHeartbeats 400000 in
theorem FixParts_walk (a n d : Int) (w : World) : Calls Try.prog 4 #[.int .i64 a, .int .i64 n, .int .i64 d] w fun e w' => e = .returned (.bool true) ∧ Grown w w' := by
  go_enter Try.func4, Try.ntmps4
  go_wp2_with (first
    | (go_at_call 21; refine (refPart_any _ _ _ _).mono ?_; rintro e w' ⟨rfl, rfl⟩)
    | (go_at_call 20; refine (Part_any _ _ _ _).mono ?_; rintro e w' ⟨rfl, rfl⟩)
    | (go_at_call 22; refine (Px_any _ _).mono ?_; rintro e w' ⟨rfl, rfl⟩)
    | (go_at_call 23; refine (Percent_any _ _ _).mono ?_; rintro e w' ⟨rfl, rfl⟩)
    | (go_at_call 19; refine (known_any _).mono ?_; rintro e w' ⟨rfl, hg⟩))
  go_ret
  exact ⟨rfl, hg⟩

set_option maxHeartbeats 400000 in
theorem FixClamps_walk (x lo hi : Int) (w : World) : Calls Try.prog 5 #[.int .i64 x, .int .i64 lo, .int .i64 hi] w fun e w' => e = .returned (.bool true) ∧ Grown w w' := by
  have h1 := H_bd x
  have h2 := H_bd lo
  have h3 := H_bd hi
  have hv : -1073741824 ≤ max (H lo) (min (H x) (H hi)) ∧ max (H lo) (min (H x) (H hi)) ≤ 1073741824 := by omega
  have hc : max (H lo) (min (H (max (H lo) (min (H x) (H hi)))) (H hi)) = max (H lo) (min (H x) (H hi)) := by
    rw [H_id hv.1 hv.2]; omega
  have hw1 : H hi < H x → H hi < H lo → max (H lo) (min (H x) (H hi)) = H lo := by omega
  have hw2 : H hi < H x → ¬ H hi < H lo → max (H lo) (min (H x) (H hi)) = H hi := by omega
  have hw3 : ¬ H hi < H x → H x < H lo → max (H lo) (min (H x) (H hi)) = H lo := by omega
  have hw4 : ¬ H hi < H x → ¬ H x < H lo → max (H lo) (min (H x) (H hi)) = H x := by omega
  obtain ⟨v, hvv⟩ : ∃ v, v = max (H lo) (min (H x) (H hi)) := ⟨_, rfl⟩
  rw [← hvv] at hc hw1 hw2 hw3 hw4
  have HVV := Lib.hid hvv
  have HC := Lib.hid hc
  have HW1 := Lib.hid hw1
  have HW2 := Lib.hid hw2
  have HW3 := Lib.hid hw3
  have HW4 := Lib.hid hw4
  clear hvv hc hw1 hw2 hw3 hw4 hv
  have clamp1 : ∀ w, Calls Try.prog 24 #[.int .i64 x, .int .i64 lo, .int .i64 hi] w fun e w' => e = .returned (.int .i64 v) ∧ w = w' := fun w => by
    rw [HVV.out]; exact Clamp_any x lo hi w
  have clamp2 : ∀ w, Calls Try.prog 24 #[.int .i64 v, .int .i64 lo, .int .i64 hi] w fun e w' => e = .returned (.int .i64 v) ∧ w = w' := fun w => by
    have := Clamp_any v lo hi w
    rwa [HC.out] at this
  have HCL1 := Lib.hid clamp1
  have HCL2 := Lib.hid clamp2
  clear clamp1 clamp2
  go_enter Try.func5, Try.ntmps5
  go_wp2_with fail
  refine (HCL1.out _).mono ?_
  rintro e w' ⟨rfl, rfl⟩
  by_cases c1 : H hi < H x
  · by_cases c2 : H hi < H lo
    · have e1 : (v == H lo) = true := by simp [HW1.out (by omega) (by omega)]
      go_wp2_with (first
        | (go_at_call 15; refine (refHold_any _ _).mono ?_; rintro e w' ⟨rfl, rfl⟩)
        | (go_at_call 24; refine (HCL2.out _).mono ?_; rintro e w' ⟨rfl, rfl⟩)
        | (go_at_call 19; refine (known_any _).mono ?_; rintro e w' ⟨rfl, hg⟩))
      go_ret
      exact ⟨rfl, hg⟩
    · have e1 : (v == H hi) = true := by simp [HW2.out (by omega) (by omega)]
      go_wp2_with (first
        | (go_at_call 15; refine (refHold_any _ _).mono ?_; rintro e w' ⟨rfl, rfl⟩)
        | (go_at_call 24; refine (HCL2.out _).mono ?_; rintro e w' ⟨rfl, rfl⟩)
        | (go_at_call 19; refine (known_any _).mono ?_; rintro e w' ⟨rfl, hg⟩))
      go_ret
      exact ⟨rfl, hg⟩
  · by_cases c2 : H x < H lo
    · have e1 : (v == H lo) = true := by simp [HW3.out (by omega) (by omega)]
      go_wp2_with (first
        | (go_at_call 15; refine (refHold_any _ _).mono ?_; rintro e w' ⟨rfl, rfl⟩)
        | (go_at_call 24; refine (HCL2.out _).mono ?_; rintro e w' ⟨rfl, rfl⟩)
        | (go_at_call 19; refine (known_any _).mono ?_; rintro e w' ⟨rfl, hg⟩))
      go_ret
      exact ⟨rfl, hg⟩
    · have e1 : (v == H x) = true := by simp [HW4.out (by omega) (by omega)]
      go_wp2_with (first
        | (go_at_call 15; refine (refHold_any _ _).mono ?_; rintro e w' ⟨rfl, rfl⟩)
        | (go_at_call 24; refine (HCL2.out _).mono ?_; rintro e w' ⟨rfl, rfl⟩)
        | (go_at_call 19; refine (known_any _).mono ?_; rintro e w' ⟨rfl, hg⟩))
      go_ret
      exact ⟨rfl, hg⟩
end Go.Proofs.Ytpkhmagjdlpbjaa
