/- The walks of layer 3's laws: vectors, sums, swaps. -/
import Derived.Test.YtanhpdejlodidaaAxiW3
namespace Go.Proofs.Ytanhpdejlodidaa
open Go.RowKit FixM AxiF

set_option maxHeartbeats 1000000 in
theorem AxisBack_walk (x y : Int) (w : World) :
    Calls Try.prog 5 #[.int .i64 x, .int .i64 y] w fun e w' => e = .returned (.bool true) ∧ Below w.heap.size w w' := by
  have e1 := whole_H x
  have e2 := whole_H y
  go_enter Try.func5, Try.ntmps5
  go_wp2_with (first
    | (go_at_call 19; refine (Of_any _ _ _).mono ?_; rintro e w' ⟨rfl, rfl⟩)
    | (go_at_call 21; refine (refHold_any _ _).mono ?_; rintro e w' ⟨rfl, rfl⟩)
    | (go_at_call 23; refine (known3_any _).mono ?_; rintro e w' ⟨rfl, hb⟩)
    | (go_at_call 20; refine (X_any _ _ _).mono ?_; rintro e w' ⟨rfl, rfl⟩)
    | (go_at_call 22; refine (Y_any _ _ _).mono ?_; rintro e w' ⟨rfl, rfl⟩))
  go_ret
  exact ⟨rfl, by assumption⟩

set_option maxHeartbeats 1000000 in
theorem AxisSums_walk (a b c d : Int) (w : World) :
    Calls Try.prog 7 #[.int .i64 a, .int .i64 b, .int .i64 c, .int .i64 d] w fun e w' => e = .returned (.bool true) ∧ Below w.heap.size w w' := by
  have e1 := whole_H a
  have e2 := whole_H b
  have e3 := whole_H c
  have e4 := whole_H d
  have e5 := whole_H (H a + H c)
  have e6 := whole_H (H b + H d)
  have b1 := H_bd a
  have b2 := H_bd b
  have b3 := H_bd c
  have b4 := H_bd d
  go_enter Try.func7, Try.ntmps7
  go_wp2_with (first
    | (go_at_call 19; refine (Of_any _ _ _).mono ?_; rintro e w' ⟨rfl, rfl⟩)
    | (go_at_call 25; refine (Plus_any _ _ _ _ _).mono ?_; rintro e w' ⟨rfl, rfl⟩)
    | (go_at_call 21; refine (refHold_any _ _).mono ?_; rintro e w' ⟨rfl, rfl⟩)
    | (go_at_call 23; refine (known3_any _).mono ?_; rintro e w' ⟨rfl, hb⟩)
    | (go_at_call 20; refine (X_any _ _ _).mono ?_; rintro e w' ⟨rfl, rfl⟩)
    | (go_at_call 22; refine (Y_any _ _ _).mono ?_; rintro e w' ⟨rfl, rfl⟩))
  go_ret
  exact ⟨rfl, by assumption⟩

set_option maxHeartbeats 2000000 in
theorem AxisSwaps_walk (way x y : Int) (w : World) :
    Calls Try.prog 8 #[.int .i64 way, .int .i64 x, .int .i64 y] w fun e w' => e = .returned (.bool true) ∧ Below w.heap.size w w' := by
  have e1 := whole_H x
  have e2 := whole_H y
  have q1 := eq_H x
  have q2 := eq_H y
  have hf : ∀ a b, flX way a b = a ∧ flX way b a = b ∨ flX way a b = b ∧ flX way b a = a := fun a b => by unfold flX; cases upB way <;> simp
  have hg : ∀ a b, flX way (flX way a b) (flX way b a) = a := fun a b => by unfold flX; cases upB way <;> simp
  have w1 : wholeS (floatOfInt .f64 (flX way (H x) (H y))) = flX way (H x) (H y) := by rcases hf (H x) (H y) with ⟨h, _⟩ | ⟨h, _⟩ <;> rw [h] <;> exact whole_H _
  have w2 : wholeS (floatOfInt .f64 (flX way (H y) (H x))) = flX way (H y) (H x) := by rcases hf (H x) (H y) with ⟨_, h⟩ | ⟨_, h⟩ <;> rw [h] <;> exact whole_H _
  have g1 := hg (H x) (H y)
  have g2 := hg (H y) (H x)
  clear hf hg
  go_enter Try.func8, Try.ntmps8
  go_wp2_with (first
    | (go_at_call 19; refine (Of_any _ _ _).mono ?_; rintro e w' ⟨rfl, rfl⟩)
    | (go_at_call 26; refine (Flow_any _ _ _ _).mono ?_; rintro e w' ⟨rfl, rfl⟩; simp only [e1, e2, w1, w2, g1, g2])
    | (go_at_call 24; refine (Swap_any _ _ _).mono ?_; rintro e w' ⟨rfl, rfl⟩; simp only [e1, e2])
    | (go_at_call 27; refine (refFlow_any _ _ _ _).mono ?_; rintro e w' ⟨rfl, rfl⟩)
    | (go_at_call 23; refine (known3_any _).mono ?_; rintro e w' ⟨rfl, hb⟩)
    | (go_at_call 20; refine (X_any _ _ _).mono ?_; rintro e w' ⟨rfl, rfl⟩)
    | (go_at_call 22; refine (Y_any _ _ _).mono ?_; rintro e w' ⟨rfl, rfl⟩))
  go_ret
  exact ⟨rfl, by assumption⟩
end Go.Proofs.Ytanhpdejlodidaa
