/- What must come of fixed calls. -/
import Derived.Test.YtpkhmagjdlpbjaaFixW5
import Derived.Test.YtpkhmagjdlpbjaaFixW7
namespace Go.Proofs.Ytpkhmagjdlpbjaa
open Go.RowKit FixM FixP

theorem grown_trans {a b c : World} (h1 : Grown a b) (h2 : Grown b c) : Grown a c :=
  ⟨World.keptBut_trans h1.1 h2.1, fun x => (h2.2.1 x).trans (h1.2.1 x), Nat.le_trans h1.2.2 h2.2.2⟩
theorem grown_PW (w : World) (st : Int × Int) : Grown w (PW w st) := (((Grown.refl _).alloc _ _).alloc _ _).alloc _ _

theorem Parse_half (w : World) : Calls Try.prog 25 #[.string ⟨#[45, 48, 46, 53]⟩] w fun e w' => e = .returned (.tuple #[.int .i64 (-500), .int .i64 0]) ∧ Grown w w' := by
  refine (Parse_any ⟨#[45, 48, 46, 53]⟩ w (by decide)).mono ?_
  rintro e w' ⟨rfl, st, rfl⟩
  have : parse [45, 48, 46, 53] = (-500, 0) := by decide +kernel
  refine ⟨?_, grown_PW w st⟩
  show Ending.returned (.tuple #[.int .i64 (parse [45, 48, 46, 53]).1, .int .i64 (parse [45, 48, 46, 53]).2]) = _
  rw [this]
theorem Print_1250 (w : World) : Calls Try.prog 27 #[.int .i64 1250] w fun e w' => e = .returned (.string ⟨#[49, 46, 50, 53]⟩) ∧ Grown w w' := by
  refine (Print_any 1250 w).mono ?_
  rintro e w' ⟨rfl, hg⟩
  have : prn (H 1250) = [49, 46, 50, 53] := by decide +kernel
  rw [this]
  exact ⟨rfl, hg⟩
theorem Part_7 (w : World) : Calls Try.prog 20 #[.int .i64 7, .int .i64 1, .int .i64 2] w fun e w' => e = .returned (.int .i64 3) ∧ w = w' := by
  have : PT 7 1 2 = 3 := by decide +kernel
  rw [← this]
  exact Part_any 7 1 2 w
theorem Part_m7 (w : World) : Calls Try.prog 20 #[.int .i64 (-7), .int .i64 1, .int .i64 2] w fun e w' => e = .returned (.int .i64 (-4)) ∧ w = w' := by
  have : PT (-7) 1 2 = -4 := by decide +kernel
  rw [← this]
  exact Part_any (-7) 1 2 w
theorem Px_1500 (w : World) : Calls Try.prog 22 #[.int .i64 1500] w fun e w' => e = .returned (.int .i64 96) ∧ w = w' := by
  have : PT 1500 64 1000 = 96 := by decide +kernel
  rw [← this]
  exact Px_any 1500 w

set_option maxHeartbeats 400000 in
theorem known_any (w : World) : Calls Try.prog 19 #[] w fun e w' => e = .returned (.bool true) ∧ Grown w w' := by
  go_enter Try.func19, Try.ntmps19
  go_wp2_with fail
  refine (Parse_half _).mono ?_
  rintro e w1 ⟨rfl, hg1⟩
  go_wp2_with fail
  refine (Part_7 _).mono ?_
  rintro e w' ⟨rfl, rfl⟩
  go_wp2_with fail
  refine (Part_m7 _).mono ?_
  rintro e w' ⟨rfl, rfl⟩
  go_wp2_with fail
  refine (Print_1250 _).mono ?_
  rintro e w2 ⟨rfl, hg2⟩
  go_wp2_with fail
  refine (Px_1500 _).mono ?_
  rintro e w' ⟨rfl, rfl⟩
  go_wp2_with fail
  go_ret
  exact ⟨rfl, grown_trans hg1 hg2⟩
end Go.Proofs.Ytpkhmagjdlpbjaa
