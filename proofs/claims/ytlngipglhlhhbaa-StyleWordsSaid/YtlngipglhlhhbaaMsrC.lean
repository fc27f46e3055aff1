/- Layer 15: what a length measures: the program's. -/
import Derived.Test.YtlngipglhlhhbaaFixWa
import Derived.Test.YtlngipglhlhhbaaMsr
import Derived.WalkKit
import Derived.OwnWalk
import Derived.BigQuiet
import Derived.Lib.MinMax
import Derived.Lib.QuietBelow
namespace Go.Proofs.Ytlngipglhlhhbaa
open Go.RowKit FixM
set_option linter.unusedVariables false

set_option maxRecDepth 100000 in
set_option maxHeartbeats 8000000 in
theorem Measure_any (kind n d font a b : Int) (nm : List UInt8) (w : World) : Calls Try.prog 43 #[.agg #[.int .i64 kind, .int .i64 n, .int .i64 d, .string ⟨nm.toArray⟩], .int .i64 font, .int .i64 a, .int .i64 b] w fun e w' => e = .returned (.int .i64 (measS kind n d font a b)) ∧ Below w.heap.size w w' := by
  have HB := Lib.hid (below_one7h w (.cells #[.int .i64 kind, .int .i64 n, .int .i64 d, .string ⟨nm.toArray⟩] 34))
  have PX := Lib.hid (fun W => Px_any n W)
  have PA := Lib.hid (fun W => Part_any font n 1000 W)
  have PC := Lib.hid (fun a W => Percent_any a n W)
  by_cases hk : kind = 2
  · subst hk
    have hcs : d = 1 ∨ d = 2 ∨ d = 3 ∨ d = 5 ∨ d = 4 ∨ d = 6 ∨ d = 7 ∨ d = 8 ∨ (d ≠ 1 ∧ d ≠ 2 ∧ d ≠ 3 ∧ d ≠ 5 ∧ d ≠ 4 ∧ d ≠ 6 ∧ d ≠ 7 ∧ d ≠ 8) := by omega
    rcases hcs with rfl | rfl | rfl | rfl | rfl | rfl | rfl | rfl | ⟨h1, h2, h3, h5, h4, h6, h7, h8⟩
    · have HM : measS 2 n 1 font a b = PT n 64 1000 := by unfold measS; simp
      rw [HM]; clear HM
      go_enter Try.func43, Try.ntmps43
      go_wp2_with fail
      refine (PX.out _).mono ?_
      rintro e w' ⟨rfl, rfl⟩
      go_wp2_with fail
      go_ret
      exact ⟨rfl, HB.out⟩
    · have HM : measS 2 n 2 font a b = PT font n 1000 := by unfold measS; simp
      rw [HM]; clear HM
      go_enter Try.func43, Try.ntmps43
      go_wp2_with fail
      refine (PA.out _).mono ?_
      rintro e w' ⟨rfl, rfl⟩
      go_wp2_with fail
      go_ret
      exact ⟨rfl, HB.out⟩
    · have HM : measS 2 n 3 font a b = PT a n 100000 := by unfold measS; simp
      rw [HM]; clear HM
      go_enter Try.func43, Try.ntmps43
      go_wp2_with fail
      refine (PC.out _ _).mono ?_
      rintro e w' ⟨rfl, rfl⟩
      go_wp2_with fail
      go_ret
      exact ⟨rfl, HB.out⟩
    · have HM : measS 2 n 5 font a b = PT a n 100000 := by unfold measS; simp
      rw [HM]; clear HM
      go_enter Try.func43, Try.ntmps43
      go_wp2_with fail
      refine (PC.out _ _).mono ?_
      rintro e w' ⟨rfl, rfl⟩
      go_wp2_with fail
      go_ret
      exact ⟨rfl, HB.out⟩
    · have HM : measS 2 n 4 font a b = PT b n 100000 := by unfold measS; simp
      rw [HM]; clear HM
      go_enter Try.func43, Try.ntmps43
      go_wp2_with fail
      refine (PC.out _ _).mono ?_
      rintro e w' ⟨rfl, rfl⟩
      go_wp2_with fail
      go_ret
      exact ⟨rfl, HB.out⟩
    · have HM : measS 2 n 6 font a b = PT b n 100000 := by unfold measS; simp
      rw [HM]; clear HM
      go_enter Try.func43, Try.ntmps43
      go_wp2_with fail
      refine (PC.out _ _).mono ?_
      rintro e w' ⟨rfl, rfl⟩
      go_wp2_with fail
      go_ret
      exact ⟨rfl, HB.out⟩
    · have HM : measS 2 n 7 font a b = PT (min a b) n 100000 := by unfold measS; simp
      rw [HM]; clear HM
      go_enter Try.func43, Try.ntmps43
      go_wp2_with fail
      refine (PC.out _ _).mono ?_
      rintro e w' ⟨rfl, rfl⟩
      go_wp2_with fail
      go_ret
      exact ⟨rfl, HB.out⟩
    · have HM : measS 2 n 8 font a b = PT (max a b) n 100000 := by unfold measS; simp
      rw [HM]; clear HM
      go_enter Try.func43, Try.ntmps43
      go_wp2_with fail
      refine (PC.out _ _).mono ?_
      rintro e w' ⟨rfl, rfl⟩
      go_wp2_with fail
      go_ret
      exact ⟨rfl, HB.out⟩
    · have HM : measS 2 n d font a b = 0 := by unfold measS; simp [h1, h2, h3, h4, h5, h6, h7, h8]
      rw [HM]; clear HM
      have e1 : (d == 1) = false := by rw [beq_eq_false_iff_ne]; exact h1
      have e2 : (d == 2) = false := by rw [beq_eq_false_iff_ne]; exact h2
      have e3 : (d == 3) = false := by rw [beq_eq_false_iff_ne]; exact h3
      have e4 : (d == 4) = false := by rw [beq_eq_false_iff_ne]; exact h4
      have e5 : (d == 5) = false := by rw [beq_eq_false_iff_ne]; exact h5
      have e6 : (d == 6) = false := by rw [beq_eq_false_iff_ne]; exact h6
      have e7 : (d == 7) = false := by rw [beq_eq_false_iff_ne]; exact h7
      have e8 : (d == 8) = false := by rw [beq_eq_false_iff_ne]; exact h8
      clear h1 h2 h3 h4 h5 h6 h7 h8
      go_enter Try.func43, Try.ntmps43
      go_wp2_with fail
      go_ret
      exact ⟨rfl, HB.out⟩
  · have HM : measS kind n d font a b = 0 := by unfold measS; rw [if_pos hk]
    rw [HM]; clear HM
    have e0 : (kind == 2) = false := by rw [beq_eq_false_iff_ne]; exact hk
    clear hk
    go_enter Try.func43, Try.ntmps43
    go_wp2_with fail
    go_ret
    exact ⟨rfl, HB.out⟩
end Go.Proofs.Ytlngipglhlhhbaa
