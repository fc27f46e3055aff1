/- Layer 19: the other text's struts. -/
import Derived.Test.YtajmmnmagbnigaaStrL3
import Derived.ChangeKeysEq
namespace Go.Proofs.Ytajmmnmagbnigaa
open Go.RowKit FixM StrP Go.Sort
set_option linter.unusedVariables false

theorem ar_self19 (a b : Int) (W : World) : (Op.equalIn 10000 25 (.agg #[.int .i64 a, .int .i64 b]) (.agg #[.int .i64 a, .int .i64 b])).run Try.prog W = .ok true W := by
  obtain ⟨i, hi⟩ : ∃ i, Try.prog.info? 3 = some i := Option.isSome_iff_exists.1 (by kernel_rfl)
  have hc : Try.prog.cellsOf 3 = 1 := by kernel_rfl
  have p0 : ∀ w : World, (part 3 #[.int .i64 a, .int .i64 b] 0).run Try.prog w = .ok (.int .i64 a) w := fun w => by kernel_rfl
  have p1 : ∀ w : World, (part 3 #[.int .i64 a, .int .i64 b] 1).run Try.prog w = .ok (.int .i64 b) w := fun w => by kernel_rfl
  rw [run_equalIn_array W 9999 (e := 3) (n := 2) _ _ Try.underlying25 hi, hc]
  have hr : List.range 2 = [0, 1] := rfl
  rw [hr]
  simp only [Op.eqItems, Sem.run_ite, Sem.run_bind, Nat.mul_one, p0, p1, Result.andThen_ok, run_equalIn_int W 9998 3 .i64 .i64 a a Try.underlying3, run_equalIn_int W 9998 3 .i64 .i64 b b Try.underlying3]
  simp

set_option maxRecDepth 100000 in
set_option maxHeartbeats 1000000 in
theorem two19_any (u d : Int) (w : World) : Calls Try.prog 7 #[.agg #[.int .i64 u, .int .i64 d]] w fun e w' => e = .returned (.agg #[.int .i64 u, .int .i64 d]) ∧ Below w.heap.size w w' := by
  go_enter Try.func7, Try.ntmps7
  go_wp2_with fail
  exact bodyPost_ret (v := .agg #[.int .i64 u, .int .i64 d]) (by simp [results, Try.results7, go_sem]) rfl ⟨rfl, ((Below.refl _ _).alloc (Nat.le_refl _) _).alloc (by simp) _⟩

set_option maxRecDepth 100000 in
set_option maxHeartbeats 1000000 in
theorem refWorth19_any (u d : Int) (w : World) : Calls Try.prog 11 #[.agg #[.int .i64 u, .int .i64 d]] w fun e w' => e = .returned (.int .i64 (wT u d)) ∧ Below w.heap.size w w' := by
  have ha := H_bd u
  have hb := H_bd d
  have C1 := Lib.hid (fun w => refHold_any u w)
  have C2 := Lib.hid (fun w => refHold_any d w)
  have C30 := fun w => refHold_any (H u + H d) w
  obtain ⟨z, hz⟩ : ∃ z, wT u d = z := ⟨_, rfl⟩
  have hz2 : H (H u + H d) = z := hz
  rw [hz]
  rw [hz2] at C30
  clear hz hz2
  generalize H u = a at *
  generalize H d = b at *
  have hw : IntKind.i64.wrap (a + b) = a + b := IntWalk.i64_in _ (by omega)
  have C3 := Lib.hid C30
  clear C30
  go_enter Try.func11, Try.ntmps11
  go_wp2_with fail
  go_region_with (go_at_call 17; first | ((with_reducible refine (C1.out _).mono ?_); rintro e wq ⟨rfl, rfl⟩) | ((with_reducible refine (C2.out _).mono ?_); rintro e wq ⟨rfl, rfl⟩) | ((with_reducible refine (C3.out _).mono ?_); rintro e wq ⟨rfl, rfl⟩))
  all_goals go_wp2_with fail
  all_goals go_ret
  all_goals exact ⟨rfl, ((Below.refl _ _).alloc (Nat.le_refl _) _).drew⟩

set_option maxRecDepth 100000 in
set_option maxHeartbeats 1000000 in
theorem refOf19_any (m : Int) (w : World) : Calls Try.prog 13 #[.int .i64 m] w fun e w' => e = .returned (.agg #[.int .i64 (max 0 (H m)), .int .i64 (min 0 (H m))]) ∧ Below w.heap.size w w' := by
  have C := Lib.hid (fun w => refHold_any m w)
  by_cases h : 0 ≤ m
  · have h0 : 0 ≤ H m := by unfold H; repeat' split <;> omega
    have e1 : max 0 (H m) = H m := by omega
    have e2 : min 0 (H m) = 0 := by omega
    rw [e1, e2]
    clear e1 e2
    generalize H m = x at *
    go_enter Try.func13, Try.ntmps13
    go_wp2_with (go_at_call 17; refine (C.out _).mono ?_; rintro e w' ⟨rfl, rfl⟩)
    exact bodyPost_ret (v := .agg #[.int .i64 x, .int .i64 0]) (by simp [results, Try.results13, go_sem]) rfl ⟨rfl, (Below.refl _ _).alloc (Nat.le_refl _) _⟩
  · have h0 : H m ≤ 0 := by unfold H; repeat' split <;> omega
    have e1 : max 0 (H m) = 0 := by omega
    have e2 : min 0 (H m) = H m := by omega
    rw [e1, e2]
    clear e1 e2
    have hlt : m < 0 := by omega
    generalize H m = x at *
    go_enter Try.func13, Try.ntmps13
    go_wp2_with (go_at_call 17; refine (C.out _).mono ?_; rintro e w' ⟨rfl, rfl⟩)
    exact bodyPost_ret (v := .agg #[.int .i64 0, .int .i64 x]) (by simp [results, Try.results13, go_sem]) rfl ⟨rfl, (Below.refl _ _).alloc (Nat.le_refl _) _⟩

end Go.Proofs.Ytajmmnmagbnigaa
