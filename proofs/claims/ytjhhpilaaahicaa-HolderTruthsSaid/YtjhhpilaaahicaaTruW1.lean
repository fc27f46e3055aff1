/- Layer 14: truths; a feature's sides, held against each other. -/
import Derived.Test.YtjhhpilaaahicaaQryM
import Derived.Test.YtjhhpilaaahicaaTruP
namespace Go.Proofs.Ytjhhpilaaahicaa
open Go.RowKit FixM FixP TreN QryP TruP
set_option linter.unusedVariables false

theorem below_oneT (w : World) (o : Obj) : Below w.heap.size w (w.alloc o) := (Below.refl _ _).alloc (Nat.le_refl _) _
theorem not14_any (a : Int) (w : World) : Calls Try.prog 18 #[.int .i64 a] w fun e w' => e = .returned (.int .i64 (notT a)) ∧ w = w' := by
  unfold notT
  go_enter Try.func18, Try.ntmps18
  go_wp2
  all_goals go_ret
  all_goals (refine ⟨ret_intF ?_, rfl⟩; (repeat' split) <;> first | rfl | omega | (simp_all; done) | (simp_all; omega))
theorem and14_any (a b : Int) (w : World) : Calls Try.prog 20 #[.int .i64 a, .int .i64 b] w fun e w' => e = .returned (.int .i64 (andT a b)) ∧ w = w' := by
  unfold andT
  go_enter Try.func20, Try.ntmps20
  go_wp2
  all_goals go_ret
  all_goals (refine ⟨ret_intF ?_, rfl⟩; (repeat' split) <;> first | rfl | omega | (simp_all; done) | (simp_all; omega))
theorem or14_any (a b : Int) (w : World) : Calls Try.prog 22 #[.int .i64 a, .int .i64 b] w fun e w' => e = .returned (.int .i64 (orT a b)) ∧ w = w' := by
  unfold orT
  go_enter Try.func22, Try.ntmps22
  go_wp2
  all_goals go_ret
  all_goals (refine ⟨ret_intF ?_, rfl⟩; (repeat' split) <;> first | rfl | omega | (simp_all; done) | (simp_all; omega))
theorem neq_beq {a b : Int} (h : a ≠ b) : (a == b) = false := by rw [beq_eq_false_iff_ne]; exact h
set_option maxHeartbeats 1000000 in
theorem known14_any (f t : Int) (w : World) : Calls Try.prog 126 #[.int .i64 f, .int .i64 t] w fun e w' => e = .returned (.bool (knT f t)) ∧ w = w' := by
  have T : ∀ t : Int, t = 1 ∨ t = 2 ∨ (t ≠ 1 ∧ t ≠ 2) := by intro t; omega
  rcases (by omega : f = 1 ∨ f = 3 ∨ (f ≠ 1 ∧ f ≠ 3)) with rfl | rfl | ⟨f1, f3⟩
  · rcases T t with rfl | rfl | ⟨t1, t2⟩
    · go_enter Try.func126, Try.ntmps126
      go_wp2_with fail
      go_ret
      exact ⟨rfl, rfl⟩
    · go_enter Try.func126, Try.ntmps126
      go_wp2_with fail
      go_ret
      exact ⟨rfl, rfl⟩
    · have k : knT 1 t = false := by unfold knT; rw [if_pos (by omega)]; exact decide_eq_false (by omega)
      rw [k]
      have b1 := neq_beq t1
      have b2 := neq_beq t2
      go_enter Try.func126, Try.ntmps126
      go_wp2_with fail
      go_ret
      exact ⟨ret_bool (by simp), rfl⟩
  · rcases T t with rfl | rfl | ⟨t1, t2⟩
    · go_enter Try.func126, Try.ntmps126
      go_wp2_with fail
      go_ret
      exact ⟨rfl, rfl⟩
    · go_enter Try.func126, Try.ntmps126
      go_wp2_with fail
      go_ret
      exact ⟨rfl, rfl⟩
    · have k : knT 3 t = false := by unfold knT; rw [if_pos (by omega)]; exact decide_eq_false (by omega)
      rw [k]
      have b1 := neq_beq t1
      have b2 := neq_beq t2
      go_enter Try.func126, Try.ntmps126
      go_wp2_with fail
      go_ret
      exact ⟨ret_bool (by simp), rfl⟩
  · have k : knT f t = (t == 2) := by unfold knT; rw [if_neg (by omega)]; rfl
    rw [k]
    have b1 := neq_beq f1
    have b2 := neq_beq f3
    go_enter Try.func126, Try.ntmps126
    go_wp2_with fail
    go_ret
    exact ⟨rfl, rfl⟩

def c1T (x y : Int) : Int := if x < y then -1 else if y < x then 1 else 0
set_option maxRecDepth 100000 in
theorem cmp14_any (x y : Int) (w : World) : Calls Try.prog 173 #[.int .i64 x, .int .i64 y] w fun e w' => e = .returned (.int .i64 (c1T x y)) ∧ w = w' := by
  have N : ∀ (z : Int) (W : World), Calls Try.prog 184 #[.int .i64 z] W fun e w' => e = .returned (.bool false) ∧ W = w' := by
    intro z W
    go_enter Try.func184, Try.ntmps184
    go_wp2_with fail
    go_ret
    exact ⟨ret_bool (by simp), rfl⟩
  have NN := Lib.hid N
  clear N
  unfold c1T
  by_cases h1 : x < y
  · rw [if_pos h1]
    go_enter Try.func173, Try.ntmps173
    go_wp2_with (go_at_call 184; refine (NN.out _ _).mono ?_; rintro e w' ⟨rfl, rfl⟩)
    go_ret
    exact ⟨rfl, rfl⟩
  · rw [if_neg h1]
    by_cases h2 : y < x
    · rw [if_pos h2]
      go_enter Try.func173, Try.ntmps173
      go_wp2_with (go_at_call 184; refine (NN.out _ _).mono ?_; rintro e w' ⟨rfl, rfl⟩)
      go_ret
      exact ⟨rfl, rfl⟩
    · rw [if_neg h2]
      go_enter Try.func173, Try.ntmps173
      go_wp2_with (go_at_call 184; refine (NN.out _ _).mono ?_; rintro e w' ⟨rfl, rfl⟩)
      go_ret
      exact ⟨rfl, rfl⟩
theorem c1T_bd (x y : Int) : -1 ≤ c1T x y ∧ c1T x y ≤ 1 := by unfold c1T; split; omega; split <;> omega
theorem cmT_c1 (a op b : Int) : cmT a op b = (if op = 5 then decide (-(c1T a b) < 0) else if op = 1 then decide (c1T a b < 0) else if op = 4 then decide (-(c1T a b) ≤ 0) else if op = 2 then decide (c1T a b ≤ 0) else decide (c1T a b = 0)) := by
  unfold cmT
  (repeat' split) <;> apply dec_eq <;> unfold c1T <;> (repeat' split) <;> omega
set_option maxRecDepth 100000 in
set_option maxHeartbeats 1000000 in
theorem compares14_any (a op b : Int) (w : World) : Calls Try.prog 156 #[.int .i64 a, .int .i64 op, .int .i64 b] w fun e w' => e = .returned (.bool (cmT a op b)) ∧ w = w' := by
  rw [cmT_c1]
  have C := Lib.hid (fun W => cmp14_any a b W)
  obtain ⟨hc1, hc2⟩ := c1T_bd a b
  generalize c1T a b = c at *
  rcases (by omega : op = 5 ∨ op = 1 ∨ op = 4 ∨ op = 2 ∨ (op ≠ 5 ∧ op ≠ 1 ∧ op ≠ 4 ∧ op ≠ 2)) with rfl | rfl | rfl | rfl | ⟨n5, n1, n4, n2⟩
  · rw [if_pos rfl]
    go_enter Try.func156, Try.ntmps156
    go_wp2_with (go_at_call 173; refine (C.out _).mono ?_; rintro e w' ⟨rfl, rfl⟩)
    all_goals go_ret
    all_goals exact ⟨ret_bool (by first | rfl | (simp; done) | (simp; omega)), rfl⟩
  · rw [if_neg (by decide), if_pos rfl]
    go_enter Try.func156, Try.ntmps156
    go_wp2_with (go_at_call 173; refine (C.out _).mono ?_; rintro e w' ⟨rfl, rfl⟩)
    all_goals go_ret
    all_goals exact ⟨ret_bool (by first | rfl | (simp; done) | (simp; omega)), rfl⟩
  · rw [if_neg (by decide), if_neg (by decide), if_pos rfl]
    go_enter Try.func156, Try.ntmps156
    go_wp2_with (go_at_call 173; refine (C.out _).mono ?_; rintro e w' ⟨rfl, rfl⟩)
    all_goals go_ret
    all_goals exact ⟨ret_bool (by first | rfl | (simp; done) | (simp; omega)), rfl⟩
  · rw [if_neg (by decide), if_neg (by decide), if_neg (by decide), if_pos rfl]
    go_enter Try.func156, Try.ntmps156
    go_wp2_with (go_at_call 173; refine (C.out _).mono ?_; rintro e w' ⟨rfl, rfl⟩)
    all_goals go_ret
    all_goals exact ⟨ret_bool (by first | rfl | (simp; done) | (simp; omega)), rfl⟩
  · rw [if_neg n5, if_neg n1, if_neg n4, if_neg n2]
    have b5 := neq_beq n5
    have b1 := neq_beq n1
    have b4 := neq_beq n4
    have b2 := neq_beq n2
    clear n5 n1 n4 n2
    go_enter Try.func156, Try.ntmps156
    go_wp2_with (go_at_call 173; refine (C.out _).mono ?_; rintro e w' ⟨rfl, rfl⟩)
    all_goals go_ret
    all_goals exact ⟨ret_bool (by first | rfl | (simp; done) | (simp; omega)), rfl⟩
end Go.Proofs.Ytjhhpilaaahicaa
