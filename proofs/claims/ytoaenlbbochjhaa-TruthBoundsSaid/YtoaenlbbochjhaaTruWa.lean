/- Joined texts: TruW1 TruW2 TruW3. -/
import Derived.Test.YtoaenlbbochjhaaQryM
import Derived.Test.YtoaenlbbochjhaaTruP
import Derived.Test.YtoaenlbbochjhaaQryW1
import Derived.Test.YtoaenlbbochjhaaFixWa
import Derived.Deep.QuietTactic
import Derived.BigQuiet
import Derived.Test.YtoaenlbbochjhaaQryWb
namespace Go.Proofs.Ytoaenlbbochjhaa
open Go.RowKit FixM FixP TreN QryP TruP
set_option linter.unusedVariables false

theorem below_oneT (w : World) (o : Obj) : Below w.heap.size w (w.alloc o) := (Below.refl _ _).alloc (Nat.le_refl _) _
theorem not14_any (a : Int) (w : World) : Calls Try.prog 9 #[.int .i64 a] w fun e w' => e = .returned (.int .i64 (notT a)) ∧ w = w' := by
  unfold notT
  go_enter Try.func9, Try.ntmps9
  go_wp2
  all_goals go_ret
  all_goals (refine ⟨ret_intF ?_, rfl⟩; (repeat' split) <;> first | rfl | omega | (simp_all; done) | (simp_all; omega))
theorem and14_any (a b : Int) (w : World) : Calls Try.prog 11 #[.int .i64 a, .int .i64 b] w fun e w' => e = .returned (.int .i64 (andT a b)) ∧ w = w' := by
  unfold andT
  go_enter Try.func11, Try.ntmps11
  go_wp2
  all_goals go_ret
  all_goals (refine ⟨ret_intF ?_, rfl⟩; (repeat' split) <;> first | rfl | omega | (simp_all; done) | (simp_all; omega))
theorem or14_any (a b : Int) (w : World) : Calls Try.prog 13 #[.int .i64 a, .int .i64 b] w fun e w' => e = .returned (.int .i64 (orT a b)) ∧ w = w' := by
  unfold orT
  go_enter Try.func13, Try.ntmps13
  go_wp2
  all_goals go_ret
  all_goals (refine ⟨ret_intF ?_, rfl⟩; (repeat' split) <;> first | rfl | omega | (simp_all; done) | (simp_all; omega))
theorem neq_beq {a b : Int} (h : a ≠ b) : (a == b) = false := by rw [beq_eq_false_iff_ne]; exact h
set_option maxHeartbeats 1000000 in
theorem known14_any (f t : Int) (w : World) : Calls Try.prog 52 #[.int .i64 f, .int .i64 t] w fun e w' => e = .returned (.bool (knT f t)) ∧ w = w' := by
  have T : ∀ t : Int, t = 1 ∨ t = 2 ∨ (t ≠ 1 ∧ t ≠ 2) := by intro t; omega
  rcases (by omega : f = 1 ∨ f = 3 ∨ (f ≠ 1 ∧ f ≠ 3)) with rfl | rfl | ⟨f1, f3⟩
  · rcases T t with rfl | rfl | ⟨t1, t2⟩
    · go_enter Try.func52, Try.ntmps52
      go_wp2_with fail
      go_ret
      exact ⟨rfl, rfl⟩
    · go_enter Try.func52, Try.ntmps52
      go_wp2_with fail
      go_ret
      exact ⟨rfl, rfl⟩
    · have k : knT 1 t = false := by unfold knT; rw [if_pos (by omega)]; exact decide_eq_false (by omega)
      rw [k]
      have b1 := neq_beq t1
      have b2 := neq_beq t2
      go_enter Try.func52, Try.ntmps52
      go_wp2_with fail
      go_ret
      exact ⟨ret_bool (by simp), rfl⟩
  · rcases T t with rfl | rfl | ⟨t1, t2⟩
    · go_enter Try.func52, Try.ntmps52
      go_wp2_with fail
      go_ret
      exact ⟨rfl, rfl⟩
    · go_enter Try.func52, Try.ntmps52
      go_wp2_with fail
      go_ret
      exact ⟨rfl, rfl⟩
    · have k : knT 3 t = false := by unfold knT; rw [if_pos (by omega)]; exact decide_eq_false (by omega)
      rw [k]
      have b1 := neq_beq t1
      have b2 := neq_beq t2
      go_enter Try.func52, Try.ntmps52
      go_wp2_with fail
      go_ret
      exact ⟨ret_bool (by simp), rfl⟩
  · have k : knT f t = (t == 2) := by unfold knT; rw [if_neg (by omega)]; rfl
    rw [k]
    have b1 := neq_beq f1
    have b2 := neq_beq f3
    go_enter Try.func52, Try.ntmps52
    go_wp2_with fail
    go_ret
    exact ⟨rfl, rfl⟩

def c1T (x y : Int) : Int := if x < y then -1 else if y < x then 1 else 0
set_option maxRecDepth 100000 in
theorem cmp14_any (x y : Int) (w : World) : Calls Try.prog 92 #[.int .i64 x, .int .i64 y] w fun e w' => e = .returned (.int .i64 (c1T x y)) ∧ w = w' := by
  have N : ∀ (z : Int) (W : World), Calls Try.prog 98 #[.int .i64 z] W fun e w' => e = .returned (.bool false) ∧ W = w' := by
    intro z W
    go_enter Try.func98, Try.ntmps98
    go_wp2_with fail
    go_ret
    exact ⟨ret_bool (by simp), rfl⟩
  have NN := Lib.hid N
  clear N
  unfold c1T
  by_cases h1 : x < y
  · rw [if_pos h1]
    go_enter Try.func92, Try.ntmps92
    go_wp2_with (go_at_call 98; refine (NN.out _ _).mono ?_; rintro e w' ⟨rfl, rfl⟩)
    go_ret
    exact ⟨rfl, rfl⟩
  · rw [if_neg h1]
    by_cases h2 : y < x
    · rw [if_pos h2]
      go_enter Try.func92, Try.ntmps92
      go_wp2_with (go_at_call 98; refine (NN.out _ _).mono ?_; rintro e w' ⟨rfl, rfl⟩)
      go_ret
      exact ⟨rfl, rfl⟩
    · rw [if_neg h2]
      go_enter Try.func92, Try.ntmps92
      go_wp2_with (go_at_call 98; refine (NN.out _ _).mono ?_; rintro e w' ⟨rfl, rfl⟩)
      go_ret
      exact ⟨rfl, rfl⟩
theorem c1T_bd (x y : Int) : -1 ≤ c1T x y ∧ c1T x y ≤ 1 := by unfold c1T; split; omega; split <;> omega
theorem cmT_c1 (a op b : Int) : cmT a op b = (if op = 5 then decide (-(c1T a b) < 0) else if op = 1 then decide (c1T a b < 0) else if op = 4 then decide (-(c1T a b) ≤ 0) else if op = 2 then decide (c1T a b ≤ 0) else decide (c1T a b = 0)) := by
  unfold cmT
  (repeat' split) <;> apply dec_eq <;> unfold c1T <;> (repeat' split) <;> omega
set_option maxRecDepth 100000 in
set_option maxHeartbeats 1000000 in
theorem compares14_any (a op b : Int) (w : World) : Calls Try.prog 81 #[.int .i64 a, .int .i64 op, .int .i64 b] w fun e w' => e = .returned (.bool (cmT a op b)) ∧ w = w' := by
  rw [cmT_c1]
  have C := Lib.hid (fun W => cmp14_any a b W)
  obtain ⟨hc1, hc2⟩ := c1T_bd a b
  generalize c1T a b = c at *
  rcases (by omega : op = 5 ∨ op = 1 ∨ op = 4 ∨ op = 2 ∨ (op ≠ 5 ∧ op ≠ 1 ∧ op ≠ 4 ∧ op ≠ 2)) with rfl | rfl | rfl | rfl | ⟨n5, n1, n4, n2⟩
  · rw [if_pos rfl]
    go_enter Try.func81, Try.ntmps81
    go_wp2_with (go_at_call 92; refine (C.out _).mono ?_; rintro e w' ⟨rfl, rfl⟩)
    all_goals go_ret
    all_goals exact ⟨ret_bool (by first | rfl | (simp; done) | (simp; omega)), rfl⟩
  · rw [if_neg (by decide), if_pos rfl]
    go_enter Try.func81, Try.ntmps81
    go_wp2_with (go_at_call 92; refine (C.out _).mono ?_; rintro e w' ⟨rfl, rfl⟩)
    all_goals go_ret
    all_goals exact ⟨ret_bool (by first | rfl | (simp; done) | (simp; omega)), rfl⟩
  · rw [if_neg (by decide), if_neg (by decide), if_pos rfl]
    go_enter Try.func81, Try.ntmps81
    go_wp2_with (go_at_call 92; refine (C.out _).mono ?_; rintro e w' ⟨rfl, rfl⟩)
    all_goals go_ret
    all_goals exact ⟨ret_bool (by first | rfl | (simp; done) | (simp; omega)), rfl⟩
  · rw [if_neg (by decide), if_neg (by decide), if_neg (by decide), if_pos rfl]
    go_enter Try.func81, Try.ntmps81
    go_wp2_with (go_at_call 92; refine (C.out _).mono ?_; rintro e w' ⟨rfl, rfl⟩)
    all_goals go_ret
    all_goals exact ⟨ret_bool (by first | rfl | (simp; done) | (simp; omega)), rfl⟩
  · rw [if_neg n5, if_neg n1, if_neg n4, if_neg n2]
    have b5 := neq_beq n5
    have b1 := neq_beq n1
    have b4 := neq_beq n4
    have b2 := neq_beq n2
    clear n5 n1 n4 n2
    go_enter Try.func81, Try.ntmps81
    go_wp2_with (go_at_call 92; refine (C.out _).mono ?_; rintro e w' ⟨rfl, rfl⟩)
    all_goals go_ret
    all_goals exact ⟨ret_bool (by first | rfl | (simp; done) | (simp; omega)), rfl⟩
end Go.Proofs.Ytoaenlbbochjhaa

namespace Go.Proofs.Ytoaenlbbochjhaa
open Go.RowKit FixM FixP TreN QryP TruP
set_option linter.unusedVariables false

theorem ex_cells {w : World} {b : Nat} {T : TypeId} {c0 c1 c2 c3 : Value} (h : w.heap[b]? = some (.cells #[c0, c1, c2, c3] T (0, 0))) : w.cell? ⟨b, 0, none⟩ = some c0 ∧ w.cell? ⟨b, 1, none⟩ = some c1 ∧ w.cell? ⟨b, 2, none⟩ = some c2 ∧ w.cell? ⟨b, 3, none⟩ = some c3 := ⟨cell_of h rfl, cell_of h rfl, cell_of h rfl, cell_of h rfl⟩
theorem bd_cells {w : World} {b : Nat} {T : TypeId} {c0 c1 c2 : Value} (h : w.heap[b]? = some (.cells #[c0, c1, c2] T (0, 0))) : w.cell? ⟨b, 0, none⟩ = some c0 ∧ w.cell? ⟨b, 1, none⟩ = some c1 ∧ w.cell? ⟨b, 2, none⟩ = some c2 := ⟨cell_of h rfl, cell_of h rfl, cell_of h rfl⟩
theorem ret_pairT {a b c d : Int} (h1 : a = c) (h2 : b = d) : Ending.returned (.tuple #[.int .i64 a, .int .i64 b]) = .returned (.tuple #[.int .i64 c, .int .i64 d]) := by rw [h1, h2]
set_option maxRecDepth 100000 in
set_option maxHeartbeats 4000000 in
theorem some14_any (f t : Int) (nm : ByteArray) (ww hh : Int) (w : World) : Calls Try.prog 79 #[.int .i64 f, .agg #[.int .i64 t, .string nm, .int .i64 ww, .int .i64 hh]] w fun e w' => e = .returned (.bool (smT f ww hh)) ∧ Below w.heap.size w w' := by
  have HB := Lib.hid (below_oneT w (.cells #[.int .i64 t, .string nm, .int .i64 ww, .int .i64 hh] 31))
  have hx := heap_alloc_new w (.cells #[.int .i64 t, .string nm, .int .i64 ww, .int .i64 hh] 31)
  generalize hW : w.alloc (.cells #[.int .i64 t, .string nm, .int .i64 ww, .int .i64 hh] 31) = W at *
  obtain ⟨d0, d1, d2, d3⟩ := ex_cells hx
  clear hx
  unfold smT
  rcases (by omega : f = 1 ∨ f = 3 ∨ f = 2 ∨ f = 4 ∨ f = 5 ∨ (f ≠ 1 ∧ f ≠ 3 ∧ f ≠ 2 ∧ f ≠ 4 ∧ f ≠ 5)) with rfl | rfl | rfl | rfl | rfl | ⟨f1, f3, f2, f4, f5⟩
  · rw [if_pos (by decide)]
    go_enter Try.func79, Try.ntmps79
    go_wp2_with fail
    all_goals go_ret
    all_goals exact ⟨ret_bool (by first | rfl | (simp; done) | (simp_all; done)), HB.out⟩
  · rw [if_pos (by decide)]
    go_enter Try.func79, Try.ntmps79
    go_wp2_with fail
    all_goals go_ret
    all_goals exact ⟨ret_bool (by first | rfl | (simp; done) | (simp_all; done)), HB.out⟩
  · rw [if_neg (by decide), if_pos (by decide)]
    go_enter Try.func79, Try.ntmps79
    go_wp2_with fail
    all_goals go_ret
    all_goals exact ⟨ret_bool (by first | rfl | (simp; done) | (simp_all; done)), HB.out⟩
  · rw [if_neg (by decide), if_pos (by decide)]
    go_enter Try.func79, Try.ntmps79
    go_wp2_with fail
    all_goals go_ret
    all_goals exact ⟨ret_bool (by first | rfl | (simp; done) | (simp_all; done)), HB.out⟩
  · rw [if_neg (by decide), if_neg (by decide), if_pos rfl]
    rcases Decidable.em (ww = 0) with w0 | w0
    · subst w0
      go_enter Try.func79, Try.ntmps79
      go_wp2_with fail
      all_goals go_ret
      all_goals exact ⟨ret_bool (by first | rfl | (simp; done) | (simp_all; done)), HB.out⟩
    · have bw := neq_beq w0
      have bw2 : (ww != 0) = true := by rw [bne, bw]; rfl
      rw [bw2, Bool.true_and]
      go_enter Try.func79, Try.ntmps79
      go_wp2_with fail
      all_goals go_ret
      all_goals exact ⟨ret_bool (by first | rfl | (simp; done) | (simp_all; done)), HB.out⟩
  · rw [if_neg (by omega), if_neg (by omega), if_neg f5]
    have b1 := neq_beq f1
    have b3 := neq_beq f3
    have b2 := neq_beq f2
    have b4 := neq_beq f4
    have b5 := neq_beq f5
    clear f1 f3 f2 f4 f5
    go_enter Try.func79, Try.ntmps79
    go_wp2_with fail
    all_goals go_ret
    all_goals exact ⟨ret_bool (by first | rfl | (simp; done) | (simp_all; done)), HB.out⟩

set_option maxRecDepth 100000 in
set_option maxHeartbeats 1000000 in
theorem there14_any (a1 a2 a3 : Int) (w : World) : Calls Try.prog 78 #[.agg #[.int .i64 a1, .int .i64 a2, .int .i64 a3]] w fun e w' => e = .returned (.bool (thrB ⟨a1, a2, a3⟩)) ∧ Below w.heap.size w w' := by
  have HB := Lib.hid (below_oneQ w (.cells #[.int .i64 a1, .int .i64 a2, .int .i64 a3] 37))
  have EQ := fun W => bd_neq a1 a2 a3 W
  obtain ⟨t, ht⟩ : ∃ t, thrB ⟨a1, a2, a3⟩ = t := ⟨_, rfl⟩
  rw [ht] at EQ ⊢
  clear ht
  go_enter Try.func78, Try.ntmps78
  go_wp2_with fail
  go_ret
  exact ⟨rfl, HB.out⟩
theorem prodT {a b : Int} (ha : -1073741824 ≤ a ∧ a ≤ 1073741824) (hb : -1073741824 ≤ b ∧ b ≤ 1073741824) : -1152921504606846976 ≤ a * b ∧ a * b ≤ 1152921504606846976 := by
  have h := Nat.mul_le_mul (show a.natAbs ≤ 1073741824 by omega) (show b.natAbs ≤ 1073741824 by omega)
  rw [← Int.natAbs_mul] at h
  omega
set_option maxRecDepth 100000 in
set_option maxHeartbeats 4000000 in
theorem sides14_any (f op n d t : Int) (nm : ByteArray) (ww hh : Int) (w : World) (hw : -1073741824 ≤ ww ∧ ww ≤ 1073741824) (hh' : -1073741824 ≤ hh ∧ hh ≤ 1073741824) (hp : f = 5 → (-1073741824 ≤ n ∧ n ≤ 1073741824) ∧ (-1073741824 ≤ d ∧ d ≤ 1073741824)) :
    Calls Try.prog 80 #[.int .i64 f, .agg #[.int .i64 op, .int .i64 n, .int .i64 d], .agg #[.int .i64 t, .string nm, .int .i64 ww, .int .i64 hh]] w fun e w' => e = .returned (.tuple #[.int .i64 (sdA f ⟨op, n, d⟩ ww hh), .int .i64 (sdB f ⟨op, n, d⟩ ww hh)]) ∧ Below w.heap.size w w' := by
  have HB1 := below_oneT w (.cells #[.int .i64 op, .int .i64 n, .int .i64 d] 37)
  have hx1 := heap_alloc_new w (.cells #[.int .i64 op, .int .i64 n, .int .i64 d] 37)
  generalize hW1 : w.alloc (.cells #[.int .i64 op, .int .i64 n, .int .i64 d] 37) = W1 at *
  have HB2 := below_oneT W1 (.cells #[.int .i64 t, .string nm, .int .i64 ww, .int .i64 hh] 31)
  have hx2 := heap_alloc_new W1 (.cells #[.int .i64 t, .string nm, .int .i64 ww, .int .i64 hh] 31)
  have hb := (HB2.block _ (blk_ltQ hx1)).trans hx1
  have HB := Lib.hid (HB1.trans (HB2.mono HB1.size))
  generalize hW : W1.alloc (.cells #[.int .i64 t, .string nm, .int .i64 ww, .int .i64 hh] 31) = W at *
  obtain ⟨d0, d1, d2, d3⟩ := ex_cells hx2
  obtain ⟨g0, g1, g2⟩ := bd_cells hb
  clear hx1 hx2 hb HB1 HB2
  have PX0 := fun W => Px_any n W
  obtain ⟨px, hpx⟩ : ∃ px, PT n 64 1000 = px := ⟨_, rfl⟩
  rw [hpx] at PX0
  have PX := Lib.hid PX0
  clear PX0
  go_enter Try.func80, Try.ntmps80
  go_wp2_with fail
  go_quiet (fail)
  rcases (by omega : f = 1 ∨ f = 3 ∨ f = 2 ∨ f = 4 ∨ f = 5 ∨ (f ≠ 1 ∧ f ≠ 3 ∧ f ≠ 2 ∧ f ≠ 4 ∧ f ≠ 5)) with rfl | rfl | rfl | rfl | rfl | ⟨f1, f3, f2, f4, f5⟩
  · clear hp
    have eA : sdA 1 ⟨op, n, d⟩ ww hh = ww := by unfold sdA; rw [if_pos (by decide)]
    have eB : sdB 1 ⟨op, n, d⟩ ww hh = PT n 64 1000 := by unfold sdB; rw [if_pos (by decide)]
    rw [hpx] at eB
    go_wp2_with (go_at_call 91; refine (PX.out _).mono ?_; rintro e w' ⟨rfl, rfl⟩)
    all_goals go_ret2
    all_goals exact ⟨ret_pairT (by first | exact eA.symm | rfl) (by first | exact eB.symm | rfl), HB.out.trans (below_drewQ (Below.refl _ _) _)⟩
  · clear hp
    have eA : sdA 3 ⟨op, n, d⟩ ww hh = ww := by unfold sdA; rw [if_pos (by decide)]
    have eB : sdB 3 ⟨op, n, d⟩ ww hh = PT n 64 1000 := by unfold sdB; rw [if_pos (by decide)]
    rw [hpx] at eB
    go_wp2_with (go_at_call 91; refine (PX.out _).mono ?_; rintro e w' ⟨rfl, rfl⟩)
    all_goals go_ret2
    all_goals exact ⟨ret_pairT (by first | exact eA.symm | rfl) (by first | exact eB.symm | rfl), HB.out.trans (below_drewQ (Below.refl _ _) _)⟩
  · clear hp
    have eA : sdA 2 ⟨op, n, d⟩ ww hh = hh := by unfold sdA; rw [if_neg (by decide), if_pos (by decide)]
    have eB : sdB 2 ⟨op, n, d⟩ ww hh = PT n 64 1000 := by unfold sdB; rw [if_neg (by decide), if_pos (by decide)]
    rw [hpx] at eB
    go_wp2_with (go_at_call 91; refine (PX.out _).mono ?_; rintro e w' ⟨rfl, rfl⟩)
    all_goals go_ret2
    all_goals exact ⟨ret_pairT (by first | exact eA.symm | rfl) (by first | exact eB.symm | rfl), HB.out.trans (below_drewQ (Below.refl _ _) _)⟩
  · clear hp
    have eA : sdA 4 ⟨op, n, d⟩ ww hh = hh := by unfold sdA; rw [if_neg (by decide), if_pos (by decide)]
    have eB : sdB 4 ⟨op, n, d⟩ ww hh = PT n 64 1000 := by unfold sdB; rw [if_neg (by decide), if_pos (by decide)]
    rw [hpx] at eB
    go_wp2_with (go_at_call 91; refine (PX.out _).mono ?_; rintro e w' ⟨rfl, rfl⟩)
    all_goals go_ret2
    all_goals exact ⟨ret_pairT (by first | exact eA.symm | rfl) (by first | exact eB.symm | rfl), HB.out.trans (below_drewQ (Below.refl _ _) _)⟩
  · obtain ⟨hn, hd⟩ := hp rfl
    have p1 := prodT hw hd
    have p2 := prodT hn hh'
    have eA : sdA 5 ⟨op, n, d⟩ ww hh = ww * d := by unfold sdA; rw [if_neg (by decide), if_neg (by decide), if_pos rfl]
    have eB : sdB 5 ⟨op, n, d⟩ ww hh = n * hh := by unfold sdB; rw [if_neg (by decide), if_neg (by decide), if_pos rfl]
    clear hp
    go_wp2_with (go_at_call 91; refine (PX.out _).mono ?_; rintro e w' ⟨rfl, rfl⟩)
    all_goals go_ret2
    all_goals exact ⟨ret_pairT (by first | exact eA.symm | rfl) (by first | exact eB.symm | rfl), HB.out.trans (below_drewQ (Below.refl _ _) _)⟩
  · have eA : sdA f ⟨op, n, d⟩ ww hh = if ww ≤ hh then 1 else 2 := by unfold sdA; rw [if_neg (by omega), if_neg (by omega), if_neg f5]
    have eB : sdB f ⟨op, n, d⟩ ww hh = n := by unfold sdB; rw [if_neg (by omega), if_neg (by omega), if_neg f5]
    have b1 := neq_beq f1
    have b3 := neq_beq f3
    have b2 := neq_beq f2
    have b4 := neq_beq f4
    have b5 := neq_beq f5
    clear f1 f3 f2 f4 f5 hp
    by_cases hc : ww ≤ hh
    · rw [if_pos hc] at eA
      go_wp2_with (go_at_call 91; refine (PX.out _).mono ?_; rintro e w' ⟨rfl, rfl⟩)
      all_goals go_ret2
      all_goals exact ⟨ret_pairT (by first | exact eA.symm | rfl) (by first | exact eB.symm | rfl), HB.out.trans (below_drewQ (Below.refl _ _) _)⟩
    · rw [if_neg hc] at eA
      go_wp2_with (go_at_call 91; refine (PX.out _).mono ?_; rintro e w' ⟨rfl, rfl⟩)
      all_goals go_ret2
      all_goals exact ⟨ret_pairT (by first | exact eA.symm | rfl) (by first | exact eB.symm | rfl), HB.out.trans (below_drewQ (Below.refl _ _) _)⟩
set_option maxRecDepth 100000 in
set_option maxHeartbeats 8000000 in
theorem bounded14_any (k c f a1 a2 a3 b1 b2 b3 t : Int) (nm : ByteArray) (ww hh : Int) (w : World) (hw : -1073741824 ≤ ww ∧ ww ≤ 1073741824) (hh' : -1073741824 ≤ hh ∧ hh ≤ 1073741824)
    (hpl : f = 5 → (-1073741824 ≤ a2 ∧ a2 ≤ 1073741824) ∧ (-1073741824 ≤ a3 ∧ a3 ≤ 1073741824)) (hph : f = 5 → (-1073741824 ≤ b2 ∧ b2 ≤ 1073741824) ∧ (-1073741824 ≤ b3 ∧ b3 ≤ 1073741824)) :
    Calls Try.prog 53 #[.agg #[.int .i64 k, .int .i64 c, .int .i64 f, .int .i64 a1, .int .i64 a2, .int .i64 a3, .int .i64 b1, .int .i64 b2, .int .i64 b3], .agg #[.int .i64 t, .string nm, .int .i64 ww, .int .i64 hh]] w fun e w' => e = .returned (.bool (bnT ⟨k, c, f, ⟨a1, a2, a3⟩, ⟨b1, b2, b3⟩⟩ ww hh)) ∧ Below w.heap.size w w' := by
  have HB1 := below_oneT w (.cells #[.int .i64 k, .int .i64 c, .int .i64 f, .int .i64 a1, .int .i64 a2, .int .i64 a3, .int .i64 b1, .int .i64 b2, .int .i64 b3] 39)
  have hx1 := heap_alloc_new w (.cells #[.int .i64 k, .int .i64 c, .int .i64 f, .int .i64 a1, .int .i64 a2, .int .i64 a3, .int .i64 b1, .int .i64 b2, .int .i64 b3] 39)
  generalize hW1 : w.alloc (.cells #[.int .i64 k, .int .i64 c, .int .i64 f, .int .i64 a1, .int .i64 a2, .int .i64 a3, .int .i64 b1, .int .i64 b2, .int .i64 b3] 39) = W1 at *
  have HB2 := below_oneT W1 (.cells #[.int .i64 t, .string nm, .int .i64 ww, .int .i64 hh] 31)
  have hx2 := heap_alloc_new W1 (.cells #[.int .i64 t, .string nm, .int .i64 ww, .int .i64 hh] 31)
  have hx1' := (HB2.block _ (blk_ltQ hx1)).trans hx1
  have HB0 := Lib.hid (HB1.trans (HB2.mono HB1.size))
  generalize hW : W1.alloc (.cells #[.int .i64 t, .string nm, .int .i64 ww, .int .i64 hh] 31) = W at *
  have HX0 := Lib.hid hx1'
  have HY0 := Lib.hid hx2
  obtain ⟨e0, e1, e2, e3⟩ := ex_cells hx2
  obtain ⟨d0, d1, d2, d3, d4, d5, d6, d7, d8⟩ := qn_cells hx1'
  clear hx1 hx2 hx1' HB1 HB2
  have TH := Lib.hid (fun W => there14_any b1 b2 b3 W)
  have TL := Lib.hid (fun W => there14_any a1 a2 a3 W)
  have SM := Lib.hid (fun W => some14_any f t nm ww hh W)
  have SH := fun W => sides14_any f b1 b2 b3 t nm ww hh W hw hh' hph
  have SL := fun W => sides14_any f a1 a2 a3 t nm ww hh W hw hh' hpl
  have CH := fun W => compares14_any (sdA f ⟨b1, b2, b3⟩ ww hh) b1 (sdB f ⟨b1, b2, b3⟩ ww hh) W
  have CL := fun W => compares14_any (sdB f ⟨a1, a2, a3⟩ ww hh) a1 (sdA f ⟨a1, a2, a3⟩ ww hh) W
  unfold bnT
  simp only []
  generalize cmT (sdA f ⟨b1, b2, b3⟩ ww hh) b1 (sdB f ⟨b1, b2, b3⟩ ww hh) = ch at *
  generalize cmT (sdB f ⟨a1, a2, a3⟩ ww hh) a1 (sdA f ⟨a1, a2, a3⟩ ww hh) = cl at *
  generalize sdA f ⟨b1, b2, b3⟩ ww hh = xa at *
  generalize sdB f ⟨b1, b2, b3⟩ ww hh = xb at *
  generalize sdA f ⟨a1, a2, a3⟩ ww hh = ya at *
  generalize sdB f ⟨a1, a2, a3⟩ ww hh = yb at *
  generalize smT f ww hh = sm at *
  generalize thrB ⟨b1, b2, b3⟩ = th at *
  generalize thrB ⟨a1, a2, a3⟩ = tl at *
  have SHH := Lib.hid SH
  have SLL := Lib.hid SL
  have CHH := Lib.hid CH
  have CLL := Lib.hid CL
  clear SH SL CH CL hpl hph hw hh'
  cases th
  · rw [if_neg (by decide)]
    go_enter Try.func53, Try.ntmps53
    go_wp2_with fail
    refine (TH.out _).mono ?_
    rintro e w1 ⟨rfl, hb⟩
    have hx := (hb.block _ (blk_ltQ HX0.out)).trans HX0.out
    have hy := (hb.block _ (blk_ltQ HY0.out)).trans HY0.out
    have HB1 := Lib.hid (HB0.out.trans (hb.mono HB0.out.size))
    have HX1 := Lib.hid hx
    have HY1 := Lib.hid hy
    obtain ⟨e0, e1, e2, e3⟩ := ex_cells hy
    obtain ⟨d0, d1, d2, d3, d4, d5, d6, d7, d8⟩ := qn_cells hx
    clear hb hx hy
    go_wp2_with fail
    refine (SM.out _).mono ?_
    rintro e w2 ⟨rfl, hb⟩
    have hx := (hb.block _ (blk_ltQ HX1.out)).trans HX1.out
    have hy := (hb.block _ (blk_ltQ HY1.out)).trans HY1.out
    have HB2 := Lib.hid (HB1.out.trans (hb.mono HB1.out.size))
    have HX2 := Lib.hid hx
    have HY2 := Lib.hid hy
    obtain ⟨e0, e1, e2, e3⟩ := ex_cells hy
    obtain ⟨d0, d1, d2, d3, d4, d5, d6, d7, d8⟩ := qn_cells hx
    clear hb hx hy
    go_wp2_with fail
    go_ret
    refine ⟨ret_bool ?_, HB2.out⟩
    first | rfl | (simp; done)
  · rw [if_pos rfl]
    cases tl
    · rw [Bool.not_false, Bool.true_or, Bool.and_true]
      go_enter Try.func53, Try.ntmps53
      go_wp2_with fail
      refine (TH.out _).mono ?_
      rintro e w1 ⟨rfl, hb⟩
      have hx := (hb.block _ (blk_ltQ HX0.out)).trans HX0.out
      have hy := (hb.block _ (blk_ltQ HY0.out)).trans HY0.out
      have HB1 := Lib.hid (HB0.out.trans (hb.mono HB0.out.size))
      have HX1 := Lib.hid hx
      have HY1 := Lib.hid hy
      obtain ⟨e0, e1, e2, e3⟩ := ex_cells hy
      obtain ⟨d0, d1, d2, d3, d4, d5, d6, d7, d8⟩ := qn_cells hx
      clear hb hx hy
      go_wp2_with fail
      refine (SHH.out _).mono ?_
      rintro e w2 ⟨rfl, hb⟩
      have hx := (hb.block _ (blk_ltQ HX1.out)).trans HX1.out
      have hy := (hb.block _ (blk_ltQ HY1.out)).trans HY1.out
      have HB2 := Lib.hid (HB1.out.trans (hb.mono HB1.out.size))
      have HX2 := Lib.hid hx
      have HY2 := Lib.hid hy
      obtain ⟨e0, e1, e2, e3⟩ := ex_cells hy
      obtain ⟨d0, d1, d2, d3, d4, d5, d6, d7, d8⟩ := qn_cells hx
      clear hb hx hy
      go_wp2_with fail
      refine (CHH.out _).mono ?_
      rintro e wq ⟨rfl, rfl⟩
      go_wp2_with fail
      refine (TL.out _).mono ?_
      rintro e w3 ⟨rfl, hb⟩
      have hx := (hb.block _ (blk_ltQ HX2.out)).trans HX2.out
      have hy := (hb.block _ (blk_ltQ HY2.out)).trans HY2.out
      have HB3 := Lib.hid (HB2.out.trans (hb.mono HB2.out.size))
      have HX3 := Lib.hid hx
      have HY3 := Lib.hid hy
      obtain ⟨e0, e1, e2, e3⟩ := ex_cells hy
      obtain ⟨d0, d1, d2, d3, d4, d5, d6, d7, d8⟩ := qn_cells hx
      clear hb hx hy
      go_wp2_with fail
      go_ret
      refine ⟨ret_bool ?_, HB3.out⟩
      first | rfl | (simp; done)
    · rw [Bool.not_true, Bool.false_or]
      cases ch
      · rw [Bool.false_and]
        go_enter Try.func53, Try.ntmps53
        go_wp2_with fail
        refine (TH.out _).mono ?_
        rintro e w1 ⟨rfl, hb⟩
        have hx := (hb.block _ (blk_ltQ HX0.out)).trans HX0.out
        have hy := (hb.block _ (blk_ltQ HY0.out)).trans HY0.out
        have HB1 := Lib.hid (HB0.out.trans (hb.mono HB0.out.size))
        have HX1 := Lib.hid hx
        have HY1 := Lib.hid hy
        obtain ⟨e0, e1, e2, e3⟩ := ex_cells hy
        obtain ⟨d0, d1, d2, d3, d4, d5, d6, d7, d8⟩ := qn_cells hx
        clear hb hx hy
        go_wp2_with fail
        refine (SHH.out _).mono ?_
        rintro e w2 ⟨rfl, hb⟩
        have hx := (hb.block _ (blk_ltQ HX1.out)).trans HX1.out
        have hy := (hb.block _ (blk_ltQ HY1.out)).trans HY1.out
        have HB2 := Lib.hid (HB1.out.trans (hb.mono HB1.out.size))
        have HX2 := Lib.hid hx
        have HY2 := Lib.hid hy
        obtain ⟨e0, e1, e2, e3⟩ := ex_cells hy
        obtain ⟨d0, d1, d2, d3, d4, d5, d6, d7, d8⟩ := qn_cells hx
        clear hb hx hy
        go_wp2_with fail
        refine (CHH.out _).mono ?_
        rintro e wq ⟨rfl, rfl⟩
        go_wp2_with fail
        refine (TL.out _).mono ?_
        rintro e w3 ⟨rfl, hb⟩
        have hx := (hb.block _ (blk_ltQ HX2.out)).trans HX2.out
        have hy := (hb.block _ (blk_ltQ HY2.out)).trans HY2.out
        have HB3 := Lib.hid (HB2.out.trans (hb.mono HB2.out.size))
        have HX3 := Lib.hid hx
        have HY3 := Lib.hid hy
        obtain ⟨e0, e1, e2, e3⟩ := ex_cells hy
        obtain ⟨d0, d1, d2, d3, d4, d5, d6, d7, d8⟩ := qn_cells hx
        clear hb hx hy
        go_wp2_with fail
        refine (SLL.out _).mono ?_
        rintro e w4 ⟨rfl, hb⟩
        have hx := (hb.block _ (blk_ltQ HX3.out)).trans HX3.out
        have hy := (hb.block _ (blk_ltQ HY3.out)).trans HY3.out
        have HB4 := Lib.hid (HB3.out.trans (hb.mono HB3.out.size))
        have HX4 := Lib.hid hx
        have HY4 := Lib.hid hy
        obtain ⟨e0, e1, e2, e3⟩ := ex_cells hy
        obtain ⟨d0, d1, d2, d3, d4, d5, d6, d7, d8⟩ := qn_cells hx
        clear hb hx hy
        go_wp2_with fail
        go_ret
        refine ⟨ret_bool ?_, HB4.out⟩
        first | rfl | (simp; done)
      · rw [Bool.true_and]
        go_enter Try.func53, Try.ntmps53
        go_wp2_with fail
        refine (TH.out _).mono ?_
        rintro e w1 ⟨rfl, hb⟩
        have hx := (hb.block _ (blk_ltQ HX0.out)).trans HX0.out
        have hy := (hb.block _ (blk_ltQ HY0.out)).trans HY0.out
        have HB1 := Lib.hid (HB0.out.trans (hb.mono HB0.out.size))
        have HX1 := Lib.hid hx
        have HY1 := Lib.hid hy
        obtain ⟨e0, e1, e2, e3⟩ := ex_cells hy
        obtain ⟨d0, d1, d2, d3, d4, d5, d6, d7, d8⟩ := qn_cells hx
        clear hb hx hy
        go_wp2_with fail
        refine (SHH.out _).mono ?_
        rintro e w2 ⟨rfl, hb⟩
        have hx := (hb.block _ (blk_ltQ HX1.out)).trans HX1.out
        have hy := (hb.block _ (blk_ltQ HY1.out)).trans HY1.out
        have HB2 := Lib.hid (HB1.out.trans (hb.mono HB1.out.size))
        have HX2 := Lib.hid hx
        have HY2 := Lib.hid hy
        obtain ⟨e0, e1, e2, e3⟩ := ex_cells hy
        obtain ⟨d0, d1, d2, d3, d4, d5, d6, d7, d8⟩ := qn_cells hx
        clear hb hx hy
        go_wp2_with fail
        refine (CHH.out _).mono ?_
        rintro e wq ⟨rfl, rfl⟩
        go_wp2_with fail
        refine (TL.out _).mono ?_
        rintro e w3 ⟨rfl, hb⟩
        have hx := (hb.block _ (blk_ltQ HX2.out)).trans HX2.out
        have hy := (hb.block _ (blk_ltQ HY2.out)).trans HY2.out
        have HB3 := Lib.hid (HB2.out.trans (hb.mono HB2.out.size))
        have HX3 := Lib.hid hx
        have HY3 := Lib.hid hy
        obtain ⟨e0, e1, e2, e3⟩ := ex_cells hy
        obtain ⟨d0, d1, d2, d3, d4, d5, d6, d7, d8⟩ := qn_cells hx
        clear hb hx hy
        go_wp2_with fail
        refine (SLL.out _).mono ?_
        rintro e w4 ⟨rfl, hb⟩
        have hx := (hb.block _ (blk_ltQ HX3.out)).trans HX3.out
        have hy := (hb.block _ (blk_ltQ HY3.out)).trans HY3.out
        have HB4 := Lib.hid (HB3.out.trans (hb.mono HB3.out.size))
        have HX4 := Lib.hid hx
        have HY4 := Lib.hid hy
        obtain ⟨e0, e1, e2, e3⟩ := ex_cells hy
        obtain ⟨d0, d1, d2, d3, d4, d5, d6, d7, d8⟩ := qn_cells hx
        clear hb hx hy
        go_wp2_with fail
        refine (CLL.out _).mono ?_
        rintro e wq ⟨rfl, rfl⟩
        go_wp2_with fail
        go_ret
        refine ⟨ret_bool ?_, HB4.out⟩
        first | rfl | (simp; done)
set_option maxRecDepth 100000 in
set_option maxHeartbeats 8000000 in
theorem feature14_any (k c f a1 a2 a3 b1 b2 b3 t : Int) (nm : ByteArray) (ww hh : Int) (w : World) (hw : -1073741824 ≤ ww ∧ ww ≤ 1073741824) (hh' : -1073741824 ≤ hh ∧ hh ≤ 1073741824)
    (hpl : f = 5 → (-1073741824 ≤ a2 ∧ a2 ≤ 1073741824) ∧ (-1073741824 ≤ a3 ∧ a3 ≤ 1073741824)) (hph : f = 5 → (-1073741824 ≤ b2 ∧ b2 ≤ 1073741824) ∧ (-1073741824 ≤ b3 ∧ b3 ≤ 1073741824)) :
    Calls Try.prog 38 #[.agg #[.int .i64 k, .int .i64 c, .int .i64 f, .int .i64 a1, .int .i64 a2, .int .i64 a3, .int .i64 b1, .int .i64 b2, .int .i64 b3], .agg #[.int .i64 t, .string nm, .int .i64 ww, .int .i64 hh]] w fun e w' => e = .returned (.int .i64 (ftT t ww hh ⟨k, c, f, ⟨a1, a2, a3⟩, ⟨b1, b2, b3⟩⟩)) ∧ Below w.heap.size w w' := by
  have HB1 := below_oneT w (.cells #[.int .i64 k, .int .i64 c, .int .i64 f, .int .i64 a1, .int .i64 a2, .int .i64 a3, .int .i64 b1, .int .i64 b2, .int .i64 b3] 39)
  have hx1 := heap_alloc_new w (.cells #[.int .i64 k, .int .i64 c, .int .i64 f, .int .i64 a1, .int .i64 a2, .int .i64 a3, .int .i64 b1, .int .i64 b2, .int .i64 b3] 39)
  generalize hW1 : w.alloc (.cells #[.int .i64 k, .int .i64 c, .int .i64 f, .int .i64 a1, .int .i64 a2, .int .i64 a3, .int .i64 b1, .int .i64 b2, .int .i64 b3] 39) = W1 at *
  have HB2 := below_oneT W1 (.cells #[.int .i64 t, .string nm, .int .i64 ww, .int .i64 hh] 31)
  have hx2 := heap_alloc_new W1 (.cells #[.int .i64 t, .string nm, .int .i64 ww, .int .i64 hh] 31)
  have hx1' := (HB2.block _ (blk_ltQ hx1)).trans hx1
  have HB0 := Lib.hid (HB1.trans (HB2.mono HB1.size))
  generalize hW : W1.alloc (.cells #[.int .i64 t, .string nm, .int .i64 ww, .int .i64 hh] 31) = W at *
  have HX0 := Lib.hid hx1'
  have HY0 := Lib.hid hx2
  obtain ⟨e0, e1, e2, e3⟩ := ex_cells hx2
  obtain ⟨d0, d1, d2, d3, d4, d5, d6, d7, d8⟩ := qn_cells hx1'
  clear hx1 hx2 hx1' HB1 HB2
  have KN := Lib.hid (fun W => known14_any f t W)
  have BN := Lib.hid (fun W => bounded14_any k c f a1 a2 a3 b1 b2 b3 t nm ww hh W hw hh' hpl hph)
  unfold ftT
  simp only []
  generalize knT f t = kn at *
  generalize bnT ⟨k, c, f, ⟨a1, a2, a3⟩, ⟨b1, b2, b3⟩⟩ ww hh = bn at *
  clear hpl hph hw hh'
  cases kn
  · rw [if_neg (by decide)]
    go_enter Try.func38, Try.ntmps38
    go_wp2_with fail
    refine (KN.out _).mono ?_
    rintro e wq ⟨rfl, rfl⟩
    go_wp2_with fail
    go_ret
    refine ⟨ret_intF ?_, HB0.out⟩
    first | rfl | (simp; done)
  · rw [if_pos rfl]
    cases bn
    · rw [if_neg (by decide)]
      go_enter Try.func38, Try.ntmps38
      go_wp2_with fail
      refine (KN.out _).mono ?_
      rintro e wq ⟨rfl, rfl⟩
      go_wp2_with fail
      refine (BN.out _).mono ?_
      rintro e w1 ⟨rfl, hb⟩
      have hx := (hb.block _ (blk_ltQ HX0.out)).trans HX0.out
      have hy := (hb.block _ (blk_ltQ HY0.out)).trans HY0.out
      have HB1 := Lib.hid (HB0.out.trans (hb.mono HB0.out.size))
      have HX1 := Lib.hid hx
      have HY1 := Lib.hid hy
      obtain ⟨e0, e1, e2, e3⟩ := ex_cells hy
      obtain ⟨d0, d1, d2, d3, d4, d5, d6, d7, d8⟩ := qn_cells hx
      clear hb hx hy
      go_wp2_with fail
      go_ret
      refine ⟨ret_intF ?_, HB1.out⟩
      first | rfl | (simp; done)
    · rw [if_pos rfl]
      go_enter Try.func38, Try.ntmps38
      go_wp2_with fail
      refine (KN.out _).mono ?_
      rintro e wq ⟨rfl, rfl⟩
      go_wp2_with fail
      refine (BN.out _).mono ?_
      rintro e w1 ⟨rfl, hb⟩
      have hx := (hb.block _ (blk_ltQ HX0.out)).trans HX0.out
      have hy := (hb.block _ (blk_ltQ HY0.out)).trans HY0.out
      have HB1 := Lib.hid (HB0.out.trans (hb.mono HB0.out.size))
      have HX1 := Lib.hid hx
      have HY1 := Lib.hid hy
      obtain ⟨e0, e1, e2, e3⟩ := ex_cells hy
      obtain ⟨d0, d1, d2, d3, d4, d5, d6, d7, d8⟩ := qn_cells hx
      clear hb hx hy
      go_wp2_with fail
      go_ret
      refine ⟨ret_intF ?_, HB1.out⟩
      first | rfl | (simp; done)
end Go.Proofs.Ytoaenlbbochjhaa

namespace Go.Proofs.Ytoaenlbbochjhaa
open Go.RowKit FixM FixP TreN QryP TruP
set_option linter.unusedVariables false

@[reducible] def exA (t : Int) (nm : ByteArray) (ww hh : Int) : Array Value := #[.int .i64 t, .string nm, .int .i64 ww, .int .i64 hh]
set_option maxRecDepth 100000 in
set_option maxHeartbeats 8000000 in
theorem joined14_any (q : Nat) (op : Int → Int → Int) (eq : ∀ args w, (callFunc q args).run Try.prog w = .ok (.enter q args) w)
    (hop : ∀ x y W, Calls Try.prog q #[.int .i64 x, .int .i64 y] W fun e w' => e = .returned (.int .i64 (op x y)) ∧ W = w')
    (s : ByteArray) (a : Option Addr) (L : List QN) (n c i0 cnt m0 : Nat) (x0 : QN) (F : QN → Int) (t : Int) (nm : ByteArray) (ww hh z : Int) (w : World) (hn : L.length = n) (hm : n ≤ 32) (hi : i0 < L.length) (hx0 : L[i0] = x0) (hcn : x0.count = (cnt : Int)) (hQ : Qns w a L)
    (hk : eat (L.drop (i0 + 1)) cnt = some m0)
    (hsay : ∀ (k : Nat) (W : World), i0 < k → k < n → (∃ j, eat (L.drop k) 1 = some j) → Below w.heap.size w W → Calls Try.prog 23 #[.agg #[.string s, .slice a n c], .int .i64 (k : Int), .agg (exA t nm ww hh)] W fun e w' => e = .returned (.int .i64 (evL F (L.drop k))) ∧ Below W.heap.size W w') :
    Calls Try.prog 37 #[.agg #[.string s, .slice a n c], .int .i64 (i0 : Int), .agg (exA t nm ww hh), .int .i64 z, .func (.func q) #[] #[]] w fun e w' => e = .returned (.int .i64 (jnG (evL F) op cnt (L.drop (i0 + 1)) z)) ∧ Below w.heap.size w w' := by
  unfold exA at *
  have HB1 := below_oneT w (.cells #[.string s, .slice a n c] 29)
  have hx1 := heap_alloc_new w (.cells #[.string s, .slice a n c] 29)
  generalize hW1 : w.alloc (.cells #[.string s, .slice a n c] 29) = W1 at *
  have HB2 := below_oneT W1 (.cells #[.int .i64 t, .string nm, .int .i64 ww, .int .i64 hh] 31)
  have hx2 := heap_alloc_new W1 (.cells #[.int .i64 t, .string nm, .int .i64 ww, .int .i64 hh] 31)
  have hx1' := (HB2.block _ (blk_ltQ hx1)).trans hx1
  have HB0 := Lib.hid (HB1.trans (HB2.mono HB1.size))
  generalize hW : W1.alloc (.cells #[.int .i64 t, .string nm, .int .i64 ww, .int .i64 hh] 31) = W at *
  have HX0 := Lib.hid hx1'
  have HY0 := Lib.hid hx2
  obtain ⟨q0, q1⟩ := q_cells hx1'
  obtain ⟨e0, e1, e2, e3⟩ := ex_cells hx2
  obtain ⟨b, o, rfl, hbw, hc⟩ := hQ.get hi
  rw [hx0] at hc
  have hcr := (hc.below HB0.out hbw).c1
  rw [hcn] at hcr
  have hle := eat_le _ _ _ hk
  rw [List.length_drop] at hle
  have hi0z : (0 : Int) ≤ (i0 : Int) := by omega
  have hi1z : (i0 : Int) < (n : Int) := by omega
  have hcb : cnt ≤ 32 := by omega
  have hin : i0 < n := by omega
  have HN := Lib.hid hn
  have HSY := Lib.hid hsay
  have HOP := Lib.hid hop
  have SPN := Lib.hid (fun (k : Nat) W (hk : k < n) (hW : Below w.heap.size w W) => Span8_nat s (some ⟨b, o, none⟩) L n c k W hn (by omega) (by omega) (hQ.below hW))
  obtain ⟨R, hR⟩ : ∃ R, jnG (evL F) op cnt (L.drop (i0 + 1)) z = R := ⟨_, rfl⟩
  have HR := Lib.hid hR
  rw [hR]
  have HK := Lib.hid hk
  clear hx1 hx2 hx1' HB1 HB2 hc hx0 hcn hn hsay hop hR hk hbw
  clear hle hi hQ
  go_enter Try.func37, Try.ntmps37
  go_wp2_with fail
  go_loopw [3, 11, 20] (fun va vk vj wr => ∃ (j k : Nat) (v : Int), va = .int .i64 v ∧ vk = .int .i64 (k : Int) ∧ vj = .int .i64 (j : Int) ∧ j ≤ cnt ∧ k ≤ n ∧ i0 < k ∧ Hid (∃ m', eat (L.drop k) (cnt - j) = some m') ∧ Hid (jnG (evL F) op (cnt - j) (L.drop k) v = R) ∧ Hid (Below w.heap.size w wr) ∧ Hid (wr.heap[w.heap.size]? = some (.cells #[.string s, .slice (some ⟨b, o, none⟩) n c] 29 (0, 0))) ∧ Hid (wr.heap[W1.heap.size]? = some (.cells #[.int .i64 t, .string nm, .int .i64 ww, .int .i64 hh] 31 (0, 0)))) (fun _ _ vj _ => cnt - (intOf vj).toNat)
  case atStart => exact ⟨0, i0 + 1, z, rfl, by go_num, rfl, by omega, by omega, by omega, Lib.hid ⟨m0, HK.out⟩, Lib.hid HR.out, HB0, HX0, HY0⟩
  case round =>
    obtain ⟨j, k, v, rfl, rfl, rfl, hj, hkn, hik, HE, HV, HB, HX, HY⟩ := hrel
    obtain ⟨q0, q1⟩ := q_cells HX.out
    obtain ⟨e0, e1, e2, e3⟩ := ex_cells HY.out
    by_cases hlt : j < cnt
    · have hltz : (j : Int) < (cnt : Int) := by omega
      obtain ⟨r, hr⟩ : ∃ r, cnt - j = r + 1 := ⟨cnt - j - 1, by omega⟩
      obtain ⟨m', hm'⟩ := HE.out
      rw [hr] at hm'
      obtain ⟨k1, h1, h2, h3, h4⟩ := eat_first hm'
      rw [List.length_drop, HN.out] at h3
      have hkl : k < n := by omega
      have hsp : spanS L k = k + k1 := by unfold spanS; rw [h1]
      have C1 := Lib.hid (fun W hW => HSY.out k W hik hkl ⟨k1, h1⟩ hW)
      obtain ⟨y, hy⟩ : ∃ y, evL F (L.drop k) = y := ⟨_, rfl⟩
      have C2 := Lib.hid (fun W hW => SPN.out k W hkl hW)
      obtain ⟨k2, hk2⟩ : ∃ k2, k + k1 = k2 := ⟨_, rfl⟩
      have HV2 : Hid (jnG (evL F) op r (L.drop k2) (op v y) = R) := Lib.hid (by rw [← HV.out, hr, jnG_succ, h1, hy, Option.getD_some, List.drop_drop, hk2])
      have HE2 : Hid (∃ m', eat (L.drop k2) r = some m') := Lib.hid ⟨m' - k1, by rw [← hk2, ← List.drop_drop]; exact h4⟩
      rw [hsp, hk2] at C2
      rw [hy] at C1
      have hk2n : k2 ≤ n := by omega
      have hik2 : i0 < k2 := by omega
      have HRR := Lib.hid hr
      clear h1 h2 h3 h4 hm' hsp hy hk2 hr
      go_wp2_with fail
      refine (C1.out _ HB.out).mono ?_
      rintro e w1 ⟨rfl, hb⟩
      have hx := (hb.block _ (blk_ltQ HX.out)).trans HX.out
      have hyy := (hb.block _ (blk_ltQ HY.out)).trans HY.out
      have HB1 := Lib.hid (HB.out.trans (hb.mono HB.out.size))
      have HX1 := Lib.hid hx
      have HY1 := Lib.hid hyy
      obtain ⟨q0, q1⟩ := q_cells hx
      obtain ⟨e0, e1, e2, e3⟩ := ex_cells hyy
      clear hb hx hyy
      go_wp2_with fail
      refine (HOP.out _ _ _).mono ?_
      rintro e wq ⟨rfl, rfl⟩
      go_wp2_with fail
      refine (C2.out _ HB1.out).mono ?_
      rintro e w2 ⟨rfl, hb⟩
      have hx := (hb.block _ (blk_ltQ HX1.out)).trans HX1.out
      have hyy := (hb.block _ (blk_ltQ HY1.out)).trans HY1.out
      have HB2 := Lib.hid (HB1.out.trans (hb.mono HB1.out.size))
      have HX2 := Lib.hid hx
      have HY2 := Lib.hid hyy
      clear hb hx hyy
      go_wp2_with fail
      go_roundw
      case rel => exact ⟨j + 1, k2, op v y, by rfl, by rfl, by go_num, by omega, hk2n, hik2, Lib.hid (by rw [show cnt - (j + 1) = r by have := HRR.out; omega]; exact HE2.out), Lib.hid (by rw [show cnt - (j + 1) = r by have := HRR.out; omega]; exact HV2.out), HB2, HX2, HY2⟩
      case measure => simp [intOf]; omega
    · have hltz : ¬ (j : Int) < (cnt : Int) := by omega
      have HF : Hid (v = R) := Lib.hid (by
        have h := HV.out
        rw [show cnt - j = 0 by omega] at h; exact h)
      go_wp2_with fail
      go_ret
      exact ⟨ret_intF HF.out, HB.out⟩
end Go.Proofs.Ytoaenlbbochjhaa
