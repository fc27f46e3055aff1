/- Layer 8: may a node be? -/
import Derived.Test.YtoaenlbbochjhaaQryM
namespace Go.Proofs.Ytoaenlbbochjhaa
open Go.RowKit FixM FixP TreN QryP
set_option linter.unusedVariables false

theorem flip_worldQ {P : Program} {f : Nat} {args : Array Value} {w : World} {v : Value} (h : Calls P f args w fun e w' => e = .returned v ∧ w = w') : Calls P f args w fun e w' => e = .returned v ∧ w' = w := h.mono fun _ _ ⟨a, b⟩ => ⟨a, b.symm⟩
theorem below_drewQ {B : Nat} {a w : World} (h : Below B a w) (q : Nat) : Below B a (w.drewN q) := h.trans ⟨rfl, rfl, rfl, Nat.le_refl _, fun _ _ => rfl⟩

set_option maxRecDepth 100000 in
set_option maxHeartbeats 4000000 in
theorem valued8_any (f o n d : Int) (w : World) : Calls Try.prog 76 #[.int .i64 f, .agg #[.int .i64 o, .int .i64 n, .int .i64 d]] w fun e w' => e = .returned (.bool (vlC f ⟨o, n, d⟩)) ∧ Below w.heap.size w w' := by
  have HB := Lib.hid (below_oneQ w (.cells #[.int .i64 o, .int .i64 n, .int .i64 d] 37))
  have hx := heap_alloc_new w (.cells #[.int .i64 o, .int .i64 n, .int .i64 d] 37)
  generalize hW : w.alloc (.cells #[.int .i64 o, .int .i64 n, .int .i64 d] 37) = W at *
  have d0 : W.cell? ⟨w.heap.size, 1, none⟩ = some (.int .i64 n) := cell_of hx rfl
  have d1 : W.cell? ⟨w.heap.size, 2, none⟩ = some (.int .i64 d) := cell_of hx rfl
  clear hx
  by_cases h5 : f = 5
  · have hv : vlC f ⟨o, n, d⟩ = decide (1 ≤ n ∧ n ≤ 1073741824 ∧ 1 ≤ d ∧ d ≤ 1073741824) := by unfold vlC; rw [if_pos h5]
    rw [hv]
    have z5 : (f == 5) = true := by rw [h5]; rfl
    clear hv h5
    rcases (by omega : (¬ 1 ≤ n ∧ ¬ (1 ≤ n ∧ n ≤ 1073741824 ∧ 1 ≤ d ∧ d ≤ 1073741824)) ∨ ((1 ≤ n ∧ ¬ n ≤ 1073741824) ∧ ¬ (1 ≤ n ∧ n ≤ 1073741824 ∧ 1 ≤ d ∧ d ≤ 1073741824)) ∨ ((1 ≤ n ∧ n ≤ 1073741824 ∧ ¬ 1 ≤ d) ∧ ¬ (1 ≤ n ∧ n ≤ 1073741824 ∧ 1 ≤ d ∧ d ≤ 1073741824)) ∨ ((1 ≤ n ∧ n ≤ 1073741824 ∧ 1 ≤ d ∧ ¬ d ≤ 1073741824) ∧ ¬ (1 ≤ n ∧ n ≤ 1073741824 ∧ 1 ≤ d ∧ d ≤ 1073741824)) ∨ (1 ≤ n ∧ n ≤ 1073741824 ∧ 1 ≤ d ∧ d ≤ 1073741824)) with ⟨h1, hn⟩ | ⟨⟨h1, h2⟩, hn⟩ | ⟨⟨h1, h2, h3⟩, hn⟩ | ⟨⟨h1, h2, h3, h4⟩, hn⟩ | ⟨h1, h2, h3, h4⟩
    · rw [decide_eq_false hn]
      clear hn
      go_enter Try.func76, Try.ntmps76
      go_wp2_with fail
      go_ret
      exact ⟨rfl, HB.out⟩
    · rw [decide_eq_false hn]
      clear hn
      go_enter Try.func76, Try.ntmps76
      go_wp2_with fail
      go_ret
      exact ⟨rfl, HB.out⟩
    · rw [decide_eq_false hn]
      clear hn
      go_enter Try.func76, Try.ntmps76
      go_wp2_with fail
      go_ret
      exact ⟨rfl, HB.out⟩
    · rw [decide_eq_false hn]
      clear hn
      go_enter Try.func76, Try.ntmps76
      go_wp2_with fail
      go_ret
      exact ⟨rfl, HB.out⟩
    · rw [decide_eq_true ⟨h1, h2, h3, h4⟩]
      go_enter Try.func76, Try.ntmps76
      go_wp2_with fail
      go_ret
      exact ⟨rfl, HB.out⟩
  · have z5 : (f == 5) = false := by rw [beq_eq_false_iff_ne]; exact h5
    by_cases h6 : f = 6
    · have hv : vlC f ⟨o, n, d⟩ = decide ((n = 1 ∨ n = 2) ∧ d = 0) := by unfold vlC; rw [if_neg h5, if_pos h6]
      rw [hv]
      have z6 : (f == 6) = true := by rw [h6]; rfl
      clear hv h5 h6
      by_cases hd : d = 0
      · have zd : (d == 0) = true := by rw [hd]; rfl
        by_cases h1 : n = 1
        · have z1 : (n == 1) = true := by rw [h1]; rfl
          rw [decide_eq_true ⟨Or.inl h1, hd⟩]
          clear hd h1
          go_enter Try.func76, Try.ntmps76
          go_wp2_with fail
          go_ret
          first | exact ⟨rfl, HB.out⟩ | exact ⟨ret_bool (by simp), HB.out⟩
        · have z1 : (n == 1) = false := by rw [beq_eq_false_iff_ne]; exact h1
          by_cases h2 : n = 2
          · have z2 : (n == 2) = true := by rw [h2]; rfl
            rw [decide_eq_true ⟨Or.inr h2, hd⟩]
            clear hd h1 h2
            go_enter Try.func76, Try.ntmps76
            go_wp2_with fail
            go_ret
            first | exact ⟨rfl, HB.out⟩ | exact ⟨ret_bool (by simp), HB.out⟩
          · have z2 : (n == 2) = false := by rw [beq_eq_false_iff_ne]; exact h2
            rw [decide_eq_false (by omega)]
            clear hd h1 h2
            go_enter Try.func76, Try.ntmps76
            go_wp2_with fail
            go_ret
            first | exact ⟨rfl, HB.out⟩ | exact ⟨ret_bool (by simp), HB.out⟩
      · have zd : (d == 0) = false := by rw [beq_eq_false_iff_ne]; exact hd
        rw [decide_eq_false (by omega)]
        by_cases h1 : n = 1
        · have z1 : (n == 1) = true := by rw [h1]; rfl
          clear hd h1
          go_enter Try.func76, Try.ntmps76
          go_wp2_with fail
          go_ret
          first | exact ⟨rfl, HB.out⟩ | exact ⟨ret_bool (by simp), HB.out⟩
        · have z1 : (n == 1) = false := by rw [beq_eq_false_iff_ne]; exact h1
          by_cases h2 : n = 2
          · have z2 : (n == 2) = true := by rw [h2]; rfl
            clear hd h1 h2
            go_enter Try.func76, Try.ntmps76
            go_wp2_with fail
            go_ret
            first | exact ⟨rfl, HB.out⟩ | exact ⟨ret_bool (by simp), HB.out⟩
          · have z2 : (n == 2) = false := by rw [beq_eq_false_iff_ne]; exact h2
            clear hd h1 h2
            go_enter Try.func76, Try.ntmps76
            go_wp2_with fail
            go_ret
            first | exact ⟨rfl, HB.out⟩ | exact ⟨ret_bool (by simp), HB.out⟩
    · have z6 : (f == 6) = false := by rw [beq_eq_false_iff_ne]; exact h6
      have hv : vlC f ⟨o, n, d⟩ = decide (n = H n ∧ d = 0) := by unfold vlC; rw [if_neg h5, if_neg h6]
      rw [hv]
      have C := fun W => flip_worldQ (Hold_any n W)
      obtain ⟨hn, hhn⟩ : ∃ x, H n = x := ⟨_, rfl⟩
      rw [hhn] at C ⊢
      have CC := Lib.hid C
      clear hv h5 h6 C hhn
      by_cases h1 : n = hn
      · have z1 : (n == hn) = true := by rw [h1]; simp
        by_cases hd : d = 0
        · have zd : (d == 0) = true := by rw [hd]; rfl
          rw [decide_eq_true ⟨h1, hd⟩]
          clear h1 hd
          go_enter Try.func76, Try.ntmps76
          go_wp2_with fail
          go_quiet ((go_at_call 22; exact Calls.quiet_of_same (CC.out _)))
          go_wp2_with fail
          go_ret
          first | exact ⟨rfl, HB.out.trans (below_drewQ (Below.refl _ _) _)⟩ | exact ⟨ret_bool (by simp), HB.out.trans (below_drewQ (Below.refl _ _) _)⟩
        · have zd : (d == 0) = false := by rw [beq_eq_false_iff_ne]; exact hd
          rw [decide_eq_false (fun h => hd h.2)]
          clear h1 hd
          go_enter Try.func76, Try.ntmps76
          go_wp2_with fail
          go_quiet ((go_at_call 22; exact Calls.quiet_of_same (CC.out _)))
          go_wp2_with fail
          go_ret
          first | exact ⟨rfl, HB.out.trans (below_drewQ (Below.refl _ _) _)⟩ | exact ⟨ret_bool (by simp), HB.out.trans (below_drewQ (Below.refl _ _) _)⟩
      · have z1 : (n == hn) = false := by rw [beq_eq_false_iff_ne]; exact h1
        rw [decide_eq_false (fun h => h1 h.1)]
        clear h1
        go_enter Try.func76, Try.ntmps76
        go_wp2_with fail
        go_quiet ((go_at_call 22; exact Calls.quiet_of_same (CC.out _)))
        go_wp2_with fail
        go_ret
        first | exact ⟨rfl, HB.out.trans (below_drewQ (Below.refl _ _) _)⟩ | exact ⟨ret_bool (by simp), HB.out.trans (below_drewQ (Below.refl _ _) _)⟩
set_option maxRecDepth 100000 in
set_option maxHeartbeats 4000000 in
theorem oneWay1_any (x : Int) (w : World) : Calls Try.prog 89 #[.int .i64 x] w fun e w' => e = .returned (.bool (decide (x = 1 ∨ x = 2))) ∧ w = w' := by
  by_cases h1 : x = 1
  · have z1 : (x == 1) = true := by rw [h1]; rfl
    rw [decide_eq_true (Or.inl h1)]
    clear h1
    go_enter Try.func89, Try.ntmps89
    go_wp2_with fail
    go_ret
    exact ⟨rfl, rfl⟩
  · have z1 : (x == 1) = false := by rw [beq_eq_false_iff_ne]; exact h1
    by_cases h2 : x = 2
    · have z2 : (x == 2) = true := by rw [h2]; rfl
      rw [decide_eq_true (Or.inr h2)]
      clear h1 h2
      go_enter Try.func89, Try.ntmps89
      go_wp2_with fail
      go_ret
      exact ⟨rfl, rfl⟩
    · have z2 : (x == 2) = false := by rw [beq_eq_false_iff_ne]; exact h2
      rw [decide_eq_false (by omega)]
      clear h1 h2
      go_enter Try.func89, Try.ntmps89
      go_wp2_with fail
      go_ret
      exact ⟨rfl, rfl⟩
set_option maxRecDepth 100000 in
set_option maxHeartbeats 4000000 in
theorem oneWay2_any (x : Int) (w : World) : Calls Try.prog 90 #[.int .i64 x] w fun e w' => e = .returned (.bool (decide (x = 4 ∨ x = 5))) ∧ w = w' := by
  by_cases h1 : x = 4
  · have z1 : (x == 4) = true := by rw [h1]; rfl
    rw [decide_eq_true (Or.inl h1)]
    clear h1
    go_enter Try.func90, Try.ntmps90
    go_wp2_with fail
    go_ret
    exact ⟨rfl, rfl⟩
  · have z1 : (x == 4) = false := by rw [beq_eq_false_iff_ne]; exact h1
    by_cases h2 : x = 5
    · have z2 : (x == 5) = true := by rw [h2]; rfl
      rw [decide_eq_true (Or.inr h2)]
      clear h1 h2
      go_enter Try.func90, Try.ntmps90
      go_wp2_with fail
      go_ret
      exact ⟨rfl, rfl⟩
    · have z2 : (x == 5) = false := by rw [beq_eq_false_iff_ne]; exact h2
      rw [decide_eq_false (by omega)]
      clear h1 h2
      go_enter Try.func90, Try.ntmps90
      go_wp2_with fail
      go_ret
      exact ⟨rfl, rfl⟩
set_option maxRecDepth 100000 in
set_option maxHeartbeats 4000000 in
theorem oneWay8_any (a b : Int) (w : World) : Calls Try.prog 77 #[.int .i64 a, .int .i64 b] w fun e w' => e = .returned (.bool (onC a b)) ∧ w = w' := by
  have A1 := Lib.hid (fun w => oneWay1_any a w)
  have B1 := Lib.hid (fun w => oneWay1_any b w)
  have A2 := Lib.hid (fun w => oneWay2_any a w)
  have B2 := Lib.hid (fun w => oneWay2_any b w)
  unfold onC
  generalize decide (a = 1 ∨ a = 2) = p1 at *
  generalize decide (b = 1 ∨ b = 2) = q1 at *
  generalize decide (a = 4 ∨ a = 5) = p2 at *
  generalize decide (b = 4 ∨ b = 5) = q2 at *
  cases p1
  · cases p2
    · go_enter Try.func77, Try.ntmps77
      go_wp2_with fail
      refine (A1.out _).mono ?_
      rintro e w1 ⟨rfl, rfl⟩
      go_wp2_with fail
      refine (A2.out _).mono ?_
      rintro e w1 ⟨rfl, rfl⟩
      go_wp2_with fail
      go_ret
      exact ⟨rfl, rfl⟩
    · cases q2
      · go_enter Try.func77, Try.ntmps77
        go_wp2_with fail
        refine (A1.out _).mono ?_
        rintro e w1 ⟨rfl, rfl⟩
        go_wp2_with fail
        refine (A2.out _).mono ?_
        rintro e w1 ⟨rfl, rfl⟩
        go_wp2_with fail
        refine (B2.out _).mono ?_
        rintro e w1 ⟨rfl, rfl⟩
        go_wp2_with fail
        go_ret
        exact ⟨rfl, rfl⟩
      · go_enter Try.func77, Try.ntmps77
        go_wp2_with fail
        refine (A1.out _).mono ?_
        rintro e w1 ⟨rfl, rfl⟩
        go_wp2_with fail
        refine (A2.out _).mono ?_
        rintro e w1 ⟨rfl, rfl⟩
        go_wp2_with fail
        refine (B2.out _).mono ?_
        rintro e w1 ⟨rfl, rfl⟩
        go_wp2_with fail
        go_ret
        exact ⟨rfl, rfl⟩
  · cases q1
    · cases p2
      · go_enter Try.func77, Try.ntmps77
        go_wp2_with fail
        refine (A1.out _).mono ?_
        rintro e w1 ⟨rfl, rfl⟩
        go_wp2_with fail
        refine (B1.out _).mono ?_
        rintro e w1 ⟨rfl, rfl⟩
        go_wp2_with fail
        refine (A2.out _).mono ?_
        rintro e w1 ⟨rfl, rfl⟩
        go_wp2_with fail
        go_ret
        exact ⟨rfl, rfl⟩
      · cases q2
        · go_enter Try.func77, Try.ntmps77
          go_wp2_with fail
          refine (A1.out _).mono ?_
          rintro e w1 ⟨rfl, rfl⟩
          go_wp2_with fail
          refine (B1.out _).mono ?_
          rintro e w1 ⟨rfl, rfl⟩
          go_wp2_with fail
          refine (A2.out _).mono ?_
          rintro e w1 ⟨rfl, rfl⟩
          go_wp2_with fail
          refine (B2.out _).mono ?_
          rintro e w1 ⟨rfl, rfl⟩
          go_wp2_with fail
          go_ret
          exact ⟨rfl, rfl⟩
        · go_enter Try.func77, Try.ntmps77
          go_wp2_with fail
          refine (A1.out _).mono ?_
          rintro e w1 ⟨rfl, rfl⟩
          go_wp2_with fail
          refine (B1.out _).mono ?_
          rintro e w1 ⟨rfl, rfl⟩
          go_wp2_with fail
          refine (A2.out _).mono ?_
          rintro e w1 ⟨rfl, rfl⟩
          go_wp2_with fail
          refine (B2.out _).mono ?_
          rintro e w1 ⟨rfl, rfl⟩
          go_wp2_with fail
          go_ret
          exact ⟨rfl, rfl⟩
    · go_enter Try.func77, Try.ntmps77
      go_wp2_with fail
      refine (A1.out _).mono ?_
      rintro e w1 ⟨rfl, rfl⟩
      go_wp2_with fail
      refine (B1.out _).mono ?_
      rintro e w1 ⟨rfl, rfl⟩
      go_wp2_with fail
      go_ret
      exact ⟨rfl, rfl⟩
end Go.Proofs.Ytoaenlbbochjhaa
