/- The walk of layer 3's law on the parts of any complex number. -/
import Derived.Test.YtanhpdejlodidaaAxiW3
namespace Go.Proofs.Ytanhpdejlodidaa
open Go.RowKit FixM AxiF
open Ieee

/-- how a float stands to the numbers that the law names -/
structure PW (a : Nat) (n g1 g2 g3 g4 g5 g6 : Bool) : Prop where
  hn : (FloatKind.f64.format.order a a != some .eq) = n
  h1 : (FloatKind.f64.format.order a 13875379345695965184 == some .gt) = g1
  h2 : (FloatKind.f64.format.order a 4652007308841189376 == some .lt) = g2
  h3 : (FloatKind.f64.format.order a 4742290407621132288 == some .gt) = g3
  h4 : (FloatKind.f64.format.order a 4742290407621132288 == some .eq) = g4
  h5 : (FloatKind.f64.format.order a 13965662444475908096 == some .lt) = g5
  h6 : (FloatKind.f64.format.order a 13965662444475908096 == some .eq) = g6

theorem bits_m1 : (13875379345695965184 : Nat) = floatOfInt .f64 (-1000) := by decide +kernel
theorem bits_p1 : (4652007308841189376 : Nat) = floatOfInt .f64 1000 := by decide +kernel

theorem cmp_gt (x y : Int) : (some (compare x y) == some Ordering.gt) = decide (y < x) := by
  by_cases h : y < x
  · rw [Int.compare_eq_gt.2 h]; simp [h]
  · have : compare x y ≠ .gt := fun e => h (Int.compare_eq_gt.1 e)
    cases hc : compare x y <;> simp_all
theorem cmp_lt (x y : Int) : (some (compare x y) == some Ordering.lt) = decide (x < y) := by
  by_cases h : x < y
  · rw [Int.compare_eq_lt.2 h]; simp [h]
  · have : compare x y ≠ .lt := fun e => h (Int.compare_eq_lt.1 e)
    cases hc : compare x y <;> simp_all
theorem cmp_eq (x y : Int) : (some (compare x y) == some Ordering.eq) = decide (x = y) := by
  by_cases h : x = y
  · subst h; simp
  · have : compare x y ≠ .eq := fun e => h (Int.compare_eq_eq.1 e)
    cases hc : compare x y <;> simp_all

theorem order_nan {b : Nat} {s : Bool} {f : Nat} (h : double.read b = .nan s f) (x : Nat) : FloatKind.f64.format.order b x = none := by
  show double.order _ _ = _
  unfold Format.order
  rw [h]; rfl

theorem parts_ways (a : Nat) :
    (PW a true false false false false false false ∧ wholeS a = 0) ∨
    (PW a false true true false false false false ∧ floatToIntVal .f64 a .i64 = some (wholeS a)) ∨
    (PW a false true false true false false false ∧ wholeS a = 1073741824) ∨
    (PW a false true false false true false false ∧ wholeS a = 1073741824) ∨
    (PW a false true false false false false false) ∨
    (PW a false false true false false true false ∧ wholeS a = -1073741824) ∨
    (PW a false false true false false false true ∧ wholeS a = -1073741824) ∨
    (PW a false false true false false false false) := by
  have hT : (0 : Int) < T := by have := T_pos; omega
  cases hr : double.read a with
  | nan s f =>
    refine Or.inl ⟨⟨?_, ?_, ?_, ?_, ?_, ?_, ?_⟩, whole_nan a (by rw [nanB_iff, hr]; rfl)⟩ <;> rw [order_nan hr] <;> rfl
  | infinity s =>
    obtain ⟨o1, _⟩ := order_inf hr (-1000) (by omega) (by omega)
    obtain ⟨o2, _⟩ := order_inf hr 1000 (by omega) (by omega)
    obtain ⟨o3, _⟩ := order_inf hr 1073741824 (by omega) (by omega)
    obtain ⟨o4, _⟩ := order_inf hr (-1073741824) (by omega) (by omega)
    have hn : (FloatKind.f64.format.order a a != some .eq) = false := by
      have h := nanB_iff a
      rw [hr] at h
      exact h
    rw [← bits_m1] at o1
    rw [← bits_p1] at o2
    rw [← bits_hi] at o3
    rw [← bits_lo] at o4
    cases s
    · refine Or.inr (Or.inr (Or.inl ⟨⟨hn, ?_, ?_, ?_, ?_, ?_, ?_⟩, by unfold wholeS; rw [hr]; rfl⟩))
      · rw [o1]; rfl
      · rw [o2]; rfl
      · rw [o3]; rfl
      · rw [o3]; rfl
      · rw [o4]; rfl
      · rw [o4]; rfl
    · refine Or.inr (Or.inr (Or.inr (Or.inr (Or.inr (Or.inl ⟨⟨hn, ?_, ?_, ?_, ?_, ?_, ?_⟩, by unfold wholeS; rw [hr]; rfl⟩)))))
      · rw [o1]; rfl
      · rw [o2]; rfl
      · rw [o3]; rfl
      · rw [o3]; rfl
      · rw [o4]; rfl
      · rw [o4]; rfl
  | number s m i =>
    obtain ⟨o1, _⟩ := order_num hr (-1000) (by omega) (by omega)
    obtain ⟨o2, _⟩ := order_num hr 1000 (by omega) (by omega)
    obtain ⟨o3, _⟩ := order_num hr 1073741824 (by omega) (by omega)
    obtain ⟨o4, _⟩ := order_num hr (-1073741824) (by omega) (by omega)
    have hn : (FloatKind.f64.format.order a a != some .eq) = false := by
      have h := nanB_iff a
      rw [hr] at h
      exact h
    rw [← bits_m1] at o1
    rw [← bits_p1] at o2
    rw [← bits_hi] at o3
    rw [← bits_lo] at o4
    have hw : wholeS a = if 1073741824 * (T : Int) ≤ V (.number s m i) then 1073741824 else if V (.number s m i) ≤ -1073741824 * (T : Int) then -1073741824 else (V (.number s m i)).tdiv (T : Int) := by unfold wholeS; rw [hr]
    have mk : ∀ g1 g2 g3 g4 g5 g6 : Bool, decide (-1000 * (T : Int) < V (.number s m i)) = g1 → decide (V (.number s m i) < 1000 * (T : Int)) = g2 → decide (1073741824 * (T : Int) < V (.number s m i)) = g3 → decide (V (.number s m i) = 1073741824 * (T : Int)) = g4 → decide (V (.number s m i) < -1073741824 * (T : Int)) = g5 → decide (V (.number s m i) = -1073741824 * (T : Int)) = g6 → PW a false g1 g2 g3 g4 g5 g6 := by
      intro g1 g2 g3 g4 g5 g6 e1 e2 e3 e4 e5 e6
      refine ⟨hn, ?_, ?_, ?_, ?_, ?_, ?_⟩
      · rw [o1, cmp_gt]; exact e1
      · rw [o2, cmp_lt]; exact e2
      · rw [o3, cmp_gt]; exact e3
      · rw [o3, cmp_eq]; exact e4
      · rw [o4, cmp_lt]; exact e5
      · rw [o4, cmp_eq]; exact e6
    have hrd : ∀ n, (V (.number s m i)).tdiv (T : Int) = n → -9223372036854775808 ≤ n → n ≤ 9223372036854775807 → floatToIntVal .f64 a .i64 = some n := fun n e b1 b2 => toInt_read hr e b1 b2
    have hbd := AxiF.tdiv_bd (V (.number s m i))
    generalize V (.number s m i) = v at hw mk hrd hbd
    by_cases c1 : -1000 * (T : Int) < v
    · by_cases c2 : v < 1000 * (T : Int)
      · refine Or.inr (Or.inl ⟨mk _ _ _ _ _ _ (by simp [c1]) (by simp [c2]) (decide_eq_false (by omega)) (decide_eq_false (by omega)) (decide_eq_false (by omega)) (decide_eq_false (by omega)), ?_⟩)
        rw [if_neg (by omega), if_neg (by omega)] at hw
        have := hbd 1073741824 (by omega) (by omega)
        exact hrd _ hw.symm (by omega) (by omega)
      · by_cases c3 : 1073741824 * (T : Int) < v
        · exact Or.inr (Or.inr (Or.inl ⟨mk _ _ _ _ _ _ (by simp [c1]) (decide_eq_false c2) (decide_eq_true c3) (decide_eq_false (by omega)) (decide_eq_false (by omega)) (decide_eq_false (by omega)), by rw [hw, if_pos (by omega)]⟩))
        · by_cases c4 : v = 1073741824 * (T : Int)
          · exact Or.inr (Or.inr (Or.inr (Or.inl ⟨mk _ _ _ _ _ _ (by simp [c1]) (decide_eq_false c2) (decide_eq_false c3) (decide_eq_true c4) (decide_eq_false (by omega)) (decide_eq_false (by omega)), by rw [hw, if_pos (by omega)]⟩)))
          · exact Or.inr (Or.inr (Or.inr (Or.inr (Or.inl (mk _ _ _ _ _ _ (by simp [c1]) (decide_eq_false c2) (decide_eq_false c3) (decide_eq_false c4) (decide_eq_false (by omega)) (decide_eq_false (by omega)))))))
    · by_cases c3 : v < -1073741824 * (T : Int)
      · exact Or.inr (Or.inr (Or.inr (Or.inr (Or.inr (Or.inl ⟨mk _ _ _ _ _ _ (decide_eq_false c1) (decide_eq_true (by omega)) (decide_eq_false (by omega)) (decide_eq_false (by omega)) (decide_eq_true c3) (decide_eq_false (by omega)), by rw [hw, if_neg (by omega), if_pos (by omega)]⟩)))))
      · by_cases c4 : v = -1073741824 * (T : Int)
        · exact Or.inr (Or.inr (Or.inr (Or.inr (Or.inr (Or.inr (Or.inl ⟨mk _ _ _ _ _ _ (decide_eq_false c1) (decide_eq_true (by omega)) (decide_eq_false (by omega)) (decide_eq_false (by omega)) (decide_eq_false c3) (decide_eq_true c4), by rw [hw, if_neg (by omega), if_pos (by omega)]⟩))))))
        · exact Or.inr (Or.inr (Or.inr (Or.inr (Or.inr (Or.inr (Or.inr (mk _ _ _ _ _ _ (decide_eq_false c1) (decide_eq_true (by omega)) (decide_eq_false (by omega)) (decide_eq_false (by omega)) (decide_eq_false c3) (decide_eq_false c4))))))))

/-- what the law's walk asks -/
def PartsOK (a b : Nat) (w : World) : Prop := Calls Try.prog 6 #[.float .f64 a, .float .f64 b] w fun e w' => e = .returned (.bool true) ∧ Below w.heap.size w w'

set_option maxRecDepth 100000 in
set_option maxHeartbeats 8000000 in
theorem parts_walk (a b : Nat) (w : World) (n g1 g2 g3 g4 g5 g6 : Bool) (hp : PW a n g1 g2 g3 g4 g5 g6)
    (hc : (n, g1, g2, g3, g4, g5, g6) = (true, false, false, false, false, false, false) ∧ wholeS a = 0 ∨ (n, g1, g2, g3, g4, g5, g6) = (false, true, true, false, false, false, false) ∧ floatToIntVal .f64 a .i64 = some (wholeS a) ∨
      (n, g1, g2, g3, g4, g5, g6) = (false, true, false, true, false, false, false) ∧ wholeS a = 1073741824 ∨ (n, g1, g2, g3, g4, g5, g6) = (false, true, false, false, true, false, false) ∧ wholeS a = 1073741824 ∨
      (n, g1, g2, g3, g4, g5, g6) = (false, true, false, false, false, false, false) ∨ (n, g1, g2, g3, g4, g5, g6) = (false, false, true, false, false, true, false) ∧ wholeS a = -1073741824 ∨
      (n, g1, g2, g3, g4, g5, g6) = (false, false, true, false, false, false, true) ∧ wholeS a = -1073741824 ∨ (n, g1, g2, g3, g4, g5, g6) = (false, false, true, false, false, false, false)) : PartsOK a b w := by
  unfold PartsOK
  have e1 := H_whole a
  have e2 := H_whole b
  have e3 : wholeS (floatOfInt .f64 (wholeS a)) = wholeS a := whole_F _ (wholeS_bd a).1 (wholeS_bd a).2
  have e4 : wholeS (floatOfInt .f64 (wholeS b)) = wholeS b := whole_F _ (wholeS_bd b).1 (wholeS_bd b).2
  obtain ⟨hn, h1, h2, h3, h4, h5, h6⟩ := hp
  have hE : (FloatKind.f64.format.order a a == some .eq) = !n := by rw [← hn]; simp [bne]
  have hcv : floatToIntVal .f64 a .i64 = some (wholeS a) → ∀ w : World, (convert 36 3 (.float .f64 a)).run Try.prog w = .ok (.int .i64 (wholeS a)) w := fun h w => run_convert_float_int w _ _ _ _ _ _ (by rw [und_float]; rfl) und_int h
  rcases hc with ⟨hc, hx⟩ | ⟨hc, hx⟩ | ⟨hc, hx⟩ | ⟨hc, hx⟩ | hc | ⟨hc, hx⟩ | ⟨hc, hx⟩ | hc
  all_goals (simp only [Prod.mk.injEq] at hc; obtain ⟨rfl, rfl, rfl, rfl, rfl, rfl, rfl⟩ := hc)
  case inr.inl =>
    have hv := hcv hx
    clear hcv hx
    go_enter Try.func6, Try.ntmps6
    go_wp2_with (first
      | (go_at_call 19; refine (Of_any _ _ _).mono ?_; rintro e w' ⟨rfl, rfl⟩)
      | (go_at_call 21; refine (refHold_any _ _).mono ?_; rintro e w' ⟨rfl, rfl⟩)
      | (go_at_call 24; refine (Swap_any _ _ _).mono ?_; rintro e w' ⟨rfl, rfl⟩)
      | (go_at_call 23; refine (known3_any _).mono ?_; rintro e w' ⟨rfl, hb⟩)
      | (go_at_call 20; refine (X_any _ _ _).mono ?_; rintro e w' ⟨rfl, rfl⟩)
      | (go_at_call 22; refine (Y_any _ _ _).mono ?_; rintro e w' ⟨rfl, rfl⟩))
    go_ret
    exact ⟨rfl, by assumption⟩
  all_goals
    clear hcv
    try (have hx1 : (wholeS a == 0) = true := by rw [hx]; rfl)
    try (have hx1 : (wholeS a == 1073741824) = true := by rw [hx]; rfl)
    try (have hx1 : (wholeS a == -1073741824) = true := by rw [hx]; rfl)
    try (have hx2 : (wholeS a != 0) = false := by rw [hx]; rfl)
    try (have hx2 : (wholeS a != 1073741824) = false := by rw [hx]; rfl)
    try (have hx2 : (wholeS a != -1073741824) = false := by rw [hx]; rfl)
    try clear hx
    go_enter Try.func6, Try.ntmps6
    go_wp2_with (first
      | (go_at_call 19; refine (Of_any _ _ _).mono ?_; rintro e w' ⟨rfl, rfl⟩)
      | (go_at_call 21; refine (refHold_any _ _).mono ?_; rintro e w' ⟨rfl, rfl⟩)
      | (go_at_call 24; refine (Swap_any _ _ _).mono ?_; rintro e w' ⟨rfl, rfl⟩)
      | (go_at_call 23; refine (known3_any _).mono ?_; rintro e w' ⟨rfl, hb⟩)
      | (go_at_call 20; refine (X_any _ _ _).mono ?_; rintro e w' ⟨rfl, rfl⟩)
      | (go_at_call 22; refine (Y_any _ _ _).mono ?_; rintro e w' ⟨rfl, rfl⟩))
    go_ret
    exact ⟨rfl, by assumption⟩

theorem AxisParts_walk (a b : Nat) (w : World) : PartsOK a b w := by
  rcases parts_ways a with ⟨h, hx⟩ | ⟨h, hx⟩ | ⟨h, hx⟩ | ⟨h, hx⟩ | h | ⟨h, hx⟩ | ⟨h, hx⟩ | h
  · exact parts_walk a b w _ _ _ _ _ _ _ h (Or.inl ⟨rfl, hx⟩)
  · exact parts_walk a b w _ _ _ _ _ _ _ h (Or.inr (Or.inl ⟨rfl, hx⟩))
  · exact parts_walk a b w _ _ _ _ _ _ _ h (Or.inr (Or.inr (Or.inl ⟨rfl, hx⟩)))
  · exact parts_walk a b w _ _ _ _ _ _ _ h (Or.inr (Or.inr (Or.inr (Or.inl ⟨rfl, hx⟩))))
  · exact parts_walk a b w _ _ _ _ _ _ _ h (Or.inr (Or.inr (Or.inr (Or.inr (Or.inl rfl)))))
  · exact parts_walk a b w _ _ _ _ _ _ _ h (Or.inr (Or.inr (Or.inr (Or.inr (Or.inr (Or.inl ⟨rfl, hx⟩))))))
  · exact parts_walk a b w _ _ _ _ _ _ _ h (Or.inr (Or.inr (Or.inr (Or.inr (Or.inr (Or.inr (Or.inl ⟨rfl, hx⟩)))))))
  · exact parts_walk a b w _ _ _ _ _ _ _ h (Or.inr (Or.inr (Or.inr (Or.inr (Or.inr (Or.inr (Or.inr rfl)))))))
end Go.Proofs.Ytanhpdejlodidaa
