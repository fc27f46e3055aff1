/- Joined texts: SizW1 SizW2. -/
import Derived.Test.YthfabalnioggcaaSizP
import Derived.Test.YthfabalnioggcaaStyM
namespace Go.Proofs.Ythfabalnioggcaa
open Go.RowKit TreN LexP FixP SynP ValP PropP FixM
set_option linter.unusedVariables false

set_option maxRecDepth 100000 in
theorem Up20_any (n l : Int) (w : World) : Calls Try.prog 12 #[.int .i64 n, .int .i64 l] w fun e w' => e = .returned (.int .i64 (max n l)) ∧ w = w' := by
  by_cases h : n < l
  · rw [show max n l = l by omega]
    go_enter Try.func12, Try.ntmps12
    go_wp2_with fail
    go_ret
    exact ⟨rfl, rfl⟩
  · rw [show max n l = n by omega]
    go_enter Try.func12, Try.ntmps12
    go_wp2_with fail
    go_ret
    exact ⟨rfl, rfl⟩
set_option maxRecDepth 100000 in
theorem Add20_any (a b : Int) (w : World) : Calls Try.prog 49 #[.int .i64 a, .int .i64 b] w fun e w' => e = .returned (.int .i64 (addZ a b)) ∧ w = w' := by
  have ha := H_bd a
  have hb := H_bd b
  unfold addZ
  go_enter Try.func49, Try.ntmps49
  go_wp2_with (go_at_call 14; refine (refHold_any _ _).mono ?_; rintro e w' ⟨rfl, rfl⟩)
  go_ret
  exact ⟨rfl, rfl⟩
set_option maxRecDepth 100000 in
theorem Sub20_any (a b : Int) (w : World) : Calls Try.prog 65 #[.int .i64 a, .int .i64 b] w fun e w' => e = .returned (.int .i64 (subZ a b)) ∧ w = w' := by
  have ha := H_bd a
  have hb := H_bd b
  unfold subZ
  go_enter Try.func65, Try.ntmps65
  go_wp2_with (go_at_call 14; refine (refHold_any _ _).mono ?_; rintro e w' ⟨rfl, rfl⟩)
  go_ret
  exact ⟨rfl, rfl⟩
set_option maxRecDepth 100000 in
theorem Side20_any (k n av : Int) (w : World) : Calls Try.prog 13 #[.agg #[.int .i64 k, .int .i64 n], .int .i64 av] w fun e w' => e = .returned (.int .i64 (worthZ k n av)) ∧ Below w.heap.size w w' := by
  have HB := Lib.hid (below_one7h w (.cells #[.int .i64 k, .int .i64 n] 23))
  unfold worthZ
  by_cases h1 : k = 1
  · subst h1
    rw [if_pos rfl]
    go_enter Try.func13, Try.ntmps13
    go_wp2_with (go_at_call 14; refine (refHold_any _ _).mono ?_; rintro e w' ⟨rfl, rfl⟩)
    go_ret
    exact ⟨rfl, HB.out⟩
  · rw [if_neg h1]
    have z1 : (k == 1) = false := by rw [beq_eq_false_iff_ne]; exact h1
    by_cases h2 : k = 2
    · subst h2
      rw [if_pos rfl]
      go_enter Try.func13, Try.ntmps13
      go_wp2_with (go_at_call 34; refine (refPart_any _ _ _ _).mono ?_; rintro e w' ⟨rfl, rfl⟩)
      go_ret
      exact ⟨rfl, HB.out⟩
    · rw [if_neg h2]
      have z2 : (k == 2) = false := by rw [beq_eq_false_iff_ne]; exact h2
      go_enter Try.func13, Try.ntmps13
      go_wp2_with fail
      go_ret
      exact ⟨rfl, HB.out⟩
/-- what ofAny answers -/
def anyV (k n av : Int) : Value := .tuple #[.int .i64 (worthZ k n av), .bool (isZ k)]
set_option maxRecDepth 100000 in
theorem ofAny_any (k n av : Int) (w : World) : Calls Try.prog 51 #[.agg #[.int .i64 k, .int .i64 n], .int .i64 av] w fun e w' => e = .returned (.tuple #[.int .i64 (worthZ k n av), .bool (isZ k)]) ∧ Below w.heap.size w w' := by
  have HB := Lib.hid (below_one7h w (.cells #[.int .i64 k, .int .i64 n] 58))
  unfold worthZ isZ
  by_cases h1 : k = 1
  · subst h1
    rw [if_pos rfl, show decide ((1 : Int) = 1 ∨ (1 : Int) = 2) = true by decide]
    go_enter Try.func51, Try.ntmps51
    go_wp2_with (go_at_call 33; refine (Hold_any _ _).mono ?_; rintro e w' ⟨rfl, rfl⟩)
    exact bodyPost_ret (results_tmp2 rfl _ _ _) rfl ⟨rfl, HB.out⟩
  · rw [if_neg h1]
    have z1 : (k == 1) = false := by rw [beq_eq_false_iff_ne]; exact h1
    by_cases h2 : k = 2
    · subst h2
      rw [if_pos rfl, show decide ((2 : Int) = 1 ∨ (2 : Int) = 2) = true by decide]
      go_enter Try.func51, Try.ntmps51
      go_wp2_with (go_at_call 66; refine (Percent_any _ _ _).mono ?_; rintro e w' ⟨rfl, rfl⟩)
      exact bodyPost_ret (results_tmp2 rfl _ _ _) rfl ⟨rfl, HB.out⟩
    · rw [if_neg h2, show decide (k = 1 ∨ k = 2) = false by rw [decide_eq_false_iff_not]; omega]
      have z2 : (k == 2) = false := by rw [beq_eq_false_iff_ne]; exact h2
      go_enter Try.func51, Try.ntmps51
      go_wp2_with fail
      exact bodyPost_ret (results_tmp2 rfl _ _ _) rfl ⟨rfl, HB.out⟩
set_option maxRecDepth 100000 in
theorem length_any (k n av : Int) (w : World) : Calls Try.prog 32 #[.agg #[.int .i64 k, .int .i64 n], .int .i64 av] w fun e w' => e = .returned (.int .i64 (worthZ k n av)) ∧ Below w.heap.size w w' := by
  have hb := below_one7h w (.cells #[.int .i64 k, .int .i64 n] 58)
  have HB := Lib.hid hb
  have C := Lib.hid (fun W => ofAny_any k n av W)
  clear hb
  generalize worthZ k n av = r at C ⊢
  generalize isZ k = q at C
  go_enter Try.func32, Try.ntmps32
  go_wp2_with fail
  refine (C.out _).mono ?_
  rintro e w2 ⟨rfl, hb2⟩
  have HB2 := Lib.hid (HB.out.trans (hb2.mono HB.out.size))
  clear hb2
  go_wp2_with fail
  go_ret
  exact ⟨rfl, HB2.out⟩
/-- is a size known of a base? -/
def knownZ (k av : Int) : Bool := decide (k = 1) || (decide (k = 2) && decide (0 ≤ av))
set_option maxRecDepth 100000 in
theorem ofKnown_any (k n av : Int) (w : World) : Calls Try.prog 56 #[.agg #[.int .i64 k, .int .i64 n], .int .i64 av] w fun e w' => e = .returned (.tuple #[.int .i64 (if knownZ k av = true then worthZ k n av else 0), .bool (knownZ k av)]) ∧ Below w.heap.size w w' := by
  have HB := Lib.hid (below_one7h w (.cells #[.int .i64 k, .int .i64 n] 58))
  by_cases h2 : k = 2 ∧ av < 0
  · have e : knownZ k av = false := by unfold knownZ; rw [decide_eq_false (by omega), decide_eq_true h2.1, decide_eq_false (by omega)]; rfl
    rw [e]
    simp only [Bool.false_eq_true, if_false]
    obtain ⟨rfl, h3⟩ := h2
    go_enter Try.func56, Try.ntmps56
    go_wp2_with fail
    exact bodyPost_ret (results_tmp2 rfl _ _ _) rfl ⟨rfl, HB.out⟩
  · have e : knownZ k av = isZ k ∧ (if knownZ k av = true then worthZ k n av else 0) = worthZ k n av := by
      unfold knownZ isZ worthZ
      by_cases c1 : k = 1
      · simp [c1]
      · by_cases c2 : k = 2
        · have : 0 ≤ av := by omega
          simp [c2, this]
        · simp [c1, c2]
    rw [e.2, e.1]
    clear e
    have C := Lib.hid (fun W => ofAny_any k n av W)
    generalize worthZ k n av = r at C ⊢
    generalize isZ k = q at C ⊢
    by_cases c2 : k = 2
    · subst c2
      have h3 : ¬ av < 0 := by omega
      clear h2
      go_enter Try.func56, Try.ntmps56
      go_wp2_with fail
      refine (C.out _).mono ?_
      rintro e w2 ⟨rfl, hb2⟩
      have HB2 := Lib.hid (HB.out.trans (hb2.mono HB.out.size))
      clear hb2
      go_wp2_with fail
      exact bodyPost_ret (results_tmp2 rfl _ _ _) rfl ⟨rfl, HB2.out⟩
    · have z2 : (k == 2) = false := by rw [beq_eq_false_iff_ne]; exact c2
      clear h2
      go_enter Try.func56, Try.ntmps56
      go_wp2_with fail
      refine (C.out _).mono ?_
      rintro e w2 ⟨rfl, hb2⟩
      have HB2 := Lib.hid (HB.out.trans (hb2.mono HB.out.size))
      clear hb2
      go_wp2_with fail
      exact bodyPost_ret (results_tmp2 rfl _ _ _) rfl ⟨rfl, HB2.out⟩
end Go.Proofs.Ythfabalnioggcaa

namespace Go.Proofs.Ythfabalnioggcaa
open Go.RowKit TreN LexP FixP SynP ValP PropP FixM
set_option linter.unusedVariables false

set_option maxRecDepth 100000 in
theorem asBox_any (base : Int) (fv : Value) (b : Bool) (ar n : Int) (w : World) (hf : fv.oneCell' = true) : Calls Try.prog 62 #[.agg #[.int .i64 base, fv, .bool b, .int .i64 ar], .int .i64 n] w fun e w' => e = .returned (.int .i64 (if b = true then max n ar else addZ (max n 0) ar)) ∧ Below w.heap.size w w' := by
  have HB := Lib.hid (below_one7h w (.cells #[.int .i64 base, fv, .bool b, .int .i64 ar] 63))
  cases b
  · simp only [Bool.false_eq_true, if_false]
    have hm : max n 0 = max 0 n := by omega
    rw [hm]
    clear hm
    have C := Lib.hid (fun W => Add_any (max 0 n) ar W)
    rw [show H (H (max 0 n) + H ar) = addZ (max 0 n) ar from rfl] at C
    generalize addZ (max 0 n) ar = r at C ⊢
    go_enter Try.func62, Try.ntmps62
    go_wp2_with fail
    refine (C.out _).mono ?_
    rintro e w2 ⟨rfl, rfl⟩
    go_wp2_with fail
    go_ret
    exact ⟨rfl, HB.out⟩
  · simp only [if_true]
    go_enter Try.func62, Try.ntmps62
    go_wp2_with fail
    go_ret
    exact ⟨rfl, HB.out⟩
set_option maxRecDepth 100000 in
theorem asSize_any (base : Int) (fv : Value) (b : Bool) (ar n : Int) (w : World) (hf : fv.oneCell' = true) : Calls Try.prog 64 #[.agg #[.int .i64 base, fv, .bool b, .int .i64 ar], .int .i64 n] w fun e w' => e = .returned (.int .i64 (if b = true then n else max (subZ n ar) 0)) ∧ Below w.heap.size w w' := by
  have HB := Lib.hid (below_one7h w (.cells #[.int .i64 base, fv, .bool b, .int .i64 ar] 63))
  cases b
  · simp only [Bool.false_eq_true, if_false]
    have C := Lib.hid (fun W => Sub_any n ar W)
    rw [show H (H n - H ar) = subZ n ar from rfl] at C
    generalize subZ n ar = r at C ⊢
    have hm : max r 0 = max 0 r := by omega
    rw [hm]
    clear hm
    go_enter Try.func64, Try.ntmps64
    go_wp2_with fail
    refine (C.out _).mono ?_
    rintro e w2 ⟨rfl, rfl⟩
    go_wp2_with fail
    go_ret
    exact ⟨rfl, HB.out⟩
  · simp only [if_true]
    go_enter Try.func64, Try.ntmps64
    go_wp2_with fail
    go_ret
    exact ⟨rfl, HB.out⟩
end Go.Proofs.Ythfabalnioggcaa
