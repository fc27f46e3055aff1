/- Layer 15: what a Length is worth, by the other text. -/
import Derived.Test.YthfabalnioggcaaFixWa
import Derived.Below
import Derived.Deep.RegionWith
import Derived.Deep.QuietTactic
import Derived.BigQuiet
namespace Go.Proofs.Ythfabalnioggcaa
open Go.RowKit FixM
set_option linter.unusedVariables false

theorem below_one7h (w : World) (ob : Obj) : Below w.heap.size w (w.alloc ob) := (Below.refl _ w).alloc (Nat.le_refl _) _
/-- what a Length is worth -/
def measS (kind n d font a b : Int) : Int := if kind ≠ 2 then 0 else if d = 1 then PT n 64 1000 else if d = 2 then PT font n 1000 else if d = 3 ∨ d = 5 then PT a n 100000 else if d = 4 ∨ d = 6 then PT b n 100000 else if d = 7 then PT (min a b) n 100000 else if d = 8 then PT (max a b) n 100000 else 0
theorem H_mono {a b : Int} (h : a ≤ b) : H a ≤ H b := by unfold H; repeat' split
                                                         all_goals omega
theorem PT_H (a n d : Int) : PT (H a) n d = PT a n d := by unfold PT; rw [H_H]
theorem PT_min1 {a b : Int} (h : H b < H a) (n d : Int) : PT (H b) n d = PT (min a b) n d ∧ PT (H a) n d = PT (max a b) n d := by
  have hba : b ≤ a := by
    by_cases c : b ≤ a
    · exact c
    · have := H_mono (show a ≤ b by omega); omega
  rw [PT_H, PT_H, show min a b = b by omega, show max a b = a by omega]
  exact ⟨rfl, rfl⟩
theorem PT_min2 {a b : Int} (h : ¬ H b < H a) (n d : Int) : PT (H a) n d = PT (min a b) n d ∧ PT (H b) n d = PT (max a b) n d := by
  by_cases c : a ≤ b
  · rw [PT_H, PT_H, show min a b = a by omega, show max a b = b by omega]; exact ⟨rfl, rfl⟩
  · have h1 := H_mono (show b ≤ a by omega)
    have e : H a = H b := by omega
    have e1 : PT a n d = PT b n d := by unfold PT; rw [e]
    rw [PT_H, PT_H, show min a b = b by omega, show max a b = a by omega]
    exact ⟨e1, e1.symm⟩

set_option maxRecDepth 100000 in
set_option maxHeartbeats 16000000 in
theorem refMeasure_any (kind n d font a b : Int) (nm : List UInt8) (w : World) : Calls Try.prog 73 #[.agg #[.int .i64 kind, .int .i64 n, .int .i64 d, .string ⟨nm.toArray⟩], .int .i64 font, .int .i64 a, .int .i64 b] w fun e w' => e = .returned (.int .i64 (measS kind n d font a b)) ∧ Below w.heap.size w w' := by
  have HB := Lib.hid (below_one7h w (.cells #[.int .i64 kind, .int .i64 n, .int .i64 d, .string ⟨nm.toArray⟩] 80))
  have PC := Lib.hid (fun a n d W => refPart_any a n d W)
  have CA := Lib.hid (fun W => refHold_any a W)
  have CB := Lib.hid (fun W => refHold_any b W)
  have m1 := fun h => PT_min1 (a := a) (b := b) h n 100000
  have m2 := fun h => PT_min2 (a := a) (b := b) h n 100000
  have q1 := PT_H a n 100000
  have q2 := PT_H b n 100000
  obtain ⟨A, hA⟩ : ∃ A, H a = A := ⟨_, rfl⟩
  obtain ⟨B, hB⟩ : ∃ B, H b = B := ⟨_, rfl⟩
  rw [hA] at CA m1 m2 q1
  rw [hB] at CB m1 m2 q2
  clear hA hB
  by_cases hba : B < A
  · obtain ⟨r1, r2⟩ := m1 hba
    have HR1 := Lib.hid r1
    have HR2 := Lib.hid r2
    have Q1 := Lib.hid q1
    have Q2 := Lib.hid q2
    clear r1 r2 m1 m2 q1 q2
    by_cases hk : kind = 2
    · subst hk
      have hcs : d = 1 ∨ d = 2 ∨ d = 3 ∨ d = 5 ∨ d = 4 ∨ d = 6 ∨ d = 7 ∨ d = 8 ∨ (d ≠ 1 ∧ d ≠ 2 ∧ d ≠ 3 ∧ d ≠ 5 ∧ d ≠ 4 ∧ d ≠ 6 ∧ d ≠ 7 ∧ d ≠ 8) := by omega
      rcases hcs with rfl | rfl | rfl | rfl | rfl | rfl | rfl | rfl | ⟨h1, h2, h3, h5, h4, h6, h7, h8⟩
      · have HM : measS 2 n 1 font a b = PT n 64 1000 := by unfold measS; simp
        rw [HM]; clear HM
        go_enter Try.func73, Try.ntmps73
        go_wp2_with fail
        refine (CA.out _).mono ?_
        rintro e w' ⟨rfl, rfl⟩
        go_wp2_with fail
        refine (CB.out _).mono ?_
        rintro e w' ⟨rfl, rfl⟩
        go_wp2_with fail
        refine (PC.out _ _ _ _).mono ?_
        rintro e w' ⟨rfl, rfl⟩
        go_wp2_with fail
        go_ret
        exact ⟨rfl, HB.out⟩
      · have HM : measS 2 n 2 font a b = PT font n 1000 := by unfold measS; simp
        rw [HM]; clear HM
        go_enter Try.func73, Try.ntmps73
        go_wp2_with fail
        refine (CA.out _).mono ?_
        rintro e w' ⟨rfl, rfl⟩
        go_wp2_with fail
        refine (CB.out _).mono ?_
        rintro e w' ⟨rfl, rfl⟩
        go_wp2_with fail
        refine (PC.out _ _ _ _).mono ?_
        rintro e w' ⟨rfl, rfl⟩
        go_wp2_with fail
        go_ret
        exact ⟨rfl, HB.out⟩
      · have HM : measS 2 n 3 font a b = PT A n 100000 := by rw [Q1.out]; unfold measS; simp
        rw [HM]; clear HM
        go_enter Try.func73, Try.ntmps73
        go_wp2_with fail
        refine (CA.out _).mono ?_
        rintro e w' ⟨rfl, rfl⟩
        go_wp2_with fail
        refine (CB.out _).mono ?_
        rintro e w' ⟨rfl, rfl⟩
        go_wp2_with fail
        refine (PC.out _ _ _ _).mono ?_
        rintro e w' ⟨rfl, rfl⟩
        go_wp2_with fail
        go_ret
        exact ⟨rfl, HB.out⟩
      · have HM : measS 2 n 5 font a b = PT A n 100000 := by rw [Q1.out]; unfold measS; simp
        rw [HM]; clear HM
        go_enter Try.func73, Try.ntmps73
        go_wp2_with fail
        refine (CA.out _).mono ?_
        rintro e w' ⟨rfl, rfl⟩
        go_wp2_with fail
        refine (CB.out _).mono ?_
        rintro e w' ⟨rfl, rfl⟩
        go_wp2_with fail
        refine (PC.out _ _ _ _).mono ?_
        rintro e w' ⟨rfl, rfl⟩
        go_wp2_with fail
        go_ret
        exact ⟨rfl, HB.out⟩
      · have HM : measS 2 n 4 font a b = PT B n 100000 := by rw [Q2.out]; unfold measS; simp
        rw [HM]; clear HM
        go_enter Try.func73, Try.ntmps73
        go_wp2_with fail
        refine (CA.out _).mono ?_
        rintro e w' ⟨rfl, rfl⟩
        go_wp2_with fail
        refine (CB.out _).mono ?_
        rintro e w' ⟨rfl, rfl⟩
        go_wp2_with fail
        refine (PC.out _ _ _ _).mono ?_
        rintro e w' ⟨rfl, rfl⟩
        go_wp2_with fail
        go_ret
        exact ⟨rfl, HB.out⟩
      · have HM : measS 2 n 6 font a b = PT B n 100000 := by rw [Q2.out]; unfold measS; simp
        rw [HM]; clear HM
        go_enter Try.func73, Try.ntmps73
        go_wp2_with fail
        refine (CA.out _).mono ?_
        rintro e w' ⟨rfl, rfl⟩
        go_wp2_with fail
        refine (CB.out _).mono ?_
        rintro e w' ⟨rfl, rfl⟩
        go_wp2_with fail
        refine (PC.out _ _ _ _).mono ?_
        rintro e w' ⟨rfl, rfl⟩
        go_wp2_with fail
        go_ret
        exact ⟨rfl, HB.out⟩
      · have HM : measS 2 n 7 font a b = PT B n 100000 := by rw [HR1.out]; unfold measS; simp
        rw [HM]; clear HM
        go_enter Try.func73, Try.ntmps73
        go_wp2_with fail
        refine (CA.out _).mono ?_
        rintro e w' ⟨rfl, rfl⟩
        go_wp2_with fail
        refine (CB.out _).mono ?_
        rintro e w' ⟨rfl, rfl⟩
        go_wp2_with fail
        refine (PC.out _ _ _ _).mono ?_
        rintro e w' ⟨rfl, rfl⟩
        go_wp2_with fail
        go_ret
        exact ⟨rfl, HB.out⟩
      · have HM : measS 2 n 8 font a b = PT A n 100000 := by rw [HR2.out]; unfold measS; simp
        rw [HM]; clear HM
        go_enter Try.func73, Try.ntmps73
        go_wp2_with fail
        refine (CA.out _).mono ?_
        rintro e w' ⟨rfl, rfl⟩
        go_wp2_with fail
        refine (CB.out _).mono ?_
        rintro e w' ⟨rfl, rfl⟩
        go_wp2_with fail
        refine (PC.out _ _ _ _).mono ?_
        rintro e w' ⟨rfl, rfl⟩
        go_wp2_with fail
        go_ret
        exact ⟨rfl, HB.out⟩
      · have HM : measS 2 n d font a b = 0 := by unfold measS; simp [h1, h2, h3, h4, h5, h6, h7, h8]
        rw [HM]; clear HM
        have e1 : (d == 1) = false := by rw [beq_eq_false_iff_ne]; exact h1
        have e2 : (d == 2) = false := by rw [beq_eq_false_iff_ne]; exact h2
        have e3 : (d == 3) = false := by rw [beq_eq_false_iff_ne]; exact h3
        have e4 : (d == 4) = false := by rw [beq_eq_false_iff_ne]; exact h4
        have e5 : (d == 5) = false := by rw [beq_eq_false_iff_ne]; exact h5
        have e6 : (d == 6) = false := by rw [beq_eq_false_iff_ne]; exact h6
        have e7 : (d == 7) = false := by rw [beq_eq_false_iff_ne]; exact h7
        have e8 : (d == 8) = false := by rw [beq_eq_false_iff_ne]; exact h8
        clear h1 h2 h3 h4 h5 h6 h7 h8
        go_enter Try.func73, Try.ntmps73
        go_wp2_with fail
        refine (CA.out _).mono ?_
        rintro e w' ⟨rfl, rfl⟩
        go_wp2_with fail
        refine (CB.out _).mono ?_
        rintro e w' ⟨rfl, rfl⟩
        go_wp2_with fail
        go_ret
        exact ⟨rfl, HB.out⟩
    · have HM : measS kind n d font a b = 0 := by unfold measS; rw [if_pos hk]
      rw [HM]; clear HM
      have e0 : (kind == 2) = false := by rw [beq_eq_false_iff_ne]; exact hk
      clear hk
      go_enter Try.func73, Try.ntmps73
      go_wp2_with fail
      refine (CA.out _).mono ?_
      rintro e w' ⟨rfl, rfl⟩
      go_wp2_with fail
      refine (CB.out _).mono ?_
      rintro e w' ⟨rfl, rfl⟩
      go_wp2_with fail
      go_ret
      exact ⟨rfl, HB.out⟩
  · obtain ⟨r1, r2⟩ := m2 hba
    have HR1 := Lib.hid r1
    have HR2 := Lib.hid r2
    have Q1 := Lib.hid q1
    have Q2 := Lib.hid q2
    clear r1 r2 m1 m2 q1 q2
    by_cases hk : kind = 2
    · subst hk
      have hcs : d = 1 ∨ d = 2 ∨ d = 3 ∨ d = 5 ∨ d = 4 ∨ d = 6 ∨ d = 7 ∨ d = 8 ∨ (d ≠ 1 ∧ d ≠ 2 ∧ d ≠ 3 ∧ d ≠ 5 ∧ d ≠ 4 ∧ d ≠ 6 ∧ d ≠ 7 ∧ d ≠ 8) := by omega
      rcases hcs with rfl | rfl | rfl | rfl | rfl | rfl | rfl | rfl | ⟨h1, h2, h3, h5, h4, h6, h7, h8⟩
      · have HM : measS 2 n 1 font a b = PT n 64 1000 := by unfold measS; simp
        rw [HM]; clear HM
        go_enter Try.func73, Try.ntmps73
        go_wp2_with fail
        refine (CA.out _).mono ?_
        rintro e w' ⟨rfl, rfl⟩
        go_wp2_with fail
        refine (CB.out _).mono ?_
        rintro e w' ⟨rfl, rfl⟩
        go_wp2_with fail
        refine (PC.out _ _ _ _).mono ?_
        rintro e w' ⟨rfl, rfl⟩
        go_wp2_with fail
        go_ret
        exact ⟨rfl, HB.out⟩
      · have HM : measS 2 n 2 font a b = PT font n 1000 := by unfold measS; simp
        rw [HM]; clear HM
        go_enter Try.func73, Try.ntmps73
        go_wp2_with fail
        refine (CA.out _).mono ?_
        rintro e w' ⟨rfl, rfl⟩
        go_wp2_with fail
        refine (CB.out _).mono ?_
        rintro e w' ⟨rfl, rfl⟩
        go_wp2_with fail
        refine (PC.out _ _ _ _).mono ?_
        rintro e w' ⟨rfl, rfl⟩
        go_wp2_with fail
        go_ret
        exact ⟨rfl, HB.out⟩
      · have HM : measS 2 n 3 font a b = PT A n 100000 := by rw [Q1.out]; unfold measS; simp
        rw [HM]; clear HM
        go_enter Try.func73, Try.ntmps73
        go_wp2_with fail
        refine (CA.out _).mono ?_
        rintro e w' ⟨rfl, rfl⟩
        go_wp2_with fail
        refine (CB.out _).mono ?_
        rintro e w' ⟨rfl, rfl⟩
        go_wp2_with fail
        refine (PC.out _ _ _ _).mono ?_
        rintro e w' ⟨rfl, rfl⟩
        go_wp2_with fail
        go_ret
        exact ⟨rfl, HB.out⟩
      · have HM : measS 2 n 5 font a b = PT A n 100000 := by rw [Q1.out]; unfold measS; simp
        rw [HM]; clear HM
        go_enter Try.func73, Try.ntmps73
        go_wp2_with fail
        refine (CA.out _).mono ?_
        rintro e w' ⟨rfl, rfl⟩
        go_wp2_with fail
        refine (CB.out _).mono ?_
        rintro e w' ⟨rfl, rfl⟩
        go_wp2_with fail
        refine (PC.out _ _ _ _).mono ?_
        rintro e w' ⟨rfl, rfl⟩
        go_wp2_with fail
        go_ret
        exact ⟨rfl, HB.out⟩
      · have HM : measS 2 n 4 font a b = PT B n 100000 := by rw [Q2.out]; unfold measS; simp
        rw [HM]; clear HM
        go_enter Try.func73, Try.ntmps73
        go_wp2_with fail
        refine (CA.out _).mono ?_
        rintro e w' ⟨rfl, rfl⟩
        go_wp2_with fail
        refine (CB.out _).mono ?_
        rintro e w' ⟨rfl, rfl⟩
        go_wp2_with fail
        refine (PC.out _ _ _ _).mono ?_
        rintro e w' ⟨rfl, rfl⟩
        go_wp2_with fail
        go_ret
        exact ⟨rfl, HB.out⟩
      · have HM : measS 2 n 6 font a b = PT B n 100000 := by rw [Q2.out]; unfold measS; simp
        rw [HM]; clear HM
        go_enter Try.func73, Try.ntmps73
        go_wp2_with fail
        refine (CA.out _).mono ?_
        rintro e w' ⟨rfl, rfl⟩
        go_wp2_with fail
        refine (CB.out _).mono ?_
        rintro e w' ⟨rfl, rfl⟩
        go_wp2_with fail
        refine (PC.out _ _ _ _).mono ?_
        rintro e w' ⟨rfl, rfl⟩
        go_wp2_with fail
        go_ret
        exact ⟨rfl, HB.out⟩
      · have HM : measS 2 n 7 font a b = PT A n 100000 := by rw [HR1.out]; unfold measS; simp
        rw [HM]; clear HM
        go_enter Try.func73, Try.ntmps73
        go_wp2_with fail
        refine (CA.out _).mono ?_
        rintro e w' ⟨rfl, rfl⟩
        go_wp2_with fail
        refine (CB.out _).mono ?_
        rintro e w' ⟨rfl, rfl⟩
        go_wp2_with fail
        refine (PC.out _ _ _ _).mono ?_
        rintro e w' ⟨rfl, rfl⟩
        go_wp2_with fail
        go_ret
        exact ⟨rfl, HB.out⟩
      · have HM : measS 2 n 8 font a b = PT B n 100000 := by rw [HR2.out]; unfold measS; simp
        rw [HM]; clear HM
        go_enter Try.func73, Try.ntmps73
        go_wp2_with fail
        refine (CA.out _).mono ?_
        rintro e w' ⟨rfl, rfl⟩
        go_wp2_with fail
        refine (CB.out _).mono ?_
        rintro e w' ⟨rfl, rfl⟩
        go_wp2_with fail
        refine (PC.out _ _ _ _).mono ?_
        rintro e w' ⟨rfl, rfl⟩
        go_wp2_with fail
        go_ret
        exact ⟨rfl, HB.out⟩
      · have HM : measS 2 n d font a b = 0 := by unfold measS; simp [h1, h2, h3, h4, h5, h6, h7, h8]
        rw [HM]; clear HM
        have e1 : (d == 1) = false := by rw [beq_eq_false_iff_ne]; exact h1
        have e2 : (d == 2) = false := by rw [beq_eq_false_iff_ne]; exact h2
        have e3 : (d == 3) = false := by rw [beq_eq_false_iff_ne]; exact h3
        have e4 : (d == 4) = false := by rw [beq_eq_false_iff_ne]; exact h4
        have e5 : (d == 5) = false := by rw [beq_eq_false_iff_ne]; exact h5
        have e6 : (d == 6) = false := by rw [beq_eq_false_iff_ne]; exact h6
        have e7 : (d == 7) = false := by rw [beq_eq_false_iff_ne]; exact h7
        have e8 : (d == 8) = false := by rw [beq_eq_false_iff_ne]; exact h8
        clear h1 h2 h3 h4 h5 h6 h7 h8
        go_enter Try.func73, Try.ntmps73
        go_wp2_with fail
        refine (CA.out _).mono ?_
        rintro e w' ⟨rfl, rfl⟩
        go_wp2_with fail
        refine (CB.out _).mono ?_
        rintro e w' ⟨rfl, rfl⟩
        go_wp2_with fail
        go_ret
        exact ⟨rfl, HB.out⟩
    · have HM : measS kind n d font a b = 0 := by unfold measS; rw [if_pos hk]
      rw [HM]; clear HM
      have e0 : (kind == 2) = false := by rw [beq_eq_false_iff_ne]; exact hk
      clear hk
      go_enter Try.func73, Try.ntmps73
      go_wp2_with fail
      refine (CA.out _).mono ?_
      rintro e w' ⟨rfl, rfl⟩
      go_wp2_with fail
      refine (CB.out _).mono ?_
      rintro e w' ⟨rfl, rfl⟩
      go_wp2_with fail
      go_ret
      exact ⟨rfl, HB.out⟩
end Go.Proofs.Ythfabalnioggcaa
