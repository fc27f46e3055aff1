/- Layer 18: extremes, heights, and fixed calls. -/
import Derived.Test.YtekmgpbolbkiaaaWdsW8
namespace Go.Proofs.Ytekmgpbolbkiaaa
open Go.RowKit FixM FixP TreN WdsP
set_option linter.unusedVariables false

def tallS (n font line : Int) : Int := PT (max 0 n) (max 0 (PT font line 1000)) 1
theorem PT_one (a b : Int) : PT a b 1 = H (H a * H b) := by
  unfold PT
  rw [if_neg (by decide), H_id (x := 1) (by decide) (by decide), FL_pos _ _ (by decide), Int.ediv_one]
set_option maxRecDepth 100000 in
set_option maxHeartbeats 4000000 in
theorem Tall18_any (n font line : Int) (w : World) : Calls Try.prog 22 #[.int .i64 n, .int .i64 font, .int .i64 line] w fun e w' => e = .returned (.int .i64 (tallS n font line)) ∧ w = w' := by
  obtain ⟨h, hh⟩ : ∃ h, PT font line 1000 = h := ⟨_, rfl⟩
  have C1 := Part_any font line 1000
  rw [hh] at C1
  have CC1 := Lib.hid C1
  have HT : Hid (tallS n font line = PT (max 0 n) (max 0 h) 1) := Lib.hid (by unfold tallS; rw [hh])
  clear C1 hh
  rcases (by omega : (0 < h ∧ 0 < n) ∨ (0 < h ∧ n ≤ 0) ∨ (h ≤ 0 ∧ 0 < n) ∨ (h ≤ 0 ∧ n ≤ 0)) with ⟨h1, h2⟩ | ⟨h1, h2⟩ | ⟨h1, h2⟩ | ⟨h1, h2⟩
  all_goals
    go_enter Try.func22, Try.ntmps22
    go_wp2_with fail
    refine (CC1.out _).mono ?_
    rintro e w1 ⟨rfl, rfl⟩
    go_wp2_with fail
    refine (Part_any _ _ _ _).mono ?_
    rintro e w1 ⟨rfl, rfl⟩
    go_wp2_with fail
    go_ret
    refine ⟨ret_intF ?_, rfl⟩
    rw [HT.out]
    congr 1 <;> omega

set_option maxRecDepth 100000 in
set_option maxHeartbeats 4000000 in
theorem refTall18_any (n font line : Int) (w : World) : Calls Try.prog 23 #[.int .i64 n, .int .i64 font, .int .i64 line] w fun e w' => e = .returned (.int .i64 (tallS n font line)) ∧ w = w' := by
  obtain ⟨h, hh⟩ : ∃ h, PT font line 1000 = h := ⟨_, rfl⟩
  have hb := PT_bd font line 1000
  have C1 := refPart_any font line 1000
  rw [hh] at C1 hb
  have CC1 := Lib.hid C1
  have HT : Hid (tallS n font line = PT (max 0 n) (max 0 h) 1) := Lib.hid (by unfold tallS; rw [hh])
  have hN := H_bd n
  have hp : H n * h ≤ 1152921504606846976 ∧ -1152921504606846976 ≤ H n * h := by
    have h1 := prod_bd n h
    rw [H_id (x := h) hb.1 hb.2] at h1
    exact ⟨h1.2, h1.1⟩
  obtain ⟨b1, b2⟩ := hb
  obtain ⟨hp1, hp2⟩ := hp
  have hw := (if h1 : 0 ≤ h then (if h2 : 0 ≤ n then Or.inl ⟨h1, h2⟩ else Or.inr (Or.inl ⟨h1, h2⟩)) else Or.inr (Or.inr h1) : (0 ≤ h ∧ 0 ≤ n) ∨ (0 ≤ h ∧ ¬ 0 ≤ n) ∨ (¬ 0 ≤ h))
  clear C1 hh
  obtain ⟨Hn, hHn⟩ : ∃ Hn, H n = Hn := ⟨_, rfl⟩
  rw [hHn] at hp1 hp2 hN
  have HHN := Lib.hid hHn
  have HHC := Lib.hid (fun w => (refHold_any n w))
  rw [hHn] at HHC
  obtain ⟨hN1, hN2⟩ := hN
  clear hHn
  rcases hw with ⟨h1, h2⟩ | ⟨h1, h2⟩ | h1
  · go_enter Try.func23, Try.ntmps23
    go_wp2_with fail
    refine (CC1.out _).mono ?_
    rintro e w1 ⟨rfl, rfl⟩
    go_wp2_with fail
    refine (HHC.out _).mono ?_
    rintro e w1 ⟨rfl, rfl⟩
    go_wp2_with fail
    refine (refHold_any _ _).mono ?_
    rintro e w1 ⟨rfl, rfl⟩
    go_wp2_with fail
    go_ret
    refine ⟨ret_intF ?_, rfl⟩
    rw [HT.out, PT_one]
    have e1 : max 0 n = n := by omega
    have e2 : max 0 h = h := by omega
    rw [e1, e2, H_id (x := h) b1 b2, HHN.out]
  all_goals
    go_enter Try.func23, Try.ntmps23
    go_wp2_with fail
    refine (CC1.out _).mono ?_
    rintro e w1 ⟨rfl, rfl⟩
    go_wp2_with fail
    go_ret
    refine ⟨ret_intF ?_, rfl⟩
    rw [HT.out, PT_one]
    first
      | (have e1 : max 0 n = 0 := by omega
         rw [e1, H_id (x := 0) (by decide) (by decide), Int.zero_mul]; rfl)
      | (have e1 : max 0 h = 0 := by omega
         rw [e1, H_id (x := 0) (by decide) (by decide), Int.mul_zero]; rfl)

theorem few18_any (s : ByteArray) (w : World) : Calls Try.prog 9 #[.string s] w fun e w' => e = .returned (.bool (decide (s.size ≤ 300))) ∧ w = w' := by
  by_cases h : s.size ≤ 300
  all_goals
    go_enter Try.func9, Try.ntmps9
    go_wp2_with fail
    go_ret
    refine ⟨?_, rfl⟩
    first | (simp [h]; done) | (simp [h]; omega)

/-- the widest of the first k, and of the very first -/
def mxK (font : Int) (L : List ByteArray) : Nat → Int
  | 0 => wid font (L.take 1)
  | k + 1 => max (mxK font L k) (wid font (seg L k (k + 1)))
def leastS (font : Int) (L : List ByteArray) : Int := if L.length = 0 then 0 else mxK font L L.length
theorem mxK_bd (font : Int) (L : List ByteArray) : ∀ k, -1073741824 ≤ mxK font L k ∧ mxK font L k ≤ 1073741824
  | 0 => wid_bd _ _
  | k + 1 => by have := mxK_bd font L k; have := wid_bd font (seg L k (k + 1)); unfold mxK; omega
end Go.Proofs.Ytekmgpbolbkiaaa
