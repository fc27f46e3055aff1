/- Layer 18: a byte's advance. -/
import Derived.Test.YtekmgpbolbkiaaaFixWa
import Derived.Test.YtekmgpbolbkiaaaWdsP
import Derived.StillTailTactics
namespace Go.Proofs.Ytekmgpbolbkiaaa
open Go.RowKit FixM FixP TreN WdsP
set_option linter.unusedVariables false

set_option maxRecDepth 100000 in
set_option maxHeartbeats 4000000 in
theorem Advance18_any (c : Int) (w : World) : Calls Try.prog 16 #[.int .u8 c] w fun e w' => e = .returned (.int .i64 (advB c)) ∧ w = w' := by
  obtain ⟨v, hv⟩ : ∃ v, advB c = v := ⟨_, rfl⟩
  rw [hv]
  have HV := Lib.hid hv
  clear hv
  by_cases hL : c = 32 ∨ thinL.contains c = true ∨ fatL.contains c = true
  · have hc : c = 32 ∨ c = 102 ∨ c = 105 ∨ c = 106 ∨ c = 108 ∨ c = 114 ∨ c = 116 ∨ c = 46 ∨ c = 44 ∨ c = 58 ∨ c = 59 ∨ c = 39 ∨ c = 33 ∨ c = 124 ∨ c = 40 ∨ c = 41 ∨ c = 91 ∨ c = 93 ∨ c = 109 ∨ c = 119 ∨ c = 77 ∨ c = 87 ∨ c = 37 := by
      rcases hL with h | h | h
      · exact Or.inl h
      · simp [thinL] at h; omega
      · simp [fatL] at h; omega
    clear hL
    rcases hc with rfl | rfl | rfl | rfl | rfl | rfl | rfl | rfl | rfl | rfl | rfl | rfl | rfl | rfl | rfl | rfl | rfl | rfl | rfl | rfl | rfl | rfl | rfl
    all_goals
      go_enter Try.func16, Try.ntmps16
      go_wp2_with fail
      go_ret
      refine ⟨ret_intF ?_, rfl⟩
      rw [← HV.out]
      decide
  · have hn : ¬ c = 32 ∧ thinL.contains c = false ∧ fatL.contains c = false := ⟨fun h => hL (Or.inl h), by cases h : thinL.contains c; rfl; exact absurd (Or.inr (Or.inl h)) hL, by cases h : fatL.contains c; rfl; exact absurd (Or.inr (Or.inr h)) hL⟩
    obtain ⟨n0, n1, n2⟩ := hn
    have HE : Hid (v = if (65 ≤ c ∧ c ≤ 90) ∨ (48 ≤ c ∧ c ≤ 57) then 600 else 500) := Lib.hid (by rw [← HV.out]; unfold advB; rw [if_neg n0, n1, n2]; rfl)
    simp [thinL] at n1
    simp [fatL] at n2
    clear hL HV
    obtain ⟨m1, m2, m3, m4, m5, m6, m7, m8, m9, m10, m11, m12, m13, m14, m15, m16, m17⟩ := n1
    obtain ⟨k1, k2, k3, k4, k5⟩ := n2
    have e0 : (c == 32) = false := by simpa using n0
    have e1 : (c == 102) = false := by simpa using m1
    have e2 : (c == 105) = false := by simpa using m2
    have e3 : (c == 106) = false := by simpa using m3
    have e4 : (c == 108) = false := by simpa using m4
    have e5 : (c == 114) = false := by simpa using m5
    have e6 : (c == 116) = false := by simpa using m6
    have e7 : (c == 46) = false := by simpa using m7
    have e8 : (c == 44) = false := by simpa using m8
    have e9 : (c == 58) = false := by simpa using m9
    have e10 : (c == 59) = false := by simpa using m10
    have e11 : (c == 39) = false := by simpa using m11
    have e12 : (c == 33) = false := by simpa using m12
    have e13 : (c == 124) = false := by simpa using m13
    have e14 : (c == 40) = false := by simpa using m14
    have e15 : (c == 41) = false := by simpa using m15
    have e16 : (c == 91) = false := by simpa using m16
    have e17 : (c == 93) = false := by simpa using m17
    have f1 : (c == 109) = false := by simpa using k1
    have f2 : (c == 119) = false := by simpa using k2
    have f3 : (c == 77) = false := by simpa using k3
    have f4 : (c == 87) = false := by simpa using k4
    have f5 : (c == 37) = false := by simpa using k5
    clear m1 m2 m3 m4 m5 m6 m7 m8 m9 m10 m11 m12 m13 m14 m15 m16 m17 k1 k2 k3 k4 k5 n0
    have hr : c < 48 ∨ (48 ≤ c ∧ c ≤ 57) ∨ (57 < c ∧ c < 65) ∨ (65 ≤ c ∧ c ≤ 90) ∨ 90 < c := by omega
    rcases hr with h | ⟨h1, h2⟩ | ⟨h1, h2⟩ | ⟨h1, h2⟩ | h
    all_goals
      go_enter Try.func16, Try.ntmps16
      go_wp2_with fail
      go_ret
      refine ⟨ret_intF ?_, rfl⟩
      rw [HE.out]
      first | rw [if_pos (by omega)] | rw [if_neg (by omega)]

def inB (l : List Int) (c : Int) : Bool := l.contains c
set_option maxRecDepth 100000 in
set_option maxHeartbeats 4000000 in
theorem In18_any (s : ByteArray) (c : Int) (w : World) (hs : s.size ≤ 100) : Calls Try.prog 27 #[.string s, .int .u8 c] w fun e w' => e = .returned (.bool ((List.range s.size).any fun i => bt s i == c)) ∧ w = w' := by
  obtain ⟨v, hv⟩ : ∃ v, ((List.range s.size).any fun i => bt s i == c) = v := ⟨_, rfl⟩
  rw [hv]
  have HV := Lib.hid hv
  clear hv
  go_enter Try.func27, Try.ntmps27
  go_wp2_with fail
  go_loop [5] (fun i => ∃ k : Nat, k ≤ s.size ∧ i = .int .i64 k ∧ Hid (∀ j, j < k → (bt s j == c) = false)) (fun i => s.size - (intOf i).toNat)
  case atStart => exact ⟨0, by omega, rfl, Lib.hid (fun j hj => by omega)⟩
  case round =>
    obtain ⟨k, hk, rfl, HI⟩ := hrel
    by_cases hlt : k < s.size
    · have hbt := bt_eq s k hlt
      cases hb : (bt s k == c) with
      | true =>
        have hb2 : ((s[k].toNat : Int) == c) = true := by rw [← hbt]; exact hb
        have HF : Hid (v = true) := Lib.hid (by rw [← HV.out, List.any_eq_true]; exact ⟨k, List.mem_range.2 hlt, hb⟩)
        clear hb hbt
        go_wp2_with fail
        go_ret
        exact ⟨by rw [HF.out]; rfl, rfl⟩
      | false =>
        have hb2 : ((s[k].toNat : Int) == c) = false := by rw [← hbt]; exact hb
        have HJ : Hid (∀ j, j < k + 1 → (bt s j == c) = false) := Lib.hid (fun j hj => by
          rcases Nat.lt_or_ge j k with h | h
          · exact HI.out j h
          · have : j = k := by omega
            rw [this]; exact hb)
        clear hb hbt
        go_wp2_with fail
        go_round
        case rel => exact ⟨k + 1, by omega, by go_num, HJ⟩
        case measure => simp [intOf]; omega
    · have HF : Hid (v = false) := Lib.hid (by
        rw [← HV.out, List.any_eq_false]
        intro j hj
        rw [HI.out j (by have := List.mem_range.1 hj; omega)]; simp)
      go_wp2_with fail
      go_ret
      exact ⟨by rw [HF.out]; rfl, rfl⟩

def thinT : ByteArray := ⟨#[102, 105, 106, 108, 114, 116, 46, 44, 58, 59, 39, 33, 124, 40, 41, 91, 93]⟩
def fatT : ByteArray := ⟨#[109, 119, 77, 87, 37]⟩
theorem thin_in (c : Int) : ((List.range thinT.size).any fun i => bt thinT i == c) = thinL.contains c := by
  have h : ∀ c, ((List.range thinT.size).map (bt thinT)).contains c = thinL.contains c := fun c => by
    have e : (List.range thinT.size).map (bt thinT) = thinL := by decide +kernel
    rw [e]
  rw [← h c, List.contains_eq_any_beq, List.any_map]
  congr 1; funext i; simp only [Function.comp]; exact BEq.comm
theorem fat_in (c : Int) : ((List.range fatT.size).any fun i => bt fatT i == c) = fatL.contains c := by
  have h : ∀ c, ((List.range fatT.size).map (bt fatT)).contains c = fatL.contains c := fun c => by
    have e : (List.range fatT.size).map (bt fatT) = fatL := by decide +kernel
    rw [e]
  rw [← h c, List.contains_eq_any_beq, List.any_map]
  congr 1; funext i; simp only [Function.comp]; exact BEq.comm

set_option maxRecDepth 100000 in
set_option maxHeartbeats 4000000 in
theorem refAdvance18_any (c : Int) (w : World) : Calls Try.prog 17 #[.int .u8 c] w fun e w' => e = .returned (.int .i64 (advB c)) ∧ w = w' := by
  obtain ⟨v, hv⟩ : ∃ v, advB c = v := ⟨_, rfl⟩
  rw [hv]
  have HV := Lib.hid hv
  clear hv
  by_cases h0 : c = 32
  · subst h0
    go_enter Try.func17, Try.ntmps17
    go_wp2_with fail
    go_ret
    exact ⟨ret_intF (by rw [← HV.out]; decide), rfl⟩
  have e0 : (c == 32) = false := by simpa using h0
  obtain ⟨b1, hb1⟩ : ∃ b, thinL.contains c = b := ⟨_, rfl⟩
  obtain ⟨b2, hb2⟩ : ∃ b, fatL.contains c = b := ⟨_, rfl⟩
  have C1 := In18_any thinT c
  have C2 := In18_any fatT c
  rw [thin_in, hb1] at C1
  rw [fat_in, hb2] at C2
  have CC1 := Lib.hid C1
  have CC2 := Lib.hid C2
  have HE : Hid (v = if b1 then 300 else if b2 then 800 else if (65 ≤ c ∧ c ≤ 90) ∨ (48 ≤ c ∧ c ≤ 57) then 600 else 500) := Lib.hid (by rw [← HV.out]; unfold advB; rw [if_neg h0, hb1, hb2])
  clear C1 C2 hb1 hb2 HV h0
  cases b1 with
  | true =>
    go_enter Try.func17, Try.ntmps17
    go_wp2_with fail
    refine (CC1.out _ (by decide)).mono ?_
    rintro e w1 ⟨rfl, rfl⟩
    go_wp2_with fail
    go_ret
    exact ⟨ret_intF (by rw [HE.out]; rfl), rfl⟩
  | false =>
    cases b2 with
    | true =>
      go_enter Try.func17, Try.ntmps17
      go_wp2_with fail
      refine (CC1.out _ (by decide)).mono ?_
      rintro e w1 ⟨rfl, rfl⟩
      go_wp2_with fail
      refine (CC2.out _ (by decide)).mono ?_
      rintro e w1 ⟨rfl, rfl⟩
      go_wp2_with fail
      go_ret
      exact ⟨ret_intF (by rw [HE.out]; rfl), rfl⟩
    | false =>
      have hr : c < 48 ∨ (48 ≤ c ∧ c ≤ 57) ∨ (57 < c ∧ c < 65) ∨ (65 ≤ c ∧ c ≤ 90) ∨ 90 < c := by omega
      rcases hr with h | ⟨h1, h2⟩ | ⟨h1, h2⟩ | ⟨h1, h2⟩ | h
      all_goals
        go_enter Try.func17, Try.ntmps17
        go_wp2_with fail
        refine (CC1.out _ (by decide)).mono ?_
        rintro e w1 ⟨rfl, rfl⟩
        go_wp2_with fail
        refine (CC2.out _ (by decide)).mono ?_
        rintro e w1 ⟨rfl, rfl⟩
        go_wp2_with fail
        go_ret
        refine ⟨ret_intF ?_, rfl⟩
        rw [HE.out]
        simp only [Bool.false_eq_true, if_false]
        first | rw [if_pos (by omega)] | rw [if_neg (by omega)]

end Go.Proofs.Ytekmgpbolbkiaaa
