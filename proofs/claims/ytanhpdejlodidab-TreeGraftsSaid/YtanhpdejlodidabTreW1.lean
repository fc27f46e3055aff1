/- The walks of layer 4's texts: names and words. -/
import Derived.Test.YtanhpdejlodidabProg
import Derived.Test.YtanhpdejlodidabTreN
import Derived.WalkKit
import Derived.WalkSpells
import Derived.WalkLawsBesides
import Derived.Deep.QuietTactic
import Derived.BigQuiet
import Derived.Lib.Hide
import Derived.Shelf.Abstract
namespace Go.Proofs.Ytanhpdejlodidab
open Go.RowKit TreN

theorem ret_int {k : IntKind} {a b : Int} (h : a = b) : Ending.returned (.int k a) = .returned (.int k b) := by rw [h]
theorem ret_bool {a b : Bool} (h : a = b) : Ending.returned (.bool a) = .returned (.bool b) := by rw [h]

theorem let_ways (c : Int) : c < 65 ∨ (65 ≤ c ∧ c ≤ 90) ∨ (91 ≤ c ∧ c ≤ 94) ∨ c = 95 ∨ c = 96 ∨ (97 ≤ c ∧ c ≤ 122) ∨ (123 ≤ c ∧ c ≤ 127) ∨ 128 ≤ c := by omega

set_option maxHeartbeats 1000000 in
theorem letter_any (c : Int) (w : World) : Calls Try.prog 41 #[.int .u8 c] w fun e w' => e = .returned (.bool (letB c)) ∧ w = w' := by
  obtain ⟨v, hv⟩ : ∃ v, letB c = v := ⟨_, rfl⟩
  rw [hv]
  have HV := Lib.hid hv
  clear hv
  rcases let_ways c with h | h | h | rfl | rfl | h | h | h
  all_goals
    try obtain ⟨h1, h2⟩ := h
    go_enter Try.func41, Try.ntmps41
    go_wp2_with fail
    go_ret
    refine ⟨ret_bool ?_, rfl⟩
    rw [← HV.out]
    unfold letB
    first | decide | (rw [Bool.eq_iff_iff]; simp; omega) | (simp; omega) | (symm; simp; omega)

set_option maxHeartbeats 1000000 in
theorem refBegins_any (c : Int) (w : World) : Calls Try.prog 59 #[.int .u8 c] w fun e w' => e = .returned (.bool (letB c)) ∧ w = w' := by
  obtain ⟨v, hv⟩ : ∃ v, letB c = v := ⟨_, rfl⟩
  rw [hv]
  have HV := Lib.hid hv
  clear hv
  rcases let_ways c with h | h | h | rfl | rfl | h | h | h
  all_goals
    try obtain ⟨h1, h2⟩ := h
    go_enter Try.func59, Try.ntmps59
    go_wp2_with fail
    go_ret
    refine ⟨ret_bool ?_, rfl⟩
    rw [← HV.out]
    unfold letB
    first | decide | (rw [Bool.eq_iff_iff]; simp; omega) | (simp; omega) | (symm; simp; omega)

theorem go_ways4 (c : Int) : c < 45 ∨ c = 45 ∨ (46 ≤ c ∧ c < 48) ∨ (48 ≤ c ∧ c ≤ 57) ∨ 58 ≤ c := by omega

set_option maxHeartbeats 1000000 in
theorem nameByte_any (c : Int) (w : World) : Calls Try.prog 40 #[.int .u8 c] w fun e w' => e = .returned (.bool (goB c)) ∧ w = w' := by
  cases hl : letB c with
  | true =>
    have hg : goB c = true := by unfold goB; rw [hl]; rfl
    rw [hg]
    have HL := Lib.hid hl
    clear hl hg
    go_enter Try.func40, Try.ntmps40
    go_wp2_with (go_at_call 41; refine (letter_any _ _).mono ?_; rintro e w' ⟨rfl, rfl⟩; rw [HL.out])
    go_ret
    exact ⟨rfl, rfl⟩
  | false =>
    have hg : goB c = (decide (c = 45) || decide (48 ≤ c ∧ c ≤ 57)) := by unfold goB; rw [hl]; rfl
    rw [hg]
    have HL := Lib.hid hl
    clear hl hg
    rcases go_ways4 c with h | rfl | h | h | h
    all_goals
      try obtain ⟨h1, h2⟩ := h
      go_enter Try.func40, Try.ntmps40
      go_wp2_with (go_at_call 41; refine (letter_any _ _).mono ?_; rintro e w' ⟨rfl, rfl⟩; rw [HL.out])
      go_ret
      refine ⟨ret_bool ?_, rfl⟩
      first | decide | (rw [Bool.eq_iff_iff]; simp; omega) | (simp; omega) | (symm; simp; omega)

set_option maxHeartbeats 1000000 in
theorem refGoes_any (c : Int) (w : World) : Calls Try.prog 60 #[.int .u8 c] w fun e w' => e = .returned (.bool (goB c)) ∧ w = w' := by
  cases hl : letB c with
  | true =>
    have hg : goB c = true := by unfold goB; rw [hl]; rfl
    rw [hg]
    have HL := Lib.hid hl
    clear hl hg
    go_enter Try.func60, Try.ntmps60
    go_wp2_with (go_at_call 59; refine (refBegins_any _ _).mono ?_; rintro e w' ⟨rfl, rfl⟩; rw [HL.out])
    go_ret
    exact ⟨rfl, rfl⟩
  | false =>
    have hg : goB c = (decide (c = 45) || decide (48 ≤ c ∧ c ≤ 57)) := by unfold goB; rw [hl]; rfl
    rw [hg]
    have HL := Lib.hid hl
    clear hl hg
    rcases go_ways4 c with h | rfl | h | h | h
    all_goals
      try obtain ⟨h1, h2⟩ := h
      go_enter Try.func60, Try.ntmps60
      go_wp2_with (go_at_call 59; refine (refBegins_any _ _).mono ?_; rintro e w' ⟨rfl, rfl⟩; rw [HL.out])
      go_ret
      refine ⟨ret_bool ?_, rfl⟩
      first | decide | (rw [Bool.eq_iff_iff]; simp; omega) | (simp; omega) | (symm; simp; omega)

set_option maxHeartbeats 1000000 in
theorem textByte_any (c : Int) (w : World) : Calls Try.prog 44 #[.int .u8 c] w fun e w' => e = .returned (.bool (txB c)) ∧ w = w' := by
  obtain ⟨v, hv⟩ : ∃ v, txB c = v := ⟨_, rfl⟩
  rw [hv]
  have HV := Lib.hid hv
  clear hv
  have hc : c < 32 ∨ c = 34 ∨ (32 ≤ c ∧ c < 34) ∨ 34 < c := by omega
  rcases hc with h | rfl | h | h
  all_goals
    try obtain ⟨h1, h2⟩ := h
    go_enter Try.func44, Try.ntmps44
    go_wp2_with fail
    go_ret
    refine ⟨ret_bool ?_, rfl⟩
    rw [← HV.out]
    unfold txB
    first | decide | (rw [Bool.eq_iff_iff]; simp; omega) | (simp; omega) | (symm; simp; omega)

set_option maxHeartbeats 1000000 in
theorem every_any (g : Nat) (p : Int → Bool) (eg : ∀ args w, (callFunc g args).run Try.prog w = .ok (.enter g args) w)
    (hg : ∀ c w, Calls Try.prog g #[.int .u8 c] w fun e w' => e = .returned (.bool (p c)) ∧ w = w') (s : ByteArray) (hs : s.size ≤ maxLen) (w : World) :
    Calls Try.prog 39 #[.string s, .func (.func g) #[] #[]] w fun e w' => e = .returned (.bool (allB p s)) ∧ w = w' := by
  unfold maxLen at hs
  have HG := Lib.hid hg
  clear hg
  go_enter Try.func39, Try.ntmps39
  go_wp2_with fail
  go_loop [8] (fun i => ∃ k : Nat, k ≤ s.size ∧ i = .int .i64 k ∧ Hid (∀ j, j < k → p (bt s j) = true)) (fun i => s.size - (intOf i).toNat)
  case atStart => exact ⟨0, by omega, rfl, fun j hj => by omega⟩
  case round =>
    obtain ⟨k, hk, rfl, HI⟩ := hrel
    by_cases hlt : k < s.size
    · have hltz : (k : Int) < (s.size : Int) := by omega
      cases hp : p (s[k].toNat : Int) with
      | true =>
        have HP := Lib.hid hp
        clear hp
        go_wp2_with fail
        refine (HG.out _ _).mono ?_
        rintro e w' ⟨rfl, rfl⟩
        rw [HP.out]
        go_wp2_with fail
        go_round
        case rel =>
          refine ⟨k + 1, by omega, by go_num, fun j hj => ?_⟩
          by_cases c : j = k
          · subst c; rw [bt_eq s j hlt]; exact HP.out
          · exact HI.out j (by omega)
        case measure => simp [intOf]; omega
      | false =>
        have HP := Lib.hid hp
        clear hp
        go_wp2_with fail
        refine (HG.out _ _).mono ?_
        rintro e w' ⟨rfl, rfl⟩
        rw [HP.out]
        go_wp2_with fail
        go_ret
        exact ⟨ret_bool (allB_false k hlt (by rw [bt_eq s k hlt]; exact HP.out)).symm, rfl⟩
    · have hall : allB p s = true := allB_true fun j hj => HI.out j (by omega)
      have HA := Lib.hid hall
      clear hall
      go_wp2_with fail
      go_ret
      exact ⟨ret_bool HA.out.symm, rfl⟩
end Go.Proofs.Ytanhpdejlodidab
