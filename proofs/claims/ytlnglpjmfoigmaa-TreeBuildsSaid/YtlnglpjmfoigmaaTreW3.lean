/- The walks of layer 4's reference: names. -/
import Derived.Test.YtlnglpjmfoigmaaWalkA
namespace Go.Proofs.Ytlnglpjmfoigmaa
open Go.RowKit TreN

set_option maxRecDepth 100000 in
theorem empty_of (s : ByteArray) (h : s.size = 0) : s = ByteArray.empty := ByteArray.ext (Array.eq_empty_of_size_eq_zero h)

set_option maxRecDepth 100000 in
set_option maxHeartbeats 1000000 in
theorem refStarts_any (s : ByteArray) (hs : s.size ≤ maxLen) (w : World) :
    Calls Try.prog 42 #[.string s, .int .i64 0] w fun e w' => e = .returned (.bool (begB s)) ∧ w = w' := by
  unfold maxLen at hs
  by_cases h0 : s.size = 0
  · rw [begB_0 s h0]
    obtain rfl := empty_of s h0
    clear h0 hs
    go_enter Try.func42, Try.ntmps42
    go_wp2_with fail
    go_ret
    exact ⟨rfl, rfl⟩
  · have h0' : 0 < s.size := by omega
    have h0z : ¬ s = ByteArray.empty := fun e => by subst e; exact h0 rfl
    clear h0
    by_cases hd : bt s 0 = 45
    · have hb : (((s[0]'h0').toNat : Int) == 45) = true := by rw [← bt_eq s 0 h0', hd]; rfl
      by_cases h1 : 1 < s.size
      · have h1z : (1 : Int) < (s.size : Int) := by omega
        rw [begB_2 s h1 hd, bt_eq s 1 h1]
        clear hd
        cases hl : letB ((s[1]'h1).toNat : Int)
        all_goals
          have HL := Lib.hid hl
          clear hl
          cases hc : (((s[1]'h1).toNat : Int) == 45)
          all_goals
            have hv : decide (((s[1]'h1).toNat : Int) = 45) = (((s[1]'h1).toNat : Int) == 45) := rfl
            rw [hv, hc]
            clear hv
            go_enter Try.func42, Try.ntmps42
            go_wp2_with (go_at_call 59; refine (refBegins_any _ _).mono ?_; rintro e w' ⟨rfl, rfl⟩; rw [HL.out])
            go_ret
            exact ⟨rfl, rfl⟩
      · have h1z : ¬ (1 : Int) < (s.size : Int) := by omega
        have hl : letB (bt s 0) = false := by rw [hd]; rfl
        rw [begB_1 s h0' (by omega), hl]
        clear hd hl
        go_enter Try.func42, Try.ntmps42
        go_wp2_with fail
        go_ret
        exact ⟨rfl, rfl⟩
    · have hb : (((s[0]'h0').toNat : Int) == 45) = false := by rw [← bt_eq s 0 h0']; simpa using hd
      rw [begB_1 s h0' (by omega), bt_eq s 0 h0']
      clear hd
      go_enter Try.func42, Try.ntmps42
      go_wp2_with (go_at_call 59; refine (refBegins_any _ _).mono ?_; rintro e w' ⟨rfl, rfl⟩)
      go_ret
      exact ⟨rfl, rfl⟩

def RunIs (s : ByteArray) (w : World) (e : Ending) (w' : World) : Prop := ∃ r : Nat, e = .returned (.int .i64 r) ∧ ((r : Int) == (s.size : Int)) = allB goB s ∧ w = w'

set_option maxRecDepth 100000 in
theorem run_end (s : ByteArray) (k : Nat) (hk : k ≤ s.size) (h : ∀ j, j < k → goB (bt s j) = true) (he : k = s.size ∨ (k < s.size ∧ goB (bt s k) = false)) : ((k : Int) == (s.size : Int)) = allB goB s := by
  rcases he with rfl | ⟨h1, h2⟩
  · rw [allB_true h]; simp
  · rw [allB_false k h1 h2, beq_eq_false_iff_ne]; omega

set_option maxRecDepth 100000 in
set_option maxHeartbeats 1000000 in
theorem refRun_any (s : ByteArray) (hs : s.size ≤ maxLen) (w : World) :
    Calls Try.prog 43 #[.string s, .int .i64 0] w (RunIs s w) := by
  unfold maxLen at hs
  go_enter Try.func43, Try.ntmps43
  go_wp2_with fail
  go_loop [1, 5] (fun a n => ∃ k : Nat, k ≤ s.size ∧ a = .int .i64 k ∧ n = .int .i64 k ∧ Hid (∀ j, j < k → goB (bt s j) = true)) (fun a _ => s.size - (intOf a).toNat)
  case atStart => exact ⟨0, by omega, rfl, rfl, fun j hj => by omega⟩
  case round =>
    obtain ⟨k, hk, rfl, rfl, HI⟩ := hrel
    by_cases hlt : k < s.size
    · have hltz : (k : Int) < (s.size : Int) := by omega
      have hbt := bt_eq s k hlt
      cases hg : goB (s[k].toNat : Int) with
      | true =>
        have HG := Lib.hid hg
        have HF := Lib.hid (show goB (bt s k) = true by rw [hbt]; exact hg)
        clear hg hbt
        go_wp2_with (go_at_call 60; refine (refGoes_any _ _).mono ?_; rintro e w' ⟨rfl, rfl⟩; rw [HG.out])
        go_round
        case rel =>
          refine ⟨k + 1, by omega, by go_num, by go_num, fun j hj => ?_⟩
          by_cases c : j = k
          · subst c; exact HF.out
          · exact HI.out j (by omega)
        case measure => simp [intOf]; omega
      | false =>
        have HG := Lib.hid hg
        have HF := Lib.hid (show goB (bt s k) = false by rw [hbt]; exact hg)
        clear hg hbt
        go_wp2_with (go_at_call 60; refine (refGoes_any _ _).mono ?_; rintro e w' ⟨rfl, rfl⟩; rw [HG.out])
        go_ret
        exact ⟨k, rfl, run_end s k hk HI.out (Or.inr ⟨hlt, HF.out⟩), rfl⟩
    · have hke : k = s.size := by omega
      have HE := Lib.hid (run_end s k hk HI.out (Or.inl hke))
      have hltz : ¬ (k : Int) < (s.size : Int) := by omega
      clear hke
      go_wp2_with fail
      go_ret
      exact ⟨k, rfl, HE.out, rfl⟩

set_option maxRecDepth 100000 in
set_option maxHeartbeats 1000000 in
theorem refName_any (s : ByteArray) (hs : s.size ≤ maxLen) (w : World) :
    Calls Try.prog 11 #[.string s] w fun e w' => e = .returned (.bool (nameB s)) ∧ w = w' := by
  have C1 := Lib.hid (refStarts_any s hs w)
  have C2 := Lib.hid (refRun_any s hs w)
  unfold maxLen at hs
  cases hb : begB s with
  | false =>
    have hn : nameB s = false := by unfold nameB; rw [hb]; simp
    rw [hn]
    have HB := Lib.hid hb
    clear hb hn
    go_enter Try.func11, Try.ntmps11
    go_wp2_with (go_at_call 42; refine C1.out.mono ?_; rintro e w' ⟨rfl, rfl⟩; rw [HB.out])
    go_ret
    exact ⟨rfl, rfl⟩
  | true =>
    have hz : decide ((s.size : Int) ≤ 32) = decide (s.size ≤ 32) := by
      by_cases c : s.size ≤ 32
      · rw [decide_eq_true c, decide_eq_true (by omega)]
      · rw [decide_eq_false c, decide_eq_false (by omega)]
    cases ha : allB goB s with
    | false =>
      have hn : nameB s = false := by unfold nameB; rw [ha]; simp
      rw [hn]
      have HB := Lib.hid hb
      have HA := Lib.hid ha
      clear hb hn ha hz
      go_enter Try.func11, Try.ntmps11
      go_wp2_with fail
      refine C1.out.mono ?_
      rintro e w' ⟨rfl, rfl⟩
      rw [HB.out]
      go_wp2_with fail
      refine C2.out.mono ?_
      rintro e w' ⟨r, rfl, hr, rfl⟩
      rw [HA.out] at hr
      go_wp2_with fail
      go_ret
      exact ⟨rfl, rfl⟩
    | true =>
      have hn : nameB s = decide ((s.size : Int) ≤ 32) := by unfold nameB; rw [ha, hb, hz]; simp
      rw [hn]
      have HB := Lib.hid hb
      have HA := Lib.hid ha
      clear hb hn ha hz
      go_enter Try.func11, Try.ntmps11
      go_wp2_with fail
      refine C1.out.mono ?_
      rintro e w' ⟨rfl, rfl⟩
      rw [HB.out]
      go_wp2_with fail
      refine C2.out.mono ?_
      rintro e w' ⟨r, rfl, hr, rfl⟩
      rw [HA.out] at hr
      go_wp2_with fail
      go_ret
      exact ⟨rfl, rfl⟩
end Go.Proofs.Ytlnglpjmfoigmaa
