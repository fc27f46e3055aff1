/- The walks of layer 4's texts: names and words, whole. -/
import Derived.Test.YtanhpdejlodidabTreW1
namespace Go.Proofs.Ytanhpdejlodidab
open Go.RowKit TreN

theorem begB_0 (s : ByteArray) (h : s.size = 0) : begB s = false := by unfold begB; rw [if_neg (by omega), decide_eq_false (by omega)]; rfl
theorem begB_1 (s : ByteArray) (h : 0 < s.size) (hn : ¬ (1 < s.size ∧ bt s 0 = 45)) : begB s = letB (bt s 0) := by unfold begB; rw [if_neg hn, decide_eq_true h]; rfl
theorem begB_2 (s : ByteArray) (h : 1 < s.size) (h0 : bt s 0 = 45) : begB s = (decide (bt s 1 = 45) || letB (bt s 1)) := by unfold begB; rw [if_pos ⟨h, h0⟩]

theorem toList_len (s : ByteArray) : s.toList.length = s.size := by
  rw [ByteArray.toList_eq s]; rfl
theorem empty_yes (s : ByteArray) (h : s.size = 0) : s.toList.isEmpty = true := by
  rw [List.isEmpty_iff_length_eq_zero, toList_len, h]
theorem empty_no (s : ByteArray) (h : 0 < s.size) : s.toList.isEmpty = false := by
  have := toList_len s
  cases hl : s.toList with
  | nil => rw [hl] at this; simp at this; omega
  | cons x l => rfl

set_option maxHeartbeats 1000000 in
theorem begins_any (s : ByteArray) (hs : s.size ≤ maxLen) (w : World) :
    Calls Try.prog 38 #[.string s] w fun e w' => e = .returned (.bool (begB s)) ∧ w = w' := by
  unfold maxLen at hs
  by_cases h0 : s.size = 0
  · rw [begB_0 s h0]
    have e1 := empty_yes s h0
    have h1 : ¬ (1 : Int) < (s.size : Int) := by omega
    have H0 := Lib.hid h0
    clear h0
    go_enter Try.func38, Try.ntmps38
    go_wp2_with fail
    go_ret
    exact ⟨rfl, rfl⟩
  · have h0' : 0 < s.size := by omega
    have e1 := empty_no s h0'
    by_cases h1 : 1 < s.size
    · have h1z : (1 : Int) < (s.size : Int) := by omega
      by_cases hd : bt s 0 = 45
      · rw [begB_2 s h1 hd]
        have hb : (((s[0]'h0').toNat : Int) == 45) = true := by rw [← bt_eq s 0 h0', hd]; rfl
        rw [bt_eq s 1 h1]
        clear hd h0
        cases hc : decide (((s[1]'h1).toNat : Int) = 45)
        · have hc' : (((s[1]'h1).toNat : Int) == 45) = false := by simpa using hc
          clear hc
          go_enter Try.func38, Try.ntmps38
          go_wp2_with (go_at_call 41; refine (letter_any _ _).mono ?_; rintro e w' ⟨rfl, rfl⟩)
          go_ret
          exact ⟨rfl, rfl⟩
        · have hc' : (((s[1]'h1).toNat : Int) == 45) = true := by simpa using hc
          clear hc
          go_enter Try.func38, Try.ntmps38
          go_wp2_with (go_at_call 41; refine (letter_any _ _).mono ?_; rintro e w' ⟨rfl, rfl⟩)
          go_ret
          exact ⟨rfl, rfl⟩
      · rw [begB_1 s h0' (by omega)]
        have hb : (((s[0]'h0').toNat : Int) == 45) = false := by rw [← bt_eq s 0 h0']; simpa using hd
        rw [bt_eq s 0 h0']
        clear hd h0
        go_enter Try.func38, Try.ntmps38
        go_wp2_with (go_at_call 41; refine (letter_any _ _).mono ?_; rintro e w' ⟨rfl, rfl⟩)
        go_ret
        exact ⟨rfl, rfl⟩
    · have h1z : ¬ (1 : Int) < (s.size : Int) := by omega
      rw [begB_1 s h0' (by omega), bt_eq s 0 h0']
      clear h0
      go_enter Try.func38, Try.ntmps38
      go_wp2_with (go_at_call 41; refine (letter_any _ _).mono ?_; rintro e w' ⟨rfl, rfl⟩)
      go_ret
      exact ⟨rfl, rfl⟩

theorem everyName (s : ByteArray) (hs : s.size ≤ maxLen) (w : World) : Calls Try.prog 39 #[.string s, .func (.func 40) #[] #[]] w fun e w' => e = .returned (.bool (allB goB s)) ∧ w = w' := every_any 40 goB (enters_of Try.func40 (by kernel_rfl) rfl) nameByte_any s hs w
theorem everyText (s : ByteArray) (hs : s.size ≤ maxLen) (w : World) : Calls Try.prog 39 #[.string s, .func (.func 44) #[] #[]] w fun e w' => e = .returned (.bool (allB txB s)) ∧ w = w' := every_any 44 txB (enters_of Try.func44 (by kernel_rfl) rfl) textByte_any s hs w

set_option maxHeartbeats 1000000 in
theorem Name_any (s : ByteArray) (hs : s.size ≤ maxLen) (w : World) :
    Calls Try.prog 10 #[.string s] w fun e w' => e = .returned (.bool (nameB s)) ∧ w = w' := by
  have C1 := Lib.hid (begins_any s hs w)
  have C2 := Lib.hid (everyName s hs w)
  unfold maxLen at hs
  by_cases h : s.size ≤ 32
  · have hz : (s.size : Int) ≤ 32 := by omega
    cases hb : begB s with
    | false =>
      have hn : nameB s = false := by unfold nameB; rw [hb]; simp
      rw [hn]
      have HB := Lib.hid hb
      clear hb hn
      go_enter Try.func10, Try.ntmps10
      go_wp2_with (go_at_call 38; refine C1.out.mono ?_; rintro e w' ⟨rfl, rfl⟩; rw [HB.out])
      go_ret
      exact ⟨rfl, rfl⟩
    | true =>
      have hn : nameB s = allB goB s := by unfold nameB; rw [hb, decide_eq_true h]; rfl
      rw [hn]
      have HB := Lib.hid hb
      clear hb hn
      go_enter Try.func10, Try.ntmps10
      go_wp2_with (first
        | (go_at_call 38; refine C1.out.mono ?_; rintro e w' ⟨rfl, rfl⟩; rw [HB.out])
        | (go_at_call 39; refine C2.out.mono ?_; rintro e w' ⟨rfl, rfl⟩))
      go_ret
      exact ⟨rfl, rfl⟩
  · have hz : ¬ (s.size : Int) ≤ 32 := by omega
    have hn : nameB s = false := by unfold nameB; rw [decide_eq_false h]; rfl
    rw [hn]
    clear hn
    go_enter Try.func10, Try.ntmps10
    go_wp2_with fail
    go_ret
    exact ⟨rfl, rfl⟩

set_option maxHeartbeats 1000000 in
theorem Text_any (s : ByteArray) (hs : s.size ≤ maxLen) (w : World) :
    Calls Try.prog 12 #[.string s] w fun e w' => e = .returned (.bool (textB s)) ∧ w = w' := by
  have C2 := Lib.hid (everyText s hs w)
  unfold maxLen at hs
  by_cases h : s.size ≤ 256
  · have hz : (s.size : Int) ≤ 256 := by omega
    have hn : textB s = allB txB s := by unfold textB; rw [decide_eq_true h]; rfl
    rw [hn]
    clear hn
    go_enter Try.func12, Try.ntmps12
    go_wp2_with (go_at_call 39; refine C2.out.mono ?_; rintro e w' ⟨rfl, rfl⟩)
    go_ret
    exact ⟨rfl, rfl⟩
  · have hz : ¬ (s.size : Int) ≤ 256 := by omega
    have hn : textB s = false := by unfold textB; rw [decide_eq_false h]; rfl
    rw [hn]
    clear hn
    go_enter Try.func12, Try.ntmps12
    go_wp2_with fail
    go_ret
    exact ⟨rfl, rfl⟩

set_option maxHeartbeats 1000000 in
theorem refText_any (s : ByteArray) (hs : s.size ≤ maxLen) (w : World) :
    Calls Try.prog 13 #[.string s] w fun e w' => e = .returned (.bool (textB s)) ∧ w = w' := by
  unfold maxLen at hs
  go_enter Try.func13, Try.ntmps13
  go_wp2_with fail
  go_loop [3] (fun i => ∃ k : Nat, k ≤ s.size ∧ i = .int .i64 k ∧ Hid (∀ j, j < k → txB (bt s j) = true)) (fun i => s.size - (intOf i).toNat)
  case atStart => exact ⟨0, by omega, rfl, fun j hj => by omega⟩
  case round =>
    obtain ⟨k, hk, rfl, HI⟩ := hrel
    by_cases hlt : k < s.size
    · have hltz : (k : Int) < (s.size : Int) := by omega
      have hbt := bt_eq s k hlt
      by_cases h1 : (s[k].toNat : Int) < 32
      · have hf : txB (bt s k) = false := by rw [hbt]; unfold txB; rw [decide_eq_false (by omega)]
        have HF := Lib.hid hf
        clear hf hbt
        go_wp2_with fail
        go_ret
        refine ⟨ret_bool ?_, rfl⟩
        unfold textB
        rw [allB_false k hlt HF.out]; simp
      · cases h2 : (((s[k]).toNat : Int) == 34) with
        | true =>
          have hf : txB (bt s k) = false := by rw [hbt]; unfold txB; rw [beq_iff_eq] at h2; rw [decide_eq_false (by omega)]
          have HF := Lib.hid hf
          clear hf hbt
          go_wp2_with fail
          go_ret
          refine ⟨ret_bool ?_, rfl⟩
          unfold textB
          rw [allB_false k hlt HF.out]; simp
        | false =>
          have hf : txB (bt s k) = true := by rw [hbt]; unfold txB; rw [beq_eq_false_iff_ne] at h2; rw [decide_eq_true (by omega)]
          have HF := Lib.hid hf
          clear hf hbt
          go_wp2_with fail
          go_round
          case rel =>
            refine ⟨k + 1, by omega, by go_num, fun j hj => ?_⟩
            by_cases c : j = k
            · subst c; exact HF.out
            · exact HI.out j (by omega)
          case measure => simp [intOf]; omega
    · have hall : allB txB s = true := allB_true fun j hj => HI.out j (by omega)
      have ht : textB s = decide ((s.size : Int) ≤ 256) := by
        unfold textB; rw [hall, Bool.and_true]
        by_cases c : s.size ≤ 256
        · rw [decide_eq_true c, decide_eq_true (by omega)]
        · rw [decide_eq_false c, decide_eq_false (by omega)]
      have HT := Lib.hid ht
      clear ht hall
      go_wp2_with fail
      go_ret
      exact ⟨ret_bool (by rw [HT.out]), rfl⟩
end Go.Proofs.Ytanhpdejlodidab
