/- Joined texts: WalkA TreW3. -/
import Derived.Test.YthfabalnioggcaaProg
import Derived.Test.YthfabalnioggcaaFixAll
import Derived.WalkKit
import Derived.WalkSpells
import Derived.WalkLawsBesides
import Derived.Deep.QuietTactic
import Derived.BigQuiet
import Derived.Lib.Hide
import Derived.Shelf.Abstract
import Derived.Test.YthfabalnioggcaaLexPs
import Derived.Test.YthfabalnioggcaaShelf
import Derived.Lib.SlBytesConst
namespace Go.Proofs.Ythfabalnioggcaa
open Go.RowKit TreN

set_option maxRecDepth 100000 in
theorem ret_int {k : IntKind} {a b : Int} (h : a = b) : Ending.returned (.int k a) = .returned (.int k b) := by rw [h]
set_option maxRecDepth 100000 in
theorem ret_bool {a b : Bool} (h : a = b) : Ending.returned (.bool a) = .returned (.bool b) := by rw [h]

set_option maxRecDepth 100000 in
theorem let_ways (c : Int) : c < 65 ∨ (65 ≤ c ∧ c ≤ 90) ∨ (91 ≤ c ∧ c ≤ 94) ∨ c = 95 ∨ c = 96 ∨ (97 ≤ c ∧ c ≤ 122) ∨ (123 ≤ c ∧ c ≤ 127) ∨ 128 ≤ c := by omega

set_option maxRecDepth 100000 in
set_option maxHeartbeats 1000000 in
theorem refBegins_any (c : Int) (w : World) : Calls Try.prog 93 #[.int .u8 c] w fun e w' => e = .returned (.bool (letB c)) ∧ w = w' := by
  obtain ⟨v, hv⟩ : ∃ v, letB c = v := ⟨_, rfl⟩
  rw [hv]
  have HV := Lib.hid hv
  clear hv
  rcases let_ways c with h | h | h | rfl | rfl | h | h | h
  all_goals
    try obtain ⟨h1, h2⟩ := h
    go_enter Try.func93, Try.ntmps93
    go_wp2_with fail
    go_ret
    refine ⟨ret_bool ?_, rfl⟩
    rw [← HV.out]
    unfold letB
    first | decide | (rw [Bool.eq_iff_iff]; simp; omega) | (simp; omega) | (symm; simp; omega)

set_option maxRecDepth 100000 in
theorem go_ways4 (c : Int) : c < 45 ∨ c = 45 ∨ (46 ≤ c ∧ c < 48) ∨ (48 ≤ c ∧ c ≤ 57) ∨ 58 ≤ c := by omega

set_option maxRecDepth 100000 in
set_option maxHeartbeats 1000000 in
theorem refGoes_any (c : Int) (w : World) : Calls Try.prog 94 #[.int .u8 c] w fun e w' => e = .returned (.bool (goB c)) ∧ w = w' := by
  cases hl : letB c with
  | true =>
    have hg : goB c = true := by unfold goB; rw [hl]; rfl
    rw [hg]
    have HL := Lib.hid hl
    clear hl hg
    go_enter Try.func94, Try.ntmps94
    go_wp2_with (go_at_call 93; refine (refBegins_any _ _).mono ?_; rintro e w' ⟨rfl, rfl⟩; rw [HL.out])
    go_ret
    exact ⟨rfl, rfl⟩
  | false =>
    have hg : goB c = (decide (c = 45) || decide (48 ≤ c ∧ c ≤ 57)) := by unfold goB; rw [hl]; rfl
    rw [hg]
    have HL := Lib.hid hl
    clear hl hg
    rcases go_ways4 c with h | rfl | h | h | h
    all_goals
      try obtain ⟨h1, h2⟩ := h
      go_enter Try.func94, Try.ntmps94
      go_wp2_with (go_at_call 93; refine (refBegins_any _ _).mono ?_; rintro e w' ⟨rfl, rfl⟩; rw [HL.out])
      go_ret
      refine ⟨ret_bool ?_, rfl⟩
      first | decide | (rw [Bool.eq_iff_iff]; simp; omega) | (simp; omega) | (symm; simp; omega)

end Go.Proofs.Ythfabalnioggcaa

namespace Go.Proofs.Ythfabalnioggcaa
open Go.RowKit TreN

set_option maxRecDepth 100000 in
theorem begB_0 (s : ByteArray) (h : s.size = 0) : begB s = false := by unfold begB; rw [if_neg (by omega), decide_eq_false (by omega)]; rfl
set_option maxRecDepth 100000 in
theorem begB_1 (s : ByteArray) (h : 0 < s.size) (hn : ¬ (1 < s.size ∧ bt s 0 = 45)) : begB s = letB (bt s 0) := by unfold begB; rw [if_neg hn, decide_eq_true h]; rfl
set_option maxRecDepth 100000 in
theorem begB_2 (s : ByteArray) (h : 1 < s.size) (h0 : bt s 0 = 45) : begB s = (decide (bt s 1 = 45) || letB (bt s 1)) := by unfold begB; rw [if_pos ⟨h, h0⟩]

set_option maxRecDepth 100000 in
theorem toList_len (s : ByteArray) : s.toList.length = s.size := by
  rw [ByteArray.toList_eq s]; rfl
set_option maxRecDepth 100000 in
theorem empty_yes (s : ByteArray) (h : s.size = 0) : s.toList.isEmpty = true := by
  rw [List.isEmpty_iff_length_eq_zero, toList_len, h]
set_option maxRecDepth 100000 in
theorem empty_no (s : ByteArray) (h : 0 < s.size) : s.toList.isEmpty = false := by
  have := toList_len s
  cases hl : s.toList with
  | nil => rw [hl] at this; simp at this; omega
  | cons x l => rfl

end Go.Proofs.Ythfabalnioggcaa

namespace Go.Proofs.Ythfabalnioggcaa
open Go.RowKit TreN LexP

/-- a byte by its number -/
def blI (c : Int) : Bool := decide (c = 9 ∨ c = 10 ∨ c = 12 ∨ c = 13 ∨ c = 32)
def dgI (c : Int) : Bool := decide (48 ≤ c ∧ c ≤ 57)
theorem blI_eq (c : UInt8) : blI (c.toNat : Int) = blB c := by unfold blI blB; rw [decide_eq_decide]; omega
theorem dgI_eq (c : UInt8) : dgI (c.toNat : Int) = FixP.isD c := by unfold dgI FixP.isD; rw [Bool.eq_iff_iff]; simp; omega

/-- a text's bytes -/
theorem bt_two (c : UInt8) : bt ⟨#[97, c]⟩ 0 = 97 ∧ bt ⟨#[97, c]⟩ 1 = (c.toNat : Int) := ⟨rfl, rfl⟩
theorem name_two (c : UInt8) : nameB ⟨#[97, c]⟩ = gB c := by
  have hs : (ByteArray.mk #[97, c]).size = 2 := rfl
  have hb : begB ⟨#[97, c]⟩ = true := by
    unfold begB
    rw [hs, (bt_two c).1, if_neg (by omega)]
    rfl
  unfold nameB
  rw [hb, hs]
  have h97 : goB (bt ⟨#[97, c]⟩ 0) = true := by rw [(bt_two c).1]; decide
  cases hg : gB c with
  | true =>
    have : allB goB ⟨#[97, c]⟩ = true := allB_true fun j hj => by
      rw [hs] at hj
      rcases j with _ | _ | j
      · exact h97
      · exact hg
      · omega
    rw [this]; rfl
  | false =>
    have : allB goB ⟨#[97, c]⟩ = false := allB_false 1 (by rw [hs]; omega) hg
    rw [this]; rfl
end Go.Proofs.Ythfabalnioggcaa

namespace Go.Proofs.Ythfabalnioggcaa
open Go.RowKit TreN LexP

theorem len_data (s : ByteArray) : s.data.toList.length = s.size := by rw [Array.length_toList]; rfl
theorem ba_ext {s t : ByteArray} (h : s.data.toList = t.data.toList) : s = t := by
  obtain ⟨⟨l⟩⟩ := s; obtain ⟨⟨m⟩⟩ := t; simp at h; rw [h]
theorem ext_list (s : ByteArray) (a b : Nat) : (s.extract a b).data.toList = (s.data.toList.drop a).take (b - a) := by
  rw [ByteArray.data_extract, Array.toList_extract, List.extract_eq_take_drop]

end Go.Proofs.Ythfabalnioggcaa

namespace Go.Proofs.Ythfabalnioggcaa
open Go.RowKit TreN

set_option maxRecDepth 100000 in
theorem empty_of (s : ByteArray) (h : s.size = 0) : s = ByteArray.empty := ByteArray.ext (Array.eq_empty_of_size_eq_zero h)

set_option maxRecDepth 100000 in
set_option maxHeartbeats 1000000 in
theorem refStarts_any (s : ByteArray) (hs : s.size ≤ maxLen) (w : World) :
    Calls Try.prog 91 #[.string s, .int .i64 0] w fun e w' => e = .returned (.bool (begB s)) ∧ w = w' := by
  unfold maxLen at hs
  by_cases h0 : s.size = 0
  · rw [begB_0 s h0]
    obtain rfl := empty_of s h0
    clear h0 hs
    go_enter Try.func91, Try.ntmps91
    go_wp2_with fail
    go_ret
    exact ⟨rfl, rfl⟩
  · have h0' : 0 < s.size := by omega
    have h0z : ¬ s = ByteArray.empty := fun e => by subst e; exact h0 rfl
    clear h0
    by_cases hd : bt s 0 = 45
    · have hb : (((s[0]'h0').toNat : Int) == 45) = true := by rw [← bt_eq s 0 h0', hd]; rfl
      by_cases h1 : 1 < s.size
      · have h1z : (1 : Int) < (s.size : Int) := by omega
        rw [begB_2 s h1 hd, bt_eq s 1 h1]
        clear hd
        cases hl : letB ((s[1]'h1).toNat : Int)
        all_goals
          have HL := Lib.hid hl
          clear hl
          cases hc : (((s[1]'h1).toNat : Int) == 45)
          all_goals
            have hv : decide (((s[1]'h1).toNat : Int) = 45) = (((s[1]'h1).toNat : Int) == 45) := rfl
            rw [hv, hc]
            clear hv
            go_enter Try.func91, Try.ntmps91
            go_wp2_with (go_at_call 93; refine (refBegins_any _ _).mono ?_; rintro e w' ⟨rfl, rfl⟩; rw [HL.out])
            go_ret
            exact ⟨rfl, rfl⟩
      · have h1z : ¬ (1 : Int) < (s.size : Int) := by omega
        have hl : letB (bt s 0) = false := by rw [hd]; rfl
        rw [begB_1 s h0' (by omega), hl]
        clear hd hl
        go_enter Try.func91, Try.ntmps91
        go_wp2_with fail
        go_ret
        exact ⟨rfl, rfl⟩
    · have hb : (((s[0]'h0').toNat : Int) == 45) = false := by rw [← bt_eq s 0 h0']; simpa using hd
      rw [begB_1 s h0' (by omega), bt_eq s 0 h0']
      clear hd
      go_enter Try.func91, Try.ntmps91
      go_wp2_with (go_at_call 93; refine (refBegins_any _ _).mono ?_; rintro e w' ⟨rfl, rfl⟩)
      go_ret
      exact ⟨rfl, rfl⟩

def RunIs (s : ByteArray) (w : World) (e : Ending) (w' : World) : Prop := ∃ r : Nat, e = .returned (.int .i64 r) ∧ ((r : Int) == (s.size : Int)) = allB goB s ∧ w = w'

set_option maxRecDepth 100000 in
theorem run_end (s : ByteArray) (k : Nat) (hk : k ≤ s.size) (h : ∀ j, j < k → goB (bt s j) = true) (he : k = s.size ∨ (k < s.size ∧ goB (bt s k) = false)) : ((k : Int) == (s.size : Int)) = allB goB s := by
  rcases he with rfl | ⟨h1, h2⟩
  · rw [allB_true h]; simp
  · rw [allB_false k h1 h2, beq_eq_false_iff_ne]; omega

set_option maxRecDepth 100000 in
set_option maxHeartbeats 1000000 in
theorem refRun_any (s : ByteArray) (hs : s.size ≤ maxLen) (w : World) :
    Calls Try.prog 92 #[.string s, .int .i64 0] w (RunIs s w) := by
  unfold maxLen at hs
  go_enter Try.func92, Try.ntmps92
  go_wp2_with fail
  go_loop [1, 5] (fun a n => ∃ k : Nat, k ≤ s.size ∧ a = .int .i64 k ∧ n = .int .i64 k ∧ Hid (∀ j, j < k → goB (bt s j) = true)) (fun a _ => s.size - (intOf a).toNat)
  case atStart => exact ⟨0, by omega, rfl, rfl, fun j hj => by omega⟩
  case round =>
    obtain ⟨k, hk, rfl, rfl, HI⟩ := hrel
    by_cases hlt : k < s.size
    · have hltz : (k : Int) < (s.size : Int) := by omega
      have hbt := bt_eq s k hlt
      cases hg : goB (s[k].toNat : Int) with
      | true =>
        have HG := Lib.hid hg
        have HF := Lib.hid (show goB (bt s k) = true by rw [hbt]; exact hg)
        clear hg hbt
        go_wp2_with (go_at_call 94; refine (refGoes_any _ _).mono ?_; rintro e w' ⟨rfl, rfl⟩; rw [HG.out])
        go_round
        case rel =>
          refine ⟨k + 1, by omega, by go_num, by go_num, fun j hj => ?_⟩
          by_cases c : j = k
          · subst c; exact HF.out
          · exact HI.out j (by omega)
        case measure => simp [intOf]; omega
      | false =>
        have HG := Lib.hid hg
        have HF := Lib.hid (show goB (bt s k) = false by rw [hbt]; exact hg)
        clear hg hbt
        go_wp2_with (go_at_call 94; refine (refGoes_any _ _).mono ?_; rintro e w' ⟨rfl, rfl⟩; rw [HG.out])
        go_ret
        exact ⟨k, rfl, run_end s k hk HI.out (Or.inr ⟨hlt, HF.out⟩), rfl⟩
    · have hke : k = s.size := by omega
      have HE := Lib.hid (run_end s k hk HI.out (Or.inl hke))
      have hltz : ¬ (k : Int) < (s.size : Int) := by omega
      clear hke
      go_wp2_with fail
      go_ret
      exact ⟨k, rfl, HE.out, rfl⟩

set_option maxRecDepth 100000 in
set_option maxHeartbeats 1000000 in
theorem refName_any (s : ByteArray) (hs : s.size ≤ maxLen) (w : World) :
    Calls Try.prog 88 #[.string s] w fun e w' => e = .returned (.bool (nameB s)) ∧ w = w' := by
  have C1 := Lib.hid (refStarts_any s hs w)
  have C2 := Lib.hid (refRun_any s hs w)
  unfold maxLen at hs
  cases hb : begB s with
  | false =>
    have hn : nameB s = false := by unfold nameB; rw [hb]; simp
    rw [hn]
    have HB := Lib.hid hb
    clear hb hn
    go_enter Try.func88, Try.ntmps88
    go_wp2_with (go_at_call 91; refine C1.out.mono ?_; rintro e w' ⟨rfl, rfl⟩; rw [HB.out])
    go_ret
    exact ⟨rfl, rfl⟩
  | true =>
    have hz : decide ((s.size : Int) ≤ 32) = decide (s.size ≤ 32) := by
      by_cases c : s.size ≤ 32
      · rw [decide_eq_true c, decide_eq_true (by omega)]
      · rw [decide_eq_false c, decide_eq_false (by omega)]
    cases ha : allB goB s with
    | false =>
      have hn : nameB s = false := by unfold nameB; rw [ha]; simp
      rw [hn]
      have HB := Lib.hid hb
      have HA := Lib.hid ha
      clear hb hn ha hz
      go_enter Try.func88, Try.ntmps88
      go_wp2_with fail
      refine C1.out.mono ?_
      rintro e w' ⟨rfl, rfl⟩
      rw [HB.out]
      go_wp2_with fail
      refine C2.out.mono ?_
      rintro e w' ⟨r, rfl, hr, rfl⟩
      rw [HA.out] at hr
      go_wp2_with fail
      go_ret
      exact ⟨rfl, rfl⟩
    | true =>
      have hn : nameB s = decide ((s.size : Int) ≤ 32) := by unfold nameB; rw [ha, hb, hz]; simp
      rw [hn]
      have HB := Lib.hid hb
      have HA := Lib.hid ha
      clear hb hn ha hz
      go_enter Try.func88, Try.ntmps88
      go_wp2_with fail
      refine C1.out.mono ?_
      rintro e w' ⟨rfl, rfl⟩
      rw [HB.out]
      go_wp2_with fail
      refine C2.out.mono ?_
      rintro e w' ⟨r, rfl, hr, rfl⟩
      rw [HA.out] at hr
      go_wp2_with fail
      go_ret
      exact ⟨rfl, rfl⟩
end Go.Proofs.Ythfabalnioggcaa
