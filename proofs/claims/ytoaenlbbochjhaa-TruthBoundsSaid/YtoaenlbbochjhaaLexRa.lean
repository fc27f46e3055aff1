/- Joined texts: LexR1 LexR2 LexR3. -/
import Derived.Test.YtoaenlbbochjhaaLexWa
import Derived.Test.YtoaenlbbochjhaaLexPs
import Derived.Test.YtoaenlbbochjhaaMem
namespace Go.Proofs.Ytoaenlbbochjhaa
open Go.RowKit TreN LexP FixP

set_option maxRecDepth 100000 in
set_option maxHeartbeats 1000000 in
theorem refBlank_any (c : Int) (w : World) : Calls Try.prog 66 #[.int .u8 c] w fun e w' => e = .returned (.bool (blI c)) ∧ w = w' := by
  obtain ⟨v, hv⟩ : ∃ v, blI c = v := ⟨_, rfl⟩
  rw [hv]
  have HV := Lib.hid hv
  clear hv
  have hc : c = 9 ∨ c = 10 ∨ c = 12 ∨ c = 13 ∨ c = 32 ∨ (¬ c = 9 ∧ ¬ c = 10 ∧ ¬ c = 12 ∧ ¬ c = 13 ∧ ¬ c = 32) := by omega
  rcases hc with rfl | rfl | rfl | rfl | rfl | ⟨h1, h2, h3, h4, h5⟩
  all_goals
    try
      have g1 : (c == 9) = false := by rw [beq_eq_false_iff_ne]; exact h1
      have g2 : (c == 10) = false := by rw [beq_eq_false_iff_ne]; exact h2
      have g3 : (c == 12) = false := by rw [beq_eq_false_iff_ne]; exact h3
      have g4 : (c == 13) = false := by rw [beq_eq_false_iff_ne]; exact h4
      have g5 : (c == 32) = false := by rw [beq_eq_false_iff_ne]; exact h5
    go_enter Try.func66, Try.ntmps66
    go_wp2_with fail
    go_ret
    refine ⟨ret_bool ?_, rfl⟩
    rw [← HV.out]
    unfold blI
    first | decide | (symm; simp [h1, h2, h3, h4, h5]) | (simp [h1, h2, h3, h4, h5])

set_option maxRecDepth 100000 in
set_option maxHeartbeats 1000000 in
theorem refBlanks_any (s : ByteArray) (a : Nat) (hs : s.size ≤ 9223372036854775807) (ha : a ≤ s.size) (E : Nat) (hE : ((s.data.toList.drop a).takeWhile blB).length = E) (w : World) :
    Calls Try.prog 67 #[.string s, .int .i64 (a : Int)] w fun e w' => e = .returned (.int .i64 (E : Int)) ∧ w = w' := by
  subst hE
  go_enter Try.func67, Try.ntmps67
  go_wp2_with fail
  go_loop [1, 5] (fun i n => ∃ k : Nat, a + k ≤ s.size ∧ i = .int .i64 ((a + k : Nat) : Int) ∧ n = .int .i64 (k : Int) ∧ Hid (∀ j, j < k → ∀ hj : a + j < s.size, blB s[a + j] = true)) (fun i _ => s.size - (intOf i).toNat)
  case atStart => exact ⟨0, by omega, rfl, rfl, fun j hj => by omega⟩
  case round =>
    obtain ⟨k, hk, rfl, rfl, HJ⟩ := hrel
    by_cases hlt : a + k < s.size
    · have hltz : ((a + k : Nat) : Int) < (s.size : Int) := by omega
      have CB := refBlank_any (s[a + k].toNat : Int) w
      rw [blI_eq] at CB
      cases hp : blB s[a + k] with
      | true =>
        rw [hp] at CB
        have HP := Lib.hid hp
        have HCB := Lib.hid CB
        clear hp CB
        go_wp2_with fail
        refine (HCB.out).mono ?_
        rintro e w' ⟨rfl, rfl⟩
        go_wp2_with fail
        go_round
        case rel =>
          refine ⟨k + 1, by omega, by go_num, by go_num, fun j hj hjj => ?_⟩
          by_cases c : j = k
          · subst c; exact HP.out
          · exact HJ.out j (by omega) hjj
        case measure => simp [intOf]; omega
      | false =>
        rw [hp] at CB
        have HP := Lib.hid hp
        have HCB := Lib.hid CB
        clear hp CB
        go_wp2_with fail
        refine (HCB.out).mono ?_
        rintro e w' ⟨rfl, rfl⟩
        go_wp2_with fail
        go_ret
        exact ⟨ret_int (by have := tw_take (k := k) hk HJ.out (Or.inr ⟨hlt, HP.out⟩); omega), rfl⟩
    · have hle : a + k = s.size := by omega
      have HE := Lib.hid hle
      clear hle
      have hltz : ¬ ((a + k : Nat) : Int) < (s.size : Int) := by omega
      go_wp2_with fail
      go_ret
      exact ⟨ret_int (by have := tw_take (k := k) hk HJ.out (Or.inl HE.out); omega), rfl⟩

theorem piece_eq (s sub : ByteArray) (a : Nat) (h : a + sub.size ≤ s.size) : ((s.extract a (a + sub.size)).toList == sub.toList) = Lib.hasPrefix (s.data.toList.drop a) sub.data.toList := (Lib.occ_of_piece s sub a h).symm
theorem piece_no (l : List UInt8) (m : List UInt8) (h : l.length < m.length) : Lib.hasPrefix l m = false := by
  cases hp : Lib.hasPrefix l m with
  | false => rfl
  | true =>
    have := List.IsPrefix.length_le (List.isPrefixOf_iff_prefix.1 hp)
    omega

set_option maxRecDepth 100000 in
set_option maxHeartbeats 1000000 in
theorem refHas_2 (s : ByteArray) (a : Nat) (hs : s.size ≤ 9223372036854775807) (ha : a ≤ s.size) (w : World) (c d : UInt8) :
    Calls Try.prog 64 #[.string s, .int .i64 (a : Int), .string ⟨#[c, d]⟩] w fun e w' => e = .returned (.bool (Lib.hasPrefix (s.data.toList.drop a) [c, d])) ∧ w = w' := by
  by_cases h : a + 2 ≤ s.size
  · have hz : (2 : Int) ≤ (s.size : Int) - (a : Int) := by omega
    have hp := piece_eq s ⟨#[c, d]⟩ a h
    have HP : Hid (((s.extract a (a + 2)).toList == [c, d]) = Lib.hasPrefix (s.data.toList.drop a) [c, d]) := by
      have e : (⟨#[c, d]⟩ : ByteArray).toList = [c, d] := by simp
      rw [e] at hp; exact hp
    clear hp
    go_enter Try.func64, Try.ntmps64
    go_wp2_with fail
    go_ret
    exact ⟨ret_bool HP.out, rfl⟩
  · have hz : ¬ (2 : Int) ≤ (s.size : Int) - (a : Int) := by omega
    rw [piece_no _ _ (by rw [List.length_drop, len_data]; simp; omega)]
    go_enter Try.func64, Try.ntmps64
    go_wp2_with fail
    go_ret
    exact ⟨rfl, rfl⟩
set_option maxRecDepth 100000 in
set_option maxHeartbeats 1000000 in
theorem refHas_1 (s : ByteArray) (a : Nat) (hs : s.size ≤ 9223372036854775807) (ha : a ≤ s.size) (w : World) (c : UInt8) :
    Calls Try.prog 64 #[.string s, .int .i64 (a : Int), .string ⟨#[c]⟩] w fun e w' => e = .returned (.bool (Lib.hasPrefix (s.data.toList.drop a) [c])) ∧ w = w' := by
  by_cases h : a + 1 ≤ s.size
  · have hz : (1 : Int) ≤ (s.size : Int) - (a : Int) := by omega
    have hp := piece_eq s ⟨#[c]⟩ a h
    have HP : Hid (((s.extract a (a + 1)).toList == [c]) = Lib.hasPrefix (s.data.toList.drop a) [c]) := by
      have e : (⟨#[c]⟩ : ByteArray).toList = [c] := by simp
      rw [e] at hp; exact hp
    clear hp
    go_enter Try.func64, Try.ntmps64
    go_wp2_with fail
    go_ret
    exact ⟨ret_bool HP.out, rfl⟩
  · have hz : ¬ (1 : Int) ≤ (s.size : Int) - (a : Int) := by omega
    rw [piece_no _ _ (by rw [List.length_drop, len_data]; simp; omega)]
    go_enter Try.func64, Try.ntmps64
    go_wp2_with fail
    go_ret
    exact ⟨rfl, rfl⟩

theorem endC_hit (l : List UInt8) (h : Lib.hasPrefix l [42, 47] = true) : endC l = 2 := by
  match l, h with
  | [], h => cases h
  | [a], h => simp [Lib.hasPrefix, List.isPrefixOf] at h
  | a :: b :: r, h =>
    simp only [Lib.hasPrefix, List.isPrefixOf, Bool.and_eq_true, beq_iff_eq] at h
    show (if a.toNat = 42 ∧ b.toNat = 47 then 2 else endC (b :: r) + 1) = 2
    rw [if_pos ⟨by rw [← h.1]; rfl, by rw [← h.2.1]; rfl⟩]
theorem endC_miss (c : UInt8) (r : List UInt8) (h : Lib.hasPrefix (c :: r) [42, 47] = false) : endC (c :: r) = endC r + 1 := by
  cases r with
  | nil => rfl
  | cons b r =>
    show (if c.toNat = 42 ∧ b.toNat = 47 then 2 else endC (b :: r) + 1) = _
    rw [if_neg]
    rintro ⟨h1, h2⟩
    have e1 : c = 42 := UInt8.toNat_inj.1 h1
    have e2 : b = 47 := UInt8.toNat_inj.1 h2
    subst e1; subst e2
    simp [Lib.hasPrefix, List.isPrefixOf] at h

set_option maxRecDepth 100000 in
set_option maxHeartbeats 1000000 in
theorem refBehind_any (s : ByteArray) (ai : Int) (a : Nat) (he : ai = a) (hs : s.size ≤ 9223372036854775000) (ha : a ≤ s.size) (E : Nat) (hE : a + endC (s.data.toList.drop a) = E) (w : World) :
    Calls Try.prog 65 #[.string s, .int .i64 ai, .string ⟨#[42, 47]⟩] w fun e w' => e = .returned (.int .i64 (E : Int)) ∧ w = w' := by
  subst he
  have HE := Lib.hid hE
  clear hE
  have CH := Lib.hid fun (k : Nat) (hk : k ≤ s.size) => refHas_2 s k (by omega) hk w 42 47
  go_enter Try.func65, Try.ntmps65
  go_wp2_with fail
  go_loop [1] (fun i => ∃ k : Nat, k ≤ s.size ∧ i = .int .i64 (k : Int) ∧ Hid (k + endC (s.data.toList.drop k) = E)) (fun i => s.size - (intOf i).toNat)
  case atStart => exact ⟨a, by omega, rfl, HE⟩
  case round =>
    obtain ⟨k, hk, rfl, HK⟩ := hrel
    by_cases hlt : k < s.size
    · have hltz : (k : Int) < (s.size : Int) := by omega
      have CB := CH.out k hk
      cases hp : Lib.hasPrefix (s.data.toList.drop k) [42, 47] with
      | true =>
        rw [hp] at CB
        have h2 := endC_hit _ hp
        have HR : Hid (k + 2 = E) := by have := HK.out; rw [h2] at this; exact this
        have HCB := Lib.hid CB
        clear hp CB h2
        go_wp2_with fail
        refine (HCB.out).mono ?_
        rintro e w' ⟨rfl, rfl⟩
        go_wp2_with fail
        go_ret
        exact ⟨ret_int (by have := HR.out; omega), rfl⟩
      | false =>
        rw [hp] at CB
        have h2 : (k + 1) + endC (s.data.toList.drop (k + 1)) = E := by
          have := HK.out
          rw [List.drop_eq_getElem_cons (by rw [len_data]; exact hlt)] at hp this
          rw [endC_miss _ _ hp] at this
          omega
        have HR := Lib.hid h2
        have HCB := Lib.hid CB
        clear hp CB h2
        go_wp2_with fail
        refine (HCB.out).mono ?_
        rintro e w' ⟨rfl, rfl⟩
        go_wp2_with fail
        go_round
        case rel => exact ⟨k + 1, by omega, by go_num, HR⟩
        case measure => simp [intOf]; omega
    · have hle : k = E := by
        have := HK.out
        rw [List.drop_of_length_le (by rw [len_data]; omega)] at this
        simpa [endC] using this
      have hks : k = s.size := by omega
      have HL := Lib.hid hle
      have HS := Lib.hid hks
      clear hle hks
      have hltz : ¬ (k : Int) < (s.size : Int) := by omega
      go_wp2_with fail
      go_ret
      exact ⟨ret_int (by have := HL.out; have := HS.out; omega), rfl⟩

theorem bt_at (s : ByteArray) (a : Nat) (h : a < s.size) : lB s[a] = letB (s[a].toNat : Int) := rfl
set_option maxRecDepth 100000 in
set_option maxHeartbeats 1000000 in
theorem refStarts_at (s : ByteArray) (ai : Int) (a : Nat) (he : ai = a) (hs : s.size ≤ 9223372036854775000) (ha : a ≤ s.size) (w : World) :
    Calls Try.prog 40 #[.string s, .int .i64 ai] w fun e w' => e = .returned (.bool (startsL (s.data.toList.drop a))) ∧ w = w' := by
  subst he
  by_cases h0 : a < s.size
  · have h0z : ¬ (s.size : Int) ≤ (a : Int) := by omega
    have hd : s.data.toList.drop a = s[a] :: s.data.toList.drop (a + 1) := by
      rw [List.drop_eq_getElem_cons (by rw [len_data]; exact h0)]
      simp [ByteArray.getElem_eq_getElem_data]
    by_cases h45 : s[a].toNat = 45
    · have hb : ((s[a].toNat : Int) == 45) = true := by rw [beq_iff_eq]; omega
      by_cases h1 : a + 1 < s.size
      · have h1z : (a : Int) + 1 < (s.size : Int) := by omega
        have hd2 : s.data.toList.drop (a + 1) = s[a + 1] :: s.data.toList.drop (a + 1 + 1) := by
          rw [List.drop_eq_getElem_cons (by rw [len_data]; exact h1)]
          simp [ByteArray.getElem_eq_getElem_data]
        have hv : startsL (s.data.toList.drop a) = (lB s[a + 1] || decide (s[a + 1].toNat = 45)) := by
          rw [hd, hd2]
          show (if s[a].toNat = 45 then _ else _) = _
          rw [if_pos h45]
        rw [hv]
        clear hv hd hd2 h45
        have CL := refBegins_any (s[a + 1].toNat : Int) w
        rw [← bt_at s (a + 1) h1] at CL
        cases hl : lB s[a + 1] with
        | true =>
          rw [hl] at CL
          have HCL := Lib.hid CL
          clear CL hl
          go_enter Try.func40, Try.ntmps40
          go_wp2_with (go_at_call 57; refine HCL.out.mono ?_; rintro e w' ⟨rfl, rfl⟩)
          go_ret
          exact ⟨rfl, rfl⟩
        | false =>
          rw [hl] at CL
          have HCL := Lib.hid CL
          clear CL hl
          have hbb : ((s[a + 1].toNat : Int) == 45) = decide (s[a + 1].toNat = 45) := by rw [Bool.eq_iff_iff]; simp; omega
          have HBB := Lib.hid hbb
          clear hbb
          go_enter Try.func40, Try.ntmps40
          go_wp2_with (go_at_call 57; refine HCL.out.mono ?_; rintro e w' ⟨rfl, rfl⟩)
          go_ret
          exact ⟨ret_bool (by rw [HBB.out]; simp), rfl⟩
      · have h1z : ¬ (a : Int) + 1 < (s.size : Int) := by omega
        have hv : startsL (s.data.toList.drop a) = false := by
          rw [hd, List.drop_of_length_le (by rw [len_data]; omega)]
          show (decide (s[a].toNat ≠ 45) && _) = _
          rw [decide_eq_false (by simpa using h45)]; rfl
        rw [hv]
        clear hv hd h45
        go_enter Try.func40, Try.ntmps40
        go_wp2_with fail
        go_ret
        exact ⟨rfl, rfl⟩
    · have hb : ((s[a].toNat : Int) == 45) = false := by rw [beq_eq_false_iff_ne]; omega
      have hv : startsL (s.data.toList.drop a) = lB s[a] := by
        rw [hd]
        generalize s.data.toList.drop (a + 1) = r
        cases r with
        | nil =>
          show (decide (s[a].toNat ≠ 45) && _) = _
          rw [decide_eq_true h45]; rfl
        | cons x r =>
          show (if s[a].toNat = 45 then _ else _) = _
          rw [if_neg h45]
      rw [hv]
      have CL := refBegins_any (s[a].toNat : Int) w
      rw [← bt_at s a h0] at CL
      have HCL := Lib.hid CL
      clear hv hd h45 CL
      go_enter Try.func40, Try.ntmps40
      go_wp2_with (go_at_call 57; refine HCL.out.mono ?_; rintro e w' ⟨rfl, rfl⟩)
      go_ret
      exact ⟨rfl, rfl⟩
  · have h0z : (s.size : Int) ≤ (a : Int) := by omega
    rw [List.drop_of_length_le (by rw [len_data]; omega)]
    go_enter Try.func40, Try.ntmps40
    go_wp2_with fail
    go_ret
    exact ⟨rfl, rfl⟩

set_option maxRecDepth 100000 in
set_option maxHeartbeats 1000000 in
theorem refRun_at (s : ByteArray) (ai : Int) (a : Nat) (he : ai = a) (hs : s.size ≤ 9223372036854775000) (ha : a ≤ s.size) (E : Nat) (hE : ((s.data.toList.drop a).takeWhile gB).length = E) (w : World) :
    Calls Try.prog 41 #[.string s, .int .i64 ai] w fun e w' => e = .returned (.int .i64 (E : Int)) ∧ w = w' := by
  subst he; subst hE
  go_enter Try.func41, Try.ntmps41
  go_wp2_with fail
  go_loop [1, 5] (fun i n => ∃ k : Nat, a + k ≤ s.size ∧ i = .int .i64 ((a + k : Nat) : Int) ∧ n = .int .i64 (k : Int) ∧ Hid (∀ j, j < k → ∀ hj : a + j < s.size, gB s[a + j] = true)) (fun i _ => s.size - (intOf i).toNat)
  case atStart => exact ⟨0, by omega, rfl, rfl, fun j hj => by omega⟩
  case round =>
    obtain ⟨k, hk, rfl, rfl, HJ⟩ := hrel
    by_cases hlt : a + k < s.size
    · have hltz : ((a + k : Nat) : Int) < (s.size : Int) := by omega
      have CB : Calls Try.prog 58 #[.int .u8 (s[a + k].toNat : Int)] w fun e w' => e = .returned (.bool (gB s[a + k])) ∧ w = w' := refGoes_any (s[a + k].toNat : Int) w
      cases hp : gB s[a + k] with
      | true =>
        rw [hp] at CB
        have HP := Lib.hid hp
        have HCB := Lib.hid CB
        clear hp CB
        go_wp2_with fail
        refine (HCB.out).mono ?_
        rintro e w' ⟨rfl, rfl⟩
        go_wp2_with fail
        go_round
        case rel =>
          refine ⟨k + 1, by omega, by go_num, by go_num, fun j hj hjj => ?_⟩
          by_cases c : j = k
          · subst c; exact HP.out
          · exact HJ.out j (by omega) hjj
        case measure => simp [intOf]; omega
      | false =>
        rw [hp] at CB
        have HP := Lib.hid hp
        have HCB := Lib.hid CB
        clear hp CB
        go_wp2_with fail
        refine (HCB.out).mono ?_
        rintro e w' ⟨rfl, rfl⟩
        go_wp2_with fail
        go_ret
        exact ⟨ret_int (by have := tw_take (k := k) hk HJ.out (Or.inr ⟨hlt, HP.out⟩); omega), rfl⟩
    · have hle : a + k = s.size := by omega
      have HE := Lib.hid hle
      clear hle
      have hltz : ¬ ((a + k : Nat) : Int) < (s.size : Int) := by omega
      go_wp2_with fail
      go_ret
      exact ⟨ret_int (by have := tw_take (k := k) hk HJ.out (Or.inl HE.out); omega), rfl⟩
end Go.Proofs.Ytoaenlbbochjhaa

namespace Go.Proofs.Ytoaenlbbochjhaa
open Go.RowKit TreN LexP FixP

def sgs : ByteArray := ⟨#[58, 59, 44, 40, 41, 91, 93, 123, 125]⟩
theorem signK_hit (c : UInt8) (k : Nat) (hk : k < 9) (h : sgs[k]'hk = c) : signK c = 10 + (k : Int) := by
  have hk' : k = 0 ∨ k = 1 ∨ k = 2 ∨ k = 3 ∨ k = 4 ∨ k = 5 ∨ k = 6 ∨ k = 7 ∨ k = 8 := by omega
  subst h
  rcases hk' with rfl | rfl | rfl | rfl | rfl | rfl | rfl | rfl | rfl <;> (revert hk; decide)
theorem signK_miss (c : UInt8) (h : ∀ j (hj : j < 9), ¬ sgs[j]'hj = c) : signK c = 0 := by
  have e : ∀ j (hj : j < 9) (n : Nat), (sgs[j]'hj).toNat = n → ¬ c.toNat = n := fun j hj n hn x => h j hj (UInt8.toNat_inj.1 (by rw [hn, x]))
  unfold signK
  rw [if_neg (e 0 (by omega) 58 rfl), if_neg (e 1 (by omega) 59 rfl), if_neg (e 2 (by omega) 44 rfl), if_neg (e 3 (by omega) 40 rfl), if_neg (e 4 (by omega) 41 rfl), if_neg (e 5 (by omega) 91 rfl), if_neg (e 6 (by omega) 93 rfl), if_neg (e 7 (by omega) 123 rfl), if_neg (e 8 (by omega) 125 rfl)]

set_option maxRecDepth 100000 in
set_option maxHeartbeats 2000000 in
theorem refSign_any (c : UInt8) (w : World) : Calls Try.prog 71 #[.int .u8 (c.toNat : Int)] w fun e w' => e = .returned (.int .i64 (signK c)) ∧ w = w' := by
  go_enter Try.func71, Try.ntmps71
  go_wp2_with fail
  go_loop [4] (fun i => ∃ k : Nat, k ≤ 9 ∧ i = .int .i64 (k : Int) ∧ Hid (∀ j (hj : j < 9), j < k → ¬ sgs[j]'hj = c)) (fun i => 9 - (intOf i).toNat)
  case atStart => exact ⟨0, by omega, rfl, fun j hj h => by omega⟩
  case round =>
    obtain ⟨k, hk, rfl, HJ⟩ := hrel
    by_cases hlt : k < 9
    · have hltz : (k : Int) < 9 := by omega
      by_cases hc : sgs[k]'hlt = c
      · have kb : (((⟨#[58, 59, 44, 40, 41, 91, 93, 123, 125]⟩ : ByteArray)[k]'hlt).toNat : Int) = (c.toNat : Int) := by rw [← hc]; rfl
        have kb2 : ((((⟨#[58, 59, 44, 40, 41, 91, 93, 123, 125]⟩ : ByteArray)[k]'hlt).toNat : Int) == (c.toNat : Int)) = true := by rw [beq_iff_eq]; exact kb
        have HS := Lib.hid (signK_hit c k hlt hc)
        clear hc kb
        go_wp2_with fail
        go_ret
        exact ⟨ret_int (by have := HS.out; omega), rfl⟩
      · have kb2 : ((((⟨#[58, 59, 44, 40, 41, 91, 93, 123, 125]⟩ : ByteArray)[k]'hlt).toNat : Int) == (c.toNat : Int)) = false := by
          rw [beq_eq_false_iff_ne]
          intro x
          exact hc (UInt8.toNat_inj.1 (by show ((⟨#[58, 59, 44, 40, 41, 91, 93, 123, 125]⟩ : ByteArray)[k]'hlt).toNat = _; omega))
        have HC := Lib.hid hc
        clear hc
        go_wp2_with fail
        go_round
        case rel =>
          refine ⟨k + 1, by omega, by go_num, fun j hj h => ?_⟩
          by_cases q : j = k
          · subst q; exact HC.out
          · exact HJ.out j hj (by omega)
        case measure => simp [intOf]; omega
    · have hltz : ¬ (k : Int) < 9 := by omega
      have HM := Lib.hid (signK_miss c fun j hj => HJ.out j hj (by omega))
      go_wp2_with fail
      go_ret
      exact ⟨ret_int HM.out.symm, rfl⟩

theorem inQ_yes {q c : UInt8} (h : inQ q c = true) : ((c.toNat : Int) != (q.toNat : Int)) = true ∧ ((c.toNat : Int) != 10) = true := by
  unfold inQ at h
  simp at h
  constructor
  · rw [bne_iff_ne]; intro x; exact h.1 (UInt8.toNat_inj.1 (by omega))
  · rw [bne_iff_ne]; intro x; exact h.2 (UInt8.toNat_inj.1 (by show c.toNat = 10; omega))
theorem inQ_no {q c : UInt8} (h : inQ q c = false) : ((c.toNat : Int) != (q.toNat : Int)) = false ∨ (((c.toNat : Int) != (q.toNat : Int)) = true ∧ ((c.toNat : Int) != 10) = false) := by
  by_cases e : c = q
  · left; rw [e]; simp
  · right
    have h2 : c = 10 := by
      unfold inQ at h
      simp at h
      exact h e
    constructor
    · rw [bne_iff_ne]; intro x; exact e (UInt8.toNat_inj.1 (by omega))
    · rw [h2]; rfl

/-- where the end of a quoted text is looked for -/
def QuoRel (s : ByteArray) (a : Nat) (w : World) (i : Value) (wr : World) : Prop :=
  ∃ k q : Nat, a + 1 + k ≤ s.size ∧ i = .int .i64 ((a + 1 + k : Nat) : Int) ∧ wr = w.drewN q ∧ Hid (∀ j, j < k → ∀ h : a + 1 + j < s.size, inQ (s.data.toList.getD a 0) s[a + 1 + j] = true)
theorem drewN_size (w : World) (q : Nat) : (w.drewN q).heap.size = w.heap.size := rfl
theorem drewN_heap (w : World) (q : Nat) : (w.drewN q).heap = w.heap := rfl
theorem below_dN (B : Nat) (w : World) (q : Nat) : Below B w (w.drewN q) := ⟨rfl, rfl, rfl, Nat.le_refl _, fun _ _ => rfl⟩
end Go.Proofs.Ytoaenlbbochjhaa

namespace Go.Proofs.Ytoaenlbbochjhaa
open Go.RowKit TreN LexP FixP

/-- how the reference ends at a quoted text's end E -/
def QuoEnd (s : ByteArray) (a E : Nat) (T : List UInt8) (X : Tok × Nat) : Prop :=
  s.extract (a + 1) E = ⟨T.toArray⟩ ∧ a + 1 ≤ E ∧ ((E = s.size ∧ X = (⟨5, T, 0⟩, E - a)) ∨ (∃ h : E < s.size, s[E].toNat = 10 ∧ X = (⟨6, T, 0⟩, E - a)) ∨ (∃ h : E < s.size, ¬ s[E].toNat = 10 ∧ X = (⟨5, T, 0⟩, E + 1 - a)))
theorem quo_end (s : ByteArray) (a k : Nat) (ha : a < s.size) (hk : a + 1 + k ≤ s.size) (h : ∀ j, j < k → ∀ hj : a + 1 + j < s.size, inQ s[a] s[a + 1 + j] = true) (he : a + 1 + k = s.size ∨ ∃ hj : a + 1 + k < s.size, inQ s[a] s[a + 1 + k] = false) :
    ∃ T, QuoEnd s a (a + 1 + k) T (quoL s[a] (s.data.toList.drop (a + 1))) := by
  have hE : a + 1 + ((s.data.toList.drop (a + 1)).takeWhile (inQ s[a])).length = a + 1 + k := by
    rw [tw_take (p := inQ s[a]) (a := a + 1) (k := k) hk h he]
  exact ⟨_, ext_tw s (a + 1) (inQ s[a]) _ hE, by omega, quo_ways s a _ s[a] hE ha⟩

set_option maxRecDepth 100000 in
set_option maxHeartbeats 4000000 in
theorem refQuoted_any (s : ByteArray) (a : Nat) (w : World) (hs : s.size ≤ 9223372036854775000) (ha : a < s.size) :
    Calls Try.prog 68 #[.string s, .int .i64 (a : Int)] w fun e w' => e = .returned (.tuple #[(quoL s[a] (s.data.toList.drop (a + 1))).1.val, .int .i64 ((a + (quoL s[a] (s.data.toList.drop (a + 1))).2 : Nat) : Int)]) ∧ Below w.heap.size w w' := by
  have QE := Lib.hid fun k => quo_end s a k ha
  generalize quoL s[a] (s.data.toList.drop (a + 1)) = X at *
  have haz : (a : Int) < (s.size : Int) := by omega
  have ha0 : (0 : Int) ≤ (a : Int) := by omega
  go_enter Try.func68, Try.ntmps68
  go_wp2_with fail
  go_loopw [6] (fun i wr => ∃ k q : Nat, a + 1 + k ≤ s.size ∧ i = .int .i64 ((a + 1 + k : Nat) : Int) ∧ wr = (w.alloc (.cells #[.int .i64 0, .string ⟨#[]⟩, .int .i64 0] 61)).drewN q ∧ Hid (∀ j, j < k → ∀ hj : a + 1 + j < s.size, inQ s[a] s[a + 1 + j] = true)) (fun i _ => s.size - (intOf i).toNat)
  case atStart => exact ⟨0, 0, by omega, by go_num, rfl, fun j hj => by omega⟩
  case round =>
    obtain ⟨k, q, hk, rfl, rfl, HJ⟩ := hrel
    obtain ⟨E, hE⟩ : ∃ E, a + 1 + k = E := ⟨_, rfl⟩
    have QK := QE.out k hk HJ.out
    rw [hE] at QK hk ⊢
    have hE0 : (0 : Int) ≤ (E : Int) := by omega
    have hb : Below w.heap.size w ((w.alloc (.cells #[.int .i64 0, .string ⟨#[]⟩, .int .i64 0] 61)).drewN q) := ((Below.refl _ _).alloc (Nat.le_refl _) _).trans (below_dN _ _ _)
    have hblk : ((w.alloc (.cells #[.int .i64 0, .string ⟨#[]⟩, .int .i64 0] 61)).drewN q).heap[w.heap.size]? = some (.cells #[.int .i64 0, .string ⟨#[]⟩, .int .i64 0] 61 (0, 0)) := heap_alloc_new w _
    have hsz : ((w.alloc (.cells #[.int .i64 0, .string ⟨#[]⟩, .int .i64 0] 61)).drewN q).heap.size = w.heap.size + 1 := by rw [drewN_size]; simp
    by_cases hlt : E < s.size
    · have hltz : decide ((E : Int) < (s.size : Int)) = true := by simp; omega
      have hltz2 : (E : Int) < (s.size : Int) := by omega
      cases hp : inQ s[a] s[E] with
      | true =>
        obtain ⟨g1, g2⟩ := inQ_yes hp
        have HJ2 : Hid (∀ j, j < k + 1 → ∀ hj : a + 1 + j < s.size, inQ s[a] s[a + 1 + j] = true) := by
          intro j hj hjj
          by_cases c : j = k
          · subst c
            have : s[a + 1 + j] = s[E] := by simp only [hE]
            rw [this]; exact hp
          · exact HJ.out j (by omega) hjj
        have HE := Lib.hid hE
        clear hp QK hb hblk hsz hE
        generalize hW : (w.alloc (.cells #[.int .i64 0, .string ⟨#[]⟩, .int .i64 0] 61)).drewN q = wr
        have HW := Lib.hid hW
        clear hW
        go_wp2_with fail
        go_quiet (fail)
        go_wp2_with fail
        go_roundw
        case rel => exact ⟨k + 1, q + nq, by have := HE.out; omega, by have := HE.out; rw [show a + 1 + (k + 1) = E + 1 by omega]; go_num, by rw [← HW.out, World.drewN_drewN], HJ2⟩
        case measure => simp [intOf]; omega
      | false =>
        obtain ⟨T, hx, hE1, hways⟩ := QK (Or.inr ⟨hlt, hp⟩)
        have hno := inQ_no hp
        have hne : ((E : Int) == (s.size : Int)) = false := by rw [beq_eq_false_iff_ne]; omega
        clear hp hE HJ
        rcases hways with ⟨h1, rfl⟩ | ⟨h1, h2, rfl⟩ | ⟨h1, h2, rfl⟩
        · omega
        · have h10 : ((s[E].toNat : Int) == 10) = true := by rw [beq_iff_eq]; omega
          clear h2
          rcases hno with g1 | ⟨g1, g2⟩
          all_goals
            generalize hW : (w.alloc (.cells #[.int .i64 0, .string ⟨#[]⟩, .int .i64 0] 61)).drewN q = wr at hb hblk hsz ⊢
            clear hW
            have HX := Lib.hid hx
            have HB := Lib.hid hb
            have HBLK := Lib.hid hblk
            have HSZ := Lib.hid hsz
            clear hx hb hblk hsz QK
            go_wp2_with fail
            go_quiet (fail)
            obtain ⟨wq, hwq⟩ : ∃ wq, wr.drewN nq = wq := ⟨_, rfl⟩
            have hbq : Below w.heap.size w wq := by rw [← hwq]; exact HB.out.trans (below_dN _ _ _)
            have hblkq : wq.heap[w.heap.size]? = some (.cells #[.int .i64 0, .string ⟨#[]⟩, .int .i64 0] 61 (0, 0)) := by rw [← hwq]; exact HBLK.out
            have hszq : wq.heap.size = w.heap.size + 1 := by rw [← hwq]; exact HSZ.out
            rw [hwq]
            clear hwq
            have hlow : w.heap.size ≤ wq.heap.size := by omega
            obtain ⟨x1, x2, x3, ⟨p0, q0, r0⟩, ⟨p1, q1, r1⟩, ⟨p2, q2, r2⟩, h3⟩ := three_store (wq.alloc (.cells #[.int .i64 6, .string (s.extract (a + 1) E), .int .i64 0] 61)) w.heap.size 61 _ _ _ (.int .i64 6) (.string (s.extract (a + 1) E)) (.int .i64 0) (by rw [Below.heap_alloc _ _ _ (by omega)]; exact hblkq)
            have hb3 := h3.below w.heap.size w (Nat.le_refl _) (hbq.alloc hlow _)
            have k0 := cell_of (k := 0) h3.here rfl
            have k1 := cell_of (k := 1) h3.here rfl
            have k2 := cell_of (k := 2) h3.here rfl
            have HB3 := Lib.hid hb3
            clear hbq hblkq hb3 h3
            go_wp2_with fail
            refine bodyPost_ret (v := .tuple #[(⟨6, T, 0⟩ : Tok).val, .int .i64 (E : Int)]) (by simp [results, Try.results68, go_sem, LexP.Tok.val, k0, k1, k2, HX.out]) rfl ⟨?_, HB3.out⟩
            rw [show ((a : Int) + ((E - a : Nat) : Int)) = (E : Int) by omega]
        · have h10 : ((s[E].toNat : Int) == 10) = false := by rw [beq_eq_false_iff_ne]; omega
          clear h2
          rcases hno with g1 | ⟨g1, g2⟩
          all_goals
            generalize hW : (w.alloc (.cells #[.int .i64 0, .string ⟨#[]⟩, .int .i64 0] 61)).drewN q = wr at hb hblk hsz ⊢
            clear hW
            have HX := Lib.hid hx
            have HB := Lib.hid hb
            have HBLK := Lib.hid hblk
            have HSZ := Lib.hid hsz
            clear hx hb hblk hsz QK
            go_wp2_with fail
            go_quiet (fail)
            obtain ⟨wq, hwq⟩ : ∃ wq, wr.drewN nq = wq := ⟨_, rfl⟩
            have hbq : Below w.heap.size w wq := by rw [← hwq]; exact HB.out.trans (below_dN _ _ _)
            have hblkq : wq.heap[w.heap.size]? = some (.cells #[.int .i64 0, .string ⟨#[]⟩, .int .i64 0] 61 (0, 0)) := by rw [← hwq]; exact HBLK.out
            have hszq : wq.heap.size = w.heap.size + 1 := by rw [← hwq]; exact HSZ.out
            rw [hwq]
            clear hwq
            have hlow : w.heap.size ≤ wq.heap.size := by omega
            obtain ⟨x1, x2, x3, ⟨p0, q0, r0⟩, ⟨p1, q1, r1⟩, ⟨p2, q2, r2⟩, h3⟩ := three_store (wq.alloc (.cells #[.int .i64 5, .string (s.extract (a + 1) E), .int .i64 0] 61)) w.heap.size 61 _ _ _ (.int .i64 5) (.string (s.extract (a + 1) E)) (.int .i64 0) (by rw [Below.heap_alloc _ _ _ (by omega)]; exact hblkq)
            have hb3 := h3.below w.heap.size w (Nat.le_refl _) (hbq.alloc hlow _)
            have k0 := cell_of (k := 0) h3.here rfl
            have k1 := cell_of (k := 1) h3.here rfl
            have k2 := cell_of (k := 2) h3.here rfl
            have HB3 := Lib.hid hb3
            clear hbq hblkq hb3 h3
            go_wp2_with fail
            refine bodyPost_ret (v := .tuple #[(⟨5, T, 0⟩ : Tok).val, .int .i64 ((E : Int) + 1)]) (by simp [results, Try.results68, go_sem, LexP.Tok.val, k0, k1, k2, HX.out]) rfl ⟨?_, HB3.out⟩
            rw [show ((a : Int) + ((E + 1 - a : Nat) : Int)) = ((E : Int) + 1) by omega]
    · have hltz : decide ((E : Int) < (s.size : Int)) = false := by simp; omega
      obtain ⟨T, hx, hE1, hways⟩ := QK (Or.inl (by omega))
      have hne : ((E : Int) == (s.size : Int)) = true := by rw [beq_iff_eq]; omega
      clear hE HJ
      rcases hways with ⟨h1, rfl⟩ | ⟨h1, h2, rfl⟩ | ⟨h1, h2, rfl⟩
      · have H1 := Lib.hid h1
        clear h1
        generalize hW : (w.alloc (.cells #[.int .i64 0, .string ⟨#[]⟩, .int .i64 0] 61)).drewN q = wr at hb hblk hsz ⊢
        clear hW
        have HX := Lib.hid hx
        have HB := Lib.hid hb
        have HBLK := Lib.hid hblk
        have HSZ := Lib.hid hsz
        clear hx hb hblk hsz QK
        go_wp2_with fail
        go_quiet (fail)
        obtain ⟨wq, hwq⟩ : ∃ wq, wr.drewN nq = wq := ⟨_, rfl⟩
        have hbq : Below w.heap.size w wq := by rw [← hwq]; exact HB.out.trans (below_dN _ _ _)
        have hblkq : wq.heap[w.heap.size]? = some (.cells #[.int .i64 0, .string ⟨#[]⟩, .int .i64 0] 61 (0, 0)) := by rw [← hwq]; exact HBLK.out
        have hszq : wq.heap.size = w.heap.size + 1 := by rw [← hwq]; exact HSZ.out
        rw [hwq]
        clear hwq
        have hlow : w.heap.size ≤ wq.heap.size := by omega
        obtain ⟨x1, x2, x3, ⟨p0, q0, r0⟩, ⟨p1, q1, r1⟩, ⟨p2, q2, r2⟩, h3⟩ := three_store (wq.alloc (.cells #[.int .i64 5, .string (s.extract (a + 1) E), .int .i64 0] 61)) w.heap.size 61 _ _ _ (.int .i64 5) (.string (s.extract (a + 1) E)) (.int .i64 0) (by rw [Below.heap_alloc _ _ _ (by omega)]; exact hblkq)
        have hb3 := h3.below w.heap.size w (Nat.le_refl _) (hbq.alloc hlow _)
        have k0 := cell_of (k := 0) h3.here rfl
        have k1 := cell_of (k := 1) h3.here rfl
        have k2 := cell_of (k := 2) h3.here rfl
        have HB3 := Lib.hid hb3
        clear hbq hblkq hb3 h3
        go_wp2_with fail
        refine bodyPost_ret (v := .tuple #[(⟨5, T, 0⟩ : Tok).val, .int .i64 (E : Int)]) (by simp [results, Try.results68, go_sem, LexP.Tok.val, k0, k1, k2, HX.out]) rfl ⟨?_, HB3.out⟩
        rw [show ((a : Int) + ((E - a : Nat) : Int)) = (E : Int) by omega]
      · omega
      · omega
end Go.Proofs.Ytoaenlbbochjhaa
