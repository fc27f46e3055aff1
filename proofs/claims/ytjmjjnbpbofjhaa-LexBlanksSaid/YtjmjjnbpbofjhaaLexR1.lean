/- The walks of layer 5's reference: bytes, what stands at a place. -/
import Derived.Test.YtjmjjnbpbofjhaaLexW3
import Derived.Test.YtjmjjnbpbofjhaaLexPs
namespace Go.Proofs.Ytjmjjnbpbofjhaa
open Go.RowKit TreN LexP FixP

set_option maxRecDepth 100000 in
set_option maxHeartbeats 1000000 in
theorem refBlank_any (c : Int) (w : World) : Calls Try.prog 92 #[.int .u8 c] w fun e w' => e = .returned (.bool (blI c)) ∧ w = w' := by
  obtain ⟨v, hv⟩ : ∃ v, blI c = v := ⟨_, rfl⟩
  rw [hv]
  have HV := Lib.hid hv
  clear hv
  have hc : c = 9 ∨ c = 10 ∨ c = 12 ∨ c = 13 ∨ c = 32 ∨ (¬ c = 9 ∧ ¬ c = 10 ∧ ¬ c = 12 ∧ ¬ c = 13 ∧ ¬ c = 32) := by omega
  rcases hc with rfl | rfl | rfl | rfl | rfl | ⟨h1, h2, h3, h4, h5⟩
  all_goals
    try
      have g1 : (c == 9) = false := by rw [beq_eq_false_iff_ne]; exact h1
      have g2 : (c == 10) = false := by rw [beq_eq_false_iff_ne]; exact h2
      have g3 : (c == 12) = false := by rw [beq_eq_false_iff_ne]; exact h3
      have g4 : (c == 13) = false := by rw [beq_eq_false_iff_ne]; exact h4
      have g5 : (c == 32) = false := by rw [beq_eq_false_iff_ne]; exact h5
    go_enter Try.func92, Try.ntmps92
    go_wp2_with fail
    go_ret
    refine ⟨ret_bool ?_, rfl⟩
    rw [← HV.out]
    unfold blI
    first | decide | (symm; simp [h1, h2, h3, h4, h5]) | (simp [h1, h2, h3, h4, h5])

set_option maxRecDepth 100000 in
set_option maxHeartbeats 1000000 in
theorem refBlanks_any (s : ByteArray) (a : Nat) (hs : s.size ≤ 9223372036854775807) (ha : a ≤ s.size) (E : Nat) (hE : ((s.data.toList.drop a).takeWhile blB).length = E) (w : World) :
    Calls Try.prog 93 #[.string s, .int .i64 (a : Int)] w fun e w' => e = .returned (.int .i64 (E : Int)) ∧ w = w' := by
  subst hE
  go_enter Try.func93, Try.ntmps93
  go_wp2_with fail
  go_loop [1, 5] (fun i n => ∃ k : Nat, a + k ≤ s.size ∧ i = .int .i64 ((a + k : Nat) : Int) ∧ n = .int .i64 (k : Int) ∧ Hid (∀ j, j < k → ∀ hj : a + j < s.size, blB s[a + j] = true)) (fun i _ => s.size - (intOf i).toNat)
  case atStart => exact ⟨0, by omega, rfl, rfl, fun j hj => by omega⟩
  case round =>
    obtain ⟨k, hk, rfl, rfl, HJ⟩ := hrel
    by_cases hlt : a + k < s.size
    · have hltz : ((a + k : Nat) : Int) < (s.size : Int) := by omega
      have CB := refBlank_any (s[a + k].toNat : Int) w
      rw [blI_eq] at CB
      cases hp : blB s[a + k] with
      | true =>
        rw [hp] at CB
        have HP := Lib.hid hp
        have HCB := Lib.hid CB
        clear hp CB
        go_wp2_with fail
        refine (HCB.out).mono ?_
        rintro e w' ⟨rfl, rfl⟩
        go_wp2_with fail
        go_round
        case rel =>
          refine ⟨k + 1, by omega, by go_num, by go_num, fun j hj hjj => ?_⟩
          by_cases c : j = k
          · subst c; exact HP.out
          · exact HJ.out j (by omega) hjj
        case measure => simp [intOf]; omega
      | false =>
        rw [hp] at CB
        have HP := Lib.hid hp
        have HCB := Lib.hid CB
        clear hp CB
        go_wp2_with fail
        refine (HCB.out).mono ?_
        rintro e w' ⟨rfl, rfl⟩
        go_wp2_with fail
        go_ret
        exact ⟨ret_int (by have := tw_take (k := k) hk HJ.out (Or.inr ⟨hlt, HP.out⟩); omega), rfl⟩
    · have hle : a + k = s.size := by omega
      have HE := Lib.hid hle
      clear hle
      have hltz : ¬ ((a + k : Nat) : Int) < (s.size : Int) := by omega
      go_wp2_with fail
      go_ret
      exact ⟨ret_int (by have := tw_take (k := k) hk HJ.out (Or.inl HE.out); omega), rfl⟩

theorem piece_eq (s sub : ByteArray) (a : Nat) (h : a + sub.size ≤ s.size) : ((s.extract a (a + sub.size)).toList == sub.toList) = Lib.hasPrefix (s.data.toList.drop a) sub.data.toList := (Lib.occ_of_piece s sub a h).symm
theorem piece_no (l : List UInt8) (m : List UInt8) (h : l.length < m.length) : Lib.hasPrefix l m = false := by
  cases hp : Lib.hasPrefix l m with
  | false => rfl
  | true =>
    have := List.IsPrefix.length_le (List.isPrefixOf_iff_prefix.1 hp)
    omega

set_option maxRecDepth 100000 in
set_option maxHeartbeats 1000000 in
theorem refHas_2 (s : ByteArray) (a : Nat) (hs : s.size ≤ 9223372036854775807) (ha : a ≤ s.size) (w : World) (c d : UInt8) :
    Calls Try.prog 90 #[.string s, .int .i64 (a : Int), .string ⟨#[c, d]⟩] w fun e w' => e = .returned (.bool (Lib.hasPrefix (s.data.toList.drop a) [c, d])) ∧ w = w' := by
  by_cases h : a + 2 ≤ s.size
  · have hz : (2 : Int) ≤ (s.size : Int) - (a : Int) := by omega
    have hp := piece_eq s ⟨#[c, d]⟩ a h
    have HP : Hid (((s.extract a (a + 2)).toList == [c, d]) = Lib.hasPrefix (s.data.toList.drop a) [c, d]) := by
      have e : (⟨#[c, d]⟩ : ByteArray).toList = [c, d] := by simp
      rw [e] at hp; exact hp
    clear hp
    go_enter Try.func90, Try.ntmps90
    go_wp2_with fail
    go_ret
    exact ⟨ret_bool HP.out, rfl⟩
  · have hz : ¬ (2 : Int) ≤ (s.size : Int) - (a : Int) := by omega
    rw [piece_no _ _ (by rw [List.length_drop, len_data]; simp; omega)]
    go_enter Try.func90, Try.ntmps90
    go_wp2_with fail
    go_ret
    exact ⟨rfl, rfl⟩
set_option maxRecDepth 100000 in
set_option maxHeartbeats 1000000 in
theorem refHas_1 (s : ByteArray) (a : Nat) (hs : s.size ≤ 9223372036854775807) (ha : a ≤ s.size) (w : World) (c : UInt8) :
    Calls Try.prog 90 #[.string s, .int .i64 (a : Int), .string ⟨#[c]⟩] w fun e w' => e = .returned (.bool (Lib.hasPrefix (s.data.toList.drop a) [c])) ∧ w = w' := by
  by_cases h : a + 1 ≤ s.size
  · have hz : (1 : Int) ≤ (s.size : Int) - (a : Int) := by omega
    have hp := piece_eq s ⟨#[c]⟩ a h
    have HP : Hid (((s.extract a (a + 1)).toList == [c]) = Lib.hasPrefix (s.data.toList.drop a) [c]) := by
      have e : (⟨#[c]⟩ : ByteArray).toList = [c] := by simp
      rw [e] at hp; exact hp
    clear hp
    go_enter Try.func90, Try.ntmps90
    go_wp2_with fail
    go_ret
    exact ⟨ret_bool HP.out, rfl⟩
  · have hz : ¬ (1 : Int) ≤ (s.size : Int) - (a : Int) := by omega
    rw [piece_no _ _ (by rw [List.length_drop, len_data]; simp; omega)]
    go_enter Try.func90, Try.ntmps90
    go_wp2_with fail
    go_ret
    exact ⟨rfl, rfl⟩

theorem endC_hit (l : List UInt8) (h : Lib.hasPrefix l [42, 47] = true) : endC l = 2 := by
  match l, h with
  | [], h => cases h
  | [a], h => simp [Lib.hasPrefix, List.isPrefixOf] at h
  | a :: b :: r, h =>
    simp only [Lib.hasPrefix, List.isPrefixOf, Bool.and_eq_true, beq_iff_eq] at h
    show (if a.toNat = 42 ∧ b.toNat = 47 then 2 else endC (b :: r) + 1) = 2
    rw [if_pos ⟨by rw [← h.1]; rfl, by rw [← h.2.1]; rfl⟩]
theorem endC_miss (c : UInt8) (r : List UInt8) (h : Lib.hasPrefix (c :: r) [42, 47] = false) : endC (c :: r) = endC r + 1 := by
  cases r with
  | nil => rfl
  | cons b r =>
    show (if c.toNat = 42 ∧ b.toNat = 47 then 2 else endC (b :: r) + 1) = _
    rw [if_neg]
    rintro ⟨h1, h2⟩
    have e1 : c = 42 := UInt8.toNat_inj.1 h1
    have e2 : b = 47 := UInt8.toNat_inj.1 h2
    subst e1; subst e2
    simp [Lib.hasPrefix, List.isPrefixOf] at h

set_option maxRecDepth 100000 in
set_option maxHeartbeats 1000000 in
theorem refBehind_any (s : ByteArray) (ai : Int) (a : Nat) (he : ai = a) (hs : s.size ≤ 9223372036854775000) (ha : a ≤ s.size) (E : Nat) (hE : a + endC (s.data.toList.drop a) = E) (w : World) :
    Calls Try.prog 91 #[.string s, .int .i64 ai, .string ⟨#[42, 47]⟩] w fun e w' => e = .returned (.int .i64 (E : Int)) ∧ w = w' := by
  subst he
  have HE := Lib.hid hE
  clear hE
  have CH := Lib.hid fun (k : Nat) (hk : k ≤ s.size) => refHas_2 s k (by omega) hk w 42 47
  go_enter Try.func91, Try.ntmps91
  go_wp2_with fail
  go_loop [1] (fun i => ∃ k : Nat, k ≤ s.size ∧ i = .int .i64 (k : Int) ∧ Hid (k + endC (s.data.toList.drop k) = E)) (fun i => s.size - (intOf i).toNat)
  case atStart => exact ⟨a, by omega, rfl, HE⟩
  case round =>
    obtain ⟨k, hk, rfl, HK⟩ := hrel
    by_cases hlt : k < s.size
    · have hltz : (k : Int) < (s.size : Int) := by omega
      have CB := CH.out k hk
      cases hp : Lib.hasPrefix (s.data.toList.drop k) [42, 47] with
      | true =>
        rw [hp] at CB
        have h2 := endC_hit _ hp
        have HR : Hid (k + 2 = E) := by have := HK.out; rw [h2] at this; exact this
        have HCB := Lib.hid CB
        clear hp CB h2
        go_wp2_with fail
        refine (HCB.out).mono ?_
        rintro e w' ⟨rfl, rfl⟩
        go_wp2_with fail
        go_ret
        exact ⟨ret_int (by have := HR.out; omega), rfl⟩
      | false =>
        rw [hp] at CB
        have h2 : (k + 1) + endC (s.data.toList.drop (k + 1)) = E := by
          have := HK.out
          rw [List.drop_eq_getElem_cons (by rw [len_data]; exact hlt)] at hp this
          rw [endC_miss _ _ hp] at this
          omega
        have HR := Lib.hid h2
        have HCB := Lib.hid CB
        clear hp CB h2
        go_wp2_with fail
        refine (HCB.out).mono ?_
        rintro e w' ⟨rfl, rfl⟩
        go_wp2_with fail
        go_round
        case rel => exact ⟨k + 1, by omega, by go_num, HR⟩
        case measure => simp [intOf]; omega
    · have hle : k = E := by
        have := HK.out
        rw [List.drop_of_length_le (by rw [len_data]; omega)] at this
        simpa [endC] using this
      have hks : k = s.size := by omega
      have HL := Lib.hid hle
      have HS := Lib.hid hks
      clear hle hks
      have hltz : ¬ (k : Int) < (s.size : Int) := by omega
      go_wp2_with fail
      go_ret
      exact ⟨ret_int (by have := HL.out; have := HS.out; omega), rfl⟩

theorem bt_at (s : ByteArray) (a : Nat) (h : a < s.size) : lB s[a] = letB (s[a].toNat : Int) := rfl
set_option maxRecDepth 100000 in
set_option maxHeartbeats 1000000 in
theorem refStarts_at (s : ByteArray) (ai : Int) (a : Nat) (he : ai = a) (hs : s.size ≤ 9223372036854775000) (ha : a ≤ s.size) (w : World) :
    Calls Try.prog 60 #[.string s, .int .i64 ai] w fun e w' => e = .returned (.bool (startsL (s.data.toList.drop a))) ∧ w = w' := by
  subst he
  by_cases h0 : a < s.size
  · have h0z : ¬ (s.size : Int) ≤ (a : Int) := by omega
    have hd : s.data.toList.drop a = s[a] :: s.data.toList.drop (a + 1) := by
      rw [List.drop_eq_getElem_cons (by rw [len_data]; exact h0)]
      simp [ByteArray.getElem_eq_getElem_data]
    by_cases h45 : s[a].toNat = 45
    · have hb : ((s[a].toNat : Int) == 45) = true := by rw [beq_iff_eq]; omega
      by_cases h1 : a + 1 < s.size
      · have h1z : (a : Int) + 1 < (s.size : Int) := by omega
        have hd2 : s.data.toList.drop (a + 1) = s[a + 1] :: s.data.toList.drop (a + 1 + 1) := by
          rw [List.drop_eq_getElem_cons (by rw [len_data]; exact h1)]
          simp [ByteArray.getElem_eq_getElem_data]
        have hv : startsL (s.data.toList.drop a) = (lB s[a + 1] || decide (s[a + 1].toNat = 45)) := by
          rw [hd, hd2]
          show (if s[a].toNat = 45 then _ else _) = _
          rw [if_pos h45]
        rw [hv]
        clear hv hd hd2 h45
        have CL := refBegins_any (s[a + 1].toNat : Int) w
        rw [← bt_at s (a + 1) h1] at CL
        cases hl : lB s[a + 1] with
        | true =>
          rw [hl] at CL
          have HCL := Lib.hid CL
          clear CL hl
          go_enter Try.func60, Try.ntmps60
          go_wp2_with (go_at_call 98; refine HCL.out.mono ?_; rintro e w' ⟨rfl, rfl⟩)
          go_ret
          exact ⟨rfl, rfl⟩
        | false =>
          rw [hl] at CL
          have HCL := Lib.hid CL
          clear CL hl
          have hbb : ((s[a + 1].toNat : Int) == 45) = decide (s[a + 1].toNat = 45) := by rw [Bool.eq_iff_iff]; simp; omega
          have HBB := Lib.hid hbb
          clear hbb
          go_enter Try.func60, Try.ntmps60
          go_wp2_with (go_at_call 98; refine HCL.out.mono ?_; rintro e w' ⟨rfl, rfl⟩)
          go_ret
          exact ⟨ret_bool (by rw [HBB.out]; simp), rfl⟩
      · have h1z : ¬ (a : Int) + 1 < (s.size : Int) := by omega
        have hv : startsL (s.data.toList.drop a) = false := by
          rw [hd, List.drop_of_length_le (by rw [len_data]; omega)]
          show (decide (s[a].toNat ≠ 45) && _) = _
          rw [decide_eq_false (by simpa using h45)]; rfl
        rw [hv]
        clear hv hd h45
        go_enter Try.func60, Try.ntmps60
        go_wp2_with fail
        go_ret
        exact ⟨rfl, rfl⟩
    · have hb : ((s[a].toNat : Int) == 45) = false := by rw [beq_eq_false_iff_ne]; omega
      have hv : startsL (s.data.toList.drop a) = lB s[a] := by
        rw [hd]
        generalize s.data.toList.drop (a + 1) = r
        cases r with
        | nil =>
          show (decide (s[a].toNat ≠ 45) && _) = _
          rw [decide_eq_true h45]; rfl
        | cons x r =>
          show (if s[a].toNat = 45 then _ else _) = _
          rw [if_neg h45]
      rw [hv]
      have CL := refBegins_any (s[a].toNat : Int) w
      rw [← bt_at s a h0] at CL
      have HCL := Lib.hid CL
      clear hv hd h45 CL
      go_enter Try.func60, Try.ntmps60
      go_wp2_with (go_at_call 98; refine HCL.out.mono ?_; rintro e w' ⟨rfl, rfl⟩)
      go_ret
      exact ⟨rfl, rfl⟩
  · have h0z : (s.size : Int) ≤ (a : Int) := by omega
    rw [List.drop_of_length_le (by rw [len_data]; omega)]
    go_enter Try.func60, Try.ntmps60
    go_wp2_with fail
    go_ret
    exact ⟨rfl, rfl⟩

set_option maxRecDepth 100000 in
set_option maxHeartbeats 1000000 in
theorem refRun_at (s : ByteArray) (ai : Int) (a : Nat) (he : ai = a) (hs : s.size ≤ 9223372036854775000) (ha : a ≤ s.size) (E : Nat) (hE : ((s.data.toList.drop a).takeWhile gB).length = E) (w : World) :
    Calls Try.prog 61 #[.string s, .int .i64 ai] w fun e w' => e = .returned (.int .i64 (E : Int)) ∧ w = w' := by
  subst he; subst hE
  go_enter Try.func61, Try.ntmps61
  go_wp2_with fail
  go_loop [1, 5] (fun i n => ∃ k : Nat, a + k ≤ s.size ∧ i = .int .i64 ((a + k : Nat) : Int) ∧ n = .int .i64 (k : Int) ∧ Hid (∀ j, j < k → ∀ hj : a + j < s.size, gB s[a + j] = true)) (fun i _ => s.size - (intOf i).toNat)
  case atStart => exact ⟨0, by omega, rfl, rfl, fun j hj => by omega⟩
  case round =>
    obtain ⟨k, hk, rfl, rfl, HJ⟩ := hrel
    by_cases hlt : a + k < s.size
    · have hltz : ((a + k : Nat) : Int) < (s.size : Int) := by omega
      have CB : Calls Try.prog 99 #[.int .u8 (s[a + k].toNat : Int)] w fun e w' => e = .returned (.bool (gB s[a + k])) ∧ w = w' := refGoes_any (s[a + k].toNat : Int) w
      cases hp : gB s[a + k] with
      | true =>
        rw [hp] at CB
        have HP := Lib.hid hp
        have HCB := Lib.hid CB
        clear hp CB
        go_wp2_with fail
        refine (HCB.out).mono ?_
        rintro e w' ⟨rfl, rfl⟩
        go_wp2_with fail
        go_round
        case rel =>
          refine ⟨k + 1, by omega, by go_num, by go_num, fun j hj hjj => ?_⟩
          by_cases c : j = k
          · subst c; exact HP.out
          · exact HJ.out j (by omega) hjj
        case measure => simp [intOf]; omega
      | false =>
        rw [hp] at CB
        have HP := Lib.hid hp
        have HCB := Lib.hid CB
        clear hp CB
        go_wp2_with fail
        refine (HCB.out).mono ?_
        rintro e w' ⟨rfl, rfl⟩
        go_wp2_with fail
        go_ret
        exact ⟨ret_int (by have := tw_take (k := k) hk HJ.out (Or.inr ⟨hlt, HP.out⟩); omega), rfl⟩
    · have hle : a + k = s.size := by omega
      have HE := Lib.hid hle
      clear hle
      have hltz : ¬ ((a + k : Nat) : Int) < (s.size : Int) := by omega
      go_wp2_with fail
      go_ret
      exact ⟨ret_int (by have := tw_take (k := k) hk HJ.out (Or.inl HE.out); omega), rfl⟩
end Go.Proofs.Ytjmjjnbpbofjhaa
