/- Joined texts: FixW9 FixW10. -/
import Derived.Test.YtoaenlbbochjhaaFixWa
import Derived.Test.YtoaenlbbochjhaaFixAll
namespace Go.Proofs.Ytoaenlbbochjhaa
open Go.RowKit FixM FixP

set_option maxRecDepth 100000 in
set_option maxHeartbeats 1000000 in
theorem Number_plus (s : ByteArray) (f : Nat) (w : World) (hs : s.size ≤ 9223372036854775807) (hf : f < s.size) (hc : s[f].toNat = 43) :
    Calls Try.prog 69 #[.string s, .int .i64 f] w fun e w' => e = .returned (.int .i64 ((numAt s.data.toList f : Nat) : Int)) ∧ w = w' := by
  have HL := Lib.hid (len_list s)
  obtain ⟨b, hb⟩ : ∃ b, b = f + 1 := ⟨_, rfl⟩
  have hbl : b ≤ s.size := by omega
  have hbeg : begAt s.data.toList f = b := by
    unfold begAt; rw [HL.out, at0_eq (by rw [HL.out]; exact hf), if_pos ⟨hf, Or.inl hc⟩, hb]
  obtain ⟨n, hN⟩ : ∃ n, nd s.data.toList b = n := ⟨_, rfl⟩
  have hdg : ∀ w, Calls Try.prog 87 #[.string s, .int .i64 ((f : Int) + 1)] w fun e w' => e = .returned (.int .i64 (n : Int)) ∧ w = w' := fun w => by
    have := Digits_any s b w hs hbl
    rw [hN, hb] at this
    exact this
  have HDG := Lib.hid hdg
  obtain ⟨p, hp⟩ : ∃ p, p = b + n := ⟨_, rfl⟩
  have hP : ptAt s.data.toList f = p := by unfold ptAt; rw [hbeg, hN, hp]
  have HNN : Hid (nd s.data.toList (begAt s.data.toList f) = n) := by show _ = _; rw [hbeg, hN]
  have hpi : (f : Int) + 1 + (n : Int) = (p : Int) := by rw [hp, hb]; omega
  have hpl : p ≤ s.size := by have := nd_le (l := s.data.toList) (a := b) (by rw [HL.out]; exact hbl); rw [HL.out, hN] at this; omega
  have hfb : f ≤ b := by omega
  have hpn : b ≤ p := by omega
  clear hbeg hN hdg hp hb
  have b43 : ((s[f].toNat : Int) == 43) = true := by simp [hc]
  clear hc
  go_enter Try.func69, Try.ntmps69
  go_wp2_with fail
  refine (HDG.out _).mono ?_
  rintro e w' ⟨rfl, rfl⟩
  have hbp : b ≤ p := by omega
  have HP : Hid (ptAt s.data.toList f = p) := hP
  clear hP
  by_cases hlt : p < s.size
  · have hat : at0 s.data.toList p = s[p].toNat := at0_eq (by rw [HL.out]; exact hlt)
    have HAT := Lib.hid hat
    clear hat
    by_cases h46 : s[p].toNat = 46
    · have b46 : ((s[p].toNat : Int) == 46) = true := by simp [h46]
      obtain ⟨m, hM⟩ : ∃ m, nd s.data.toList (p + 1) = m := ⟨_, rfl⟩
      have hml : p + 1 + m ≤ s.size := by have := nd_le (l := s.data.toList) (a := p + 1) (by rw [HL.out]; omega); rw [hM, HL.out] at this; exact this
      have hdig : ∀ w, Calls Try.prog 87 #[.string s, .int .i64 ((p : Int) + 1)] w fun e w' => e = .returned (.int .i64 (m : Int)) ∧ w = w' := fun w => by
        have := Digits_any s (p + 1) w hs (by omega)
        rw [hM] at this
        exact this
      have HDIG := Lib.hid hdig
      clear hdig
      by_cases hm : 0 < m
      · have hnum : numAt s.data.toList f = p + 1 + m - f := by
          unfold numAt; rw [HP.out, hM, HL.out, HAT.out, if_pos ⟨hlt, h46, hm⟩]
        have HNUM := Lib.hid hnum
        clear hnum h46 hM
        go_wp2_with (go_at_call 87; refine (HDIG.out _).mono ?_; rintro e w' ⟨rfl, rfl⟩)
        go_ret
        exact ⟨ret_intF (by rw [HNUM.out]; omega), rfl⟩
      · have hnum : numAt s.data.toList f = if n = 0 then 0 else p - f := by
          unfold numAt; rw [HP.out, hM, if_neg (fun x => hm x.2.2), HNN.out]
        have HNUM := Lib.hid hnum
        clear hnum h46 hM
        by_cases hn0 : n = 0
        · have bn : ((n : Int) == 0) = true := by simp [hn0]
          have HN0 := Lib.hid hn0
          clear hn0
          go_wp2_with (go_at_call 87; refine (HDIG.out _).mono ?_; rintro e w' ⟨rfl, rfl⟩)
          go_ret
          exact ⟨ret_intF (by rw [HNUM.out, if_pos HN0.out]; rfl), rfl⟩
        · have bn : ((n : Int) == 0) = false := by simp; omega
          have HN0 := Lib.hid hn0
          clear hn0
          go_wp2_with (go_at_call 87; refine (HDIG.out _).mono ?_; rintro e w' ⟨rfl, rfl⟩)
          go_ret
          exact ⟨ret_intF (by rw [HNUM.out, if_neg HN0.out]; omega), rfl⟩
    · have b46 : ((s[p].toNat : Int) == 46) = false := by simp; omega
      have hnum : numAt s.data.toList f = if n = 0 then 0 else p - f := by
        unfold numAt; rw [HP.out, HAT.out, if_neg (fun x => h46 x.2.1), HNN.out]
      have HNUM := Lib.hid hnum
      clear hnum h46
      by_cases hn0 : n = 0
      · have bn : ((n : Int) == 0) = true := by simp [hn0]
        have HN0 := Lib.hid hn0
        clear hn0
        go_wp2_with fail
        go_ret
        exact ⟨ret_intF (by rw [HNUM.out, if_pos HN0.out]; rfl), rfl⟩
      · have bn : ((n : Int) == 0) = false := by simp; omega
        have HN0 := Lib.hid hn0
        clear hn0
        go_wp2_with fail
        go_ret
        exact ⟨ret_intF (by rw [HNUM.out, if_neg HN0.out]; omega), rfl⟩
  · have hnum : numAt s.data.toList f = if n = 0 then 0 else p - f := by
      unfold numAt; rw [HP.out, HL.out, if_neg (fun x => hlt x.1), HNN.out]
    have HNUM := Lib.hid hnum
    clear hnum
    by_cases hn0 : n = 0
    · have bn : ((n : Int) == 0) = true := by simp [hn0]
      have HN0 := Lib.hid hn0
      clear hn0
      go_wp2_with fail
      go_ret
      exact ⟨ret_intF (by rw [HNUM.out, if_pos HN0.out]; rfl), rfl⟩
    · have bn : ((n : Int) == 0) = false := by simp; omega
      have HN0 := Lib.hid hn0
      clear hn0
      go_wp2_with fail
      go_ret
      exact ⟨ret_intF (by rw [HNUM.out, if_neg HN0.out]; omega), rfl⟩

set_option maxRecDepth 100000 in
set_option maxHeartbeats 1000000 in
theorem Number_minus (s : ByteArray) (f : Nat) (w : World) (hs : s.size ≤ 9223372036854775807) (hf : f < s.size) (hc : s[f].toNat = 45) :
    Calls Try.prog 69 #[.string s, .int .i64 f] w fun e w' => e = .returned (.int .i64 ((numAt s.data.toList f : Nat) : Int)) ∧ w = w' := by
  have HL := Lib.hid (len_list s)
  obtain ⟨b, hb⟩ : ∃ b, b = f + 1 := ⟨_, rfl⟩
  have hbl : b ≤ s.size := by omega
  have hbeg : begAt s.data.toList f = b := by
    unfold begAt; rw [HL.out, at0_eq (by rw [HL.out]; exact hf), if_pos ⟨hf, Or.inr hc⟩, hb]
  obtain ⟨n, hN⟩ : ∃ n, nd s.data.toList b = n := ⟨_, rfl⟩
  have hdg : ∀ w, Calls Try.prog 87 #[.string s, .int .i64 ((f : Int) + 1)] w fun e w' => e = .returned (.int .i64 (n : Int)) ∧ w = w' := fun w => by
    have := Digits_any s b w hs hbl
    rw [hN, hb] at this
    exact this
  have HDG := Lib.hid hdg
  obtain ⟨p, hp⟩ : ∃ p, p = b + n := ⟨_, rfl⟩
  have hP : ptAt s.data.toList f = p := by unfold ptAt; rw [hbeg, hN, hp]
  have HNN : Hid (nd s.data.toList (begAt s.data.toList f) = n) := by show _ = _; rw [hbeg, hN]
  have hpi : (f : Int) + 1 + (n : Int) = (p : Int) := by rw [hp, hb]; omega
  have hpl : p ≤ s.size := by have := nd_le (l := s.data.toList) (a := b) (by rw [HL.out]; exact hbl); rw [HL.out, hN] at this; omega
  have hfb : f ≤ b := by omega
  have hpn : b ≤ p := by omega
  clear hbeg hN hdg hp hb
  have b43 : ((s[f].toNat : Int) == 43) = false := by simp [hc]
  have b45 : ((s[f].toNat : Int) == 45) = true := by simp [hc]
  clear hc
  go_enter Try.func69, Try.ntmps69
  go_wp2_with fail
  refine (HDG.out _).mono ?_
  rintro e w' ⟨rfl, rfl⟩
  have hbp : b ≤ p := by omega
  have HP : Hid (ptAt s.data.toList f = p) := hP
  clear hP
  by_cases hlt : p < s.size
  · have hat : at0 s.data.toList p = s[p].toNat := at0_eq (by rw [HL.out]; exact hlt)
    have HAT := Lib.hid hat
    clear hat
    by_cases h46 : s[p].toNat = 46
    · have b46 : ((s[p].toNat : Int) == 46) = true := by simp [h46]
      obtain ⟨m, hM⟩ : ∃ m, nd s.data.toList (p + 1) = m := ⟨_, rfl⟩
      have hml : p + 1 + m ≤ s.size := by have := nd_le (l := s.data.toList) (a := p + 1) (by rw [HL.out]; omega); rw [hM, HL.out] at this; exact this
      have hdig : ∀ w, Calls Try.prog 87 #[.string s, .int .i64 ((p : Int) + 1)] w fun e w' => e = .returned (.int .i64 (m : Int)) ∧ w = w' := fun w => by
        have := Digits_any s (p + 1) w hs (by omega)
        rw [hM] at this
        exact this
      have HDIG := Lib.hid hdig
      clear hdig
      by_cases hm : 0 < m
      · have hnum : numAt s.data.toList f = p + 1 + m - f := by
          unfold numAt; rw [HP.out, hM, HL.out, HAT.out, if_pos ⟨hlt, h46, hm⟩]
        have HNUM := Lib.hid hnum
        clear hnum h46 hM
        go_wp2_with (go_at_call 87; refine (HDIG.out _).mono ?_; rintro e w' ⟨rfl, rfl⟩)
        go_ret
        exact ⟨ret_intF (by rw [HNUM.out]; omega), rfl⟩
      · have hnum : numAt s.data.toList f = if n = 0 then 0 else p - f := by
          unfold numAt; rw [HP.out, hM, if_neg (fun x => hm x.2.2), HNN.out]
        have HNUM := Lib.hid hnum
        clear hnum h46 hM
        by_cases hn0 : n = 0
        · have bn : ((n : Int) == 0) = true := by simp [hn0]
          have HN0 := Lib.hid hn0
          clear hn0
          go_wp2_with (go_at_call 87; refine (HDIG.out _).mono ?_; rintro e w' ⟨rfl, rfl⟩)
          go_ret
          exact ⟨ret_intF (by rw [HNUM.out, if_pos HN0.out]; rfl), rfl⟩
        · have bn : ((n : Int) == 0) = false := by simp; omega
          have HN0 := Lib.hid hn0
          clear hn0
          go_wp2_with (go_at_call 87; refine (HDIG.out _).mono ?_; rintro e w' ⟨rfl, rfl⟩)
          go_ret
          exact ⟨ret_intF (by rw [HNUM.out, if_neg HN0.out]; omega), rfl⟩
    · have b46 : ((s[p].toNat : Int) == 46) = false := by simp; omega
      have hnum : numAt s.data.toList f = if n = 0 then 0 else p - f := by
        unfold numAt; rw [HP.out, HAT.out, if_neg (fun x => h46 x.2.1), HNN.out]
      have HNUM := Lib.hid hnum
      clear hnum h46
      by_cases hn0 : n = 0
      · have bn : ((n : Int) == 0) = true := by simp [hn0]
        have HN0 := Lib.hid hn0
        clear hn0
        go_wp2_with fail
        go_ret
        exact ⟨ret_intF (by rw [HNUM.out, if_pos HN0.out]; rfl), rfl⟩
      · have bn : ((n : Int) == 0) = false := by simp; omega
        have HN0 := Lib.hid hn0
        clear hn0
        go_wp2_with fail
        go_ret
        exact ⟨ret_intF (by rw [HNUM.out, if_neg HN0.out]; omega), rfl⟩
  · have hnum : numAt s.data.toList f = if n = 0 then 0 else p - f := by
      unfold numAt; rw [HP.out, HL.out, if_neg (fun x => hlt x.1), HNN.out]
    have HNUM := Lib.hid hnum
    clear hnum
    by_cases hn0 : n = 0
    · have bn : ((n : Int) == 0) = true := by simp [hn0]
      have HN0 := Lib.hid hn0
      clear hn0
      go_wp2_with fail
      go_ret
      exact ⟨ret_intF (by rw [HNUM.out, if_pos HN0.out]; rfl), rfl⟩
    · have bn : ((n : Int) == 0) = false := by simp; omega
      have HN0 := Lib.hid hn0
      clear hn0
      go_wp2_with fail
      go_ret
      exact ⟨ret_intF (by rw [HNUM.out, if_neg HN0.out]; omega), rfl⟩

set_option maxRecDepth 100000 in
set_option maxHeartbeats 1000000 in
theorem Number_bare (s : ByteArray) (f : Nat) (w : World) (hs : s.size ≤ 9223372036854775807) (hf : f < s.size) (hc : ¬ (s[f].toNat = 43 ∨ s[f].toNat = 45)) :
    Calls Try.prog 69 #[.string s, .int .i64 f] w fun e w' => e = .returned (.int .i64 ((numAt s.data.toList f : Nat) : Int)) ∧ w = w' := by
  have HL := Lib.hid (len_list s)
  obtain ⟨b, hb⟩ : ∃ b, b = f := ⟨_, rfl⟩
  have hbl : b ≤ s.size := by omega
  have hbeg : begAt s.data.toList f = b := by
    unfold begAt; rw [HL.out, at0_eq (by rw [HL.out]; exact hf), if_neg (fun x => hc x.2), hb]
  obtain ⟨n, hN⟩ : ∃ n, nd s.data.toList b = n := ⟨_, rfl⟩
  have hdg : ∀ w, Calls Try.prog 87 #[.string s, .int .i64 ((f : Int))] w fun e w' => e = .returned (.int .i64 (n : Int)) ∧ w = w' := fun w => by
    have := Digits_any s b w hs hbl
    rw [hN, hb] at this
    exact this
  have HDG := Lib.hid hdg
  obtain ⟨p, hp⟩ : ∃ p, p = b + n := ⟨_, rfl⟩
  have hP : ptAt s.data.toList f = p := by unfold ptAt; rw [hbeg, hN, hp]
  have HNN : Hid (nd s.data.toList (begAt s.data.toList f) = n) := by show _ = _; rw [hbeg, hN]
  have hpi : (f : Int) + (n : Int) = (p : Int) := by rw [hp, hb]; omega
  have hpl : p ≤ s.size := by have := nd_le (l := s.data.toList) (a := b) (by rw [HL.out]; exact hbl); rw [HL.out, hN] at this; omega
  have hfb : f ≤ b := by omega
  have hpn : b ≤ p := by omega
  clear hbeg hN hdg hp hb
  have b43 : ((s[f].toNat : Int) == 43) = false := by simp; omega
  have b45 : ((s[f].toNat : Int) == 45) = false := by simp; omega
  clear hc
  go_enter Try.func69, Try.ntmps69
  go_wp2_with fail
  refine (HDG.out _).mono ?_
  rintro e w' ⟨rfl, rfl⟩
  have hbp : b ≤ p := by omega
  have HP : Hid (ptAt s.data.toList f = p) := hP
  clear hP
  by_cases hlt : p < s.size
  · have hat : at0 s.data.toList p = s[p].toNat := at0_eq (by rw [HL.out]; exact hlt)
    have HAT := Lib.hid hat
    clear hat
    by_cases h46 : s[p].toNat = 46
    · have b46 : ((s[p].toNat : Int) == 46) = true := by simp [h46]
      obtain ⟨m, hM⟩ : ∃ m, nd s.data.toList (p + 1) = m := ⟨_, rfl⟩
      have hml : p + 1 + m ≤ s.size := by have := nd_le (l := s.data.toList) (a := p + 1) (by rw [HL.out]; omega); rw [hM, HL.out] at this; exact this
      have hdig : ∀ w, Calls Try.prog 87 #[.string s, .int .i64 ((p : Int) + 1)] w fun e w' => e = .returned (.int .i64 (m : Int)) ∧ w = w' := fun w => by
        have := Digits_any s (p + 1) w hs (by omega)
        rw [hM] at this
        exact this
      have HDIG := Lib.hid hdig
      clear hdig
      by_cases hm : 0 < m
      · have hnum : numAt s.data.toList f = p + 1 + m - f := by
          unfold numAt; rw [HP.out, hM, HL.out, HAT.out, if_pos ⟨hlt, h46, hm⟩]
        have HNUM := Lib.hid hnum
        clear hnum h46 hM
        go_wp2_with (go_at_call 87; refine (HDIG.out _).mono ?_; rintro e w' ⟨rfl, rfl⟩)
        go_ret
        exact ⟨ret_intF (by rw [HNUM.out]; omega), rfl⟩
      · have hnum : numAt s.data.toList f = if n = 0 then 0 else p - f := by
          unfold numAt; rw [HP.out, hM, if_neg (fun x => hm x.2.2), HNN.out]
        have HNUM := Lib.hid hnum
        clear hnum h46 hM
        by_cases hn0 : n = 0
        · have bn : ((n : Int) == 0) = true := by simp [hn0]
          have HN0 := Lib.hid hn0
          clear hn0
          go_wp2_with (go_at_call 87; refine (HDIG.out _).mono ?_; rintro e w' ⟨rfl, rfl⟩)
          go_ret
          exact ⟨ret_intF (by rw [HNUM.out, if_pos HN0.out]; rfl), rfl⟩
        · have bn : ((n : Int) == 0) = false := by simp; omega
          have HN0 := Lib.hid hn0
          clear hn0
          go_wp2_with (go_at_call 87; refine (HDIG.out _).mono ?_; rintro e w' ⟨rfl, rfl⟩)
          go_ret
          exact ⟨ret_intF (by rw [HNUM.out, if_neg HN0.out]; omega), rfl⟩
    · have b46 : ((s[p].toNat : Int) == 46) = false := by simp; omega
      have hnum : numAt s.data.toList f = if n = 0 then 0 else p - f := by
        unfold numAt; rw [HP.out, HAT.out, if_neg (fun x => h46 x.2.1), HNN.out]
      have HNUM := Lib.hid hnum
      clear hnum h46
      by_cases hn0 : n = 0
      · have bn : ((n : Int) == 0) = true := by simp [hn0]
        have HN0 := Lib.hid hn0
        clear hn0
        go_wp2_with fail
        go_ret
        exact ⟨ret_intF (by rw [HNUM.out, if_pos HN0.out]; rfl), rfl⟩
      · have bn : ((n : Int) == 0) = false := by simp; omega
        have HN0 := Lib.hid hn0
        clear hn0
        go_wp2_with fail
        go_ret
        exact ⟨ret_intF (by rw [HNUM.out, if_neg HN0.out]; omega), rfl⟩
  · have hnum : numAt s.data.toList f = if n = 0 then 0 else p - f := by
      unfold numAt; rw [HP.out, HL.out, if_neg (fun x => hlt x.1), HNN.out]
    have HNUM := Lib.hid hnum
    clear hnum
    by_cases hn0 : n = 0
    · have bn : ((n : Int) == 0) = true := by simp [hn0]
      have HN0 := Lib.hid hn0
      clear hn0
      go_wp2_with fail
      go_ret
      exact ⟨ret_intF (by rw [HNUM.out, if_pos HN0.out]; rfl), rfl⟩
    · have bn : ((n : Int) == 0) = false := by simp; omega
      have HN0 := Lib.hid hn0
      clear hn0
      go_wp2_with fail
      go_ret
      exact ⟨ret_intF (by rw [HNUM.out, if_neg HN0.out]; omega), rfl⟩

set_option maxRecDepth 100000 in
set_option maxHeartbeats 1000000 in
theorem Number_end (s : ByteArray) (f : Nat) (w : World) (hs : s.size ≤ 9223372036854775807) (hf : f = s.size) :
    Calls Try.prog 69 #[.string s, .int .i64 f] w fun e w' => e = .returned (.int .i64 ((numAt s.data.toList f : Nat) : Int)) ∧ w = w' := by
  have hnf : ¬ f < s.size := by omega
  have HL := Lib.hid (len_list s)
  obtain ⟨b, hb⟩ : ∃ b, b = f := ⟨_, rfl⟩
  have hbl : b ≤ s.size := by omega
  have hbeg : begAt s.data.toList f = b := by
    unfold begAt; rw [HL.out, if_neg (fun x => hnf x.1), hb]
  obtain ⟨n, hN⟩ : ∃ n, nd s.data.toList b = n := ⟨_, rfl⟩
  have hdg : ∀ w, Calls Try.prog 87 #[.string s, .int .i64 ((f : Int))] w fun e w' => e = .returned (.int .i64 (n : Int)) ∧ w = w' := fun w => by
    have := Digits_any s b w hs hbl
    rw [hN, hb] at this
    exact this
  have HDG := Lib.hid hdg
  obtain ⟨p, hp⟩ : ∃ p, p = b + n := ⟨_, rfl⟩
  have hP : ptAt s.data.toList f = p := by unfold ptAt; rw [hbeg, hN, hp]
  have HNN : Hid (nd s.data.toList (begAt s.data.toList f) = n) := by show _ = _; rw [hbeg, hN]
  have hpi : (f : Int) + (n : Int) = (p : Int) := by rw [hp, hb]; omega
  have hpl : p ≤ s.size := by have := nd_le (l := s.data.toList) (a := b) (by rw [HL.out]; exact hbl); rw [HL.out, hN] at this; omega
  have hfb : f ≤ b := by omega
  have hpn : b ≤ p := by omega
  clear hbeg hN hdg hp hb
  have HF := Lib.hid hf
  clear hf
  go_enter Try.func69, Try.ntmps69
  go_wp2_with fail
  refine (HDG.out _).mono ?_
  rintro e w' ⟨rfl, rfl⟩
  have hbp : b ≤ p := by omega
  have HP : Hid (ptAt s.data.toList f = p) := hP
  clear hP
  by_cases hlt : p < s.size
  · have hat : at0 s.data.toList p = s[p].toNat := at0_eq (by rw [HL.out]; exact hlt)
    have HAT := Lib.hid hat
    clear hat
    by_cases h46 : s[p].toNat = 46
    · have b46 : ((s[p].toNat : Int) == 46) = true := by simp [h46]
      obtain ⟨m, hM⟩ : ∃ m, nd s.data.toList (p + 1) = m := ⟨_, rfl⟩
      have hml : p + 1 + m ≤ s.size := by have := nd_le (l := s.data.toList) (a := p + 1) (by rw [HL.out]; omega); rw [hM, HL.out] at this; exact this
      have hdig : ∀ w, Calls Try.prog 87 #[.string s, .int .i64 ((p : Int) + 1)] w fun e w' => e = .returned (.int .i64 (m : Int)) ∧ w = w' := fun w => by
        have := Digits_any s (p + 1) w hs (by omega)
        rw [hM] at this
        exact this
      have HDIG := Lib.hid hdig
      clear hdig
      by_cases hm : 0 < m
      · have hnum : numAt s.data.toList f = p + 1 + m - f := by
          unfold numAt; rw [HP.out, hM, HL.out, HAT.out, if_pos ⟨hlt, h46, hm⟩]
        have HNUM := Lib.hid hnum
        clear hnum h46 hM
        go_wp2_with (go_at_call 87; refine (HDIG.out _).mono ?_; rintro e w' ⟨rfl, rfl⟩)
        go_ret
        exact ⟨ret_intF (by rw [HNUM.out]; omega), rfl⟩
      · have hnum : numAt s.data.toList f = if n = 0 then 0 else p - f := by
          unfold numAt; rw [HP.out, hM, if_neg (fun x => hm x.2.2), HNN.out]
        have HNUM := Lib.hid hnum
        clear hnum h46 hM
        by_cases hn0 : n = 0
        · have bn : ((n : Int) == 0) = true := by simp [hn0]
          have HN0 := Lib.hid hn0
          clear hn0
          go_wp2_with (go_at_call 87; refine (HDIG.out _).mono ?_; rintro e w' ⟨rfl, rfl⟩)
          go_ret
          exact ⟨ret_intF (by rw [HNUM.out, if_pos HN0.out]; rfl), rfl⟩
        · have bn : ((n : Int) == 0) = false := by simp; omega
          have HN0 := Lib.hid hn0
          clear hn0
          go_wp2_with (go_at_call 87; refine (HDIG.out _).mono ?_; rintro e w' ⟨rfl, rfl⟩)
          go_ret
          exact ⟨ret_intF (by rw [HNUM.out, if_neg HN0.out]; omega), rfl⟩
    · have b46 : ((s[p].toNat : Int) == 46) = false := by simp; omega
      have hnum : numAt s.data.toList f = if n = 0 then 0 else p - f := by
        unfold numAt; rw [HP.out, HAT.out, if_neg (fun x => h46 x.2.1), HNN.out]
      have HNUM := Lib.hid hnum
      clear hnum h46
      by_cases hn0 : n = 0
      · have bn : ((n : Int) == 0) = true := by simp [hn0]
        have HN0 := Lib.hid hn0
        clear hn0
        go_wp2_with fail
        go_ret
        exact ⟨ret_intF (by rw [HNUM.out, if_pos HN0.out]; rfl), rfl⟩
      · have bn : ((n : Int) == 0) = false := by simp; omega
        have HN0 := Lib.hid hn0
        clear hn0
        go_wp2_with fail
        go_ret
        exact ⟨ret_intF (by rw [HNUM.out, if_neg HN0.out]; omega), rfl⟩
  · have hnum : numAt s.data.toList f = if n = 0 then 0 else p - f := by
      unfold numAt; rw [HP.out, HL.out, if_neg (fun x => hlt x.1), HNN.out]
    have HNUM := Lib.hid hnum
    clear hnum
    by_cases hn0 : n = 0
    · have bn : ((n : Int) == 0) = true := by simp [hn0]
      have HN0 := Lib.hid hn0
      clear hn0
      go_wp2_with fail
      go_ret
      exact ⟨ret_intF (by rw [HNUM.out, if_pos HN0.out]; rfl), rfl⟩
    · have bn : ((n : Int) == 0) = false := by simp; omega
      have HN0 := Lib.hid hn0
      clear hn0
      go_wp2_with fail
      go_ret
      exact ⟨ret_intF (by rw [HNUM.out, if_neg HN0.out]; omega), rfl⟩

theorem Number_any (s : ByteArray) (f : Nat) (w : World) (hs : s.size ≤ 9223372036854775807) (hf : f ≤ s.size) :
    Calls Try.prog 69 #[.string s, .int .i64 f] w fun e w' => e = .returned (.int .i64 ((numAt s.data.toList f : Nat) : Int)) ∧ w = w' := by
  by_cases h : f < s.size
  · by_cases h1 : s[f].toNat = 43
    · exact Number_plus s f w hs h h1
    · by_cases h2 : s[f].toNat = 45
      · exact Number_minus s f w hs h h2
      · exact Number_bare s f w hs h (by omega)
  · exact Number_end s f w hs (by omega)
end Go.Proofs.Ytoaenlbbochjhaa

namespace Go.Proofs.Ytoaenlbbochjhaa
open Go.RowKit FixM FixP

set_option maxRecDepth 100000 in
set_option maxHeartbeats 1000000 in
theorem Worth_any (s : ByteArray) (w : World) (hs : s.size ≤ 9223372036854775807) (h0 : 0 < s.size) :
    Calls Try.prog 88 #[.string s] w fun e w' => e = .returned (.int .i64 (worth s.data.toList)) ∧ w = w' := by
  have HL := Lib.hid (len_list s)
  go_enter Try.func88, Try.ntmps88
  go_wp2_with fail
  go_loop [3, 4, 5] (fun v e i => ∃ k : Nat, k ≤ s.size ∧ i = .int .i64 k ∧ v = .int .i64 (wfold (s.data.toList.take k)).1 ∧ e = .int .i64 (wfold (s.data.toList.take k)).2) (fun _ _ i => s.size - (intOf i).toNat)
  case atStart => exact ⟨0, by omega, rfl, rfl, rfl⟩
  case round =>
    obtain ⟨k, hk, rfl, rfl, rfl⟩ := hrel
    have hwi := wfold_WI (s.data.toList.take k)
    by_cases hlt : k < s.size
    · have hsn := wfold_snoc s.data.toList k (by rw [HL.out]; exact hlt)
      obtain ⟨st, hst⟩ : ∃ st, wfold (s.data.toList.take k) = st := ⟨_, rfl⟩
      rw [hst] at hwi hsn ⊢
      obtain ⟨v, e⟩ := st
      have v0 : 0 ≤ v := hwi.1
      have v1 : v ≤ 1125899906842624 := hwi.2.1
      have e0 : -1 ≤ e := hwi.2.2.1
      have e1 : e ≤ 3 := hwi.2.2.2
      have hc : s.data.toList[k]'(by rw [HL.out]; exact hlt) = s[k] := rfl
      rw [hc] at hsn
      have HSN := Lib.hid hsn
      clear hwi hst hsn hc
      by_cases h46 : s[k].toNat = 46
      · have b46 : ((s[k].toNat : Int) == 46) = true := by simp [h46]
        have c48 : (s[k].toNat : Int) < 48 := by omega
        have hs1 : wstep (v, e) s[k] = (v, 3) := by unfold wstep; simp [h46]
        clear h46
        have HST := Lib.hid hs1
        clear hs1
        go_wp2_with fail
        go_round
        case rel => exact ⟨k + 1, by omega, by go_num, by rw [HSN.out, HST.out], by rw [HSN.out, HST.out]⟩
        case measure => simp [intOf]; omega
      · have b46 : ((s[k].toNat : Int) == 46) = false := by simp; omega
        by_cases hr : s[k].toNat < 48 ∨ 57 < s[k].toNat
        · have hs1 : wstep (v, e) s[k] = (v, e) := by unfold wstep; simp only [h46, if_false]; rw [if_pos (by omega)]
          clear h46
          by_cases hr1 : s[k].toNat < 48
          · have c48 : (s[k].toNat : Int) < 48 := by omega
            clear hr hr1
            have HST := Lib.hid hs1
            clear hs1
            go_wp2_with fail
            go_round
            case rel => exact ⟨k + 1, by omega, by go_num, by rw [HSN.out, HST.out], by rw [HSN.out, HST.out]⟩
            case measure => simp [intOf]; omega
          · have c48 : 48 ≤ (s[k].toNat : Int) := by omega
            have c57 : 57 < (s[k].toNat : Int) := by omega
            clear hr hr1
            have HST := Lib.hid hs1
            clear hs1
            go_wp2_with fail
            go_round
            case rel => exact ⟨k + 1, by omega, by go_num, by rw [HSN.out, HST.out], by rw [HSN.out, HST.out]⟩
            case measure => simp [intOf]; omega
        · have c48 : 48 ≤ (s[k].toNat : Int) := by omega
          have c57 : (s[k].toNat : Int) ≤ 57 := by omega
          by_cases he0 : e = 0
          · have be : (e == 0) = true := by simp [he0]
            have hs1 : wstep (v, e) s[k] = (v, e) := by unfold wstep; simp only [h46, if_false]; rw [if_pos (by omega)]
            clear h46 hr he0
            have HST := Lib.hid hs1
            clear hs1
            go_wp2_with fail
            go_round
            case rel => exact ⟨k + 1, by omega, by go_num, by rw [HSN.out, HST.out], by rw [HSN.out, HST.out]⟩
            case measure => simp [intOf]; omega
          · have be : (e == 0) = false := by simp [he0]
            by_cases hcap : 1125899906842624 < v * 10 + ((s[k].toNat : Int) - 48)
            · by_cases hep : 0 < e
              · have hs1 : wstep (v, e) s[k] = (1125899906842624, e - 1) := by unfold wstep; simp only [h46, if_false]; rw [if_neg (by omega)]; unfold dv; rw [if_pos hcap, if_pos hep]
                clear h46 hr he0
                have HST := Lib.hid hs1
                clear hs1
                go_wp2_with fail
                go_round
                case rel => exact ⟨k + 1, by omega, by go_num, by rw [HSN.out, HST.out], by rw [HSN.out, HST.out]⟩
                case measure => simp [intOf]; omega
              · have hs1 : wstep (v, e) s[k] = (1125899906842624, e) := by unfold wstep; simp only [h46, if_false]; rw [if_neg (by omega)]; unfold dv; rw [if_pos hcap, if_neg hep]
                clear h46 hr he0
                have HST := Lib.hid hs1
                clear hs1
                go_wp2_with fail
                go_round
                case rel => exact ⟨k + 1, by omega, by go_num, by rw [HSN.out, HST.out], by rw [HSN.out, HST.out]⟩
                case measure => simp [intOf]; omega
            · by_cases hep : 0 < e
              · have hs1 : wstep (v, e) s[k] = (v * 10 + ((s[k].toNat : Int) - 48), e - 1) := by unfold wstep; simp only [h46, if_false]; rw [if_neg (by omega)]; unfold dv; rw [if_neg hcap, if_pos hep]
                clear h46 hr he0
                have HST := Lib.hid hs1
                clear hs1
                go_wp2_with fail
                go_round
                case rel => exact ⟨k + 1, by omega, by go_num, by rw [HSN.out, HST.out], by rw [HSN.out, HST.out]⟩
                case measure => simp [intOf]; omega
              · have hs1 : wstep (v, e) s[k] = (v * 10 + ((s[k].toNat : Int) - 48), e) := by unfold wstep; simp only [h46, if_false]; rw [if_neg (by omega)]; unfold dv; rw [if_neg hcap, if_neg hep]
                clear h46 hr he0
                have HST := Lib.hid hs1
                clear hs1
                go_wp2_with fail
                go_round
                case rel => exact ⟨k + 1, by omega, by go_num, by rw [HSN.out, HST.out], by rw [HSN.out, HST.out]⟩
                case measure => simp [intOf]; omega
    · have hkk : s.data.toList.take k = s.data.toList := List.take_of_length_le (by rw [HL.out]; omega)
      rw [hkk] at hwi ⊢
      obtain ⟨st, hst⟩ : ∃ st, wfold s.data.toList = st := ⟨_, rfl⟩
      rw [hst] at hwi ⊢
      obtain ⟨v, e⟩ := st
      have v0 : 0 ≤ v := hwi.1
      have v1 : v ≤ 1125899906842624 := hwi.2.1
      have e0 : -1 ≤ e := hwi.2.2.1
      have e1 : e ≤ 3 := hwi.2.2.2
      have HST := Lib.hid hst
      clear hwi hst hkk
      by_cases he : e < 0
      · have hre : rest e = 3 := by unfold rest; rw [if_pos he]
        have hw : worth s.data.toList = H (sgnd s.data.toList (mul10 v 3)) := by unfold worth; rw [HST.out, hre]
        have HW := Lib.hid hw
        clear hw hre
        go_wp2_with fail
        go_loop [3, 4] (fun x y => ∃ j : Nat, j ≤ 3 ∧ y = .int .i64 ((3 : Nat) - (j : Int)) ∧ x = .int .i64 (mul10 v j)) (fun _ y => (intOf y).toNat)
        case atStart => exact ⟨0, by omega, by simp, rfl⟩
        case round =>
          obtain ⟨j, hj, rfl, rfl⟩ := hrel
          have hm := mul10_bd (v := v) ⟨v0, v1⟩ j (by omega)
          have hm0 := hm.1
          have hm1 := hm.2
          clear hm
          by_cases hjl : j < 3
          · have hq1 : mul10 v j * 10 ≤ 1125899906842624000 := (mul10_bd (v := v) ⟨v0, v1⟩ (j + 1) (by omega)).2
            have hjz : (0 : Int) < ((3 : Nat) : Int) - (j : Int) := by omega
            go_wp2_with fail
            go_round
            case rel => exact ⟨j + 1, by omega, congrArg (Value.int .i64) (by omega), rfl⟩
            case measure => simp [intOf]; omega
          · have hjz : ((3 : Nat) : Int) - (j : Int) ≤ 0 := by omega
            have hje : j = 3 := by omega
            have hsg := sgnd_eq s h0 (mul10 v j)
            have HJ := Lib.hid hje
            clear hje
            by_cases h45 : s[0].toNat = 45
            · have b45 : ((s[0].toNat : Int) == 45) = true := by simp [h45]
              rw [if_pos h45] at hsg
              have HSG := Lib.hid hsg
              clear h45 hsg
              go_wp2_with (go_at_call 82; refine (refHold_any _ _).mono ?_; rintro e w' ⟨rfl, rfl⟩)
              go_ret
              refine ⟨ret_intF ?_, rfl⟩
              rw [HW.out, ← HJ.out, HSG.out]
            · have b45 : ((s[0].toNat : Int) == 45) = false := by simp; omega
              rw [if_neg h45] at hsg
              have HSG := Lib.hid hsg
              clear h45 hsg
              go_wp2_with (go_at_call 82; refine (refHold_any _ _).mono ?_; rintro e w' ⟨rfl, rfl⟩)
              go_ret
              refine ⟨ret_intF ?_, rfl⟩
              rw [HW.out, ← HJ.out, HSG.out]
      · obtain ⟨r, hr⟩ : ∃ r : Nat, r = e.toNat := ⟨_, rfl⟩
        have hre : rest e = r := by unfold rest; rw [if_neg he, hr]
        have hw : worth s.data.toList = H (sgnd s.data.toList (mul10 v r)) := by unfold worth; rw [HST.out, hre]
        have HW := Lib.hid hw
        have hee : e = (r : Int) := by omega
        have hr3 : r ≤ 3 := by omega
        clear hw hre hr
        subst hee
        go_wp2_with fail
        go_loop [3, 4] (fun x y => ∃ j : Nat, j ≤ r ∧ y = .int .i64 ((r : Nat) - (j : Int)) ∧ x = .int .i64 (mul10 v j)) (fun _ y => (intOf y).toNat)
        case atStart => exact ⟨0, by omega, by simp, rfl⟩
        case round =>
          obtain ⟨j, hj, rfl, rfl⟩ := hrel
          have hm := mul10_bd (v := v) ⟨v0, v1⟩ j (by omega)
          have hm0 := hm.1
          have hm1 := hm.2
          clear hm
          by_cases hjl : j < r
          · have hq1 : mul10 v j * 10 ≤ 1125899906842624000 := (mul10_bd (v := v) ⟨v0, v1⟩ (j + 1) (by omega)).2
            have hjz : (0 : Int) < ((r : Nat) : Int) - (j : Int) := by omega
            go_wp2_with fail
            go_round
            case rel => exact ⟨j + 1, by omega, congrArg (Value.int .i64) (by omega), rfl⟩
            case measure => simp [intOf]; omega
          · have hjz : ((r : Nat) : Int) - (j : Int) ≤ 0 := by omega
            have hje : j = r := by omega
            have hsg := sgnd_eq s h0 (mul10 v j)
            have HJ := Lib.hid hje
            clear hje
            by_cases h45 : s[0].toNat = 45
            · have b45 : ((s[0].toNat : Int) == 45) = true := by simp [h45]
              rw [if_pos h45] at hsg
              have HSG := Lib.hid hsg
              clear h45 hsg
              go_wp2_with (go_at_call 82; refine (refHold_any _ _).mono ?_; rintro e w' ⟨rfl, rfl⟩)
              go_ret
              refine ⟨ret_intF ?_, rfl⟩
              rw [HW.out, ← HJ.out, HSG.out]
            · have b45 : ((s[0].toNat : Int) == 45) = false := by simp; omega
              rw [if_neg h45] at hsg
              have HSG := Lib.hid hsg
              clear h45 hsg
              go_wp2_with (go_at_call 82; refine (refHold_any _ _).mono ?_; rintro e w' ⟨rfl, rfl⟩)
              go_ret
              refine ⟨ret_intF ?_, rfl⟩
              rw [HW.out, ← HJ.out, HSG.out]

/-- what the reference reads a text as -/
def rparse (l : List UInt8) : Int × Int := if l.length = 0 ∨ numAt l 0 ≠ l.length then (0, 10) else (worth l, 0)

end Go.Proofs.Ytoaenlbbochjhaa
