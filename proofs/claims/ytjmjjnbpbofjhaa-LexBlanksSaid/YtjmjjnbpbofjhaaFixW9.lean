/- The walks of layer 1's texts: what the reference reads. -/
import Derived.Test.YtjmjjnbpbofjhaaFixWa
import Derived.Test.YtjmjjnbpbofjhaaFixAll
namespace Go.Proofs.Ytjmjjnbpbofjhaa
open Go.RowKit FixM FixP

set_option maxRecDepth 100000 in
set_option maxHeartbeats 1000000 in
theorem Number_plus (s : ByteArray) (f : Nat) (w : World) (hs : s.size ≤ 9223372036854775807) (hf : f < s.size) (hc : s[f].toNat = 43) :
    Calls Try.prog 95 #[.string s, .int .i64 f] w fun e w' => e = .returned (.int .i64 ((numAt s.data.toList f : Nat) : Int)) ∧ w = w' := by
  have HL := Lib.hid (len_list s)
  obtain ⟨b, hb⟩ : ∃ b, b = f + 1 := ⟨_, rfl⟩
  have hbl : b ≤ s.size := by omega
  have hbeg : begAt s.data.toList f = b := by
    unfold begAt; rw [HL.out, at0_eq (by rw [HL.out]; exact hf), if_pos ⟨hf, Or.inl hc⟩, hb]
  obtain ⟨n, hN⟩ : ∃ n, nd s.data.toList b = n := ⟨_, rfl⟩
  have hdg : ∀ w, Calls Try.prog 111 #[.string s, .int .i64 ((f : Int) + 1)] w fun e w' => e = .returned (.int .i64 (n : Int)) ∧ w = w' := fun w => by
    have := Digits_any s b w hs hbl
    rw [hN, hb] at this
    exact this
  have HDG := Lib.hid hdg
  obtain ⟨p, hp⟩ : ∃ p, p = b + n := ⟨_, rfl⟩
  have hP : ptAt s.data.toList f = p := by unfold ptAt; rw [hbeg, hN, hp]
  have HNN : Hid (nd s.data.toList (begAt s.data.toList f) = n) := by show _ = _; rw [hbeg, hN]
  have hpi : (f : Int) + 1 + (n : Int) = (p : Int) := by rw [hp, hb]; omega
  have hpl : p ≤ s.size := by have := nd_le (l := s.data.toList) (a := b) (by rw [HL.out]; exact hbl); rw [HL.out, hN] at this; omega
  have hfb : f ≤ b := by omega
  have hpn : b ≤ p := by omega
  clear hbeg hN hdg hp hb
  have b43 : ((s[f].toNat : Int) == 43) = true := by simp [hc]
  clear hc
  go_enter Try.func95, Try.ntmps95
  go_wp2_with fail
  refine (HDG.out _).mono ?_
  rintro e w' ⟨rfl, rfl⟩
  have hbp : b ≤ p := by omega
  have HP : Hid (ptAt s.data.toList f = p) := hP
  clear hP
  by_cases hlt : p < s.size
  · have hat : at0 s.data.toList p = s[p].toNat := at0_eq (by rw [HL.out]; exact hlt)
    have HAT := Lib.hid hat
    clear hat
    by_cases h46 : s[p].toNat = 46
    · have b46 : ((s[p].toNat : Int) == 46) = true := by simp [h46]
      obtain ⟨m, hM⟩ : ∃ m, nd s.data.toList (p + 1) = m := ⟨_, rfl⟩
      have hml : p + 1 + m ≤ s.size := by have := nd_le (l := s.data.toList) (a := p + 1) (by rw [HL.out]; omega); rw [hM, HL.out] at this; exact this
      have hdig : ∀ w, Calls Try.prog 111 #[.string s, .int .i64 ((p : Int) + 1)] w fun e w' => e = .returned (.int .i64 (m : Int)) ∧ w = w' := fun w => by
        have := Digits_any s (p + 1) w hs (by omega)
        rw [hM] at this
        exact this
      have HDIG := Lib.hid hdig
      clear hdig
      by_cases hm : 0 < m
      · have hnum : numAt s.data.toList f = p + 1 + m - f := by
          unfold numAt; rw [HP.out, hM, HL.out, HAT.out, if_pos ⟨hlt, h46, hm⟩]
        have HNUM := Lib.hid hnum
        clear hnum h46 hM
        go_wp2_with (go_at_call 111; refine (HDIG.out _).mono ?_; rintro e w' ⟨rfl, rfl⟩)
        go_ret
        exact ⟨ret_intF (by rw [HNUM.out]; omega), rfl⟩
      · have hnum : numAt s.data.toList f = if n = 0 then 0 else p - f := by
          unfold numAt; rw [HP.out, hM, if_neg (fun x => hm x.2.2), HNN.out]
        have HNUM := Lib.hid hnum
        clear hnum h46 hM
        by_cases hn0 : n = 0
        · have bn : ((n : Int) == 0) = true := by simp [hn0]
          have HN0 := Lib.hid hn0
          clear hn0
          go_wp2_with (go_at_call 111; refine (HDIG.out _).mono ?_; rintro e w' ⟨rfl, rfl⟩)
          go_ret
          exact ⟨ret_intF (by rw [HNUM.out, if_pos HN0.out]; rfl), rfl⟩
        · have bn : ((n : Int) == 0) = false := by simp; omega
          have HN0 := Lib.hid hn0
          clear hn0
          go_wp2_with (go_at_call 111; refine (HDIG.out _).mono ?_; rintro e w' ⟨rfl, rfl⟩)
          go_ret
          exact ⟨ret_intF (by rw [HNUM.out, if_neg HN0.out]; omega), rfl⟩
    · have b46 : ((s[p].toNat : Int) == 46) = false := by simp; omega
      have hnum : numAt s.data.toList f = if n = 0 then 0 else p - f := by
        unfold numAt; rw [HP.out, HAT.out, if_neg (fun x => h46 x.2.1), HNN.out]
      have HNUM := Lib.hid hnum
      clear hnum h46
      by_cases hn0 : n = 0
      · have bn : ((n : Int) == 0) = true := by simp [hn0]
        have HN0 := Lib.hid hn0
        clear hn0
        go_wp2_with fail
        go_ret
        exact ⟨ret_intF (by rw [HNUM.out, if_pos HN0.out]; rfl), rfl⟩
      · have bn : ((n : Int) == 0) = false := by simp; omega
        have HN0 := Lib.hid hn0
        clear hn0
        go_wp2_with fail
        go_ret
        exact ⟨ret_intF (by rw [HNUM.out, if_neg HN0.out]; omega), rfl⟩
  · have hnum : numAt s.data.toList f = if n = 0 then 0 else p - f := by
      unfold numAt; rw [HP.out, HL.out, if_neg (fun x => hlt x.1), HNN.out]
    have HNUM := Lib.hid hnum
    clear hnum
    by_cases hn0 : n = 0
    · have bn : ((n : Int) == 0) = true := by simp [hn0]
      have HN0 := Lib.hid hn0
      clear hn0
      go_wp2_with fail
      go_ret
      exact ⟨ret_intF (by rw [HNUM.out, if_pos HN0.out]; rfl), rfl⟩
    · have bn : ((n : Int) == 0) = false := by simp; omega
      have HN0 := Lib.hid hn0
      clear hn0
      go_wp2_with fail
      go_ret
      exact ⟨ret_intF (by rw [HNUM.out, if_neg HN0.out]; omega), rfl⟩

set_option maxRecDepth 100000 in
set_option maxHeartbeats 1000000 in
theorem Number_minus (s : ByteArray) (f : Nat) (w : World) (hs : s.size ≤ 9223372036854775807) (hf : f < s.size) (hc : s[f].toNat = 45) :
    Calls Try.prog 95 #[.string s, .int .i64 f] w fun e w' => e = .returned (.int .i64 ((numAt s.data.toList f : Nat) : Int)) ∧ w = w' := by
  have HL := Lib.hid (len_list s)
  obtain ⟨b, hb⟩ : ∃ b, b = f + 1 := ⟨_, rfl⟩
  have hbl : b ≤ s.size := by omega
  have hbeg : begAt s.data.toList f = b := by
    unfold begAt; rw [HL.out, at0_eq (by rw [HL.out]; exact hf), if_pos ⟨hf, Or.inr hc⟩, hb]
  obtain ⟨n, hN⟩ : ∃ n, nd s.data.toList b = n := ⟨_, rfl⟩
  have hdg : ∀ w, Calls Try.prog 111 #[.string s, .int .i64 ((f : Int) + 1)] w fun e w' => e = .returned (.int .i64 (n : Int)) ∧ w = w' := fun w => by
    have := Digits_any s b w hs hbl
    rw [hN, hb] at this
    exact this
  have HDG := Lib.hid hdg
  obtain ⟨p, hp⟩ : ∃ p, p = b + n := ⟨_, rfl⟩
  have hP : ptAt s.data.toList f = p := by unfold ptAt; rw [hbeg, hN, hp]
  have HNN : Hid (nd s.data.toList (begAt s.data.toList f) = n) := by show _ = _; rw [hbeg, hN]
  have hpi : (f : Int) + 1 + (n : Int) = (p : Int) := by rw [hp, hb]; omega
  have hpl : p ≤ s.size := by have := nd_le (l := s.data.toList) (a := b) (by rw [HL.out]; exact hbl); rw [HL.out, hN] at this; omega
  have hfb : f ≤ b := by omega
  have hpn : b ≤ p := by omega
  clear hbeg hN hdg hp hb
  have b43 : ((s[f].toNat : Int) == 43) = false := by simp [hc]
  have b45 : ((s[f].toNat : Int) == 45) = true := by simp [hc]
  clear hc
  go_enter Try.func95, Try.ntmps95
  go_wp2_with fail
  refine (HDG.out _).mono ?_
  rintro e w' ⟨rfl, rfl⟩
  have hbp : b ≤ p := by omega
  have HP : Hid (ptAt s.data.toList f = p) := hP
  clear hP
  by_cases hlt : p < s.size
  · have hat : at0 s.data.toList p = s[p].toNat := at0_eq (by rw [HL.out]; exact hlt)
    have HAT := Lib.hid hat
    clear hat
    by_cases h46 : s[p].toNat = 46
    · have b46 : ((s[p].toNat : Int) == 46) = true := by simp [h46]
      obtain ⟨m, hM⟩ : ∃ m, nd s.data.toList (p + 1) = m := ⟨_, rfl⟩
      have hml : p + 1 + m ≤ s.size := by have := nd_le (l := s.data.toList) (a := p + 1) (by rw [HL.out]; omega); rw [hM, HL.out] at this; exact this
      have hdig : ∀ w, Calls Try.prog 111 #[.string s, .int .i64 ((p : Int) + 1)] w fun e w' => e = .returned (.int .i64 (m : Int)) ∧ w = w' := fun w => by
        have := Digits_any s (p + 1) w hs (by omega)
        rw [hM] at this
        exact this
      have HDIG := Lib.hid hdig
      clear hdig
      by_cases hm : 0 < m
      · have hnum : numAt s.data.toList f = p + 1 + m - f := by
          unfold numAt; rw [HP.out, hM, HL.out, HAT.out, if_pos ⟨hlt, h46, hm⟩]
        have HNUM := Lib.hid hnum
        clear hnum h46 hM
        go_wp2_with (go_at_call 111; refine (HDIG.out _).mono ?_; rintro e w' ⟨rfl, rfl⟩)
        go_ret
        exact ⟨ret_intF (by rw [HNUM.out]; omega), rfl⟩
      · have hnum : numAt s.data.toList f = if n = 0 then 0 else p - f := by
          unfold numAt; rw [HP.out, hM, if_neg (fun x => hm x.2.2), HNN.out]
        have HNUM := Lib.hid hnum
        clear hnum h46 hM
        by_cases hn0 : n = 0
        · have bn : ((n : Int) == 0) = true := by simp [hn0]
          have HN0 := Lib.hid hn0
          clear hn0
          go_wp2_with (go_at_call 111; refine (HDIG.out _).mono ?_; rintro e w' ⟨rfl, rfl⟩)
          go_ret
          exact ⟨ret_intF (by rw [HNUM.out, if_pos HN0.out]; rfl), rfl⟩
        · have bn : ((n : Int) == 0) = false := by simp; omega
          have HN0 := Lib.hid hn0
          clear hn0
          go_wp2_with (go_at_call 111; refine (HDIG.out _).mono ?_; rintro e w' ⟨rfl, rfl⟩)
          go_ret
          exact ⟨ret_intF (by rw [HNUM.out, if_neg HN0.out]; omega), rfl⟩
    · have b46 : ((s[p].toNat : Int) == 46) = false := by simp; omega
      have hnum : numAt s.data.toList f = if n = 0 then 0 else p - f := by
        unfold numAt; rw [HP.out, HAT.out, if_neg (fun x => h46 x.2.1), HNN.out]
      have HNUM := Lib.hid hnum
      clear hnum h46
      by_cases hn0 : n = 0
      · have bn : ((n : Int) == 0) = true := by simp [hn0]
        have HN0 := Lib.hid hn0
        clear hn0
        go_wp2_with fail
        go_ret
        exact ⟨ret_intF (by rw [HNUM.out, if_pos HN0.out]; rfl), rfl⟩
      · have bn : ((n : Int) == 0) = false := by simp; omega
        have HN0 := Lib.hid hn0
        clear hn0
        go_wp2_with fail
        go_ret
        exact ⟨ret_intF (by rw [HNUM.out, if_neg HN0.out]; omega), rfl⟩
  · have hnum : numAt s.data.toList f = if n = 0 then 0 else p - f := by
      unfold numAt; rw [HP.out, HL.out, if_neg (fun x => hlt x.1), HNN.out]
    have HNUM := Lib.hid hnum
    clear hnum
    by_cases hn0 : n = 0
    · have bn : ((n : Int) == 0) = true := by simp [hn0]
      have HN0 := Lib.hid hn0
      clear hn0
      go_wp2_with fail
      go_ret
      exact ⟨ret_intF (by rw [HNUM.out, if_pos HN0.out]; rfl), rfl⟩
    · have bn : ((n : Int) == 0) = false := by simp; omega
      have HN0 := Lib.hid hn0
      clear hn0
      go_wp2_with fail
      go_ret
      exact ⟨ret_intF (by rw [HNUM.out, if_neg HN0.out]; omega), rfl⟩

set_option maxRecDepth 100000 in
set_option maxHeartbeats 1000000 in
theorem Number_bare (s : ByteArray) (f : Nat) (w : World) (hs : s.size ≤ 9223372036854775807) (hf : f < s.size) (hc : ¬ (s[f].toNat = 43 ∨ s[f].toNat = 45)) :
    Calls Try.prog 95 #[.string s, .int .i64 f] w fun e w' => e = .returned (.int .i64 ((numAt s.data.toList f : Nat) : Int)) ∧ w = w' := by
  have HL := Lib.hid (len_list s)
  obtain ⟨b, hb⟩ : ∃ b, b = f := ⟨_, rfl⟩
  have hbl : b ≤ s.size := by omega
  have hbeg : begAt s.data.toList f = b := by
    unfold begAt; rw [HL.out, at0_eq (by rw [HL.out]; exact hf), if_neg (fun x => hc x.2), hb]
  obtain ⟨n, hN⟩ : ∃ n, nd s.data.toList b = n := ⟨_, rfl⟩
  have hdg : ∀ w, Calls Try.prog 111 #[.string s, .int .i64 ((f : Int))] w fun e w' => e = .returned (.int .i64 (n : Int)) ∧ w = w' := fun w => by
    have := Digits_any s b w hs hbl
    rw [hN, hb] at this
    exact this
  have HDG := Lib.hid hdg
  obtain ⟨p, hp⟩ : ∃ p, p = b + n := ⟨_, rfl⟩
  have hP : ptAt s.data.toList f = p := by unfold ptAt; rw [hbeg, hN, hp]
  have HNN : Hid (nd s.data.toList (begAt s.data.toList f) = n) := by show _ = _; rw [hbeg, hN]
  have hpi : (f : Int) + (n : Int) = (p : Int) := by rw [hp, hb]; omega
  have hpl : p ≤ s.size := by have := nd_le (l := s.data.toList) (a := b) (by rw [HL.out]; exact hbl); rw [HL.out, hN] at this; omega
  have hfb : f ≤ b := by omega
  have hpn : b ≤ p := by omega
  clear hbeg hN hdg hp hb
  have b43 : ((s[f].toNat : Int) == 43) = false := by simp; omega
  have b45 : ((s[f].toNat : Int) == 45) = false := by simp; omega
  clear hc
  go_enter Try.func95, Try.ntmps95
  go_wp2_with fail
  refine (HDG.out _).mono ?_
  rintro e w' ⟨rfl, rfl⟩
  have hbp : b ≤ p := by omega
  have HP : Hid (ptAt s.data.toList f = p) := hP
  clear hP
  by_cases hlt : p < s.size
  · have hat : at0 s.data.toList p = s[p].toNat := at0_eq (by rw [HL.out]; exact hlt)
    have HAT := Lib.hid hat
    clear hat
    by_cases h46 : s[p].toNat = 46
    · have b46 : ((s[p].toNat : Int) == 46) = true := by simp [h46]
      obtain ⟨m, hM⟩ : ∃ m, nd s.data.toList (p + 1) = m := ⟨_, rfl⟩
      have hml : p + 1 + m ≤ s.size := by have := nd_le (l := s.data.toList) (a := p + 1) (by rw [HL.out]; omega); rw [hM, HL.out] at this; exact this
      have hdig : ∀ w, Calls Try.prog 111 #[.string s, .int .i64 ((p : Int) + 1)] w fun e w' => e = .returned (.int .i64 (m : Int)) ∧ w = w' := fun w => by
        have := Digits_any s (p + 1) w hs (by omega)
        rw [hM] at this
        exact this
      have HDIG := Lib.hid hdig
      clear hdig
      by_cases hm : 0 < m
      · have hnum : numAt s.data.toList f = p + 1 + m - f := by
          unfold numAt; rw [HP.out, hM, HL.out, HAT.out, if_pos ⟨hlt, h46, hm⟩]
        have HNUM := Lib.hid hnum
        clear hnum h46 hM
        go_wp2_with (go_at_call 111; refine (HDIG.out _).mono ?_; rintro e w' ⟨rfl, rfl⟩)
        go_ret
        exact ⟨ret_intF (by rw [HNUM.out]; omega), rfl⟩
      · have hnum : numAt s.data.toList f = if n = 0 then 0 else p - f := by
          unfold numAt; rw [HP.out, hM, if_neg (fun x => hm x.2.2), HNN.out]
        have HNUM := Lib.hid hnum
        clear hnum h46 hM
        by_cases hn0 : n = 0
        · have bn : ((n : Int) == 0) = true := by simp [hn0]
          have HN0 := Lib.hid hn0
          clear hn0
          go_wp2_with (go_at_call 111; refine (HDIG.out _).mono ?_; rintro e w' ⟨rfl, rfl⟩)
          go_ret
          exact ⟨ret_intF (by rw [HNUM.out, if_pos HN0.out]; rfl), rfl⟩
        · have bn : ((n : Int) == 0) = false := by simp; omega
          have HN0 := Lib.hid hn0
          clear hn0
          go_wp2_with (go_at_call 111; refine (HDIG.out _).mono ?_; rintro e w' ⟨rfl, rfl⟩)
          go_ret
          exact ⟨ret_intF (by rw [HNUM.out, if_neg HN0.out]; omega), rfl⟩
    · have b46 : ((s[p].toNat : Int) == 46) = false := by simp; omega
      have hnum : numAt s.data.toList f = if n = 0 then 0 else p - f := by
        unfold numAt; rw [HP.out, HAT.out, if_neg (fun x => h46 x.2.1), HNN.out]
      have HNUM := Lib.hid hnum
      clear hnum h46
      by_cases hn0 : n = 0
      · have bn : ((n : Int) == 0) = true := by simp [hn0]
        have HN0 := Lib.hid hn0
        clear hn0
        go_wp2_with fail
        go_ret
        exact ⟨ret_intF (by rw [HNUM.out, if_pos HN0.out]; rfl), rfl⟩
      · have bn : ((n : Int) == 0) = false := by simp; omega
        have HN0 := Lib.hid hn0
        clear hn0
        go_wp2_with fail
        go_ret
        exact ⟨ret_intF (by rw [HNUM.out, if_neg HN0.out]; omega), rfl⟩
  · have hnum : numAt s.data.toList f = if n = 0 then 0 else p - f := by
      unfold numAt; rw [HP.out, HL.out, if_neg (fun x => hlt x.1), HNN.out]
    have HNUM := Lib.hid hnum
    clear hnum
    by_cases hn0 : n = 0
    · have bn : ((n : Int) == 0) = true := by simp [hn0]
      have HN0 := Lib.hid hn0
      clear hn0
      go_wp2_with fail
      go_ret
      exact ⟨ret_intF (by rw [HNUM.out, if_pos HN0.out]; rfl), rfl⟩
    · have bn : ((n : Int) == 0) = false := by simp; omega
      have HN0 := Lib.hid hn0
      clear hn0
      go_wp2_with fail
      go_ret
      exact ⟨ret_intF (by rw [HNUM.out, if_neg HN0.out]; omega), rfl⟩

set_option maxRecDepth 100000 in
set_option maxHeartbeats 1000000 in
theorem Number_end (s : ByteArray) (f : Nat) (w : World) (hs : s.size ≤ 9223372036854775807) (hf : f = s.size) :
    Calls Try.prog 95 #[.string s, .int .i64 f] w fun e w' => e = .returned (.int .i64 ((numAt s.data.toList f : Nat) : Int)) ∧ w = w' := by
  have hnf : ¬ f < s.size := by omega
  have HL := Lib.hid (len_list s)
  obtain ⟨b, hb⟩ : ∃ b, b = f := ⟨_, rfl⟩
  have hbl : b ≤ s.size := by omega
  have hbeg : begAt s.data.toList f = b := by
    unfold begAt; rw [HL.out, if_neg (fun x => hnf x.1), hb]
  obtain ⟨n, hN⟩ : ∃ n, nd s.data.toList b = n := ⟨_, rfl⟩
  have hdg : ∀ w, Calls Try.prog 111 #[.string s, .int .i64 ((f : Int))] w fun e w' => e = .returned (.int .i64 (n : Int)) ∧ w = w' := fun w => by
    have := Digits_any s b w hs hbl
    rw [hN, hb] at this
    exact this
  have HDG := Lib.hid hdg
  obtain ⟨p, hp⟩ : ∃ p, p = b + n := ⟨_, rfl⟩
  have hP : ptAt s.data.toList f = p := by unfold ptAt; rw [hbeg, hN, hp]
  have HNN : Hid (nd s.data.toList (begAt s.data.toList f) = n) := by show _ = _; rw [hbeg, hN]
  have hpi : (f : Int) + (n : Int) = (p : Int) := by rw [hp, hb]; omega
  have hpl : p ≤ s.size := by have := nd_le (l := s.data.toList) (a := b) (by rw [HL.out]; exact hbl); rw [HL.out, hN] at this; omega
  have hfb : f ≤ b := by omega
  have hpn : b ≤ p := by omega
  clear hbeg hN hdg hp hb
  have HF := Lib.hid hf
  clear hf
  go_enter Try.func95, Try.ntmps95
  go_wp2_with fail
  refine (HDG.out _).mono ?_
  rintro e w' ⟨rfl, rfl⟩
  have hbp : b ≤ p := by omega
  have HP : Hid (ptAt s.data.toList f = p) := hP
  clear hP
  by_cases hlt : p < s.size
  · have hat : at0 s.data.toList p = s[p].toNat := at0_eq (by rw [HL.out]; exact hlt)
    have HAT := Lib.hid hat
    clear hat
    by_cases h46 : s[p].toNat = 46
    · have b46 : ((s[p].toNat : Int) == 46) = true := by simp [h46]
      obtain ⟨m, hM⟩ : ∃ m, nd s.data.toList (p + 1) = m := ⟨_, rfl⟩
      have hml : p + 1 + m ≤ s.size := by have := nd_le (l := s.data.toList) (a := p + 1) (by rw [HL.out]; omega); rw [hM, HL.out] at this; exact this
      have hdig : ∀ w, Calls Try.prog 111 #[.string s, .int .i64 ((p : Int) + 1)] w fun e w' => e = .returned (.int .i64 (m : Int)) ∧ w = w' := fun w => by
        have := Digits_any s (p + 1) w hs (by omega)
        rw [hM] at this
        exact this
      have HDIG := Lib.hid hdig
      clear hdig
      by_cases hm : 0 < m
      · have hnum : numAt s.data.toList f = p + 1 + m - f := by
          unfold numAt; rw [HP.out, hM, HL.out, HAT.out, if_pos ⟨hlt, h46, hm⟩]
        have HNUM := Lib.hid hnum
        clear hnum h46 hM
        go_wp2_with (go_at_call 111; refine (HDIG.out _).mono ?_; rintro e w' ⟨rfl, rfl⟩)
        go_ret
        exact ⟨ret_intF (by rw [HNUM.out]; omega), rfl⟩
      · have hnum : numAt s.data.toList f = if n = 0 then 0 else p - f := by
          unfold numAt; rw [HP.out, hM, if_neg (fun x => hm x.2.2), HNN.out]
        have HNUM := Lib.hid hnum
        clear hnum h46 hM
        by_cases hn0 : n = 0
        · have bn : ((n : Int) == 0) = true := by simp [hn0]
          have HN0 := Lib.hid hn0
          clear hn0
          go_wp2_with (go_at_call 111; refine (HDIG.out _).mono ?_; rintro e w' ⟨rfl, rfl⟩)
          go_ret
          exact ⟨ret_intF (by rw [HNUM.out, if_pos HN0.out]; rfl), rfl⟩
        · have bn : ((n : Int) == 0) = false := by simp; omega
          have HN0 := Lib.hid hn0
          clear hn0
          go_wp2_with (go_at_call 111; refine (HDIG.out _).mono ?_; rintro e w' ⟨rfl, rfl⟩)
          go_ret
          exact ⟨ret_intF (by rw [HNUM.out, if_neg HN0.out]; omega), rfl⟩
    · have b46 : ((s[p].toNat : Int) == 46) = false := by simp; omega
      have hnum : numAt s.data.toList f = if n = 0 then 0 else p - f := by
        unfold numAt; rw [HP.out, HAT.out, if_neg (fun x => h46 x.2.1), HNN.out]
      have HNUM := Lib.hid hnum
      clear hnum h46
      by_cases hn0 : n = 0
      · have bn : ((n : Int) == 0) = true := by simp [hn0]
        have HN0 := Lib.hid hn0
        clear hn0
        go_wp2_with fail
        go_ret
        exact ⟨ret_intF (by rw [HNUM.out, if_pos HN0.out]; rfl), rfl⟩
      · have bn : ((n : Int) == 0) = false := by simp; omega
        have HN0 := Lib.hid hn0
        clear hn0
        go_wp2_with fail
        go_ret
        exact ⟨ret_intF (by rw [HNUM.out, if_neg HN0.out]; omega), rfl⟩
  · have hnum : numAt s.data.toList f = if n = 0 then 0 else p - f := by
      unfold numAt; rw [HP.out, HL.out, if_neg (fun x => hlt x.1), HNN.out]
    have HNUM := Lib.hid hnum
    clear hnum
    by_cases hn0 : n = 0
    · have bn : ((n : Int) == 0) = true := by simp [hn0]
      have HN0 := Lib.hid hn0
      clear hn0
      go_wp2_with fail
      go_ret
      exact ⟨ret_intF (by rw [HNUM.out, if_pos HN0.out]; rfl), rfl⟩
    · have bn : ((n : Int) == 0) = false := by simp; omega
      have HN0 := Lib.hid hn0
      clear hn0
      go_wp2_with fail
      go_ret
      exact ⟨ret_intF (by rw [HNUM.out, if_neg HN0.out]; omega), rfl⟩

theorem Number_any (s : ByteArray) (f : Nat) (w : World) (hs : s.size ≤ 9223372036854775807) (hf : f ≤ s.size) :
    Calls Try.prog 95 #[.string s, .int .i64 f] w fun e w' => e = .returned (.int .i64 ((numAt s.data.toList f : Nat) : Int)) ∧ w = w' := by
  by_cases h : f < s.size
  · by_cases h1 : s[f].toNat = 43
    · exact Number_plus s f w hs h h1
    · by_cases h2 : s[f].toNat = 45
      · exact Number_minus s f w hs h h2
      · exact Number_bare s f w hs h (by omega)
  · exact Number_end s f w hs (by omega)
end Go.Proofs.Ytjmjjnbpbofjhaa
