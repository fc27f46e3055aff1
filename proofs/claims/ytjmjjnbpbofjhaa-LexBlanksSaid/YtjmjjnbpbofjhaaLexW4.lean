/- The walks of layer 5: number. -/
import Derived.Test.YtjmjjnbpbofjhaaLexW3
namespace Go.Proofs.Ytjmjjnbpbofjhaa
open Go.RowKit TreN LexP FixP

theorem enters_digit : ∀ args w, (callFunc 107 args).run Try.prog w = .ok (.enter 107 args) w := enters_of Try.func107 (by kernel_rfl) rfl
theorem enters_blank : ∀ args w, (callFunc 80 args).run Try.prog w = .ok (.enter 80 args) w := enters_of Try.func80 (by kernel_rfl) rfl
theorem enters_ofName : ∀ args w, (callFunc 82 args).run Try.prog w = .ok (.enter 82 args) w := enters_of Try.func82 (by kernel_rfl) rfl
theorem enters_quote : ∀ args w, (callFunc 109 args).run Try.prog w = .ok (.enter 109 args) w := enters_of Try.func109 (by kernel_rfl) rfl

theorem pass_digit (s : ByteArray) (ai : Int) (a : Nat) (he : ai = a) (hs : s.size ≤ 9223372036854775807) (ha : a ≤ s.size) (E : Nat) (hE : a + nd s.data.toList a = E) (w : World) :
    Calls Try.prog 85 #[.string s, .int .i64 ai, .func (.func 107) #[] #[]] w fun e w' => e = .returned (.int .i64 (E : Int)) ∧ w = w' := by
  subst he; subst hE
  refine (pass_any 107 #[] isD (fun w' => w = w') enters_digit (fun c w1 h => ?_) s a hs ha w rfl).mono fun e w' h => h
  subst h
  have := digit_any (c.toNat : Int) w
  rwa [dgI_eq] at this
theorem pass_blank (s : ByteArray) (ai : Int) (a : Nat) (he : ai = a) (hs : s.size ≤ 9223372036854775807) (ha : a ≤ s.size) (E : Nat) (hE : a + ((s.data.toList.drop a).takeWhile blB).length = E) (w : World) :
    Calls Try.prog 85 #[.string s, .int .i64 ai, .func (.func 80) #[] #[]] w fun e w' => e = .returned (.int .i64 (E : Int)) ∧ w = w' := by
  subst he; subst hE
  refine (pass_any 80 #[] blB (fun w' => w = w') enters_blank (fun c w1 h => ?_) s a hs ha w rfl).mono fun e w' h => h
  subst h
  have := blank_any (c.toNat : Int) w
  rwa [blI_eq] at this
theorem pass_name (s : ByteArray) (ai : Int) (a : Nat) (he : ai = a) (hs : s.size ≤ 9223372036854775807) (ha : a ≤ s.size) (E : Nat) (hE : a + ((s.data.toList.drop a).takeWhile gB).length = E) (w : World) :
    Calls Try.prog 85 #[.string s, .int .i64 ai, .func (.func 82) #[] #[]] w fun e w' => e = .returned (.int .i64 (E : Int)) ∧ Below w.heap.size w w' := by
  subst he; subst hE
  refine (pass_any 82 #[] gB (fun w' => Below w.heap.size w w') enters_ofName (fun c w1 h => ?_) s a hs ha w (Below.refl _ _)).mono fun e w' h => h
  exact (ofName_any c w1).mono fun e w' hh => ⟨hh.1, h.trans (hh.2.mono h.size)⟩

theorem hasPrefix_1 (l : List UInt8) (c : UInt8) : Lib.hasPrefix l [c] = decide (l.head? = some c) := by
  cases l with
  | nil => rfl
  | cons d r =>
    show ((c == d) && true) = decide (some d = some c)
    by_cases h : c = d
    · subst h; simp
    · have h' : ¬ d = c := fun x => h x.symm
      simp [h, h']
theorem hasPrefix_2 (l : List UInt8) (c d : UInt8) : Lib.hasPrefix l [c, d] = decide (l.head? = some c ∧ (l.drop 1).head? = some d) := by
  match l with
  | [] => rfl
  | [x] =>
    show ((c == x) && false) = _
    simp
  | x :: y :: r =>
    show ((c == x) && ((d == y) && true)) = decide (some x = some c ∧ some y = some d)
    by_cases h : c = x
    · subst h
      by_cases k : d = y
      · subst k; simp
      · have k' : ¬ y = d := fun x => k x.symm
        simp [k, k']
    · have h' : ¬ x = c := fun x => h x.symm
      simp [h, h']
theorem head_drop (s : ByteArray) (a : Nat) (h : a < s.size) : (s.data.toList.drop a).head? = some s[a] := by
  rw [List.drop_eq_getElem_cons (by rw [len_data]; exact h)]
  simp [ByteArray.getElem_eq_getElem_data]
theorem at0_ba (s : ByteArray) (a : Nat) (h : a < s.size) : at0 s.data.toList a = s[a].toNat := by
  rw [at0_eq (by rw [len_data]; exact h)]
  simp [ByteArray.getElem_eq_getElem_data]
theorem dot_iff (s : ByteArray) (E : Nat) (hE : E ≤ s.size) : Lib.hasPrefix (s.data.toList.drop E) [46] = decide (E < s.size ∧ at0 s.data.toList E = 46) := by
  rw [hasPrefix_1, decide_eq_decide]
  by_cases h : E < s.size
  · rw [head_drop s E h, at0_ba s E h]
    constructor
    · intro x; injection x with x; rw [x]; exact ⟨h, rfl⟩
    · intro x; rw [show s[E] = 46 from UInt8.toNat_inj.1 x.2]
  · rw [List.drop_of_length_le (by rw [len_data]; omega)]
    simp
    omega

/-- behind its sign a number goes on -/
def tailN (s : ByteArray) (a st : Nat) : Nat :=
  let E := st + nd s.data.toList st
  if E < s.size ∧ at0 s.data.toList E = 46 ∧ 0 < nd s.data.toList (E + 1) then E + 1 + nd s.data.toList (E + 1) else if E = st then a else E
theorem tailN_eq (s : ByteArray) (a : Nat) : tailN s a (begAt s.data.toList a) = a + numAt s.data.toList a := by
  have h1 := begAt_ge s.data.toList a
  unfold tailN numAt ptAt
  simp only [len_data]
  by_cases c : begAt s.data.toList a + nd s.data.toList (begAt s.data.toList a) < s.size ∧ at0 s.data.toList (begAt s.data.toList a + nd s.data.toList (begAt s.data.toList a)) = 46 ∧ 0 < nd s.data.toList (begAt s.data.toList a + nd s.data.toList (begAt s.data.toList a) + 1)
  · rw [if_pos c, if_pos c]; omega
  · rw [if_neg c, if_neg c]
    by_cases d : nd s.data.toList (begAt s.data.toList a) = 0
    · rw [if_pos d, if_pos (by omega)]; omega
    · rw [if_neg d, if_neg (by omega)]; omega

set_option maxRecDepth 100000 in
set_option maxHeartbeats 2000000 in
theorem number_any (s : ByteArray) (a : Nat) (w : World) (hs : s.size ≤ 9223372036854775807) (ha : a < s.size) :
    Calls Try.prog 81 #[.string s, .int .i64 (a : Int)] w fun e w' => e = .returned (.int .i64 ((a + numAt s.data.toList a : Nat) : Int)) ∧ w = w' := by
  rw [← tailN_eq s a]
  have hb : (s[a].toNat = 43 ∧ begAt s.data.toList a = a + 1) ∨ (¬ s[a].toNat = 43 ∧ s[a].toNat = 45 ∧ begAt s.data.toList a = a + 1) ∨ (¬ s[a].toNat = 43 ∧ ¬ s[a].toNat = 45 ∧ a = begAt s.data.toList a) := by
    unfold begAt
    rw [at0_ba s a ha, len_data]
    by_cases c1 : s[a].toNat = 43
    · left; exact ⟨c1, if_pos ⟨ha, Or.inl c1⟩⟩
    · right
      by_cases c2 : s[a].toNat = 45
      · left; exact ⟨c1, c2, if_pos ⟨ha, Or.inr c2⟩⟩
      · right; exact ⟨c1, c2, (if_neg (by omega)).symm⟩
  have hst : begAt s.data.toList a ≤ s.size ∧ a ≤ begAt s.data.toList a := ⟨by have := begAt_le (l := s.data.toList) (f := a) (by rw [len_data]; omega); rw [len_data] at this; exact this, begAt_ge _ _⟩
  generalize begAt s.data.toList a = st at *
  obtain ⟨E, hE⟩ : ∃ E, st + nd s.data.toList st = E := ⟨_, rfl⟩
  have hEs : E ≤ s.size := by
    have := nd_le (l := s.data.toList) (a := st) (by rw [len_data]; omega)
    rw [len_data] at this; omega
  have C1 := Lib.hid fun (ai : Int) (he : ai = st) W => pass_digit s ai st he hs hst.1 E hE W
  have C2 := Lib.hid fun W => (Try.strings_HasPrefix (s.extract E s.size) ⟨#[46]⟩ W)
  have hx : Lib.hasPrefix (s.extract E s.size).data.toList (ByteArray.mk #[46]).data.toList = decide (E < s.size ∧ at0 s.data.toList E = 46) := by
    rw [Lib.extract_to_end]; exact dot_iff s E hEs
  have hEst : st ≤ E := by omega
  by_cases hd : E < s.size ∧ at0 s.data.toList E = 46
  · rw [decide_eq_true hd] at hx
    obtain ⟨M, hM⟩ : ∃ M, E + 1 + nd s.data.toList (E + 1) = M := ⟨_, rfl⟩
    have hMs : M ≤ s.size := by
      have := nd_le (l := s.data.toList) (a := E + 1) (by rw [len_data]; omega)
      rw [len_data] at this; omega
    have C3 := Lib.hid fun (ai : Int) (he : ai = ((E + 1 : Nat) : Int)) W => pass_digit s ai (E + 1) he hs (by omega) M hM W
    have hlt := hd.1
    have HX := Lib.hid hx
    by_cases hm : E + 1 < M
    · have ht : tailN s a st = M := by
        unfold tailN
        simp only [hE]
        rw [if_pos ⟨hd.1, hd.2, by omega⟩, hM]
      rw [ht]
      have hne : ((M : Int) == (st : Int)) = false := by rw [beq_eq_false_iff_ne]; omega
      have hmz : (E : Int) + 1 < (M : Int) := by omega
      rcases hb with ⟨c1, rfl⟩ | ⟨c1, c2, rfl⟩ | ⟨c1, c2, rfl⟩
      all_goals
        try have k1 : ((s[a].toNat : Int) == 43) = true := by rw [beq_iff_eq]; omega
        try have k1 : ((s[a].toNat : Int) == 43) = false := by rw [beq_eq_false_iff_ne]; omega
        try have k2 : ((s[a].toNat : Int) == 45) = true := by rw [beq_iff_eq]; omega
        try have k2 : ((s[a].toNat : Int) == 45) = false := by rw [beq_eq_false_iff_ne]; omega
        clear hx hd ht hE hM
        clear c1
        try clear c2
        go_enter Try.func81, Try.ntmps81
        go_wp2_with fail
        refine (C1.out _ (by omega) _).mono ?_
        rintro e w' ⟨rfl, rfl⟩
        go_wp2_with fail
        refine (C2.out _).mono ?_
        rintro e w' ⟨rfl, rfl⟩
        rw [HX.out]
        go_wp2_with fail
        refine (C3.out _ (by omega) _).mono ?_
        rintro e w' ⟨rfl, rfl⟩
        go_wp2_with fail
        go_ret
        exact ⟨rfl, rfl⟩
    · have ht : tailN s a st = if E = st then a else E := by
        unfold tailN
        simp only [hE]
        rw [if_neg (by omega)]
      rw [ht]
      have hmz : ¬ (E : Int) + 1 < (M : Int) := by omega
      by_cases hes : E = st
      · have hne : ((E : Int) == (st : Int)) = true := by rw [beq_iff_eq]; omega
        rw [if_pos hes]
        clear hes
        rcases hb with ⟨c1, rfl⟩ | ⟨c1, c2, rfl⟩ | ⟨c1, c2, rfl⟩
        all_goals
          try have k1 : ((s[a].toNat : Int) == 43) = true := by rw [beq_iff_eq]; omega
          try have k1 : ((s[a].toNat : Int) == 43) = false := by rw [beq_eq_false_iff_ne]; omega
          try have k2 : ((s[a].toNat : Int) == 45) = true := by rw [beq_iff_eq]; omega
          try have k2 : ((s[a].toNat : Int) == 45) = false := by rw [beq_eq_false_iff_ne]; omega
          clear hx hd ht hE hM
          clear c1
          try clear c2
          go_enter Try.func81, Try.ntmps81
          go_wp2_with fail
          refine (C1.out _ (by omega) _).mono ?_
          rintro e w' ⟨rfl, rfl⟩
          go_wp2_with fail
          refine (C2.out _).mono ?_
          rintro e w' ⟨rfl, rfl⟩
          rw [HX.out]
          go_wp2_with fail
          refine (C3.out _ (by omega) _).mono ?_
          rintro e w' ⟨rfl, rfl⟩
          go_wp2_with fail
          go_ret
          exact ⟨rfl, rfl⟩
      · have hne : ((E : Int) == (st : Int)) = false := by rw [beq_eq_false_iff_ne]; omega
        rw [if_neg hes]
        clear hes
        rcases hb with ⟨c1, rfl⟩ | ⟨c1, c2, rfl⟩ | ⟨c1, c2, rfl⟩
        all_goals
          try have k1 : ((s[a].toNat : Int) == 43) = true := by rw [beq_iff_eq]; omega
          try have k1 : ((s[a].toNat : Int) == 43) = false := by rw [beq_eq_false_iff_ne]; omega
          try have k2 : ((s[a].toNat : Int) == 45) = true := by rw [beq_iff_eq]; omega
          try have k2 : ((s[a].toNat : Int) == 45) = false := by rw [beq_eq_false_iff_ne]; omega
          clear hx hd ht hE hM
          clear c1
          try clear c2
          go_enter Try.func81, Try.ntmps81
          go_wp2_with fail
          refine (C1.out _ (by omega) _).mono ?_
          rintro e w' ⟨rfl, rfl⟩
          go_wp2_with fail
          refine (C2.out _).mono ?_
          rintro e w' ⟨rfl, rfl⟩
          rw [HX.out]
          go_wp2_with fail
          refine (C3.out _ (by omega) _).mono ?_
          rintro e w' ⟨rfl, rfl⟩
          go_wp2_with fail
          go_ret
          exact ⟨rfl, rfl⟩
  · rw [decide_eq_false hd] at hx
    have HX := Lib.hid hx
    have ht : tailN s a st = if E = st then a else E := by
      unfold tailN
      simp only [hE]
      rw [if_neg (by intro x; exact hd ⟨x.1, x.2.1⟩)]
    rw [ht]
    by_cases hes : E = st
    · have hne : ((E : Int) == (st : Int)) = true := by rw [beq_iff_eq]; omega
      rw [if_pos hes]
      clear hes
      rcases hb with ⟨c1, rfl⟩ | ⟨c1, c2, rfl⟩ | ⟨c1, c2, rfl⟩
      all_goals
        try have k1 : ((s[a].toNat : Int) == 43) = true := by rw [beq_iff_eq]; omega
        try have k1 : ((s[a].toNat : Int) == 43) = false := by rw [beq_eq_false_iff_ne]; omega
        try have k2 : ((s[a].toNat : Int) == 45) = true := by rw [beq_iff_eq]; omega
        try have k2 : ((s[a].toNat : Int) == 45) = false := by rw [beq_eq_false_iff_ne]; omega
        clear hx hd ht hE 
        clear c1
        try clear c2
        go_enter Try.func81, Try.ntmps81
        go_wp2_with fail
        refine (C1.out _ (by omega) _).mono ?_
        rintro e w' ⟨rfl, rfl⟩
        go_wp2_with fail
        refine (C2.out _).mono ?_
        rintro e w' ⟨rfl, rfl⟩
        rw [HX.out]
        go_wp2_with fail
        go_ret
        exact ⟨rfl, rfl⟩
    · have hne : ((E : Int) == (st : Int)) = false := by rw [beq_eq_false_iff_ne]; omega
      rw [if_neg hes]
      clear hes
      rcases hb with ⟨c1, rfl⟩ | ⟨c1, c2, rfl⟩ | ⟨c1, c2, rfl⟩
      all_goals
        try have k1 : ((s[a].toNat : Int) == 43) = true := by rw [beq_iff_eq]; omega
        try have k1 : ((s[a].toNat : Int) == 43) = false := by rw [beq_eq_false_iff_ne]; omega
        try have k2 : ((s[a].toNat : Int) == 45) = true := by rw [beq_iff_eq]; omega
        try have k2 : ((s[a].toNat : Int) == 45) = false := by rw [beq_eq_false_iff_ne]; omega
        clear hx hd ht hE 
        clear c1
        try clear c2
        go_enter Try.func81, Try.ntmps81
        go_wp2_with fail
        refine (C1.out _ (by omega) _).mono ?_
        rintro e w' ⟨rfl, rfl⟩
        go_wp2_with fail
        refine (C2.out _).mono ?_
        rintro e w' ⟨rfl, rfl⟩
        rw [HX.out]
        go_wp2_with fail
        go_ret
        exact ⟨rfl, rfl⟩
end Go.Proofs.Ytjmjjnbpbofjhaa
