/- Joined texts: LexW3 LexW4 LexW5 LexW6. -/
import Derived.Test.YtipmgoejdkpknaaWalkA
import Derived.Deep.LoopGhost
import Derived.Test.YtipmgoejdkpknaaFixW5
import Derived.Handy
namespace Go.Proofs.Ytipmgoejdkpknaa
open Go.RowKit TreN LexP

theorem tw_take {p : UInt8 → Bool} {s : ByteArray} {a k : Nat} (hk : a + k ≤ s.size) (h : ∀ j, j < k → ∀ hj : a + j < s.size, p s[a + j] = true) (he : a + k = s.size ∨ ∃ hj : a + k < s.size, p s[a + k] = false) :
    ((s.data.toList.drop a).takeWhile p).length = k := by
  have hl : s.data.toList.length = s.size := len_data s
  induction k generalizing a with
  | zero =>
    rcases he with he | ⟨hj, he⟩
    · rw [List.drop_of_length_le (by omega)]; rfl
    · rw [List.drop_eq_getElem_cons (by omega), List.takeWhile_cons, if_neg]
      · rfl
      · have e : s.data.toList[a] = s[a + 0] := by simp [ByteArray.getElem_eq_getElem_data]
        rw [e, he]; simp
  | succ k ih =>
    have h0 := h 0 (by omega) (by omega)
    have e : s.data.toList[a]'(by omega) = s[a + 0] := by simp [ByteArray.getElem_eq_getElem_data]
    rw [List.drop_eq_getElem_cons (by omega), List.takeWhile_cons, if_pos (by rw [e]; exact h0), List.length_cons]
    have := ih (a := a + 1) (by omega) (fun j hj hjj => by
      have := h (j + 1) (by omega) (by omega)
      have e2 : a + 1 + j = a + (j + 1) := by omega
      simp only [e2]; exact this) (by
      have e2 : a + 1 + k = a + (k + 1) := by omega
      rcases he with he | ⟨hj, he⟩
      · exact Or.inl (by omega)
      · exact Or.inr ⟨by omega, by simp only [e2]; exact he⟩)
    rw [this]

set_option maxRecDepth 100000 in
set_option maxHeartbeats 1000000 in
theorem pass_any (g : Nat) (caps : Array Value) (p : UInt8 → Bool) (I : World → Prop) (eg : ∀ args w, (callFunc g args).run Try.prog w = .ok (.enter g args) w)
    (hg : ∀ c w, I w → Calls Try.prog g (#[.int .u8 (c.toNat : Int)] ++ caps) w fun e w' => e = .returned (.bool (p c)) ∧ I w') (s : ByteArray) (a : Nat) (hs : s.size ≤ 9223372036854775807) (ha : a ≤ s.size) (w : World) (hI : I w) :
    Calls Try.prog 41 #[.string s, .int .i64 (a : Int), .func (.func g) #[] caps] w fun e w' => e = .returned (.int .i64 ((a + ((s.data.toList.drop a).takeWhile p).length : Nat) : Int)) ∧ I w' := by
  have HG := Lib.hid hg
  clear hg
  have HI := Lib.hid hI
  clear hI
  go_enter Try.func41, Try.ntmps41
  go_wp2_with fail
  go_loopw [1] (fun i wr => ∃ k : Nat, a + k ≤ s.size ∧ i = .int .i64 ((a + k : Nat) : Int) ∧ Hid (∀ j, j < k → ∀ hj : a + j < s.size, p s[a + j] = true) ∧ Hid (I wr)) (fun i _ => s.size - (intOf i).toNat)
  case atStart => exact ⟨0, by omega, rfl, fun j hj => by omega, HI⟩
  case round =>
    obtain ⟨k, hk, rfl, HJ, HW⟩ := hrel
    by_cases hlt : a + k < s.size
    · have hltz : ((a + k : Nat) : Int) < (s.size : Int) := by omega
      cases hp : p s[a + k] with
      | true =>
        have HP := Lib.hid hp
        clear hp
        go_wp2_with fail
        refine (HG.out _ _ HW.out).mono ?_
        rintro e w' ⟨rfl, hw⟩
        have HW' := Lib.hid hw
        clear hw
        rw [HP.out]
        go_wp2_with fail
        go_roundw
        case rel =>
          refine ⟨k + 1, by omega, by go_num, fun j hj hjj => ?_, HW'⟩
          by_cases c : j = k
          · subst c; exact HP.out
          · exact HJ.out j (by omega) hjj
        case measure => simp [intOf]; omega
      | false =>
        have HP := Lib.hid hp
        clear hp
        go_wp2_with fail
        refine (HG.out _ _ HW.out).mono ?_
        rintro e w' ⟨rfl, hw⟩
        have HW' := Lib.hid hw
        clear hw
        rw [HP.out]
        go_wp2_with fail
        go_ret
        exact ⟨ret_int (by have := tw_take (k := k) hk HJ.out (Or.inr ⟨hlt, HP.out⟩); omega), HW'.out⟩
    · have hle : a + k = s.size := by omega
      have HE := Lib.hid hle
      clear hle
      have hltz : ¬ ((a + k : Nat) : Int) < (s.size : Int) := by omega
      go_wp2_with fail
      go_ret
      exact ⟨ret_int (by have := tw_take (k := k) hk HJ.out (Or.inl HE.out); omega), HW.out⟩
end Go.Proofs.Ytipmgoejdkpknaa

namespace Go.Proofs.Ytipmgoejdkpknaa
open Go.RowKit TreN LexP FixP

theorem enters_digit : ∀ args w, (callFunc 63 args).run Try.prog w = .ok (.enter 63 args) w := enters_of Try.func63 (by kernel_rfl) rfl
theorem enters_blank : ∀ args w, (callFunc 36 args).run Try.prog w = .ok (.enter 36 args) w := enters_of Try.func36 (by kernel_rfl) rfl
theorem enters_ofName : ∀ args w, (callFunc 38 args).run Try.prog w = .ok (.enter 38 args) w := enters_of Try.func38 (by kernel_rfl) rfl
theorem enters_quote : ∀ args w, (callFunc 66 args).run Try.prog w = .ok (.enter 66 args) w := enters_of Try.func66 (by kernel_rfl) rfl

theorem pass_digit (s : ByteArray) (ai : Int) (a : Nat) (he : ai = a) (hs : s.size ≤ 9223372036854775807) (ha : a ≤ s.size) (E : Nat) (hE : a + nd s.data.toList a = E) (w : World) :
    Calls Try.prog 41 #[.string s, .int .i64 ai, .func (.func 63) #[] #[]] w fun e w' => e = .returned (.int .i64 (E : Int)) ∧ w = w' := by
  subst he; subst hE
  refine (pass_any 63 #[] isD (fun w' => w = w') enters_digit (fun c w1 h => ?_) s a hs ha w rfl).mono fun e w' h => h
  subst h
  have := digit_any (c.toNat : Int) w
  rwa [dgI_eq] at this
theorem pass_blank (s : ByteArray) (ai : Int) (a : Nat) (he : ai = a) (hs : s.size ≤ 9223372036854775807) (ha : a ≤ s.size) (E : Nat) (hE : a + ((s.data.toList.drop a).takeWhile blB).length = E) (w : World) :
    Calls Try.prog 41 #[.string s, .int .i64 ai, .func (.func 36) #[] #[]] w fun e w' => e = .returned (.int .i64 (E : Int)) ∧ w = w' := by
  subst he; subst hE
  refine (pass_any 36 #[] blB (fun w' => w = w') enters_blank (fun c w1 h => ?_) s a hs ha w rfl).mono fun e w' h => h
  subst h
  have := blank_any (c.toNat : Int) w
  rwa [blI_eq] at this
theorem pass_name (s : ByteArray) (ai : Int) (a : Nat) (he : ai = a) (hs : s.size ≤ 9223372036854775807) (ha : a ≤ s.size) (E : Nat) (hE : a + ((s.data.toList.drop a).takeWhile gB).length = E) (w : World) :
    Calls Try.prog 41 #[.string s, .int .i64 ai, .func (.func 38) #[] #[]] w fun e w' => e = .returned (.int .i64 (E : Int)) ∧ Below w.heap.size w w' := by
  subst he; subst hE
  refine (pass_any 38 #[] gB (fun w' => Below w.heap.size w w') enters_ofName (fun c w1 h => ?_) s a hs ha w (Below.refl _ _)).mono fun e w' h => h
  exact (ofName_any c w1).mono fun e w' hh => ⟨hh.1, h.trans (hh.2.mono h.size)⟩

theorem hasPrefix_1 (l : List UInt8) (c : UInt8) : Lib.hasPrefix l [c] = decide (l.head? = some c) := by
  cases l with
  | nil => rfl
  | cons d r =>
    show ((c == d) && true) = decide (some d = some c)
    by_cases h : c = d
    · subst h; simp
    · have h' : ¬ d = c := fun x => h x.symm
      simp [h, h']
theorem hasPrefix_2 (l : List UInt8) (c d : UInt8) : Lib.hasPrefix l [c, d] = decide (l.head? = some c ∧ (l.drop 1).head? = some d) := by
  match l with
  | [] => rfl
  | [x] =>
    show ((c == x) && false) = _
    simp
  | x :: y :: r =>
    show ((c == x) && ((d == y) && true)) = decide (some x = some c ∧ some y = some d)
    by_cases h : c = x
    · subst h
      by_cases k : d = y
      · subst k; simp
      · have k' : ¬ y = d := fun x => k x.symm
        simp [k, k']
    · have h' : ¬ x = c := fun x => h x.symm
      simp [h, h']
theorem head_drop (s : ByteArray) (a : Nat) (h : a < s.size) : (s.data.toList.drop a).head? = some s[a] := by
  rw [List.drop_eq_getElem_cons (by rw [len_data]; exact h)]
  simp [ByteArray.getElem_eq_getElem_data]
theorem at0_ba (s : ByteArray) (a : Nat) (h : a < s.size) : at0 s.data.toList a = s[a].toNat := by
  rw [at0_eq (by rw [len_data]; exact h)]
  simp [ByteArray.getElem_eq_getElem_data]
theorem dot_iff (s : ByteArray) (E : Nat) (hE : E ≤ s.size) : Lib.hasPrefix (s.data.toList.drop E) [46] = decide (E < s.size ∧ at0 s.data.toList E = 46) := by
  rw [hasPrefix_1, decide_eq_decide]
  by_cases h : E < s.size
  · rw [head_drop s E h, at0_ba s E h]
    constructor
    · intro x; injection x with x; rw [x]; exact ⟨h, rfl⟩
    · intro x; rw [show s[E] = 46 from UInt8.toNat_inj.1 x.2]
  · rw [List.drop_of_length_le (by rw [len_data]; omega)]
    simp
    omega

/-- behind its sign a number goes on -/
def tailN (s : ByteArray) (a st : Nat) : Nat :=
  let E := st + nd s.data.toList st
  if E < s.size ∧ at0 s.data.toList E = 46 ∧ 0 < nd s.data.toList (E + 1) then E + 1 + nd s.data.toList (E + 1) else if E = st then a else E
theorem tailN_eq (s : ByteArray) (a : Nat) : tailN s a (begAt s.data.toList a) = a + numAt s.data.toList a := by
  have h1 := begAt_ge s.data.toList a
  unfold tailN numAt ptAt
  simp only [len_data]
  by_cases c : begAt s.data.toList a + nd s.data.toList (begAt s.data.toList a) < s.size ∧ at0 s.data.toList (begAt s.data.toList a + nd s.data.toList (begAt s.data.toList a)) = 46 ∧ 0 < nd s.data.toList (begAt s.data.toList a + nd s.data.toList (begAt s.data.toList a) + 1)
  · rw [if_pos c, if_pos c]; omega
  · rw [if_neg c, if_neg c]
    by_cases d : nd s.data.toList (begAt s.data.toList a) = 0
    · rw [if_pos d, if_pos (by omega)]; omega
    · rw [if_neg d, if_neg (by omega)]; omega

set_option maxRecDepth 100000 in
set_option maxHeartbeats 2000000 in
theorem number_any (s : ByteArray) (a : Nat) (w : World) (hs : s.size ≤ 9223372036854775807) (ha : a < s.size) :
    Calls Try.prog 37 #[.string s, .int .i64 (a : Int)] w fun e w' => e = .returned (.int .i64 ((a + numAt s.data.toList a : Nat) : Int)) ∧ w = w' := by
  rw [← tailN_eq s a]
  have hb : (s[a].toNat = 43 ∧ begAt s.data.toList a = a + 1) ∨ (¬ s[a].toNat = 43 ∧ s[a].toNat = 45 ∧ begAt s.data.toList a = a + 1) ∨ (¬ s[a].toNat = 43 ∧ ¬ s[a].toNat = 45 ∧ a = begAt s.data.toList a) := by
    unfold begAt
    rw [at0_ba s a ha, len_data]
    by_cases c1 : s[a].toNat = 43
    · left; exact ⟨c1, if_pos ⟨ha, Or.inl c1⟩⟩
    · right
      by_cases c2 : s[a].toNat = 45
      · left; exact ⟨c1, c2, if_pos ⟨ha, Or.inr c2⟩⟩
      · right; exact ⟨c1, c2, (if_neg (by omega)).symm⟩
  have hst : begAt s.data.toList a ≤ s.size ∧ a ≤ begAt s.data.toList a := ⟨by have := begAt_le (l := s.data.toList) (f := a) (by rw [len_data]; omega); rw [len_data] at this; exact this, begAt_ge _ _⟩
  generalize begAt s.data.toList a = st at *
  obtain ⟨E, hE⟩ : ∃ E, st + nd s.data.toList st = E := ⟨_, rfl⟩
  have hEs : E ≤ s.size := by
    have := nd_le (l := s.data.toList) (a := st) (by rw [len_data]; omega)
    rw [len_data] at this; omega
  have C1 := Lib.hid fun (ai : Int) (he : ai = st) W => pass_digit s ai st he hs hst.1 E hE W
  have C2 := Lib.hid fun W => (Try.strings_HasPrefix (s.extract E s.size) ⟨#[46]⟩ W)
  have hx : Lib.hasPrefix (s.extract E s.size).data.toList (ByteArray.mk #[46]).data.toList = decide (E < s.size ∧ at0 s.data.toList E = 46) := by
    rw [Lib.extract_to_end]; exact dot_iff s E hEs
  have hEst : st ≤ E := by omega
  by_cases hd : E < s.size ∧ at0 s.data.toList E = 46
  · rw [decide_eq_true hd] at hx
    obtain ⟨M, hM⟩ : ∃ M, E + 1 + nd s.data.toList (E + 1) = M := ⟨_, rfl⟩
    have hMs : M ≤ s.size := by
      have := nd_le (l := s.data.toList) (a := E + 1) (by rw [len_data]; omega)
      rw [len_data] at this; omega
    have C3 := Lib.hid fun (ai : Int) (he : ai = ((E + 1 : Nat) : Int)) W => pass_digit s ai (E + 1) he hs (by omega) M hM W
    have hlt := hd.1
    have HX := Lib.hid hx
    by_cases hm : E + 1 < M
    · have ht : tailN s a st = M := by
        unfold tailN
        simp only [hE]
        rw [if_pos ⟨hd.1, hd.2, by omega⟩, hM]
      rw [ht]
      have hne : ((M : Int) == (st : Int)) = false := by rw [beq_eq_false_iff_ne]; omega
      have hmz : (E : Int) + 1 < (M : Int) := by omega
      rcases hb with ⟨c1, rfl⟩ | ⟨c1, c2, rfl⟩ | ⟨c1, c2, rfl⟩
      all_goals
        try have k1 : ((s[a].toNat : Int) == 43) = true := by rw [beq_iff_eq]; omega
        try have k1 : ((s[a].toNat : Int) == 43) = false := by rw [beq_eq_false_iff_ne]; omega
        try have k2 : ((s[a].toNat : Int) == 45) = true := by rw [beq_iff_eq]; omega
        try have k2 : ((s[a].toNat : Int) == 45) = false := by rw [beq_eq_false_iff_ne]; omega
        clear hx hd ht hE hM
        clear c1
        try clear c2
        go_enter Try.func37, Try.ntmps37
        go_wp2_with fail
        refine (C1.out _ (by omega) _).mono ?_
        rintro e w' ⟨rfl, rfl⟩
        go_wp2_with fail
        refine (C2.out _).mono ?_
        rintro e w' ⟨rfl, rfl⟩
        rw [HX.out]
        go_wp2_with fail
        refine (C3.out _ (by omega) _).mono ?_
        rintro e w' ⟨rfl, rfl⟩
        go_wp2_with fail
        go_ret
        exact ⟨rfl, rfl⟩
    · have ht : tailN s a st = if E = st then a else E := by
        unfold tailN
        simp only [hE]
        rw [if_neg (by omega)]
      rw [ht]
      have hmz : ¬ (E : Int) + 1 < (M : Int) := by omega
      by_cases hes : E = st
      · have hne : ((E : Int) == (st : Int)) = true := by rw [beq_iff_eq]; omega
        rw [if_pos hes]
        clear hes
        rcases hb with ⟨c1, rfl⟩ | ⟨c1, c2, rfl⟩ | ⟨c1, c2, rfl⟩
        all_goals
          try have k1 : ((s[a].toNat : Int) == 43) = true := by rw [beq_iff_eq]; omega
          try have k1 : ((s[a].toNat : Int) == 43) = false := by rw [beq_eq_false_iff_ne]; omega
          try have k2 : ((s[a].toNat : Int) == 45) = true := by rw [beq_iff_eq]; omega
          try have k2 : ((s[a].toNat : Int) == 45) = false := by rw [beq_eq_false_iff_ne]; omega
          clear hx hd ht hE hM
          clear c1
          try clear c2
          go_enter Try.func37, Try.ntmps37
          go_wp2_with fail
          refine (C1.out _ (by omega) _).mono ?_
          rintro e w' ⟨rfl, rfl⟩
          go_wp2_with fail
          refine (C2.out _).mono ?_
          rintro e w' ⟨rfl, rfl⟩
          rw [HX.out]
          go_wp2_with fail
          refine (C3.out _ (by omega) _).mono ?_
          rintro e w' ⟨rfl, rfl⟩
          go_wp2_with fail
          go_ret
          exact ⟨rfl, rfl⟩
      · have hne : ((E : Int) == (st : Int)) = false := by rw [beq_eq_false_iff_ne]; omega
        rw [if_neg hes]
        clear hes
        rcases hb with ⟨c1, rfl⟩ | ⟨c1, c2, rfl⟩ | ⟨c1, c2, rfl⟩
        all_goals
          try have k1 : ((s[a].toNat : Int) == 43) = true := by rw [beq_iff_eq]; omega
          try have k1 : ((s[a].toNat : Int) == 43) = false := by rw [beq_eq_false_iff_ne]; omega
          try have k2 : ((s[a].toNat : Int) == 45) = true := by rw [beq_iff_eq]; omega
          try have k2 : ((s[a].toNat : Int) == 45) = false := by rw [beq_eq_false_iff_ne]; omega
          clear hx hd ht hE hM
          clear c1
          try clear c2
          go_enter Try.func37, Try.ntmps37
          go_wp2_with fail
          refine (C1.out _ (by omega) _).mono ?_
          rintro e w' ⟨rfl, rfl⟩
          go_wp2_with fail
          refine (C2.out _).mono ?_
          rintro e w' ⟨rfl, rfl⟩
          rw [HX.out]
          go_wp2_with fail
          refine (C3.out _ (by omega) _).mono ?_
          rintro e w' ⟨rfl, rfl⟩
          go_wp2_with fail
          go_ret
          exact ⟨rfl, rfl⟩
  · rw [decide_eq_false hd] at hx
    have HX := Lib.hid hx
    have ht : tailN s a st = if E = st then a else E := by
      unfold tailN
      simp only [hE]
      rw [if_neg (by intro x; exact hd ⟨x.1, x.2.1⟩)]
    rw [ht]
    by_cases hes : E = st
    · have hne : ((E : Int) == (st : Int)) = true := by rw [beq_iff_eq]; omega
      rw [if_pos hes]
      clear hes
      rcases hb with ⟨c1, rfl⟩ | ⟨c1, c2, rfl⟩ | ⟨c1, c2, rfl⟩
      all_goals
        try have k1 : ((s[a].toNat : Int) == 43) = true := by rw [beq_iff_eq]; omega
        try have k1 : ((s[a].toNat : Int) == 43) = false := by rw [beq_eq_false_iff_ne]; omega
        try have k2 : ((s[a].toNat : Int) == 45) = true := by rw [beq_iff_eq]; omega
        try have k2 : ((s[a].toNat : Int) == 45) = false := by rw [beq_eq_false_iff_ne]; omega
        clear hx hd ht hE 
        clear c1
        try clear c2
        go_enter Try.func37, Try.ntmps37
        go_wp2_with fail
        refine (C1.out _ (by omega) _).mono ?_
        rintro e w' ⟨rfl, rfl⟩
        go_wp2_with fail
        refine (C2.out _).mono ?_
        rintro e w' ⟨rfl, rfl⟩
        rw [HX.out]
        go_wp2_with fail
        go_ret
        exact ⟨rfl, rfl⟩
    · have hne : ((E : Int) == (st : Int)) = false := by rw [beq_eq_false_iff_ne]; omega
      rw [if_neg hes]
      clear hes
      rcases hb with ⟨c1, rfl⟩ | ⟨c1, c2, rfl⟩ | ⟨c1, c2, rfl⟩
      all_goals
        try have k1 : ((s[a].toNat : Int) == 43) = true := by rw [beq_iff_eq]; omega
        try have k1 : ((s[a].toNat : Int) == 43) = false := by rw [beq_eq_false_iff_ne]; omega
        try have k2 : ((s[a].toNat : Int) == 45) = true := by rw [beq_iff_eq]; omega
        try have k2 : ((s[a].toNat : Int) == 45) = false := by rw [beq_eq_false_iff_ne]; omega
        clear hx hd ht hE 
        clear c1
        try clear c2
        go_enter Try.func37, Try.ntmps37
        go_wp2_with fail
        refine (C1.out _ (by omega) _).mono ?_
        rintro e w' ⟨rfl, rfl⟩
        go_wp2_with fail
        refine (C2.out _).mono ?_
        rintro e w' ⟨rfl, rfl⟩
        rw [HX.out]
        go_wp2_with fail
        go_ret
        exact ⟨rfl, rfl⟩
end Go.Proofs.Ytipmgoejdkpknaa

namespace Go.Proofs.Ytipmgoejdkpknaa
open Go.RowKit TreN LexP FixP

/-- a token's value -/
def LexP.Tok.val (t : Tok) : Value := .agg #[.int .i64 t.kind, .string ⟨t.text.toArray⟩, .int .i64 t.n]
def str (l : List UInt8) : ByteArray := ⟨l.toArray⟩
theorem str_eqL (s : ByteArray) (l : List UInt8) (h : s.data.toList = l) : s = ⟨l.toArray⟩ := ba_ext (by rw [h])
theorem ext_tw (s : ByteArray) (a : Nat) (p : UInt8 → Bool) (E : Nat) (hE : a + ((s.data.toList.drop a).takeWhile p).length = E) : s.extract a E = ⟨((s.data.toList.drop a).takeWhile p).toArray⟩ := by
  refine str_eqL _ _ ?_
  rw [ext_list]
  have : E - a = ((s.data.toList.drop a).takeWhile p).length := by omega
  rw [this]
  have h : s.data.toList.drop a = (s.data.toList.drop a).takeWhile p ++ (s.data.toList.drop a).dropWhile p := List.takeWhile_append_dropWhile.symm
  have h2 : ((s.data.toList.drop a).takeWhile p ++ (s.data.toList.drop a).dropWhile p).take ((s.data.toList.drop a).takeWhile p).length = (s.data.toList.drop a).takeWhile p := List.take_left
  rw [← h] at h2
  exact h2

set_option maxRecDepth 100000 in
set_option maxHeartbeats 1000000 in
theorem inQ_any (b : Nat) (q c : UInt8) (w : World) (h : w.cell? ⟨b, 0, none⟩ = some (.int .u8 (q.toNat : Int))) :
    Calls Try.prog 66 #[.int .u8 (c.toNat : Int), .pointer (some ⟨b, 0, none⟩)] w fun e w' => e = .returned (.bool (inQ q c)) ∧ w = w' := by
  obtain ⟨v, hv⟩ : ∃ v, inQ q c = v := ⟨_, rfl⟩
  rw [hv]
  have HV := Lib.hid hv
  clear hv
  by_cases h1 : c = q
  · have g1 : ((c.toNat : Int) != (q.toNat : Int)) = false := by rw [h1]; simp
    have H1 := Lib.hid h1
    clear h1
    go_enter Try.func66, Try.ntmps66
    go_wp2_with fail
    go_ret
    refine ⟨ret_bool ?_, rfl⟩
    rw [← HV.out, H1.out]; unfold inQ; simp
  · have g1 : ((c.toNat : Int) != (q.toNat : Int)) = true := by
      rw [bne_iff_ne]
      intro x
      exact h1 (UInt8.toNat_inj.1 (by omega))
    have H1 := Lib.hid h1
    clear h1
    by_cases h2 : c = 10
    · have g2 : ((c.toNat : Int) != 10) = false := by rw [h2]; rfl
      have H2 := Lib.hid h2
      clear h2
      go_enter Try.func66, Try.ntmps66
      go_wp2_with fail
      go_ret
      refine ⟨ret_bool ?_, rfl⟩
      rw [← HV.out, H2.out]; unfold inQ; simp
    · have g2 : ((c.toNat : Int) != 10) = true := by
        rw [bne_iff_ne]
        intro x
        exact h2 (UInt8.toNat_inj.1 (by show c.toNat = 10; omega))
      have H2 := Lib.hid h2
      clear h2
      go_enter Try.func66, Try.ntmps66
      go_wp2_with fail
      go_ret
      refine ⟨ret_bool ?_, rfl⟩
      rw [← HV.out]; unfold inQ
      have e1 := H1.out; have e2 := H2.out
      simp [e1, e2]

theorem pass_quote (s : ByteArray) (ai : Int) (a : Nat) (he : ai = a) (hs : s.size ≤ 9223372036854775807) (ha : a ≤ s.size) (b : Nat) (q : UInt8) (E : Nat) (hE : a + ((s.data.toList.drop a).takeWhile (inQ q)).length = E) (w : World)
    (h : w.cell? ⟨b, 0, none⟩ = some (.int .u8 (q.toNat : Int))) :
    Calls Try.prog 41 #[.string s, .int .i64 ai, .func (.func 66) #[] #[.pointer (some ⟨b, 0, none⟩)]] w fun e w' => e = .returned (.int .i64 (E : Int)) ∧ w = w' := by
  subst he; subst hE
  refine (pass_any 66 #[.pointer (some ⟨b, 0, none⟩)] (inQ q) (fun w' => w = w') enters_quote (fun c w1 hw => ?_) s a hs ha w rfl).mono fun e w' h => h
  subst hw
  exact inQ_any b q c w h
end Go.Proofs.Ytipmgoejdkpknaa

namespace Go.Proofs.Ytipmgoejdkpknaa
open Go.RowKit TreN LexP FixP

/-- where a quote's token ends -/
theorem quo_ways (s : ByteArray) (a E : Nat) (q : UInt8) (hE : a + 1 + ((s.data.toList.drop (a + 1)).takeWhile (inQ q)).length = E) (ha : a < s.size) :
    (E = s.size ∧ quoL q (s.data.toList.drop (a + 1)) = (⟨5, (s.data.toList.drop (a + 1)).takeWhile (inQ q), 0⟩, E - a)) ∨
    (∃ h : E < s.size, s[E].toNat = 10 ∧ quoL q (s.data.toList.drop (a + 1)) = (⟨6, (s.data.toList.drop (a + 1)).takeWhile (inQ q), 0⟩, E - a)) ∨
    (∃ h : E < s.size, ¬ s[E].toNat = 10 ∧ quoL q (s.data.toList.drop (a + 1)) = (⟨5, (s.data.toList.drop (a + 1)).takeWhile (inQ q), 0⟩, E + 1 - a)) := by
  have hd : s.data.toList.drop E = (s.data.toList.drop (a + 1)).dropWhile (inQ q) := by
    rw [← tw_drop, List.drop_drop, ← hE]
  have hle : E ≤ s.size := by
    have := tw_le (inQ q) (s.data.toList.drop (a + 1))
    rw [List.length_drop, len_data] at this
    omega
  by_cases h : E < s.size
  · have hc : s.data.toList.drop E = s[E] :: s.data.toList.drop (E + 1) := by
      rw [List.drop_eq_getElem_cons (by rw [len_data]; exact h)]
      simp [ByteArray.getElem_eq_getElem_data]
    rw [hc] at hd
    by_cases h10 : s[E].toNat = 10
    · have e10 : s[E] = 10 := UInt8.toNat_inj.1 h10
      refine Or.inr (Or.inl ⟨h, h10, ?_⟩)
      unfold quoL
      rw [← hd]
      simp only [e10, if_true]
      rw [Prod.mk.injEq]
      exact ⟨rfl, by omega⟩
    · have e10 : ¬ s[E] = 10 := fun x => h10 (by rw [x]; rfl)
      refine Or.inr (Or.inr ⟨h, h10, ?_⟩)
      unfold quoL
      rw [← hd]
      simp only [e10, if_false]
      rw [Prod.mk.injEq]
      exact ⟨rfl, by omega⟩
  · have hn : s.data.toList.drop E = [] := List.drop_of_length_le (by rw [len_data]; omega)
    rw [hn] at hd
    refine Or.inl ⟨by omega, ?_⟩
    unfold quoL
    rw [← hd]
    rw [Prod.mk.injEq]
    exact ⟨rfl, by omega⟩

set_option maxRecDepth 100000 in
set_option maxHeartbeats 2000000 in
theorem quote_any (s : ByteArray) (a : Nat) (w : World) (hs : s.size ≤ 9223372036854775807) (ha : a < s.size) :
    Calls Try.prog 42 #[.string s, .int .i64 (a : Int)] w fun e w' => e = .returned (.tuple #[(quoL s[a] (s.data.toList.drop (a + 1))).1.val, .int .i64 ((a + (quoL s[a] (s.data.toList.drop (a + 1))).2 : Nat) : Int)]) ∧ Below w.heap.size w w' := by
  have hmf : ∀ (fn : Fn) (first cap : Array Value) (w : World), (Instr.makeFunc fn first cap).run Try.prog w = .ok (.func fn first cap) w := fun _ _ _ _ => rfl
  obtain ⟨E, hE⟩ : ∃ E, a + 1 + ((s.data.toList.drop (a + 1)).takeWhile (inQ s[a])).length = E := ⟨_, rfl⟩
  have hx := ext_tw s (a + 1) (inQ s[a]) E hE
  have hqw := quo_ways s a E s[a] hE ha
  have C := fun (ai : Int) (he : ai = ((a + 1 : Nat) : Int)) (b : Nat) (W : World) (h : W.cell? ⟨b, 0, none⟩ = some (.int .u8 (s[a].toNat : Int))) => pass_quote s ai (a + 1) he hs (by omega) b s[a] E hE W h
  have hage : a + 1 ≤ E := by omega
  have hEle : E ≤ s.size := by
    have := tw_le (inQ s[a]) (s.data.toList.drop (a + 1))
    rw [List.length_drop, len_data] at this
    omega
  generalize (s.data.toList.drop (a + 1)).takeWhile (inQ s[a]) = T at *
  have HC := Lib.hid C
  have HX := Lib.hid hx
  clear hE hx C
  rcases hqw with ⟨h1, hq⟩ | ⟨h1, h2, hq⟩ | ⟨h1, h2, hq⟩
  · rw [hq]
    have hb : ((E : Int) == (s.size : Int)) = true := by rw [beq_iff_eq]; omega
    have H1 := Lib.hid h1
    clear h1 hq
    go_enter Try.func42, Try.ntmps42
    go_wp2_with fail
    refine (HC.out _ (by omega) _ _ (by simp)).mono ?_
    rintro e w' ⟨rfl, rfl⟩
    go_wp2_with fail
    rw [HX.out]
    refine bodyPost_ret (v := .tuple #[(⟨5, T, 0⟩ : Tok).val, .int .i64 ((E : Int))]) (by simp [results, Try.results42, go_sem, LexP.Tok.val]) rfl ⟨?_, ?_⟩
    · rw [show ((a + (E - a : Nat) : Nat) : Int) = (E : Int) by omega]
    · go_grown
  · rw [hq]
    have hb : ((E : Int) == (s.size : Int)) = false := by rw [beq_eq_false_iff_ne]; omega
    have hb2 : ((s[E].toNat : Int) == 10) = true := by rw [beq_iff_eq]; omega
    clear h2 hq
    go_enter Try.func42, Try.ntmps42
    go_wp2_with fail
    refine (HC.out _ (by omega) _ _ (by simp)).mono ?_
    rintro e w' ⟨rfl, rfl⟩
    go_wp2_with fail
    rw [HX.out]
    refine bodyPost_ret (v := .tuple #[(⟨6, T, 0⟩ : Tok).val, .int .i64 ((E : Int))]) (by simp [results, Try.results42, go_sem, LexP.Tok.val]) rfl ⟨?_, ?_⟩
    · rw [show ((a + (E - a : Nat) : Nat) : Int) = (E : Int) by omega]
    · go_grown
  · rw [hq]
    have hb : ((E : Int) == (s.size : Int)) = false := by rw [beq_eq_false_iff_ne]; omega
    have hb2 : ((s[E].toNat : Int) == 10) = false := by rw [beq_eq_false_iff_ne]; omega
    clear h2 hq
    go_enter Try.func42, Try.ntmps42
    go_wp2_with fail
    refine (HC.out _ (by omega) _ _ (by simp)).mono ?_
    rintro e w' ⟨rfl, rfl⟩
    go_wp2_with fail
    rw [HX.out]
    refine bodyPost_ret (v := .tuple #[(⟨5, T, 0⟩ : Tok).val, .int .i64 ((E : Int) + 1)]) (by simp [results, Try.results42, go_sem, LexP.Tok.val]) rfl ⟨?_, ?_⟩
    · rw [show ((a + (E + 1 - a : Nat) : Nat) : Int) = (E : Int) + 1 by omega]
    · go_grown
end Go.Proofs.Ytipmgoejdkpknaa
