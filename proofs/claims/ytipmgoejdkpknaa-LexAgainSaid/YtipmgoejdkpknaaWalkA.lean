/- Joined texts: TreW1 TreW2 LexW1 LexW2. -/
import Derived.Test.YtipmgoejdkpknaaProg
import Derived.Test.YtipmgoejdkpknaaFixAll
import Derived.WalkKit
import Derived.WalkSpells
import Derived.WalkLawsBesides
import Derived.Deep.QuietTactic
import Derived.BigQuiet
import Derived.Lib.Hide
import Derived.Shelf.Abstract
import Derived.Test.YtipmgoejdkpknaaLexPs
import Derived.Test.YtipmgoejdkpknaaShelf
import Derived.Lib.SlBytesConst
namespace Go.Proofs.Ytipmgoejdkpknaa
open Go.RowKit TreN

set_option maxRecDepth 100000 in
theorem ret_int {k : IntKind} {a b : Int} (h : a = b) : Ending.returned (.int k a) = .returned (.int k b) := by rw [h]
set_option maxRecDepth 100000 in
theorem ret_bool {a b : Bool} (h : a = b) : Ending.returned (.bool a) = .returned (.bool b) := by rw [h]

set_option maxRecDepth 100000 in
theorem let_ways (c : Int) : c < 65 ∨ (65 ≤ c ∧ c ≤ 90) ∨ (91 ≤ c ∧ c ≤ 94) ∨ c = 95 ∨ c = 96 ∨ (97 ≤ c ∧ c ≤ 122) ∨ (123 ≤ c ∧ c ≤ 127) ∨ 128 ≤ c := by omega

set_option maxRecDepth 100000 in
set_option maxHeartbeats 1000000 in
theorem letter_any (c : Int) (w : World) : Calls Try.prog 76 #[.int .u8 c] w fun e w' => e = .returned (.bool (letB c)) ∧ w = w' := by
  obtain ⟨v, hv⟩ : ∃ v, letB c = v := ⟨_, rfl⟩
  rw [hv]
  have HV := Lib.hid hv
  clear hv
  rcases let_ways c with h | h | h | rfl | rfl | h | h | h
  all_goals
    try obtain ⟨h1, h2⟩ := h
    go_enter Try.func76, Try.ntmps76
    go_wp2_with fail
    go_ret
    refine ⟨ret_bool ?_, rfl⟩
    rw [← HV.out]
    unfold letB
    first | decide | (rw [Bool.eq_iff_iff]; simp; omega) | (simp; omega) | (symm; simp; omega)

set_option maxRecDepth 100000 in
set_option maxHeartbeats 1000000 in
theorem refBegins_any (c : Int) (w : World) : Calls Try.prog 71 #[.int .u8 c] w fun e w' => e = .returned (.bool (letB c)) ∧ w = w' := by
  obtain ⟨v, hv⟩ : ∃ v, letB c = v := ⟨_, rfl⟩
  rw [hv]
  have HV := Lib.hid hv
  clear hv
  rcases let_ways c with h | h | h | rfl | rfl | h | h | h
  all_goals
    try obtain ⟨h1, h2⟩ := h
    go_enter Try.func71, Try.ntmps71
    go_wp2_with fail
    go_ret
    refine ⟨ret_bool ?_, rfl⟩
    rw [← HV.out]
    unfold letB
    first | decide | (rw [Bool.eq_iff_iff]; simp; omega) | (simp; omega) | (symm; simp; omega)

set_option maxRecDepth 100000 in
theorem go_ways4 (c : Int) : c < 45 ∨ c = 45 ∨ (46 ≤ c ∧ c < 48) ∨ (48 ≤ c ∧ c ≤ 57) ∨ 58 ≤ c := by omega

set_option maxRecDepth 100000 in
set_option maxHeartbeats 1000000 in
theorem nameByte_any (c : Int) (w : World) : Calls Try.prog 75 #[.int .u8 c] w fun e w' => e = .returned (.bool (goB c)) ∧ w = w' := by
  cases hl : letB c with
  | true =>
    have hg : goB c = true := by unfold goB; rw [hl]; rfl
    rw [hg]
    have HL := Lib.hid hl
    clear hl hg
    go_enter Try.func75, Try.ntmps75
    go_wp2_with (go_at_call 76; refine (letter_any _ _).mono ?_; rintro e w' ⟨rfl, rfl⟩; rw [HL.out])
    go_ret
    exact ⟨rfl, rfl⟩
  | false =>
    have hg : goB c = (decide (c = 45) || decide (48 ≤ c ∧ c ≤ 57)) := by unfold goB; rw [hl]; rfl
    rw [hg]
    have HL := Lib.hid hl
    clear hl hg
    rcases go_ways4 c with h | rfl | h | h | h
    all_goals
      try obtain ⟨h1, h2⟩ := h
      go_enter Try.func75, Try.ntmps75
      go_wp2_with (go_at_call 76; refine (letter_any _ _).mono ?_; rintro e w' ⟨rfl, rfl⟩; rw [HL.out])
      go_ret
      refine ⟨ret_bool ?_, rfl⟩
      first | decide | (rw [Bool.eq_iff_iff]; simp; omega) | (simp; omega) | (symm; simp; omega)

set_option maxRecDepth 100000 in
set_option maxHeartbeats 1000000 in
theorem refGoes_any (c : Int) (w : World) : Calls Try.prog 70 #[.int .u8 c] w fun e w' => e = .returned (.bool (goB c)) ∧ w = w' := by
  cases hl : letB c with
  | true =>
    have hg : goB c = true := by unfold goB; rw [hl]; rfl
    rw [hg]
    have HL := Lib.hid hl
    clear hl hg
    go_enter Try.func70, Try.ntmps70
    go_wp2_with (go_at_call 71; refine (refBegins_any _ _).mono ?_; rintro e w' ⟨rfl, rfl⟩; rw [HL.out])
    go_ret
    exact ⟨rfl, rfl⟩
  | false =>
    have hg : goB c = (decide (c = 45) || decide (48 ≤ c ∧ c ≤ 57)) := by unfold goB; rw [hl]; rfl
    rw [hg]
    have HL := Lib.hid hl
    clear hl hg
    rcases go_ways4 c with h | rfl | h | h | h
    all_goals
      try obtain ⟨h1, h2⟩ := h
      go_enter Try.func70, Try.ntmps70
      go_wp2_with (go_at_call 71; refine (refBegins_any _ _).mono ?_; rintro e w' ⟨rfl, rfl⟩; rw [HL.out])
      go_ret
      refine ⟨ret_bool ?_, rfl⟩
      first | decide | (rw [Bool.eq_iff_iff]; simp; omega) | (simp; omega) | (symm; simp; omega)

set_option maxRecDepth 100000 in
set_option maxHeartbeats 1000000 in
theorem every_any (g : Nat) (p : Int → Bool) (eg : ∀ args w, (callFunc g args).run Try.prog w = .ok (.enter g args) w)
    (hg : ∀ c w, Calls Try.prog g #[.int .u8 c] w fun e w' => e = .returned (.bool (p c)) ∧ w = w') (s : ByteArray) (hs : s.size ≤ maxLen) (w : World) :
    Calls Try.prog 74 #[.string s, .func (.func g) #[] #[]] w fun e w' => e = .returned (.bool (allB p s)) ∧ w = w' := by
  unfold maxLen at hs
  have HG := Lib.hid hg
  clear hg
  go_enter Try.func74, Try.ntmps74
  go_wp2_with fail
  go_loop [8] (fun i => ∃ k : Nat, k ≤ s.size ∧ i = .int .i64 k ∧ Hid (∀ j, j < k → p (bt s j) = true)) (fun i => s.size - (intOf i).toNat)
  case atStart => exact ⟨0, by omega, rfl, fun j hj => by omega⟩
  case round =>
    obtain ⟨k, hk, rfl, HI⟩ := hrel
    by_cases hlt : k < s.size
    · have hltz : (k : Int) < (s.size : Int) := by omega
      cases hp : p (s[k].toNat : Int) with
      | true =>
        have HP := Lib.hid hp
        clear hp
        go_wp2_with fail
        refine (HG.out _ _).mono ?_
        rintro e w' ⟨rfl, rfl⟩
        rw [HP.out]
        go_wp2_with fail
        go_round
        case rel =>
          refine ⟨k + 1, by omega, by go_num, fun j hj => ?_⟩
          by_cases c : j = k
          · subst c; rw [bt_eq s j hlt]; exact HP.out
          · exact HI.out j (by omega)
        case measure => simp [intOf]; omega
      | false =>
        have HP := Lib.hid hp
        clear hp
        go_wp2_with fail
        refine (HG.out _ _).mono ?_
        rintro e w' ⟨rfl, rfl⟩
        rw [HP.out]
        go_wp2_with fail
        go_ret
        exact ⟨ret_bool (allB_false k hlt (by rw [bt_eq s k hlt]; exact HP.out)).symm, rfl⟩
    · have hall : allB p s = true := allB_true fun j hj => HI.out j (by omega)
      have HA := Lib.hid hall
      clear hall
      go_wp2_with fail
      go_ret
      exact ⟨ret_bool HA.out.symm, rfl⟩
end Go.Proofs.Ytipmgoejdkpknaa

namespace Go.Proofs.Ytipmgoejdkpknaa
open Go.RowKit TreN

set_option maxRecDepth 100000 in
theorem begB_0 (s : ByteArray) (h : s.size = 0) : begB s = false := by unfold begB; rw [if_neg (by omega), decide_eq_false (by omega)]; rfl
set_option maxRecDepth 100000 in
theorem begB_1 (s : ByteArray) (h : 0 < s.size) (hn : ¬ (1 < s.size ∧ bt s 0 = 45)) : begB s = letB (bt s 0) := by unfold begB; rw [if_neg hn, decide_eq_true h]; rfl
set_option maxRecDepth 100000 in
theorem begB_2 (s : ByteArray) (h : 1 < s.size) (h0 : bt s 0 = 45) : begB s = (decide (bt s 1 = 45) || letB (bt s 1)) := by unfold begB; rw [if_pos ⟨h, h0⟩]

set_option maxRecDepth 100000 in
theorem toList_len (s : ByteArray) : s.toList.length = s.size := by
  rw [ByteArray.toList_eq s]; rfl
set_option maxRecDepth 100000 in
theorem empty_yes (s : ByteArray) (h : s.size = 0) : s.toList.isEmpty = true := by
  rw [List.isEmpty_iff_length_eq_zero, toList_len, h]
set_option maxRecDepth 100000 in
theorem empty_no (s : ByteArray) (h : 0 < s.size) : s.toList.isEmpty = false := by
  have := toList_len s
  cases hl : s.toList with
  | nil => rw [hl] at this; simp at this; omega
  | cons x l => rfl

set_option maxRecDepth 100000 in
set_option maxHeartbeats 1000000 in
theorem begins_any (s : ByteArray) (hs : s.size ≤ maxLen) (w : World) :
    Calls Try.prog 73 #[.string s] w fun e w' => e = .returned (.bool (begB s)) ∧ w = w' := by
  unfold maxLen at hs
  by_cases h0 : s.size = 0
  · rw [begB_0 s h0]
    have e1 := empty_yes s h0
    have h1 : ¬ (1 : Int) < (s.size : Int) := by omega
    have H0 := Lib.hid h0
    clear h0
    go_enter Try.func73, Try.ntmps73
    go_wp2_with fail
    go_ret
    exact ⟨rfl, rfl⟩
  · have h0' : 0 < s.size := by omega
    have e1 := empty_no s h0'
    by_cases h1 : 1 < s.size
    · have h1z : (1 : Int) < (s.size : Int) := by omega
      by_cases hd : bt s 0 = 45
      · rw [begB_2 s h1 hd]
        have hb : (((s[0]'h0').toNat : Int) == 45) = true := by rw [← bt_eq s 0 h0', hd]; rfl
        rw [bt_eq s 1 h1]
        clear hd h0
        cases hc : decide (((s[1]'h1).toNat : Int) = 45)
        · have hc' : (((s[1]'h1).toNat : Int) == 45) = false := by simpa using hc
          clear hc
          go_enter Try.func73, Try.ntmps73
          go_wp2_with (go_at_call 76; refine (letter_any _ _).mono ?_; rintro e w' ⟨rfl, rfl⟩)
          go_ret
          exact ⟨rfl, rfl⟩
        · have hc' : (((s[1]'h1).toNat : Int) == 45) = true := by simpa using hc
          clear hc
          go_enter Try.func73, Try.ntmps73
          go_wp2_with (go_at_call 76; refine (letter_any _ _).mono ?_; rintro e w' ⟨rfl, rfl⟩)
          go_ret
          exact ⟨rfl, rfl⟩
      · rw [begB_1 s h0' (by omega)]
        have hb : (((s[0]'h0').toNat : Int) == 45) = false := by rw [← bt_eq s 0 h0']; simpa using hd
        rw [bt_eq s 0 h0']
        clear hd h0
        go_enter Try.func73, Try.ntmps73
        go_wp2_with (go_at_call 76; refine (letter_any _ _).mono ?_; rintro e w' ⟨rfl, rfl⟩)
        go_ret
        exact ⟨rfl, rfl⟩
    · have h1z : ¬ (1 : Int) < (s.size : Int) := by omega
      rw [begB_1 s h0' (by omega), bt_eq s 0 h0']
      clear h0
      go_enter Try.func73, Try.ntmps73
      go_wp2_with (go_at_call 76; refine (letter_any _ _).mono ?_; rintro e w' ⟨rfl, rfl⟩)
      go_ret
      exact ⟨rfl, rfl⟩

set_option maxRecDepth 100000 in
theorem everyName (s : ByteArray) (hs : s.size ≤ maxLen) (w : World) : Calls Try.prog 74 #[.string s, .func (.func 75) #[] #[]] w fun e w' => e = .returned (.bool (allB goB s)) ∧ w = w' := every_any 75 goB (enters_of Try.func75 (by kernel_rfl) rfl) nameByte_any s hs w
set_option maxRecDepth 100000 in
set_option maxHeartbeats 1000000 in
theorem Name_any (s : ByteArray) (hs : s.size ≤ maxLen) (w : World) :
    Calls Try.prog 64 #[.string s] w fun e w' => e = .returned (.bool (nameB s)) ∧ w = w' := by
  have C1 := Lib.hid (begins_any s hs w)
  have C2 := Lib.hid (everyName s hs w)
  unfold maxLen at hs
  by_cases h : s.size ≤ 32
  · have hz : (s.size : Int) ≤ 32 := by omega
    cases hb : begB s with
    | false =>
      have hn : nameB s = false := by unfold nameB; rw [hb]; simp
      rw [hn]
      have HB := Lib.hid hb
      clear hb hn
      go_enter Try.func64, Try.ntmps64
      go_wp2_with (go_at_call 73; refine C1.out.mono ?_; rintro e w' ⟨rfl, rfl⟩; rw [HB.out])
      go_ret
      exact ⟨rfl, rfl⟩
    | true =>
      have hn : nameB s = allB goB s := by unfold nameB; rw [hb, decide_eq_true h]; rfl
      rw [hn]
      have HB := Lib.hid hb
      clear hb hn
      go_enter Try.func64, Try.ntmps64
      go_wp2_with (first
        | (go_at_call 73; refine C1.out.mono ?_; rintro e w' ⟨rfl, rfl⟩; rw [HB.out])
        | (go_at_call 74; refine C2.out.mono ?_; rintro e w' ⟨rfl, rfl⟩))
      go_ret
      exact ⟨rfl, rfl⟩
  · have hz : ¬ (s.size : Int) ≤ 32 := by omega
    have hn : nameB s = false := by unfold nameB; rw [decide_eq_false h]; rfl
    rw [hn]
    clear hn
    go_enter Try.func64, Try.ntmps64
    go_wp2_with fail
    go_ret
    exact ⟨rfl, rfl⟩

end Go.Proofs.Ytipmgoejdkpknaa

namespace Go.Proofs.Ytipmgoejdkpknaa
open Go.RowKit TreN LexP

/-- a byte by its number -/
def blI (c : Int) : Bool := decide (c = 9 ∨ c = 10 ∨ c = 12 ∨ c = 13 ∨ c = 32)
def dgI (c : Int) : Bool := decide (48 ≤ c ∧ c ≤ 57)
theorem blI_eq (c : UInt8) : blI (c.toNat : Int) = blB c := by unfold blI blB; rw [decide_eq_decide]; omega
theorem dgI_eq (c : UInt8) : dgI (c.toNat : Int) = FixP.isD c := by unfold dgI FixP.isD; rw [Bool.eq_iff_iff]; simp; omega

set_option maxRecDepth 100000 in
set_option maxHeartbeats 1000000 in
theorem blank_any (c : Int) (w : World) : Calls Try.prog 36 #[.int .u8 c] w fun e w' => e = .returned (.bool (blI c)) ∧ w = w' := by
  obtain ⟨v, hv⟩ : ∃ v, blI c = v := ⟨_, rfl⟩
  rw [hv]
  have HV := Lib.hid hv
  clear hv
  have hc : c = 9 ∨ c = 10 ∨ c = 12 ∨ c = 13 ∨ c = 32 ∨ (¬ c = 9 ∧ ¬ c = 10 ∧ ¬ c = 12 ∧ ¬ c = 13 ∧ ¬ c = 32) := by omega
  rcases hc with rfl | rfl | rfl | rfl | rfl | ⟨h1, h2, h3, h4, h5⟩
  all_goals
    try
      have g1 : (c == 9) = false := by rw [beq_eq_false_iff_ne]; exact h1
      have g2 : (c == 10) = false := by rw [beq_eq_false_iff_ne]; exact h2
      have g3 : (c == 12) = false := by rw [beq_eq_false_iff_ne]; exact h3
      have g4 : (c == 13) = false := by rw [beq_eq_false_iff_ne]; exact h4
      have g5 : (c == 32) = false := by rw [beq_eq_false_iff_ne]; exact h5
    go_enter Try.func36, Try.ntmps36
    go_wp2_with fail
    go_ret
    refine ⟨ret_bool ?_, rfl⟩
    rw [← HV.out]
    unfold blI
    first | decide | (symm; simp [h1, h2, h3, h4, h5]) | (simp [h1, h2, h3, h4, h5])

set_option maxRecDepth 100000 in
set_option maxHeartbeats 1000000 in
theorem digit_any (c : Int) (w : World) : Calls Try.prog 63 #[.int .u8 c] w fun e w' => e = .returned (.bool (dgI c)) ∧ w = w' := by
  obtain ⟨v, hv⟩ : ∃ v, dgI c = v := ⟨_, rfl⟩
  rw [hv]
  have HV := Lib.hid hv
  clear hv
  have hc : c < 48 ∨ (48 ≤ c ∧ c ≤ 57) ∨ 57 < c := by omega
  rcases hc with h | h | h
  all_goals
    try obtain ⟨h1, h2⟩ := h
    go_enter Try.func63, Try.ntmps63
    go_wp2_with fail
    go_ret
    refine ⟨ret_bool ?_, rfl⟩
    rw [← HV.out]
    unfold dgI
    first | decide | (rw [Bool.eq_iff_iff]; simp; omega) | (simp; omega) | (symm; simp; omega)

/-- a text's bytes -/
theorem bt_two (c : UInt8) : bt ⟨#[97, c]⟩ 0 = 97 ∧ bt ⟨#[97, c]⟩ 1 = (c.toNat : Int) := ⟨rfl, rfl⟩
theorem name_two (c : UInt8) : nameB ⟨#[97, c]⟩ = gB c := by
  have hs : (ByteArray.mk #[97, c]).size = 2 := rfl
  have hb : begB ⟨#[97, c]⟩ = true := by
    unfold begB
    rw [hs, (bt_two c).1, if_neg (by omega)]
    rfl
  unfold nameB
  rw [hb, hs]
  have h97 : goB (bt ⟨#[97, c]⟩ 0) = true := by rw [(bt_two c).1]; decide
  cases hg : gB c with
  | true =>
    have : allB goB ⟨#[97, c]⟩ = true := allB_true fun j hj => by
      rw [hs] at hj
      rcases j with _ | _ | j
      · exact h97
      · exact hg
      · omega
    rw [this]; rfl
  | false =>
    have : allB goB ⟨#[97, c]⟩ = false := allB_false 1 (by rw [hs]; omega) hg
    rw [this]; rfl
end Go.Proofs.Ytipmgoejdkpknaa

namespace Go.Proofs.Ytipmgoejdkpknaa
open Go.RowKit TreN LexP

theorem two_bytes_run (W : World) (b : Nat) (c d : UInt8) (h0 : W.cell? ⟨b, 0, none⟩ = some (.int .u8 (c.toNat : Int))) (h1 : W.cell? ⟨b, 1, none⟩ = some (.int .u8 (d.toNat : Int))) :
    (convert 43 9 (.slice (some ⟨b, 0, none⟩) 2 2)).run Try.prog W = .ok (.string ⟨#[c, d]⟩) W := by
  refine run_convert_bytes_back W _ _ 5 ⟨b, 0, none⟩ 2 [c, d] Try.underlying43 Try.underlying5 Try.underlying9 ?_
  intro j hj
  have ha : (⟨b, 0, none⟩ : Addr).add j = ⟨b, j, none⟩ := by simp [Addr.add]; exact fun h => h.symm
  rw [ha]
  rcases j with _ | _ | j
  · exact h0
  · exact h1
  · simp at hj; omega

set_option maxRecDepth 100000 in
set_option maxHeartbeats 1000000 in
theorem ofName_any (c : UInt8) (w : World) : Calls Try.prog 38 #[.int .u8 (c.toNat : Int)] w fun e w' => e = .returned (.bool (gB c)) ∧ Below w.heap.size w w' := by
  have hcv := two_bytes_run (w.alloc (.cells #[.int .u8 97, .int .u8 (c.toNat : Int)] 5)) w.heap.size 97 c (by rw [World.cell?_alloc_at _ _ _ _ rfl]; rfl) (by rw [World.cell?_alloc_at _ _ _ _ rfl]; rfl)
  have C := fun W => Name_any ⟨#[97, c]⟩ (by unfold maxLen; show 2 ≤ _; omega) W
  rw [name_two] at C
  have HC := Lib.hid C
  clear C
  go_enter Try.func38, Try.ntmps38
  go_wp2_with (go_at_call 64; refine (HC.out _).mono ?_; rintro e w' ⟨rfl, rfl⟩)
  go_ret
  exact ⟨rfl, (Below.refl _ _).alloc (Nat.le_refl _) _⟩

theorem len_data (s : ByteArray) : s.data.toList.length = s.size := by rw [Array.length_toList]; rfl
theorem ba_ext {s t : ByteArray} (h : s.data.toList = t.data.toList) : s = t := by
  obtain ⟨⟨l⟩⟩ := s; obtain ⟨⟨m⟩⟩ := t; simp at h; rw [h]
theorem ext_list (s : ByteArray) (a b : Nat) : (s.extract a b).data.toList = (s.data.toList.drop a).take (b - a) := by
  rw [ByteArray.data_extract, Array.toList_extract, List.extract_eq_take_drop]

set_option maxRecDepth 100000 in
set_option maxHeartbeats 1000000 in
theorem beginsL_any (s : ByteArray) (a : Nat) (w : World) (ha : a ≤ s.size) : Calls Try.prog 39 #[.string s, .int .i64 (a : Int)] w fun e w' => e = .returned (.bool (startsL (s.data.toList.drop a))) ∧ w = w' := by
  have C := Lib.hid fun (t : ByteArray) (ht : t.size ≤ maxLen) (W : World) => Name_any t ht W
  have hl : s.size - a = (s.data.toList.drop a).length := by rw [List.length_drop, len_data]
  have he : (s.extract a s.size).data.toList = s.data.toList.drop a := Lib.extract_to_end s a
  obtain ⟨r, hr⟩ : ∃ r, s.data.toList.drop a = r := ⟨_, rfl⟩
  rw [hr] at hl he ⊢
  rcases r with _ | ⟨c, _ | ⟨d, r⟩⟩
  · have hn : ∀ k, nameB ((s.extract a s.size).extract 0 k) = false := fun k => by
      have : (s.extract a s.size).extract 0 k = ⟨#[]⟩ := ba_ext (by rw [ext_list, he]; simp)
      rw [this]; exact name_0
    have hz : ∀ k, ((s.extract a s.size).extract 0 k).size ≤ maxLen := fun k => by
      have : (s.extract a s.size).extract 0 k = ⟨#[]⟩ := ba_ext (by rw [ext_list, he]; simp)
      rw [this]; unfold maxLen; show 0 ≤ _; omega
    have HN := Lib.hid hn
    have HZ := Lib.hid hz
    have hl0 : s.size - a ≤ 0 := by rw [hl]; exact Nat.le_refl _
    clear hn hz hl he hr
    go_enter Try.func39, Try.ntmps39
    go_wp2_with (go_at_call 64; refine (C.out _ (HZ.out _) _).mono ?_; rintro e w' ⟨rfl, rfl⟩; rw [HN.out])
    go_ret
    exact ⟨rfl, rfl⟩
  · have hq : ∀ k : Int, 1 ≤ k → (s.extract a s.size).extract 0 (min k ((s.size - a : Nat) : Int)).toNat = ⟨#[c]⟩ := fun k hk => ba_ext (by
      rw [ext_list, he, hl]
      have : (min k (([c].length : Nat) : Int)).toNat = 1 := by simp; omega
      rw [this]; rfl)
    have hz : (⟨#[c]⟩ : ByteArray).size ≤ maxLen := by unfold maxLen; show 1 ≤ _; omega
    have h1 := hq 1 (by omega)
    have h2 := hq 2 (by omega)
    have hst := starts_1 c
    have HS := Lib.hid hst
    have H1 := Lib.hid h1
    have H2 := Lib.hid h2
    have HZ := Lib.hid hz
    clear hl he hr hq h1 h2 hst hz
    rw [HS.out]
    cases hb : n1B c with
    | true =>
      have HB := Lib.hid hb
      clear hb
      go_enter Try.func39, Try.ntmps39
      go_wp2_with (go_at_call 64; rw [H1.out]; refine (C.out _ HZ.out _).mono ?_; rintro e w' ⟨rfl, rfl⟩; rw [name_1, HB.out])
      go_ret
      exact ⟨rfl, rfl⟩
    | false =>
      have HB := Lib.hid hb
      clear hb
      go_enter Try.func39, Try.ntmps39
      go_wp2_with (go_at_call 64; (first | rw [H1.out] | rw [H2.out]); refine (C.out _ HZ.out _).mono ?_; rintro e w' ⟨rfl, rfl⟩; rw [name_1, HB.out])
      go_ret
      exact ⟨rfl, rfl⟩
  · have h1 : (s.extract a s.size).extract 0 (min 1 ((s.size - a : Nat) : Int)).toNat = ⟨#[c]⟩ := ba_ext (by
      rw [ext_list, he, hl]
      have : (min 1 (((c :: d :: r).length : Nat) : Int)).toNat = 1 := by simp only [List.length_cons]; omega
      rw [this]; rfl)
    have h2 : (s.extract a s.size).extract 0 (min 2 ((s.size - a : Nat) : Int)).toNat = ⟨#[c, d]⟩ := ba_ext (by
      rw [ext_list, he, hl]
      have : (min 2 (((c :: d :: r).length : Nat) : Int)).toNat = 2 := by simp only [List.length_cons]; omega
      rw [this]; rfl)
    have hz : (⟨#[c]⟩ : ByteArray).size ≤ maxLen := by unfold maxLen; show 1 ≤ _; omega
    have hz2 : (⟨#[c, d]⟩ : ByteArray).size ≤ maxLen := by unfold maxLen; show 2 ≤ _; omega
    have hst := starts_2 c d r
    have HS := Lib.hid hst
    have H1 := Lib.hid h1
    have H2 := Lib.hid h2
    have HZ := Lib.hid hz
    have HZ2 := Lib.hid hz2
    clear hl he hr h1 h2 hst hz hz2
    rw [HS.out]
    cases hb : n1B c with
    | true =>
      have HB := Lib.hid hb
      clear hb
      go_enter Try.func39, Try.ntmps39
      go_wp2_with (go_at_call 64; rw [H1.out]; refine (C.out _ HZ.out _).mono ?_; rintro e w' ⟨rfl, rfl⟩; rw [name_1, HB.out])
      go_ret
      exact ⟨rfl, rfl⟩
    | false =>
      have HB := Lib.hid hb
      clear hb
      go_enter Try.func39, Try.ntmps39
      go_wp2_with (go_at_call 64; (first | (rw [H1.out]; refine (C.out _ HZ.out _).mono ?_; rintro e w' ⟨rfl, rfl⟩; rw [name_1, HB.out]) | (rw [H2.out]; refine (C.out _ HZ2.out _).mono ?_; rintro e w' ⟨rfl, rfl⟩; rw [name_2])))
      go_ret
      exact ⟨by simp, rfl⟩

set_option maxRecDepth 100000 in
set_option maxHeartbeats 1000000 in
theorem behind_any (s : ByteArray) (a : Nat) (w : World) (m : Int) (hs : s.size < 4294967281) (ha : a ≤ s.size) (hm : w.cell? ⟨0, 0, none⟩ = some (.int .i64 m)) : Calls Try.prog 40 #[.string s, .int .i64 (a : Int), .string ⟨#[42, 47]⟩] w fun e w' => e = .returned (.int .i64 ((a + endC (s.data.toList.drop a) : Nat) : Int)) ∧ w = w' := by
  have hsz : (s.extract a s.size).size < 4294967281 := by rw [← len_data, Lib.extract_to_end, List.length_drop, len_data]; omega
  have C := Try.strings_Index (s.extract a s.size) ⟨#[42, 47]⟩ m w hsz hm
  rw [Lib.extract_to_end] at C
  have C : Calls Try.prog 65 #[.string (s.extract a s.size), .string ⟨#[42, 47]⟩] w fun e w' => e = .returned (.int .i64 (Lib.index (s.data.toList.drop a) [42, 47])) ∧ w' = w := C
  have hlen : (s.data.toList.drop a).length = s.size - a := by rw [List.length_drop, len_data]
  rcases index_end (s.data.toList.drop a) with ⟨h1, h2⟩ | ⟨i, h1, h2, h3⟩
  · rw [h1] at C
    have e : a + endC (s.data.toList.drop a) = s.size := by rw [h2, hlen]; omega
    rw [e]
    have HC := Lib.hid C
    clear C h1 h2 hlen hm e
    go_enter Try.func40, Try.ntmps40
    go_wp2_with (go_at_call 65; refine (HC.out).mono ?_; rintro e w' ⟨rfl, rfl⟩)
    go_ret
    exact ⟨rfl, rfl⟩
  · rw [h1] at C
    have h4 : a + i + 2 ≤ s.size := by rw [hlen] at h3; omega
    have e : a + endC (s.data.toList.drop a) = a + i + 2 := by rw [h2]; omega
    rw [e]
    have HC := Lib.hid C
    clear C h1 h2 h3 hlen hm e
    have hi0 : (0 : Int) ≤ (i : Int) := by omega
    go_enter Try.func40, Try.ntmps40
    go_wp2_with (go_at_call 65; refine (HC.out).mono ?_; rintro e w' ⟨rfl, rfl⟩)
    go_ret
    exact ⟨ret_int (by omega), rfl⟩
end Go.Proofs.Ytipmgoejdkpknaa
