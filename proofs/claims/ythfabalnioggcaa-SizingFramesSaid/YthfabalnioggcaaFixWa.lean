/- Joined texts: FixW1 FixW2 FixW3 FixW4. -/
import Derived.Test.YthfabalnioggcaaProg
import Derived.Test.YthfabalnioggcaaFixAll
import Derived.WalkKit
import Derived.WalkSpells
import Derived.WalkLawsBesides
import Derived.Deep.QuietTactic
import Derived.BigQuiet
import Derived.Lib.Hide
import Derived.Deep.LoopGhost
import Derived.Shelf.Abstract
import Derived.Laws.EntriesVeiled
namespace Go.Proofs.Ythfabalnioggcaa
open Go.RowKit FixM

theorem ret_intF {k : IntKind} {a b : Int} (h : a = b) : Ending.returned (.int k a) = .returned (.int k b) := by rw [h]

set_option maxRecDepth 100000 in
set_option maxHeartbeats 400000 in
theorem hold_any (x : Int) (w : World) :
    Calls Try.prog 52 #[.int .i64 x] w fun e w' => e = .returned (.int .i64 (H x)) ∧ w = w' := by
  go_enter Try.func52, Try.ntmps52
  go_wp2
  all_goals go_ret
  all_goals (refine ⟨ret_intF ?_, rfl⟩; unfold H; repeat' split <;> omega)

set_option maxRecDepth 100000 in
set_option maxHeartbeats 400000 in
theorem refHold_any (x : Int) (w : World) :
    Calls Try.prog 14 #[.int .i64 x] w fun e w' => e = .returned (.int .i64 (H x)) ∧ w = w' := by
  go_enter Try.func14, Try.ntmps14
  go_wp2
  all_goals go_ret
  all_goals (refine ⟨ret_intF ?_, rfl⟩; unfold H; repeat' split <;> omega)

set_option maxRecDepth 100000 in
set_option maxHeartbeats 400000 in
theorem Hold_any (x : Int) (w : World) :
    Calls Try.prog 33 #[.int .i64 x] w fun e w' => e = .returned (.int .i64 (H x)) ∧ w = w' := by
  go_enter Try.func33, Try.ntmps33
  go_wp2_with (go_at_call 52; refine (hold_any _ _).mono ?_; rintro e w' ⟨rfl, rfl⟩)
  go_ret
  exact ⟨rfl, rfl⟩

set_option maxRecDepth 100000 in
set_option maxHeartbeats 400000 in
theorem Add_any (a b : Int) (w : World) :
    Calls Try.prog 54 #[.int .i64 a, .int .i64 b] w fun e w' => e = .returned (.int .i64 (H (H a + H b))) ∧ w = w' := by
  have ha := H_bd a
  have hb := H_bd b
  go_enter Try.func54, Try.ntmps54
  go_wp2_with (first
    | (go_at_call 33; refine (Hold_any _ _).mono ?_; rintro e w' ⟨rfl, rfl⟩)
    | (go_at_call 52; refine (hold_any _ _).mono ?_; rintro e w' ⟨rfl, rfl⟩))
  go_ret
  exact ⟨rfl, rfl⟩

set_option maxRecDepth 100000 in
set_option maxHeartbeats 400000 in
theorem Sub_any (a b : Int) (w : World) :
    Calls Try.prog 75 #[.int .i64 a, .int .i64 b] w fun e w' => e = .returned (.int .i64 (H (H a - H b))) ∧ w = w' := by
  have ha := H_bd a
  have hb := H_bd b
  go_enter Try.func75, Try.ntmps75
  go_wp2_with (first
    | (go_at_call 33; refine (Hold_any _ _).mono ?_; rintro e w' ⟨rfl, rfl⟩)
    | (go_at_call 52; refine (hold_any _ _).mono ?_; rintro e w' ⟨rfl, rfl⟩))
  go_ret
  exact ⟨rfl, rfl⟩

set_option maxRecDepth 100000 in
set_option maxHeartbeats 400000 in
theorem floor_any (p d : Int) (w : World) (h1 : -1152921504606846976 ≤ p) (h2 : p ≤ 1152921504606846976) (hd : d ≠ 0) :
    Calls Try.prog 76 #[.int .i64 p, .int .i64 d] w fun e w' => e = .returned (.int .i64 (FL p d)) ∧ w = w' := by
  have hb := tdiv_bd p d _ h1 h2
  go_enter Try.func76, Try.ntmps76
  go_wp2
  all_goals go_ret
  all_goals refine ⟨ret_intF ?_, rfl⟩
  all_goals rw [FL_go p d hd]
  all_goals simp_all

set_option maxRecDepth 100000 in
set_option maxHeartbeats 400000 in
theorem Floor_pos (p d : Int) (w : World) (h1 : -1152921504606846976 ≤ p) (h2 : p ≤ 1152921504606846976) (hd : 0 < d) (hd2 : d ≤ 1073741824) :
    Calls Try.prog 53 #[.int .i64 p, .int .i64 d] w fun e w' => e = .returned (.int .i64 (FL p d)) ∧ w = w' := by
  have hf := FL_bd p d _ (by omega) h1 h2
  have hr := ref_form p d hd
  rw [FL_pos p d hd] at hf ⊢
  have hb : 0 ≤ p ∨ -1152921504606846977 ≤ -((d - 1 - p) / d) ∧ -((d - 1 - p) / d) ≤ 1152921504606846977 := by omega
  have hw : wrap64 (-((d - 1 - p) / d)) = p / d := by rw [IntWalk.wrap64_in _ ⟨by omega, by omega⟩, hr]
  have HW := Lib.hid hw
  clear hf hr hb hw
  go_enter Try.func53, Try.ntmps53
  go_wp2_with fail
  all_goals go_ret
  all_goals refine ⟨ret_intF ?_, rfl⟩
  · rfl
  · exact HW.out

set_option maxRecDepth 100000 in
set_option maxHeartbeats 400000 in
theorem Floor_any (p d : Int) (w : World) (h1 : -1152921504606846976 ≤ p) (h2 : p ≤ 1152921504606846976) (hd : d ≠ 0) (hd1 : -1073741824 ≤ d) (hd2 : d ≤ 1073741824) :
    Calls Try.prog 53 #[.int .i64 p, .int .i64 d] w fun e w' => e = .returned (.int .i64 (FL p d)) ∧ w = w' := by
  by_cases h : 0 < d
  · exact Floor_pos p d w h1 h2 h hd2
  · have hn : d < 0 := by omega
    clear h hd
    rw [← FL_neg_neg]
    go_enter Try.func53, Try.ntmps53
    go_wp2_with (go_at_call 53; refine (Floor_pos (-p) (-d) _ (by omega) (by omega) (by omega) (by omega)).mono ?_; rintro e w' ⟨rfl, rfl⟩)
    go_ret
    exact ⟨rfl, rfl⟩

set_option maxRecDepth 100000 in
set_option maxHeartbeats 400000 in
theorem Part_any (a n d : Int) (w : World) :
    Calls Try.prog 63 #[.int .i64 a, .int .i64 n, .int .i64 d] w fun e w' => e = .returned (.int .i64 (PT a n d)) ∧ w = w' := by
  have hb := prod_bd a n
  have ha := H_bd a
  have hn := H_bd n
  by_cases h : d = 0
  · subst h
    go_enter Try.func63, Try.ntmps63
    go_wp2_with fail
    go_ret
    exact ⟨rfl, rfl⟩
  · have hd : H d ≠ 0 := fun e => h (H_zero.1 e)
    have hp : PT a n d = H (FL (H a * H n) (H d)) := by unfold PT; rw [if_neg h]
    have HP := Lib.hid hp
    have HD := Lib.hid hd
    have HB := Lib.hid hb
    clear hp hd
    go_enter Try.func63, Try.ntmps63
    go_wp2_with (first
      | (go_at_call 33; refine (Hold_any _ _).mono ?_; rintro e w' ⟨rfl, rfl⟩)
      | (go_at_call 76; refine (floor_any _ _ _ HB.out.1 HB.out.2 HD.out).mono ?_; rintro e w' ⟨rfl, rfl⟩)
      | (go_at_call 52; refine (hold_any _ _).mono ?_; rintro e w' ⟨rfl, rfl⟩))
    go_ret
    exact ⟨ret_intF HP.out.symm, rfl⟩

set_option maxRecDepth 100000 in
set_option maxHeartbeats 400000 in
theorem refPart_any (a n d : Int) (w : World) :
    Calls Try.prog 34 #[.int .i64 a, .int .i64 n, .int .i64 d] w fun e w' => e = .returned (.int .i64 (PT a n d)) ∧ w = w' := by
  have hb := prod_bd a n
  have ha := H_bd a
  have hn := H_bd n
  have hdd := H_bd d
  by_cases h : d = 0
  · subst h
    have h0 : (H 0 == 0) = true := by decide
    go_enter Try.func34, Try.ntmps34
    go_wp2_with (go_at_call 14; refine (refHold_any _ _).mono ?_; rintro e w' ⟨rfl, rfl⟩)
    go_ret
    exact ⟨rfl, rfl⟩
  · have hd : H d ≠ 0 := fun e => h (H_zero.1 e)
    have hd0 : (H d == 0) = false := by simpa using hd
    have hp : PT a n d = H (FL (H a * H n) (H d)) := by unfold PT; rw [if_neg h]
    have HP := Lib.hid hp
    have HD := Lib.hid hd
    have HB := Lib.hid hb
    clear hp hd
    go_enter Try.func34, Try.ntmps34
    go_wp2_with (first
      | (go_at_call 14; refine (refHold_any _ _).mono ?_; rintro e w' ⟨rfl, rfl⟩)
      | (go_at_call 53; refine (Floor_any _ _ _ HB.out.1 HB.out.2 HD.out hdd.1 hdd.2).mono ?_; rintro e w' ⟨rfl, rfl⟩))
    go_ret
    exact ⟨ret_intF HP.out.symm, rfl⟩

set_option maxRecDepth 100000 in
set_option maxHeartbeats 400000 in
theorem Percent_any (b n : Int) (w : World) :
    Calls Try.prog 66 #[.int .i64 b, .int .i64 n] w fun e w' => e = .returned (.int .i64 (PT b n 100000)) ∧ w = w' := by
  go_enter Try.func66, Try.ntmps66
  go_wp2_with (go_at_call 63; refine (Part_any _ _ _ _).mono ?_; rintro e w' ⟨rfl, rfl⟩)
  go_ret
  exact ⟨rfl, rfl⟩
end Go.Proofs.Ythfabalnioggcaa

namespace Go.Proofs.Ythfabalnioggcaa
open Go.RowKit FixM FixP

theorem len_list (s : ByteArray) : s.data.toList.length = s.size := by rw [Array.length_toList]; rfl
theorem bd_yes (s : ByteArray) (k : Nat) (h : k < s.size) (h1 : 48 ≤ (s[k].toNat : Int)) (h2 : (s[k].toNat : Int) ≤ 57) : nd s.data.toList k = nd s.data.toList (k + 1) + 1 :=
  nd_yes (by rw [len_list]; exact h) ((isD_iff _).2 (show 48 ≤ s[k].toNat ∧ s[k].toNat ≤ 57 by omega))
theorem bd_no (s : ByteArray) (k : Nat) (h : k < s.size) (h1 : (s[k].toNat : Int) < 48 ∨ 57 < (s[k].toNat : Int)) : nd s.data.toList k = 0 :=
  nd_no (by rw [len_list]; exact h) ((isD_no _).2 (show s[k].toNat < 48 ∨ 57 < s[k].toNat by omega))

end Go.Proofs.Ythfabalnioggcaa

namespace Go.Proofs.Ythfabalnioggcaa
open Go.RowKit FixM FixP

/-- WHAT IS ASKED OF THE FUNCTION that is told the digits: from state to state. -/
def Takes {σ : Type} (W : σ → World) (Inv : σ → Prop) (step : σ → Int → σ) (g : Nat) (cb : Array Value) : Prop :=
  ∀ (st : σ) (d : Int), Inv st → 0 ≤ d → d ≤ 9 → Inv (step st d) ∧ Calls Try.prog g (#[.int .i64 d] ++ cb) (W st) fun e w' => e = .returned (.tuple #[]) ∧ W (step st d) = w'

end Go.Proofs.Ythfabalnioggcaa

namespace Go.Proofs.Ythfabalnioggcaa
open Go.RowKit FixM FixP

theorem beg_pos (s : ByteArray) (h : 0 < s.size) : beg s.data.toList = if s[0].toNat = 43 ∨ s[0].toNat = 45 then 1 else 0 := by
  have hl : 0 < s.data.toList.length := by rw [len_list]; exact h
  exact beg_cons hl
theorem beg_none (s : ByteArray) (h : ¬ 0 < s.size) : beg s.data.toList = 0 := by
  have hl : s.data.toList.length = 0 := by rw [len_list]; omega
  rw [List.eq_nil_of_length_eq_zero hl]; rfl
theorem sgnd_eq (s : ByteArray) (h : 0 < s.size) (n : Int) : sgnd s.data.toList n = if s[0].toNat = 45 then -n else n := by
  have hl : 0 < s.data.toList.length := by rw [len_list]; exact h
  exact sgnd_cons hl n
theorem toList_lenF (s : ByteArray) : s.toList.length = s.size := by
  rw [ByteArray.toList_eq]; exact len_list s
theorem empty_noF (s : ByteArray) (h : 0 < s.size) : s.toList.isEmpty = false := by
  have := toList_lenF s
  cases e : s.toList with
  | nil => rw [e] at this; simp at this; omega
  | cons a l => rfl
theorem empty_yesF (s : ByteArray) (h : ¬ 0 < s.size) : s.toList = [] := by
  have := toList_lenF s
  exact List.eq_nil_of_length_eq_zero (by omega)

end Go.Proofs.Ythfabalnioggcaa
