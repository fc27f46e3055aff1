/- Joined texts: FixW1 FixW2 FixW3 FixW4. -/
import Derived.Test.YtlngipglhlhhbaaProg
import Derived.Test.YtlngipglhlhhbaaFixAll
import Derived.WalkKit
import Derived.WalkSpells
import Derived.WalkLawsBesides
import Derived.Deep.QuietTactic
import Derived.BigQuiet
import Derived.Lib.Hide
import Derived.Deep.LoopGhost
import Derived.Shelf.Abstract
import Derived.Laws.EntriesVeiled
namespace Go.Proofs.Ytlngipglhlhhbaa
open Go.RowKit FixM

theorem ret_intF {k : IntKind} {a b : Int} (h : a = b) : Ending.returned (.int k a) = .returned (.int k b) := by rw [h]

set_option maxRecDepth 100000 in
set_option maxHeartbeats 400000 in
theorem hold_any (x : Int) (w : World) :
    Calls Try.prog 50 #[.int .i64 x] w fun e w' => e = .returned (.int .i64 (H x)) ∧ w = w' := by
  go_enter Try.func50, Try.ntmps50
  go_wp2
  all_goals go_ret
  all_goals (refine ⟨ret_intF ?_, rfl⟩; unfold H; repeat' split <;> omega)

set_option maxRecDepth 100000 in
set_option maxHeartbeats 400000 in
theorem Hold_any (x : Int) (w : World) :
    Calls Try.prog 49 #[.int .i64 x] w fun e w' => e = .returned (.int .i64 (H x)) ∧ w = w' := by
  go_enter Try.func49, Try.ntmps49
  go_wp2_with (go_at_call 50; refine (hold_any _ _).mono ?_; rintro e w' ⟨rfl, rfl⟩)
  go_ret
  exact ⟨rfl, rfl⟩

set_option maxRecDepth 100000 in
set_option maxHeartbeats 400000 in
theorem floor_any (p d : Int) (w : World) (h1 : -1152921504606846976 ≤ p) (h2 : p ≤ 1152921504606846976) (hd : d ≠ 0) :
    Calls Try.prog 51 #[.int .i64 p, .int .i64 d] w fun e w' => e = .returned (.int .i64 (FL p d)) ∧ w = w' := by
  have hb := tdiv_bd p d _ h1 h2
  go_enter Try.func51, Try.ntmps51
  go_wp2
  all_goals go_ret
  all_goals refine ⟨ret_intF ?_, rfl⟩
  all_goals rw [FL_go p d hd]
  all_goals simp_all

set_option maxRecDepth 100000 in
set_option maxHeartbeats 400000 in
theorem Part_any (a n d : Int) (w : World) :
    Calls Try.prog 39 #[.int .i64 a, .int .i64 n, .int .i64 d] w fun e w' => e = .returned (.int .i64 (PT a n d)) ∧ w = w' := by
  have hb := prod_bd a n
  have ha := H_bd a
  have hn := H_bd n
  by_cases h : d = 0
  · subst h
    go_enter Try.func39, Try.ntmps39
    go_wp2_with fail
    go_ret
    exact ⟨rfl, rfl⟩
  · have hd : H d ≠ 0 := fun e => h (H_zero.1 e)
    have hp : PT a n d = H (FL (H a * H n) (H d)) := by unfold PT; rw [if_neg h]
    have HP := Lib.hid hp
    have HD := Lib.hid hd
    have HB := Lib.hid hb
    clear hp hd
    go_enter Try.func39, Try.ntmps39
    go_wp2_with (first
      | (go_at_call 49; refine (Hold_any _ _).mono ?_; rintro e w' ⟨rfl, rfl⟩)
      | (go_at_call 51; refine (floor_any _ _ _ HB.out.1 HB.out.2 HD.out).mono ?_; rintro e w' ⟨rfl, rfl⟩)
      | (go_at_call 50; refine (hold_any _ _).mono ?_; rintro e w' ⟨rfl, rfl⟩))
    go_ret
    exact ⟨ret_intF HP.out.symm, rfl⟩

set_option maxRecDepth 100000 in
set_option maxHeartbeats 400000 in
theorem Px_any (n : Int) (w : World) :
    Calls Try.prog 52 #[.int .i64 n] w fun e w' => e = .returned (.int .i64 (PT n 64 1000)) ∧ w = w' := by
  go_enter Try.func52, Try.ntmps52
  go_wp2_with (go_at_call 39; refine (Part_any _ _ _ _).mono ?_; rintro e w' ⟨rfl, rfl⟩)
  go_ret
  exact ⟨rfl, rfl⟩

set_option maxRecDepth 100000 in
set_option maxHeartbeats 400000 in
theorem Percent_any (b n : Int) (w : World) :
    Calls Try.prog 24 #[.int .i64 b, .int .i64 n] w fun e w' => e = .returned (.int .i64 (PT b n 100000)) ∧ w = w' := by
  go_enter Try.func24, Try.ntmps24
  go_wp2_with (go_at_call 39; refine (Part_any _ _ _ _).mono ?_; rintro e w' ⟨rfl, rfl⟩)
  go_ret
  exact ⟨rfl, rfl⟩
end Go.Proofs.Ytlngipglhlhhbaa

namespace Go.Proofs.Ytlngipglhlhhbaa
open Go.RowKit FixM FixP

theorem len_list (s : ByteArray) : s.data.toList.length = s.size := by rw [Array.length_toList]; rfl
theorem bd_yes (s : ByteArray) (k : Nat) (h : k < s.size) (h1 : 48 ≤ (s[k].toNat : Int)) (h2 : (s[k].toNat : Int) ≤ 57) : nd s.data.toList k = nd s.data.toList (k + 1) + 1 :=
  nd_yes (by rw [len_list]; exact h) ((isD_iff _).2 (show 48 ≤ s[k].toNat ∧ s[k].toNat ≤ 57 by omega))
theorem bd_no (s : ByteArray) (k : Nat) (h : k < s.size) (h1 : (s[k].toNat : Int) < 48 ∨ 57 < (s[k].toNat : Int)) : nd s.data.toList k = 0 :=
  nd_no (by rw [len_list]; exact h) ((isD_no _).2 (show s[k].toNat < 48 ∨ 57 < s[k].toNat by omega))

end Go.Proofs.Ytlngipglhlhhbaa

namespace Go.Proofs.Ytlngipglhlhhbaa
open Go.RowKit FixM FixP

/-- WHAT IS ASKED OF THE FUNCTION that is told the digits: from state to state. -/
def Takes {σ : Type} (W : σ → World) (Inv : σ → Prop) (step : σ → Int → σ) (g : Nat) (cb : Array Value) : Prop :=
  ∀ (st : σ) (d : Int), Inv st → 0 ≤ d → d ≤ 9 → Inv (step st d) ∧ Calls Try.prog g (#[.int .i64 d] ++ cb) (W st) fun e w' => e = .returned (.tuple #[]) ∧ W (step st d) = w'

end Go.Proofs.Ytlngipglhlhhbaa

namespace Go.Proofs.Ytlngipglhlhhbaa
open Go.RowKit FixM FixP

theorem beg_pos (s : ByteArray) (h : 0 < s.size) : beg s.data.toList = if s[0].toNat = 43 ∨ s[0].toNat = 45 then 1 else 0 := by
  have hl : 0 < s.data.toList.length := by rw [len_list]; exact h
  exact beg_cons hl
theorem beg_none (s : ByteArray) (h : ¬ 0 < s.size) : beg s.data.toList = 0 := by
  have hl : s.data.toList.length = 0 := by rw [len_list]; omega
  rw [List.eq_nil_of_length_eq_zero hl]; rfl
theorem sgnd_eq (s : ByteArray) (h : 0 < s.size) (n : Int) : sgnd s.data.toList n = if s[0].toNat = 45 then -n else n := by
  have hl : 0 < s.data.toList.length := by rw [len_list]; exact h
  exact sgnd_cons hl n
theorem toList_lenF (s : ByteArray) : s.toList.length = s.size := by
  rw [ByteArray.toList_eq]; exact len_list s
theorem empty_noF (s : ByteArray) (h : 0 < s.size) : s.toList.isEmpty = false := by
  have := toList_lenF s
  cases e : s.toList with
  | nil => rw [e] at this; simp at this; omega
  | cons a l => rfl
theorem empty_yesF (s : ByteArray) (h : ¬ 0 < s.size) : s.toList = [] := by
  have := toList_lenF s
  exact List.eq_nil_of_length_eq_zero (by omega)

end Go.Proofs.Ytlngipglhlhhbaa
