/- Joined texts: FixW1 FixW2 FixW3 FixW4. -/
import Derived.Test.YtipmgoejdkpknaaProg
import Derived.Test.YtipmgoejdkpknaaFixAll
import Derived.WalkKit
import Derived.WalkSpells
import Derived.WalkLawsBesides
import Derived.Deep.QuietTactic
import Derived.BigQuiet
import Derived.Lib.Hide
import Derived.Deep.LoopGhost
import Derived.Shelf.Abstract
import Derived.Laws.EntriesVeiled
namespace Go.Proofs.Ytipmgoejdkpknaa
open Go.RowKit FixM

theorem ret_intF {k : IntKind} {a b : Int} (h : a = b) : Ending.returned (.int k a) = .returned (.int k b) := by rw [h]

set_option maxRecDepth 100000 in
set_option maxHeartbeats 400000 in
theorem hold_any (x : Int) (w : World) :
    Calls Try.prog 72 #[.int .i64 x] w fun e w' => e = .returned (.int .i64 (H x)) ∧ w = w' := by
  go_enter Try.func72, Try.ntmps72
  go_wp2
  all_goals go_ret
  all_goals (refine ⟨ret_intF ?_, rfl⟩; unfold H; repeat' split <;> omega)

set_option maxRecDepth 100000 in
set_option maxHeartbeats 400000 in
theorem refHold_any (x : Int) (w : World) :
    Calls Try.prog 59 #[.int .i64 x] w fun e w' => e = .returned (.int .i64 (H x)) ∧ w = w' := by
  go_enter Try.func59, Try.ntmps59
  go_wp2
  all_goals go_ret
  all_goals (refine ⟨ret_intF ?_, rfl⟩; unfold H; repeat' split <;> omega)

set_option maxRecDepth 100000 in
set_option maxHeartbeats 400000 in
theorem Hold_any (x : Int) (w : World) :
    Calls Try.prog 57 #[.int .i64 x] w fun e w' => e = .returned (.int .i64 (H x)) ∧ w = w' := by
  go_enter Try.func57, Try.ntmps57
  go_wp2_with (go_at_call 72; refine (hold_any _ _).mono ?_; rintro e w' ⟨rfl, rfl⟩)
  go_ret
  exact ⟨rfl, rfl⟩

end Go.Proofs.Ytipmgoejdkpknaa

namespace Go.Proofs.Ytipmgoejdkpknaa
open Go.RowKit FixM FixP

theorem len_list (s : ByteArray) : s.data.toList.length = s.size := by rw [Array.length_toList]; rfl
theorem bd_yes (s : ByteArray) (k : Nat) (h : k < s.size) (h1 : 48 ≤ (s[k].toNat : Int)) (h2 : (s[k].toNat : Int) ≤ 57) : nd s.data.toList k = nd s.data.toList (k + 1) + 1 :=
  nd_yes (by rw [len_list]; exact h) ((isD_iff _).2 (show 48 ≤ s[k].toNat ∧ s[k].toNat ≤ 57 by omega))
theorem bd_no (s : ByteArray) (k : Nat) (h : k < s.size) (h1 : (s[k].toNat : Int) < 48 ∨ 57 < (s[k].toNat : Int)) : nd s.data.toList k = 0 :=
  nd_no (by rw [len_list]; exact h) ((isD_no _).2 (show s[k].toNat < 48 ∨ 57 < s[k].toNat by omega))

set_option maxRecDepth 100000 in
set_option maxHeartbeats 400000 in
/-- 'Digits' of the reference: how many digits stand from a place on. -/
theorem Digits_any (s : ByteArray) (a : Nat) (w : World) (hs : s.size ≤ 9223372036854775807) (ha : a ≤ s.size) :
    Calls Try.prog 68 #[.string s, .int .i64 a] w fun e w' => e = .returned (.int .i64 (nd s.data.toList a)) ∧ w = w' := by
  go_enter Try.func68, Try.ntmps68
  go_wp2
  go_loop [1, 5] (fun i n => ∃ k m : Nat, a ≤ k ∧ k ≤ s.size ∧ i = .int .i64 k ∧ n = .int .i64 m ∧ m ≤ k ∧ Hid (m + nd s.data.toList k = nd s.data.toList a)) (fun i _ => s.size - (intOf i).toNat)
  case atStart => exact ⟨a, 0, Nat.le_refl _, ha, rfl, rfl, by omega, Nat.zero_add _⟩
  case round =>
    obtain ⟨k, m, hak, hk, rfl, rfl, hm, HR⟩ := hrel
    by_cases hlt : k < s.size
    · go_wp2
      · go_round
        case rel =>
          have h := bd_yes s k hlt ‹_› ‹_›
          have := HR.out
          exact ⟨k + 1, m + 1, by omega, by omega, by go_num, by go_num, by omega, by show _ = _; omega⟩
        case measure => simp [intOf]; omega
      · go_ret
        have h := bd_no s k hlt (Or.inr ‹_›)
        have := HR.out
        exact ⟨ret_intF (by omega), rfl⟩
      · go_ret
        have h := bd_no s k hlt (Or.inl ‹_›)
        have := HR.out
        exact ⟨ret_intF (by omega), rfl⟩
    · have h : nd s.data.toList k = 0 := nd_end (by rw [len_list]; omega)
      have HN := Lib.hid h
      clear h
      go_wp2
      go_ret
      have := HR.out
      have := HN.out
      exact ⟨ret_intF (by omega), rfl⟩
end Go.Proofs.Ytipmgoejdkpknaa

namespace Go.Proofs.Ytipmgoejdkpknaa
open Go.RowKit FixM FixP

/-- WHAT IS ASKED OF THE FUNCTION that is told the digits: from state to state. -/
def Takes {σ : Type} (W : σ → World) (Inv : σ → Prop) (step : σ → Int → σ) (g : Nat) (cb : Array Value) : Prop :=
  ∀ (st : σ) (d : Int), Inv st → 0 ≤ d → d ≤ 9 → Inv (step st d) ∧ Calls Try.prog g (#[.int .i64 d] ++ cb) (W st) fun e w' => e = .returned (.tuple #[]) ∧ W (step st d) = w'

set_option maxRecDepth 100000 in
set_option maxHeartbeats 400000 in
theorem digits_any {σ : Type} (W : σ → World) (Inv : σ → Prop) (step : σ → Int → σ) (g : Nat) (cb : Array Value)
    (eg : ∀ args w, (callFunc g args).run Try.prog w = .ok (.enter g args) w) (hc : Takes W Inv step g cb)
    (s : ByteArray) (a : Nat) (st : σ) (hs : s.size ≤ 9223372036854775807) (ha : a ≤ s.size) (hi : Inv st) :
    Calls Try.prog 80 #[.string s, .int .i64 a, .func (.func g) #[] cb] (W st) fun e w' =>
      e = .returned (.int .i64 ((a + nd s.data.toList a : Nat) : Int)) ∧ W (tell step st (ds s.data.toList a)) = w' ∧ Inv (tell step st (ds s.data.toList a)) := by
  have HI := Lib.hid hi
  have HC := Lib.hid hc
  clear hi hc
  go_enter Try.func80, Try.ntmps80
  go_wp2
  go_loopw [1] (fun i wr => ∃ (k : Nat) (sk : σ), a ≤ k ∧ k ≤ s.size ∧ i = .int .i64 k ∧ wr = W sk ∧ Hid (Inv sk) ∧ Hid (k + nd s.data.toList k = a + nd s.data.toList a) ∧ Hid (tell step sk (ds s.data.toList k) = tell step st (ds s.data.toList a))) (fun i _ => s.size - (intOf i).toNat)
  case atStart => exact ⟨a, st, Nat.le_refl _, ha, rfl, rfl, HI, rfl, rfl⟩
  case round =>
    obtain ⟨k, sk, hak, hk, rfl, rfl, HK, HN, HT⟩ := hrel
    by_cases hlt : k < s.size
    · go_wp2_with fail
      · have hy := bd_yes s k hlt ‹_› ‹_›
        have hds : ds s.data.toList k = s[k] :: ds s.data.toList (k + 1) := ds_yes (by rw [len_list]; exact hlt) ((isD_iff _).2 (show 48 ≤ s[k].toNat ∧ s[k].toNat ≤ 57 by omega))
        have ht : tell step (step sk ((s[k].toNat : Int) - 48)) (ds s.data.toList (k + 1)) = tell step st (ds s.data.toList a) := by
          rw [← HT.out, hds]; rfl
        have hn : (k + 1) + nd s.data.toList (k + 1) = a + nd s.data.toList a := by have := HN.out; omega
        have HT' := Lib.hid ht
        have HN' := Lib.hid hn
        clear hy hds ht hn
        have hcall := HC.out sk ((s[k].toNat : Int) - 48) HK.out (by omega) (by omega)
        have HI' := Lib.hid hcall.1
        refine hcall.2.mono ?_
        clear hcall
        rintro e w' ⟨rfl, rfl⟩
        go_wp2_with fail
        go_roundw
        case rel => exact ⟨k + 1, _, by omega, by omega, by go_num, rfl, HI', HN', HT'⟩
        case measure => simp [intOf]; omega
      · go_ret
        have h := bd_no s k hlt (Or.inr ‹_›)
        have := HN.out
        have hds : ds s.data.toList k = [] := List.eq_nil_of_length_eq_zero h
        have ht := HT.out
        rw [hds] at ht
        exact ⟨ret_intF (by omega), by rw [← ht]; rfl, by rw [← ht]; exact HK.out⟩
      · go_ret
        have h := bd_no s k hlt (Or.inl ‹_›)
        have := HN.out
        have hds : ds s.data.toList k = [] := List.eq_nil_of_length_eq_zero h
        have ht := HT.out
        rw [hds] at ht
        exact ⟨ret_intF (by omega), by rw [← ht]; rfl, by rw [← ht]; exact HK.out⟩
    · have h : nd s.data.toList k = 0 := nd_end (by rw [len_list]; omega)
      have H0 := Lib.hid h
      clear h
      go_wp2_with fail
      go_ret
      have := HN.out
      have h := H0.out
      have hds : ds s.data.toList k = [] := List.eq_nil_of_length_eq_zero h
      have ht := HT.out
      rw [hds] at ht
      exact ⟨ret_intF (by omega), by rw [← ht]; rfl, by rw [← ht]; exact HK.out⟩
theorem digits_at {σ : Type} (W : σ → World) (Inv : σ → Prop) (step : σ → Int → σ) (g : Nat) (cb : Array Value)
    (eg : ∀ args w, (callFunc g args).run Try.prog w = .ok (.enter g args) w) (hc : Takes W Inv step g cb)
    (s : ByteArray) (ai : Int) (a : Nat) (he : ai = a) (st : σ) (hs : s.size ≤ 9223372036854775807) (ha : a ≤ s.size) (hi : Inv st) :
    Calls Try.prog 80 #[.string s, .int .i64 ai, .func (.func g) #[] cb] (W st) fun e w' =>
      e = .returned (.int .i64 ((a + nd s.data.toList a : Nat) : Int)) ∧ W (tell step st (ds s.data.toList a)) = w' ∧ Inv (tell step st (ds s.data.toList a)) := by
  subst he
  exact digits_any W Inv step g cb eg hc s a st hs ha hi
end Go.Proofs.Ytipmgoejdkpknaa

namespace Go.Proofs.Ytipmgoejdkpknaa
open Go.RowKit FixM FixP

/-- the world in which 'Parse' has made its variables: the thousandths, how many digits behind the point, the function that takes a digit -/
@[reducible] def PW (w : World) (st : Int × Int) : World :=
  ((w.alloc (.cells #[.int .i64 st.1] 3)).alloc (.cells #[.int .i64 st.2] 3)).alloc (.cells #[.func (.func 78) #[] #[.pointer (some ⟨w.heap.size, 0, none⟩)]] 79)

set_option maxRecDepth 100000 in
set_option maxHeartbeats 400000 in
theorem take1 (w : World) (n b d : Int) (h1 : 0 ≤ n) (h2 : n ≤ 1073741824) (hd : 0 ≤ d) (hd2 : d ≤ 9) :
    Calls Try.prog 78 #[.int .i64 d, .pointer (some ⟨w.heap.size, 0, none⟩)] (PW w (n, b)) fun e w' => e = .returned (.tuple #[]) ∧ PW w (H (n * 10 + d), b) = w' := by
  go_enter Try.func78, Try.ntmps78
  go_wp2_with (go_at_call 72; refine (hold_any _ _).mono ?_; rintro e w' ⟨rfl, rfl⟩)
  go_end0
  exact ⟨rfl, rfl⟩

set_option maxRecDepth 100000 in
set_option maxHeartbeats 400000 in
theorem take2 (w : World) (n b d : Int) (h1 : 0 ≤ n) (h2 : n ≤ 1073741824) (hb : 0 ≤ b) (hb3 : b ≤ 3) (hd : 0 ≤ d) (hd2 : d ≤ 9) :
    Calls Try.prog 81 #[.int .i64 d, .pointer (some ⟨w.heap.size + 1, 0, none⟩), .pointer (some ⟨w.heap.size + 1 + 1, 0, none⟩)] (PW w (n, b)) fun e w' =>
      e = .returned (.tuple #[]) ∧ PW w (st2 (n, b) d) = w' := by
  by_cases h : b < 3
  · have hst : st2 (n, b) d = (H (n * 10 + d), b + 1) := by unfold st2; rw [if_pos h]
    rw [hst]
    clear hst
    go_enter Try.func81, Try.ntmps81
    go_wp2_with (go_at_call 78; refine (take1 w n b d h1 h2 hd hd2).mono ?_; rintro e w' ⟨rfl, rfl⟩)
    go_end0
    exact ⟨rfl, rfl⟩
  · have hst : st2 (n, b) d = (n, b) := by unfold st2; rw [if_neg h]
    rw [hst]
    clear hst
    go_enter Try.func81, Try.ntmps81
    go_wp2_with fail
    go_end0
    exact ⟨rfl, rfl⟩

theorem takes1 (w : World) : Takes (PW w) PI st1 78 #[.pointer (some ⟨w.heap.size, 0, none⟩)] :=
  fun ⟨n, b⟩ d hi h0 h9 => ⟨PI_st1 hi h0, take1 w n b d hi.1 hi.2.1 h0 h9⟩
theorem takes2 (w : World) : Takes (PW w) PI st2 81 #[.pointer (some ⟨w.heap.size + 1, 0, none⟩), .pointer (some ⟨w.heap.size + 1 + 1, 0, none⟩)] :=
  fun ⟨n, b⟩ d hi h0 h9 => ⟨PI_st2 hi h0, take2 w n b d hi.1 hi.2.1 hi.2.2.1 hi.2.2.2 h0 h9⟩

theorem beg_pos (s : ByteArray) (h : 0 < s.size) : beg s.data.toList = if s[0].toNat = 43 ∨ s[0].toNat = 45 then 1 else 0 := by
  have hl : 0 < s.data.toList.length := by rw [len_list]; exact h
  exact beg_cons hl
theorem beg_none (s : ByteArray) (h : ¬ 0 < s.size) : beg s.data.toList = 0 := by
  have hl : s.data.toList.length = 0 := by rw [len_list]; omega
  rw [List.eq_nil_of_length_eq_zero hl]; rfl
theorem sgnd_eq (s : ByteArray) (h : 0 < s.size) (n : Int) : sgnd s.data.toList n = if s[0].toNat = 45 then -n else n := by
  have hl : 0 < s.data.toList.length := by rw [len_list]; exact h
  exact sgnd_cons hl n
theorem toList_lenF (s : ByteArray) : s.toList.length = s.size := by
  rw [ByteArray.toList_eq]; exact len_list s
theorem empty_noF (s : ByteArray) (h : 0 < s.size) : s.toList.isEmpty = false := by
  have := toList_lenF s
  cases e : s.toList with
  | nil => rw [e] at this; simp at this; omega
  | cons a l => rfl
theorem empty_yesF (s : ByteArray) (h : ¬ 0 < s.size) : s.toList = [] := by
  have := toList_lenF s
  exact List.eq_nil_of_length_eq_zero (by omega)

set_option maxRecDepth 100000 in
set_option maxHeartbeats 400000 in
theorem sign_any (s : ByteArray) (w : World) :
    Calls Try.prog 79 #[.string s] w fun e w' => e = .returned (.int .i64 ((beg s.data.toList : Nat) : Int)) ∧ w = w' := by
  by_cases h : 0 < s.size
  · have he := empty_noF s h
    rw [beg_pos s h]
    by_cases h43 : s[0].toNat = 43
    · have b1 : ((s[0].toNat : Int) == 43) = true := by simp [h43]
      rw [if_pos (Or.inl h43)]
      clear h43
      go_enter Try.func79, Try.ntmps79
      go_wp2_with fail
      go_ret
      exact ⟨rfl, rfl⟩
    · have b1 : ((s[0].toNat : Int) == 43) = false := by simp; omega
      by_cases h45 : s[0].toNat = 45
      · have b2 : ((s[0].toNat : Int) == 45) = true := by simp [h45]
        rw [if_pos (Or.inr h45)]
        clear h43 h45
        go_enter Try.func79, Try.ntmps79
        go_wp2_with fail
        go_ret
        exact ⟨rfl, rfl⟩
      · have b2 : ((s[0].toNat : Int) == 45) = false := by simp; omega
        rw [if_neg (by omega)]
        clear h43 h45
        go_enter Try.func79, Try.ntmps79
        go_wp2_with fail
        go_ret
        exact ⟨rfl, rfl⟩
  · have he := empty_yesF s h
    rw [beg_none s h]
    go_enter Try.func79, Try.ntmps79
    go_wp2_with fail
    all_goals go_ret
    all_goals exact ⟨rfl, rfl⟩

theorem enters_f39 : ∀ args w, (callFunc 78 args).run Try.prog w = .ok (.enter 78 args) w := enters_of Try.func78 (by kernel_rfl) rfl
theorem enters_f42 : ∀ args w, (callFunc 81 args).run Try.prog w = .ok (.enter 81 args) w := enters_of Try.func81 (by kernel_rfl) rfl
end Go.Proofs.Ytipmgoejdkpknaa
