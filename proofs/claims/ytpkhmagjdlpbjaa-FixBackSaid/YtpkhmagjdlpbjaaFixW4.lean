/- The walks of layer 1's texts: 'Parse'. -/
import Derived.Test.YtpkhmagjdlpbjaaFixW3
import Derived.Laws.EntriesVeiled
namespace Go.Proofs.Ytpkhmagjdlpbjaa
open Go.RowKit FixM FixP

/-- the world in which 'Parse' has made its variables: the thousandths, how many digits behind the point, the function that takes a digit -/
@[reducible] def PW (w : World) (st : Int × Int) : World :=
  ((w.alloc (.cells #[.int .i64 st.1] 3)).alloc (.cells #[.int .i64 st.2] 3)).alloc (.cells #[.func (.func 39) #[] #[.pointer (some ⟨w.heap.size, 0, none⟩)]] 44)

set_option maxHeartbeats 400000 in
theorem take1 (w : World) (n b d : Int) (h1 : 0 ≤ n) (h2 : n ≤ 1073741824) (hd : 0 ≤ d) (hd2 : d ≤ 9) :
    Calls Try.prog 39 #[.int .i64 d, .pointer (some ⟨w.heap.size, 0, none⟩)] (PW w (n, b)) fun e w' => e = .returned (.tuple #[]) ∧ PW w (H (n * 10 + d), b) = w' := by
  go_enter Try.func39, Try.ntmps39
  go_wp2_with (go_at_call 36; refine (hold_any _ _).mono ?_; rintro e w' ⟨rfl, rfl⟩)
  go_end0
  exact ⟨rfl, rfl⟩

set_option maxHeartbeats 400000 in
theorem take2 (w : World) (n b d : Int) (h1 : 0 ≤ n) (h2 : n ≤ 1073741824) (hb : 0 ≤ b) (hb3 : b ≤ 3) (hd : 0 ≤ d) (hd2 : d ≤ 9) :
    Calls Try.prog 42 #[.int .i64 d, .pointer (some ⟨w.heap.size + 1, 0, none⟩), .pointer (some ⟨w.heap.size + 1 + 1, 0, none⟩)] (PW w (n, b)) fun e w' =>
      e = .returned (.tuple #[]) ∧ PW w (st2 (n, b) d) = w' := by
  by_cases h : b < 3
  · have hst : st2 (n, b) d = (H (n * 10 + d), b + 1) := by unfold st2; rw [if_pos h]
    rw [hst]
    clear hst
    go_enter Try.func42, Try.ntmps42
    go_wp2_with (go_at_call 39; refine (take1 w n b d h1 h2 hd hd2).mono ?_; rintro e w' ⟨rfl, rfl⟩)
    go_end0
    exact ⟨rfl, rfl⟩
  · have hst : st2 (n, b) d = (n, b) := by unfold st2; rw [if_neg h]
    rw [hst]
    clear hst
    go_enter Try.func42, Try.ntmps42
    go_wp2_with fail
    go_end0
    exact ⟨rfl, rfl⟩

theorem takes1 (w : World) : Takes (PW w) PI st1 39 #[.pointer (some ⟨w.heap.size, 0, none⟩)] :=
  fun ⟨n, b⟩ d hi h0 h9 => ⟨PI_st1 hi h0, take1 w n b d hi.1 hi.2.1 h0 h9⟩
theorem takes2 (w : World) : Takes (PW w) PI st2 42 #[.pointer (some ⟨w.heap.size + 1, 0, none⟩), .pointer (some ⟨w.heap.size + 1 + 1, 0, none⟩)] :=
  fun ⟨n, b⟩ d hi h0 h9 => ⟨PI_st2 hi h0, take2 w n b d hi.1 hi.2.1 hi.2.2.1 hi.2.2.2 h0 h9⟩

theorem beg_pos (s : ByteArray) (h : 0 < s.size) : beg s.data.toList = if s[0].toNat = 43 ∨ s[0].toNat = 45 then 1 else 0 := by
  have hl : 0 < s.data.toList.length := by rw [len_list]; exact h
  exact beg_cons hl
theorem beg_none (s : ByteArray) (h : ¬ 0 < s.size) : beg s.data.toList = 0 := by
  have hl : s.data.toList.length = 0 := by rw [len_list]; omega
  rw [List.eq_nil_of_length_eq_zero hl]; rfl
theorem sgnd_eq (s : ByteArray) (h : 0 < s.size) (n : Int) : sgnd s.data.toList n = if s[0].toNat = 45 then -n else n := by
  have hl : 0 < s.data.toList.length := by rw [len_list]; exact h
  exact sgnd_cons hl n
theorem toList_len (s : ByteArray) : s.toList.length = s.size := by
  rw [ByteArray.toList_eq]; exact len_list s
theorem empty_no (s : ByteArray) (h : 0 < s.size) : s.toList.isEmpty = false := by
  have := toList_len s
  cases e : s.toList with
  | nil => rw [e] at this; simp at this; omega
  | cons a l => rfl
theorem empty_yes (s : ByteArray) (h : ¬ 0 < s.size) : s.toList = [] := by
  have := toList_len s
  exact List.eq_nil_of_length_eq_zero (by omega)

set_option maxHeartbeats 400000 in
theorem sign_any (s : ByteArray) (w : World) :
    Calls Try.prog 40 #[.string s] w fun e w' => e = .returned (.int .i64 ((beg s.data.toList : Nat) : Int)) ∧ w = w' := by
  by_cases h : 0 < s.size
  · have he := empty_no s h
    rw [beg_pos s h]
    by_cases h43 : s[0].toNat = 43
    · have b1 : ((s[0].toNat : Int) == 43) = true := by simp [h43]
      rw [if_pos (Or.inl h43)]
      clear h43
      go_enter Try.func40, Try.ntmps40
      go_wp2_with fail
      go_ret
      exact ⟨rfl, rfl⟩
    · have b1 : ((s[0].toNat : Int) == 43) = false := by simp; omega
      by_cases h45 : s[0].toNat = 45
      · have b2 : ((s[0].toNat : Int) == 45) = true := by simp [h45]
        rw [if_pos (Or.inr h45)]
        clear h43 h45
        go_enter Try.func40, Try.ntmps40
        go_wp2_with fail
        go_ret
        exact ⟨rfl, rfl⟩
      · have b2 : ((s[0].toNat : Int) == 45) = false := by simp; omega
        rw [if_neg (by omega)]
        clear h43 h45
        go_enter Try.func40, Try.ntmps40
        go_wp2_with fail
        go_ret
        exact ⟨rfl, rfl⟩
  · have he := empty_yes s h
    rw [beg_none s h]
    go_enter Try.func40, Try.ntmps40
    go_wp2_with fail
    all_goals go_ret
    all_goals exact ⟨rfl, rfl⟩

theorem enters_f39 : ∀ args w, (callFunc 39 args).run Try.prog w = .ok (.enter 39 args) w := enters_of Try.func39 (by kernel_rfl) rfl
theorem enters_f42 : ∀ args w, (callFunc 42 args).run Try.prog w = .ok (.enter 42 args) w := enters_of Try.func42 (by kernel_rfl) rfl
end Go.Proofs.Ytpkhmagjdlpbjaa
