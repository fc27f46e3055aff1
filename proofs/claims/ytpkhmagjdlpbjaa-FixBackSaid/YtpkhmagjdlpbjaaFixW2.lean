/- The walks of layer 1's texts. -/
import Derived.Test.YtpkhmagjdlpbjaaFixW1
import Derived.Test.YtpkhmagjdlpbjaaFixP
import Derived.Deep.LoopGhost
namespace Go.Proofs.Ytpkhmagjdlpbjaa
open Go.RowKit FixM FixP

theorem len_list (s : ByteArray) : s.data.toList.length = s.size := by rw [Array.length_toList]; rfl
theorem bd_yes (s : ByteArray) (k : Nat) (h : k < s.size) (h1 : 48 ≤ (s[k].toNat : Int)) (h2 : (s[k].toNat : Int) ≤ 57) : nd s.data.toList k = nd s.data.toList (k + 1) + 1 :=
  nd_yes (by rw [len_list]; exact h) ((isD_iff _).2 (show 48 ≤ s[k].toNat ∧ s[k].toNat ≤ 57 by omega))
theorem bd_no (s : ByteArray) (k : Nat) (h : k < s.size) (h1 : (s[k].toNat : Int) < 48 ∨ 57 < (s[k].toNat : Int)) : nd s.data.toList k = 0 :=
  nd_no (by rw [len_list]; exact h) ((isD_no _).2 (show s[k].toNat < 48 ∨ 57 < s[k].toNat by omega))

set_option maxHeartbeats 400000 in
/-- 'Digits' of the reference: how many digits stand from a place on. -/
theorem Digits_any (s : ByteArray) (a : Nat) (w : World) (hs : s.size ≤ 9223372036854775807) (ha : a ≤ s.size) :
    Calls Try.prog 48 #[.string s, .int .i64 a] w fun e w' => e = .returned (.int .i64 (nd s.data.toList a)) ∧ w = w' := by
  go_enter Try.func48, Try.ntmps48
  go_wp2
  go_loop [1, 5] (fun i n => ∃ k m : Nat, a ≤ k ∧ k ≤ s.size ∧ i = .int .i64 k ∧ n = .int .i64 m ∧ m ≤ k ∧ Hid (m + nd s.data.toList k = nd s.data.toList a)) (fun i _ => s.size - (intOf i).toNat)
  case atStart => exact ⟨a, 0, Nat.le_refl _, ha, rfl, rfl, by omega, Nat.zero_add _⟩
  case round =>
    obtain ⟨k, m, hak, hk, rfl, rfl, hm, HR⟩ := hrel
    by_cases hlt : k < s.size
    · go_wp2
      · go_round
        case rel =>
          have h := bd_yes s k hlt ‹_› ‹_›
          have := HR.out
          exact ⟨k + 1, m + 1, by omega, by omega, by go_num, by go_num, by omega, by show _ = _; omega⟩
        case measure => simp [intOf]; omega
      · go_ret
        have h := bd_no s k hlt (Or.inr ‹_›)
        have := HR.out
        exact ⟨ret_int (by omega), rfl⟩
      · go_ret
        have h := bd_no s k hlt (Or.inl ‹_›)
        have := HR.out
        exact ⟨ret_int (by omega), rfl⟩
    · have h : nd s.data.toList k = 0 := nd_end (by rw [len_list]; omega)
      have HN := Lib.hid h
      clear h
      go_wp2
      go_ret
      have := HR.out
      have := HN.out
      exact ⟨ret_int (by omega), rfl⟩
end Go.Proofs.Ytpkhmagjdlpbjaa
