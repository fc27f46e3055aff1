/- The walks of layer 5: pass. -/
import Derived.Test.YtjmjjnbpbofjhaaWalkA
import Derived.Deep.LoopGhost
namespace Go.Proofs.Ytjmjjnbpbofjhaa
open Go.RowKit TreN LexP

theorem tw_take {p : UInt8 → Bool} {s : ByteArray} {a k : Nat} (hk : a + k ≤ s.size) (h : ∀ j, j < k → ∀ hj : a + j < s.size, p s[a + j] = true) (he : a + k = s.size ∨ ∃ hj : a + k < s.size, p s[a + k] = false) :
    ((s.data.toList.drop a).takeWhile p).length = k := by
  have hl : s.data.toList.length = s.size := len_data s
  induction k generalizing a with
  | zero =>
    rcases he with he | ⟨hj, he⟩
    · rw [List.drop_of_length_le (by omega)]; rfl
    · rw [List.drop_eq_getElem_cons (by omega), List.takeWhile_cons, if_neg]
      · rfl
      · have e : s.data.toList[a] = s[a + 0] := by simp [ByteArray.getElem_eq_getElem_data]
        rw [e, he]; simp
  | succ k ih =>
    have h0 := h 0 (by omega) (by omega)
    have e : s.data.toList[a]'(by omega) = s[a + 0] := by simp [ByteArray.getElem_eq_getElem_data]
    rw [List.drop_eq_getElem_cons (by omega), List.takeWhile_cons, if_pos (by rw [e]; exact h0), List.length_cons]
    have := ih (a := a + 1) (by omega) (fun j hj hjj => by
      have := h (j + 1) (by omega) (by omega)
      have e2 : a + 1 + j = a + (j + 1) := by omega
      simp only [e2]; exact this) (by
      have e2 : a + 1 + k = a + (k + 1) := by omega
      rcases he with he | ⟨hj, he⟩
      · exact Or.inl (by omega)
      · exact Or.inr ⟨by omega, by simp only [e2]; exact he⟩)
    rw [this]

set_option maxRecDepth 100000 in
set_option maxHeartbeats 1000000 in
theorem pass_any (g : Nat) (caps : Array Value) (p : UInt8 → Bool) (I : World → Prop) (eg : ∀ args w, (callFunc g args).run Try.prog w = .ok (.enter g args) w)
    (hg : ∀ c w, I w → Calls Try.prog g (#[.int .u8 (c.toNat : Int)] ++ caps) w fun e w' => e = .returned (.bool (p c)) ∧ I w') (s : ByteArray) (a : Nat) (hs : s.size ≤ 9223372036854775807) (ha : a ≤ s.size) (w : World) (hI : I w) :
    Calls Try.prog 85 #[.string s, .int .i64 (a : Int), .func (.func g) #[] caps] w fun e w' => e = .returned (.int .i64 ((a + ((s.data.toList.drop a).takeWhile p).length : Nat) : Int)) ∧ I w' := by
  have HG := Lib.hid hg
  clear hg
  have HI := Lib.hid hI
  clear hI
  go_enter Try.func85, Try.ntmps85
  go_wp2_with fail
  go_loopw [1] (fun i wr => ∃ k : Nat, a + k ≤ s.size ∧ i = .int .i64 ((a + k : Nat) : Int) ∧ Hid (∀ j, j < k → ∀ hj : a + j < s.size, p s[a + j] = true) ∧ Hid (I wr)) (fun i _ => s.size - (intOf i).toNat)
  case atStart => exact ⟨0, by omega, rfl, fun j hj => by omega, HI⟩
  case round =>
    obtain ⟨k, hk, rfl, HJ, HW⟩ := hrel
    by_cases hlt : a + k < s.size
    · have hltz : ((a + k : Nat) : Int) < (s.size : Int) := by omega
      cases hp : p s[a + k] with
      | true =>
        have HP := Lib.hid hp
        clear hp
        go_wp2_with fail
        refine (HG.out _ _ HW.out).mono ?_
        rintro e w' ⟨rfl, hw⟩
        have HW' := Lib.hid hw
        clear hw
        rw [HP.out]
        go_wp2_with fail
        go_roundw
        case rel =>
          refine ⟨k + 1, by omega, by go_num, fun j hj hjj => ?_, HW'⟩
          by_cases c : j = k
          · subst c; exact HP.out
          · exact HJ.out j (by omega) hjj
        case measure => simp [intOf]; omega
      | false =>
        have HP := Lib.hid hp
        clear hp
        go_wp2_with fail
        refine (HG.out _ _ HW.out).mono ?_
        rintro e w' ⟨rfl, hw⟩
        have HW' := Lib.hid hw
        clear hw
        rw [HP.out]
        go_wp2_with fail
        go_ret
        exact ⟨ret_int (by have := tw_take (k := k) hk HJ.out (Or.inr ⟨hlt, HP.out⟩); omega), HW'.out⟩
    · have hle : a + k = s.size := by omega
      have HE := Lib.hid hle
      clear hle
      have hltz : ¬ ((a + k : Nat) : Int) < (s.size : Int) := by omega
      go_wp2_with fail
      go_ret
      exact ⟨ret_int (by have := tw_take (k := k) hk HJ.out (Or.inl HE.out); omega), HW.out⟩
end Go.Proofs.Ytjmjjnbpbofjhaa
