/- The walks of layer 1's texts: what 'digits' tells to a function that is handed on. -/
import Derived.Test.YtpkhmagjdlpbjaaFixW2
import Derived.Shelf.Abstract
namespace Go.Proofs.Ytpkhmagjdlpbjaa
open Go.RowKit FixM FixP

/-- WHAT IS ASKED OF THE FUNCTION that is told the digits: from state to state. -/
def Takes {σ : Type} (W : σ → World) (Inv : σ → Prop) (step : σ → Int → σ) (g : Nat) (cb : Array Value) : Prop :=
  ∀ (st : σ) (d : Int), Inv st → 0 ≤ d → d ≤ 9 → Inv (step st d) ∧ Calls Try.prog g (#[.int .i64 d] ++ cb) (W st) fun e w' => e = .returned (.tuple #[]) ∧ W (step st d) = w'

set_option maxHeartbeats 400000 in
theorem digits_any {σ : Type} (W : σ → World) (Inv : σ → Prop) (step : σ → Int → σ) (g : Nat) (cb : Array Value)
    (eg : ∀ args w, (callFunc g args).run Try.prog w = .ok (.enter g args) w) (hc : Takes W Inv step g cb)
    (s : ByteArray) (a : Nat) (st : σ) (hs : s.size ≤ 9223372036854775807) (ha : a ≤ s.size) (hi : Inv st) :
    Calls Try.prog 41 #[.string s, .int .i64 a, .func (.func g) #[] cb] (W st) fun e w' =>
      e = .returned (.int .i64 ((a + nd s.data.toList a : Nat) : Int)) ∧ W (tell step st (ds s.data.toList a)) = w' ∧ Inv (tell step st (ds s.data.toList a)) := by
  have HI := Lib.hid hi
  have HC := Lib.hid hc
  clear hi hc
  go_enter Try.func41, Try.ntmps41
  go_wp2
  go_loopw [1] (fun i wr => ∃ (k : Nat) (sk : σ), a ≤ k ∧ k ≤ s.size ∧ i = .int .i64 k ∧ wr = W sk ∧ Hid (Inv sk) ∧ Hid (k + nd s.data.toList k = a + nd s.data.toList a) ∧ Hid (tell step sk (ds s.data.toList k) = tell step st (ds s.data.toList a))) (fun i _ => s.size - (intOf i).toNat)
  case atStart => exact ⟨a, st, Nat.le_refl _, ha, rfl, rfl, HI, rfl, rfl⟩
  case round =>
    obtain ⟨k, sk, hak, hk, rfl, rfl, HK, HN, HT⟩ := hrel
    by_cases hlt : k < s.size
    · go_wp2_with fail
      · have hy := bd_yes s k hlt ‹_› ‹_›
        have hds : ds s.data.toList k = s[k] :: ds s.data.toList (k + 1) := ds_yes (by rw [len_list]; exact hlt) ((isD_iff _).2 (show 48 ≤ s[k].toNat ∧ s[k].toNat ≤ 57 by omega))
        have ht : tell step (step sk ((s[k].toNat : Int) - 48)) (ds s.data.toList (k + 1)) = tell step st (ds s.data.toList a) := by
          rw [← HT.out, hds]; rfl
        have hn : (k + 1) + nd s.data.toList (k + 1) = a + nd s.data.toList a := by have := HN.out; omega
        have HT' := Lib.hid ht
        have HN' := Lib.hid hn
        clear hy hds ht hn
        have hcall := HC.out sk ((s[k].toNat : Int) - 48) HK.out (by omega) (by omega)
        have HI' := Lib.hid hcall.1
        refine hcall.2.mono ?_
        clear hcall
        rintro e w' ⟨rfl, rfl⟩
        go_wp2_with fail
        go_roundw
        case rel => exact ⟨k + 1, _, by omega, by omega, by go_num, rfl, HI', HN', HT'⟩
        case measure => simp [intOf]; omega
      · go_ret
        have h := bd_no s k hlt (Or.inr ‹_›)
        have := HN.out
        have hds : ds s.data.toList k = [] := List.eq_nil_of_length_eq_zero h
        have ht := HT.out
        rw [hds] at ht
        exact ⟨ret_int (by omega), by rw [← ht]; rfl, by rw [← ht]; exact HK.out⟩
      · go_ret
        have h := bd_no s k hlt (Or.inl ‹_›)
        have := HN.out
        have hds : ds s.data.toList k = [] := List.eq_nil_of_length_eq_zero h
        have ht := HT.out
        rw [hds] at ht
        exact ⟨ret_int (by omega), by rw [← ht]; rfl, by rw [← ht]; exact HK.out⟩
    · have h : nd s.data.toList k = 0 := nd_end (by rw [len_list]; omega)
      have H0 := Lib.hid h
      clear h
      go_wp2_with fail
      go_ret
      have := HN.out
      have h := H0.out
      have hds : ds s.data.toList k = [] := List.eq_nil_of_length_eq_zero h
      have ht := HT.out
      rw [hds] at ht
      exact ⟨ret_int (by omega), by rw [← ht]; rfl, by rw [← ht]; exact HK.out⟩
theorem digits_at {σ : Type} (W : σ → World) (Inv : σ → Prop) (step : σ → Int → σ) (g : Nat) (cb : Array Value)
    (eg : ∀ args w, (callFunc g args).run Try.prog w = .ok (.enter g args) w) (hc : Takes W Inv step g cb)
    (s : ByteArray) (ai : Int) (a : Nat) (he : ai = a) (st : σ) (hs : s.size ≤ 9223372036854775807) (ha : a ≤ s.size) (hi : Inv st) :
    Calls Try.prog 41 #[.string s, .int .i64 ai, .func (.func g) #[] cb] (W st) fun e w' =>
      e = .returned (.int .i64 ((a + nd s.data.toList a : Nat) : Int)) ∧ W (tell step st (ds s.data.toList a)) = w' ∧ Inv (tell step st (ds s.data.toList a)) := by
  subst he
  exact digits_any W Inv step g cb eg hc s a st hs ha hi
end Go.Proofs.Ytpkhmagjdlpbjaa
