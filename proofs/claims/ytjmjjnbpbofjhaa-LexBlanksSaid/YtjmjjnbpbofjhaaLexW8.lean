/- The walks of layer 5: signs as tokens. -/
import Derived.Test.YtjmjjnbpbofjhaaLexW7
import Derived.Test.YtjmjjnbpbofjhaaLexPs
namespace Go.Proofs.Ytjmjjnbpbofjhaa
open Go.RowKit TreN LexP FixP

theorem sign_index (c : UInt8) : (signK c = 0 ∧ Lib.indexByte [58, 59, 44, 40, 41, 91, 93, 123, 125] c = -1) ∨ (∃ i : Nat, i ≤ 8 ∧ signK c = 10 + (i : Int) ∧ Lib.indexByte [58, 59, 44, 40, 41, 91, 93, 123, 125] c = (i : Int)) := by
  by_cases h1 : c = 58
  · subst h1; exact Or.inr ⟨0, by omega, by decide, by decide⟩
  by_cases h2 : c = 59
  · subst h2; exact Or.inr ⟨1, by omega, by decide, by decide⟩
  by_cases h3 : c = 44
  · subst h3; exact Or.inr ⟨2, by omega, by decide, by decide⟩
  by_cases h4 : c = 40
  · subst h4; exact Or.inr ⟨3, by omega, by decide, by decide⟩
  by_cases h5 : c = 41
  · subst h5; exact Or.inr ⟨4, by omega, by decide, by decide⟩
  by_cases h6 : c = 91
  · subst h6; exact Or.inr ⟨5, by omega, by decide, by decide⟩
  by_cases h7 : c = 93
  · subst h7; exact Or.inr ⟨6, by omega, by decide, by decide⟩
  by_cases h8 : c = 123
  · subst h8; exact Or.inr ⟨7, by omega, by decide, by decide⟩
  by_cases h9 : c = 125
  · subst h9; exact Or.inr ⟨8, by omega, by decide, by decide⟩
  left
  have e : ∀ d : UInt8, ¬ c = d → ¬ c.toNat = d.toNat ∧ (d == c) = false := fun d h => ⟨fun x => h (UInt8.toNat_inj.1 x), by rw [beq_eq_false_iff_ne]; exact fun x => h x.symm⟩
  have a1 : ¬ c.toNat = 58 := (e 58 h1).1
  have b1 := (e 58 h1).2
  have a2 : ¬ c.toNat = 59 := (e 59 h2).1
  have b2 := (e 59 h2).2
  have a3 : ¬ c.toNat = 44 := (e 44 h3).1
  have b3 := (e 44 h3).2
  have a4 : ¬ c.toNat = 40 := (e 40 h4).1
  have b4 := (e 40 h4).2
  have a5 : ¬ c.toNat = 41 := (e 41 h5).1
  have b5 := (e 41 h5).2
  have a6 : ¬ c.toNat = 91 := (e 91 h6).1
  have b6 := (e 91 h6).2
  have a7 : ¬ c.toNat = 93 := (e 93 h7).1
  have b7 := (e 93 h7).2
  have a8 : ¬ c.toNat = 123 := (e 123 h8).1
  have b8 := (e 123 h8).2
  have a9 : ¬ c.toNat = 125 := (e 125 h9).1
  have b9 := (e 125 h9).2
  constructor
  · unfold signK
    rw [if_neg a1, if_neg a2, if_neg a3, if_neg a4, if_neg a5, if_neg a6, if_neg a7, if_neg a8, if_neg a9]
  · simp [Lib.indexByte, b1, b2, b3, b4, b5, b6, b7, b8, b9]

set_option maxRecDepth 100000 in
set_option maxHeartbeats 1000000 in
theorem sign_token (c : UInt8) (w : World) :
    Calls Try.prog 88 #[.string ⟨#[c]⟩] w fun e w' => e = .returned (signT c).val ∧ Below w.heap.size w w' := by
  have C := fun W => Try.strings_Index_one ⟨#[58, 59, 44, 40, 41, 91, 93, 123, 125]⟩ c W
  rcases sign_index c with ⟨h1, h2⟩ | ⟨i, hi, h1, h2⟩
  · have ht : signT c = ⟨19, [c], 0⟩ := if_pos h1
    rw [ht]
    have C : ∀ W, Calls Try.prog 108 #[.string ⟨#[58, 59, 44, 40, 41, 91, 93, 123, 125]⟩, .string ⟨#[c]⟩] W fun e w' => e = .returned (.int .i64 (-1)) ∧ w' = W := by rw [← h2]; exact C
    have HC := Lib.hid C
    clear C h1 h2 ht
    go_enter Try.func88, Try.ntmps88
    go_wp2_with fail
    refine (HC.out _).mono ?_
    rintro e w' ⟨rfl, rfl⟩
    go_wp2_with fail
    refine bodyPost_ret (v := (⟨19, [c], 0⟩ : Tok).val) (by simp [results, Try.results88, go_sem, LexP.Tok.val]) rfl ⟨rfl, ?_⟩
    go_grown
  · have ht : signT c = ⟨10 + (i : Int), [], 0⟩ := by unfold signT; rw [if_neg (by omega), h1]
    rw [ht]
    have C : ∀ W, Calls Try.prog 108 #[.string ⟨#[58, 59, 44, 40, 41, 91, 93, 123, 125]⟩, .string ⟨#[c]⟩] W fun e w' => e = .returned (.int .i64 (i : Int)) ∧ w' = W := by rw [← h2]; exact C
    have HC := Lib.hid C
    clear C h1 h2 ht
    have h0 : (0 : Int) ≤ (i : Int) := by omega
    have h8 : (i : Int) ≤ 8 := by omega
    go_enter Try.func88, Try.ntmps88
    go_wp2_with fail
    refine (HC.out _).mono ?_
    rintro e w' ⟨rfl, rfl⟩
    go_wp2_with fail
    refine bodyPost_ret (v := (⟨10 + (i : Int), [], 0⟩ : Tok).val) (by simp [results, Try.results88, go_sem, LexP.Tok.val]) rfl ⟨rfl, ?_⟩
    go_grown
end Go.Proofs.Ytjmjjnbpbofjhaa
