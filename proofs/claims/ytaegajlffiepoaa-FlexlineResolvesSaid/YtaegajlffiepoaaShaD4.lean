/- Plain numbers for layer 2: who weighs more gets no less. -/
import Derived.Test.YtaegajlffiepoaaShaL1
namespace Go.Proofs.Ytaegajlffiepoaa
open FixM ShaD

theorem flen (p q : Nat → Bool) (h : ∀ x, p x = true → q x = true) : ∀ l : List Nat, (l.filter p).length ≤ (l.filter q).length
  | [] => by simp
  | x :: l => by
    have ih := flen p q h l
    rw [List.filter_cons, List.filter_cons]
    by_cases c : p x = true
    · rw [if_pos c, if_pos (h x c)]; simp; exact ih
    · rw [if_neg c]
      split
      · simp; omega
      · exact ih

theorem rk_le (r : Nat → Int) (n i j : Nat) (h : r j < r i ∨ (r i = r j ∧ i ≤ j)) : rk r n i ≤ rk r n j := by
  unfold rk
  refine flen _ _ (fun x hx => ?_) _
  have hx := of_decide_eq_true hx
  exact decide_eq_true (by omega)

theorem share0_order {t : Int} (ht : 0 ≤ t) (ws : List Int) (i j : Nat) (h : WT (ws.getD j 0) < WT (ws.getD i 0) ∨ (WT (ws.getD i 0) = WT (ws.getD j 0) ∧ i < j)) : share0 t ws j ≤ share0 t ws i := by
  by_cases h0 : t = 0
  · subst h0; rw [share0_zero, share0_zero]; exact Int.le_refl _
  · unfold share0
    by_cases hz : wsum ws = 0
    · rw [if_pos hz, if_pos hz]; exact Int.le_refl _
    · rw [if_neg hz, if_neg hz]
      have hp : 0 < wsum ws := by have := (wsum_bd ws).1; omega
      obtain ⟨A, hA⟩ : ∃ A, wsum ws = A := ⟨_, rfl⟩
      rw [hA] at hp ⊢
      obtain ⟨L, hL⟩ : ∃ L, (t - qsum t A ws ws.length).toNat = L := ⟨_, rfl⟩
      rw [hL]
      have di := Int.mul_ediv_add_emod (t * WT (ws.getD i 0)) A
      have dj := Int.mul_ediv_add_emod (t * WT (ws.getD j 0)) A
      have hq : qs t A ws j ≤ qs t A ws i := by
        unfold qs
        refine Int.ediv_le_ediv hp (Int.mul_le_mul_of_nonneg_left (by omega) ht)
      have key : qs t A ws i = qs t A ws j → rk (rs t A ws) ws.length i ≤ rk (rs t A ws) ws.length j := fun e => by
        refine rk_le _ _ _ _ ?_
        have ei : A * qs t A ws i + rs t A ws i = t * WT (ws.getD i 0) := di
        have ej : A * qs t A ws j + rs t A ws j = t * WT (ws.getD j 0) := dj
        rw [e] at ei
        rcases h with h | ⟨h, hij⟩
        · have := Int.mul_lt_mul_of_pos_left h (show 0 < t by omega)
          exact Or.inl (by omega)
        · rw [h] at ei
          exact Or.inr ⟨by omega, by omega⟩
      by_cases e : qs t A ws i = qs t A ws j
      · have := key e
        rw [e]
        split <;> split <;> omega
      · split <;> split <;> omega

theorem shareS_order {t : Int} (ht : 0 ≤ t) (ws : List Int) (i j : Nat) (h : WT (ws.getD j 0) < WT (ws.getD i 0) ∨ (WT (ws.getD i 0) = WT (ws.getD j 0) ∧ i < j)) : shareS t ws j ≤ shareS t ws i := by
  unfold shareS
  rw [if_neg (by omega), if_neg (by omega)]
  exact share0_order ht ws i j h
end Go.Proofs.Ytaegajlffiepoaa
