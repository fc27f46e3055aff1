/- Layer 21 in numbers: each length is clamped; without factors each item has its wish. -/
import Derived.Test.YtaegajlffiepoaaFlxQ
namespace Go.Proofs.Ytaegajlffiepoaa
open FixM ShaD
set_option linter.unusedVariables false

theorem stepF_len (B : Nat → Int) (s : FSt) (p : Nat × Int × Bool) (i : Nat) (h : i ≠ p.1) : (stepF B s p).len i = s.len i := by
  unfold stepF; split
  · simp only [frz]; rw [if_neg h]
  · rfl
theorem stepF_mem (B : Nat → Int) (s : FSt) (p : Nat × Int × Bool) (i : Nat) (h : i ∈ s.loose) : i ∈ (stepF B s p).loose := by
  unfold stepF; split
  · exact h
  · simp only [stay, List.mem_append]; exact Or.inl h
theorem stepF_at (B : Nat → Int) (s : FSt) (p : Nat × Int × Bool) (C : Int → Prop) (h : C p.2.1) : p.1 ∈ (stepF B s p).loose ∨ C ((stepF B s p).len p.1) := by
  unfold stepF; split
  · right; simp only [frz, if_true]; exact h
  · left; simp [stay]
theorem startF_dn (g : Bool) (L : Nat → It) (room : Int) (n : Nat) (C : Nat → Int → Prop) (hC : ∀ i, C i (wsh (L i))) : ∀ k i, i < k → i ∈ (startF g L room n k).loose ∨ C i ((startF g L room n k).len i)
  | 0, i, h => by omega
  | k + 1, i, h => by
    rw [startF_succ]
    by_cases c : i = k
    · subst c
      exact stepF_at _ _ (opens g L i) (C i) (hC i)
    · rcases startF_dn g L room n C hC k i (by omega) with h1 | h1
      · exact Or.inl (stepF_mem _ _ _ _ h1)
      · right; rw [stepF_len _ _ _ _ (by show i ≠ k; exact c)]; exact h1
theorem roundTo_dn (g : Bool) (L : Nat → It) (first : Int) (s : FSt) (n : Nat) (C : Nat → Int → Prop) (hC : ∀ i x, C i (tryF L i x).2.1) (h : ∀ i, i < n → i ∈ s.loose ∨ C i (s.len i)) : ∀ k, k ≤ s.loose.length → ∀ i, i < n → i ∈ (roundTo g L first s k).loose ∨ C i ((roundTo g L first s k).len i) ∨ ∃ j, k ≤ j ∧ j < s.loose.length ∧ s.loose.getD j 0 = i
  | 0, _, i, hi => by
    rcases h i hi with h1 | h1
    · right; right
      obtain ⟨j, hj, e⟩ := List.getElem_of_mem h1
      exact ⟨j, by omega, hj, by simp [List.getD, hj, e]⟩
    · right; left; exact h1
  | k + 1, hk, i, hi => by
    rw [roundTo_succ]
    by_cases c : i = s.loose.getD k 0
    · have e1 : (trialF g L first s k).1 = i := c.symm
      have h2 := stepF_at (fun i => (L i).b) (roundTo g L first s k) ((trialF g L first s k).1, (trialF g L first s k).2.1, endsF (breachF g L first s s.loose.length) (trialF g L first s k).2.2) (C i) (by
        have e : (trialF g L first s k).2.1 = (tryF L i (sharesF g L first s k)).2.1 := by rw [c]; rfl
        simp only [e]
        exact hC i _)
      simp only [e1] at h2 ⊢
      rcases h2 with h2 | h2
      · exact Or.inl h2
      · exact Or.inr (Or.inl h2)
    · rcases roundTo_dn g L first s n C hC h k (by omega) i hi with h1 | h1 | ⟨j, h1, h2, h3⟩
      · exact Or.inl (stepF_mem _ _ _ _ h1)
      · right; left; rw [stepF_len _ _ _ _ (by show i ≠ s.loose.getD k 0; exact c)]; exact h1
      · right; right
        refine ⟨j, ?_, h2, h3⟩
        by_cases e : j = k
        · rw [e] at h3; exact absurd h3.symm c
        · omega
theorem roundF_dn (g : Bool) (L : Nat → It) (first : Int) (s : FSt) (n : Nat) (C : Nat → Int → Prop) (hC : ∀ i x, C i (tryF L i x).2.1) (h : ∀ i, i < n → i ∈ s.loose ∨ C i (s.len i)) : ∀ i, i < n → i ∈ (roundF g L first s).loose ∨ C i ((roundF g L first s).len i) := fun i hi => by
  rcases roundTo_dn g L first s n C hC h s.loose.length (Nat.le_refl _) i hi with h1 | h1 | ⟨j, h1, h2, _⟩
  · exact Or.inl h1
  · exact Or.inr h1
  · omega
theorem runF_dn (g : Bool) (L : Nat → It) (first : Int) (n : Nat) (C : Nat → Int → Prop) (hC : ∀ i x, C i (tryF L i x).2.1) : ∀ f s, s.loose.length ≤ f → (∀ i, i < n → i ∈ s.loose ∨ C i (s.len i)) → ∀ i, i < n → C i ((runF g L first f s).1.len i)
  | 0, s, hl, h, i, hi => by
    have hz : s.loose = [] := List.eq_nil_of_length_eq_zero (by omega)
    rcases h i hi with h1 | h1
    · rw [hz] at h1; simp at h1
    · exact h1
  | f + 1, s, hl, h, i, hi => by
    simp only [runF]
    by_cases c : s.loose = []
    · rw [if_pos c]
      rcases h i hi with h1 | h1
      · rw [c] at h1; simp at h1
      · exact h1
    · rw [if_neg c]
      have hlt := roundF_lt g L first s c
      exact runF_dn g L first n C hC f _ (by omega) (roundF_dn g L first s n C hC h) i hi
/-- P21.2: each length is clamped already -/
theorem resolveF_within (L : Nat → It) (room : Int) (n i : Nat) (hi : i < n) : clI (L i) ((resolveF L room n).1.len i) = (resolveF L room n).1.len i := by
  have h := startF_le (growsF L room n) L room n n
  unfold resolveF
  simp only
  exact runF_dn (growsF L room n) L _ n (fun i x => clI (L i) x = x) (fun i x => clI_two _ _) n _ h (fun i hi => startF_dn _ L room n (fun i x => clI (L i) x = x) (fun i => clI_two _ _) n i hi) i hi
/-- P21.5: without factors each item has its wish -/
theorem startF_wish (g : Bool) (L : Nat → It) (room : Int) (n : Nat) (h : ∀ i, stiffI g (L i) = true) : ∀ k, (startF g L room n k).loose = [] ∧ ∀ i, i < k → (startF g L room n k).len i = wsh (L i)
  | 0 => ⟨rfl, fun i hi => by omega⟩
  | k + 1 => by
    have ih := startF_wish g L room n h k
    rw [startF_succ]
    have e : stepF (fun i => (L i).b) (startF g L room n k) (opens g L k) = frz (fun i => (L i).b) (startF g L room n k) k (wsh (L k)) := by
      unfold stepF opens; simp only [h k, if_true]
    rw [e]
    refine ⟨ih.1, fun i hi => ?_⟩
    simp only [frz]
    by_cases c : i = k
    · rw [if_pos c, c]
    · rw [if_neg c]; exact ih.2 i (by omega)
theorem resolveF_wish (L : Nat → It) (room : Int) (n : Nat) (h : ∀ i, (L i).gr = 0 ∧ (L i).sh = 0) : (resolveF L room n).2 = 0 ∧ ∀ i, i < n → (resolveF L room n).1.len i = wsh (L i) := by
  have hs : ∀ g i, stiffI g (L i) = true := fun g i => by
    have : facI g (L i) = 0 := by unfold facI; split; exact (h i).1; exact (h i).2
    unfold stiffI; simp [this]
  have hw := startF_wish (growsF L room n) L room n (hs _) n
  have e : resolveF L room n = (startF (growsF L room n) L room n n, 0) := by
    unfold resolveF
    simp only
    cases n with
    | zero => rfl
    | succ n => simp only [runF]; rw [if_pos hw.1]
  rw [e]
  exact ⟨rfl, hw.2⟩
end Go.Proofs.Ytaegajlffiepoaa
