/- Layer 21 in numbers: of two items that are alike the one that grows more is not shorter. -/
import Derived.Test.YtlcncjfgalnfoaaFlxQd
namespace Go.Proofs.Ytlcncjfgalnfoaa
open FixM ShaD ShaM
set_option linter.unusedVariables false

def InvM (L : Nat → It) (s : FSt) : Prop :=
  (∃ rest, s.loose = 0 :: 1 :: rest ∧ ∀ x ∈ rest, 2 ≤ x) ∨
  ((1 ∉ s.loose ∧ s.len 1 ≤ wsh (L 0)) ∧ (0 ∈ s.loose ∨ wsh (L 0) ≤ s.len 0)) ∨
  ((0 ∉ s.loose ∧ ∀ x, clI (L 0) x ≤ s.len 0) ∧ (1 ∈ s.loose ∨ ∃ x, s.len 1 = clI (L 0) x)) ∨
  (0 ∉ s.loose ∧ 1 ∉ s.loose ∧ s.len 1 ≤ s.len 0)
theorem InvM.last {L : Nat → It} {s : FSt} (h : InvM L s) (he : s.loose = []) : s.len 1 ≤ s.len 0 := by
  rcases h with ⟨rest, h1, _⟩ | ⟨⟨_, h2⟩, h3⟩ | ⟨⟨_, h2⟩, h3⟩ | ⟨_, _, h3⟩
  · rw [he] at h1; simp at h1
  · rcases h3 with h3 | h3
    · rw [he] at h3; simp at h3
    · omega
  · rcases h3 with h3 | ⟨x, h3⟩
    · rw [he] at h3; simp at h3
    · rw [h3]; exact h2 x
  · exact h3

theorem roundTo_out (L : Nat → It) (first : Int) (s : FSt) (i : Nat) (hi : i ∉ s.loose) : ∀ k, k ≤ s.loose.length → (roundTo true L first s k).len i = s.len i
  | 0, _ => rfl
  | k + 1, hk => by
    rw [roundTo_succ, stepF_len]
    · exact roundTo_out L first s i hi k (by omega)
    · intro e
      apply hi
      have e1 : (trialF true L first s k).1 = s.loose[k] := by
        have : (trialF true L first s k).1 = s.loose.getD k 0 := rfl
        rw [this]; simp [List.getD, show k < s.loose.length by omega]
      rw [e]; simp only; rw [e1]; exact List.getElem_mem _
theorem round_out (L : Nat → It) (first : Int) (s : FSt) (i : Nat) (hi : i ∉ s.loose) : i ∉ (roundF true L first s).loose ∧ (roundF true L first s).len i = s.len i :=
  ⟨fun h => hi (roundTo_sub L first s _ (Nat.le_refl _) i h), roundTo_out L first s i hi _ (Nat.le_refl _)⟩
theorem roundTo_one (L : Nat → It) (first : Int) (s : FSt) (i : Nat) (C : Int → Prop) (hC : ∀ j, j < s.loose.length → s.loose.getD j 0 = i → C (trialF true L first s j).2.1) (h : i ∈ s.loose) : ∀ k, k ≤ s.loose.length → i ∈ (roundTo true L first s k).loose ∨ C ((roundTo true L first s k).len i) ∨ ∃ j, k ≤ j ∧ j < s.loose.length ∧ s.loose.getD j 0 = i
  | 0, _ => by
    right; right
    obtain ⟨j, hj, e⟩ := List.getElem_of_mem h
    exact ⟨j, by omega, hj, by simp [List.getD, hj, e]⟩
  | k + 1, hk => by
    rw [roundTo_succ]
    by_cases c : i = s.loose.getD k 0
    · have e1 : (trialF true L first s k).1 = i := c.symm
      have h2 := stepF_at (fun i => (L i).b) (roundTo true L first s k) ((trialF true L first s k).1, (trialF true L first s k).2.1, endsF (breachF true L first s s.loose.length) (trialF true L first s k).2.2) C (hC k (by omega) c.symm)
      simp only [e1] at h2 ⊢
      rcases h2 with h2 | h2
      · exact Or.inl h2
      · exact Or.inr (Or.inl h2)
    · rcases roundTo_one L first s i C hC h k (by omega) with h1 | h1 | ⟨j, h1, h2, h3⟩
      · exact Or.inl (stepF_mem _ _ _ _ h1)
      · right; left; rw [stepF_len _ _ _ _ (by show i ≠ s.loose.getD k 0; exact c)]; exact h1
      · right; right
        refine ⟨j, ?_, h2, h3⟩
        by_cases e : j = k
        · rw [e] at h3; exact absurd h3.symm c
        · omega
theorem round_one (L : Nat → It) (first : Int) (s : FSt) (i : Nat) (C : Int → Prop) (hC : ∀ j, j < s.loose.length → s.loose.getD j 0 = i → C (trialF true L first s j).2.1) (h : i ∈ s.loose) : i ∈ (roundF true L first s).loose ∨ C ((roundF true L first s).len i) := by
  rcases roundTo_one L first s i C hC h s.loose.length (Nat.le_refl _) with h1 | h1 | ⟨j, h1, h2, _⟩
  · exact Or.inl h1
  · exact Or.inr h1
  · omega
/-- behind the first two places -/
theorem roundTo_rest (L : Nat → It) (first : Int) (s : FSt) (h2 : ∀ j, 2 ≤ j → j < s.loose.length → 2 ≤ s.loose.getD j 0) : ∀ k, 2 ≤ k → k ≤ s.loose.length → ∃ rest, (roundTo true L first s k).loose = (roundTo true L first s 2).loose ++ rest ∧ (∀ x ∈ rest, 2 ≤ x) ∧ (roundTo true L first s k).len 0 = (roundTo true L first s 2).len 0 ∧ (roundTo true L first s k).len 1 = (roundTo true L first s 2).len 1
  | 0, h, _ => by omega
  | k + 1, h, hk => by
    by_cases c : k + 1 = 2
    · rw [c]; exact ⟨[], by simp, by simp, rfl, rfl⟩
    · obtain ⟨rest, r1, r2, r3, r4⟩ := roundTo_rest L first s h2 k (by omega) (by omega)
      have hp := h2 k (by omega) (by omega)
      rw [roundTo_succ]
      have e0 : (0 : Nat) ≠ s.loose.getD k 0 := by omega
      have e1 : (1 : Nat) ≠ s.loose.getD k 0 := by omega
      by_cases he : endsF (breachF true L first s s.loose.length) (trialF true L first s k).2.2 = true
      · refine ⟨rest, ?_, r2, ?_, ?_⟩
        · unfold stepF; rw [if_pos he]; exact r1
        · rw [stepF_len _ _ _ _ e0]; exact r3
        · rw [stepF_len _ _ _ _ e1]; exact r4
      · refine ⟨rest ++ [s.loose.getD k 0], ?_, ?_, ?_, ?_⟩
        · unfold stepF; rw [if_neg he]; simp only [stay]; rw [r1, List.append_assoc]; rfl
        · intro x hx
          simp only [List.mem_append, List.mem_singleton] at hx
          rcases hx with hx | rfl
          · exact r2 x hx
          · exact hp
        · rw [stepF_len _ _ _ _ e0]; exact r3
        · rw [stepF_len _ _ _ _ e1]; exact r4

/-- two items that are alike, but for what they grow -/
structure Alike (L : Nat → It) : Prop where
  b : (L 1).b = (L 0).b
  l : (L 1).l = (L 0).l
  m : (L 1).m = (L 0).m
  gr : (L 1).gr ≤ (L 0).gr
theorem Alike.cl {L : Nat → It} (h : Alike L) (x : Int) : clI (L 1) x = clI (L 0) x := by unfold clI; rw [h.l, h.m]
theorem Alike.wsh {L : Nat → It} (h : Alike L) : wsh (L 1) = wsh (L 0) := by unfold Go.Proofs.Ytlcncjfgalnfoaa.wsh; rw [h.cl, h.b]

theorem InvM.round {L : Nat → It} {first : Int} {s : FSt} (ha : Alike L) (hg : Good L first s) (h : InvM L s) : InvM L (roundF true L first s) := by
  rcases h with ⟨rest, h1, h2⟩ | ⟨⟨h1, h2⟩, h3⟩ | ⟨⟨h1, h2⟩, h3⟩ | ⟨h1, h2, h3⟩
  · have hm : s.loose.length = rest.length + 2 := by rw [h1]; rfl
    have p0 : s.loose.getD 0 0 = 0 := by rw [h1]; rfl
    have p1 : s.loose.getD 1 0 = 1 := by rw [h1]; rfl
    have p2 : ∀ j, 2 ≤ j → j < s.loose.length → 2 ≤ s.loose.getD j 0 := fun j hj hj2 => by
      obtain ⟨i, rfl⟩ : ∃ i, j = i + 2 := ⟨j - 2, by omega⟩
      have hi : i < rest.length := by omega
      have e : s.loose.getD (i + 2) 0 = rest[i] := by rw [h1]; simp [List.getD, hi]
      rw [e]; exact h2 _ (List.getElem_mem hi)
    obtain ⟨rest', r1, r2, r3, r4⟩ := roundTo_rest L first s p2 s.loose.length (by omega) (Nat.le_refl _)
    -- the two trials
    have hsh : sharesF true L first s 1 ≤ sharesF true L first s 0 := by
      have w0 : (s.loose.map fun i => wgtI true (L i)).getD 0 0 = (L 0).gr := by rw [h1]; simp [wgtI, List.getD]
      have w1 : (s.loose.map fun i => wgtI true (L i)).getD 1 0 = (L 1).gr := by rw [h1]; simp [wgtI, List.getD]
      have g0 := hg.hd 0
      have g1 := hg.hd 1
      refine shareS_order hg.dealt.1 (s.loose.map fun i => wgtI true (L i)) 0 1 ?_
      rw [w0, w1, WT_smallF g0.r0 g0.r1, WT_smallF g1.r0 g1.r1]
      have := ha.gr
      omega
    have q0 := try_good (hg.hd 0) (by have := (hg.get 0 (by omega)).2; rwa [p0] at this) (hg.share 0).1
    have q1 := try_good (hg.hd 1) (by have := (hg.get 1 (by omega)).2; rwa [p1] at this) (hg.share 1).1
    have t0 : trialF true L first s 0 = tryF L 0 (sharesF true L first s 0) := by unfold trialF; rw [p0]
    have t1 : trialF true L first s 1 = tryF L 1 (sharesF true L first s 1) := by unfold trialF; rw [p1]
    obtain ⟨w0, hw0⟩ : ∃ w, H (H (L 0).b + H (sharesF true L first s 0)) = w := ⟨_, rfl⟩
    obtain ⟨w1, hw1⟩ : ∃ w, H (H (L 1).b + H (sharesF true L first s 1)) = w := ⟨_, rfl⟩
    have hww : w1 ≤ w0 := by
      have hmono : ∀ x y : Int, x ≤ y → H x ≤ H y := fun x y h => by unfold H; repeat' split <;> omega
      rw [← hw0, ← hw1, ha.b]
      exact hmono _ _ (by have := hmono _ _ hsh; omega)
    have l0 : (tryF L 0 (sharesF true L first s 0)).2.1 = clI (L 0) w0 := by rw [← hw0]; rfl
    have l1 : (tryF L 1 (sharesF true L first s 1)).2.1 = clI (L 0) w1 := by rw [← hw1, ← ha.cl]; rfl
    have b0 : (tryF L 0 (sharesF true L first s 0)).2.2 = clI (L 0) w0 - w0 := by rw [← hw0]; rfl
    have b1 : (tryF L 1 (sharesF true L first s 1)).2.2 = clI (L 0) w1 - w1 := by rw [← hw1, ← ha.cl]; rfl
    obtain ⟨al, hal⟩ : ∃ al, breachF true L first s s.loose.length = al := ⟨_, rfl⟩
    have R2 : roundTo true L first s 2 = stepF (fun i => (L i).b) (stepF (fun i => (L i).b) ⟨s.len, [], s.free⟩ (0, clI (L 0) w0, endsF al (clI (L 0) w0 - w0))) (1, clI (L 0) w1, endsF al (clI (L 0) w1 - w1)) := by
      rw [roundTo_succ, roundTo_succ, t0, t1, hal, l0, l1, b0, b1]
      rfl
    have hends : ∀ br, endsF al br = true ↔ (al = 0 ∨ 0 < al ∧ 0 < br ∨ al < 0 ∧ br < 0) := fun br => by
      unfold endsF
      simp only [Bool.or_eq_true, Bool.and_eq_true, beq_iff_eq, decide_eq_true_eq, or_assoc]
    have up : 0 < clI (L 0) w0 - w0 → 0 < clI (L 0) w1 - w1 := fun h => by
      unfold clI at h ⊢
      split at h <;> split <;> omega
    have down : clI (L 0) w1 - w1 < 0 → clI (L 0) w0 - w0 < 0 := fun h => by
      unfold clI at h ⊢
      split at h <;> split <;> omega
    rw [b0, l0] at q0
    rw [b1, l1, ha.wsh] at q1
    show InvM L (roundTo true L first s s.loose.length)
    have no0 : 0 ∉ rest' := fun hx => by have := r2 0 hx; omega
    have no1 : 1 ∉ rest' := fun hx => by have := r2 1 hx; omega
    cases e0 : endsF al (clI (L 0) w0 - w0) <;> cases e1 : endsF al (clI (L 0) w1 - w1)
    · -- both stay
      rw [e0, e1] at R2
      have hl : (roundTo true L first s 2).loose = [0, 1] := by rw [R2]; rfl
      left
      exact ⟨rest', by rw [r1, hl]; rfl, r2⟩
    · -- the second alone is frozen
      rw [e0, e1] at R2
      have hl : (roundTo true L first s 2).loose = [0] := by rw [R2]; rfl
      have hn1 : (roundTo true L first s 2).len 1 = clI (L 0) w1 := by rw [R2]; rfl
      right; left
      refine ⟨⟨by rw [r1, hl]; simp [no1], ?_⟩, Or.inl (by rw [r1, hl]; simp)⟩
      rw [r4, hn1]
      have h0 : ¬ (endsF al (clI (L 0) w0 - w0) = true) := by rw [e0]; simp
      rw [hends] at h0
      have h1' := (hends _).1 e1
      have : 0 < clI (L 0) w1 - w1 := by
        rcases h1' with h | ⟨_, h⟩ | ⟨h, h'⟩
        · omega
        · exact h
        · have := down h'; omega
      have := (q1.2.2.1 this).1
      omega
    · -- the first alone is frozen
      rw [e0, e1] at R2
      have hl : (roundTo true L first s 2).loose = [1] := by rw [R2]; rfl
      have hn0 : (roundTo true L first s 2).len 0 = clI (L 0) w0 := by rw [R2]; rfl
      right; right; left
      refine ⟨⟨by rw [r1, hl]; simp [no0], ?_⟩, Or.inl (by rw [r1, hl]; simp)⟩
      rw [r3, hn0]
      have h0 : ¬ (endsF al (clI (L 0) w1 - w1) = true) := by rw [e1]; simp
      rw [hends] at h0
      have h1' := (hends _).1 e0
      have : clI (L 0) w0 - w0 < 0 := by
        rcases h1' with h | ⟨h, h'⟩ | ⟨_, h⟩
        · omega
        · have := up h'; omega
        · exact h
      exact q0.2.2.2 this
    · -- both are frozen
      rw [e0, e1] at R2
      have hl : (roundTo true L first s 2).loose = [] := by rw [R2]; rfl
      have hn0 : (roundTo true L first s 2).len 0 = clI (L 0) w0 := by rw [R2]; rfl
      have hn1 : (roundTo true L first s 2).len 1 = clI (L 0) w1 := by rw [R2]; rfl
      right; right; right
      refine ⟨by rw [r1, hl]; simpa using no0, by rw [r1, hl]; simpa using no1, ?_⟩
      rw [r3, r4, hn0, hn1]
      exact clI_mono _ hww
  · obtain ⟨o1, o2⟩ := round_out L first s 1 h1
    right; left
    refine ⟨⟨o1, by rw [o2]; exact h2⟩, ?_⟩
    by_cases c : 0 ∈ s.loose
    · exact round_one L first s 0 (fun x => wsh (L 0) ≤ x) (fun j hj e => by
        have q := try_good (hg.hd 0) (by have := (hg.get j hj).2; rwa [e] at this) (hg.share j).1
        have t : trialF true L first s j = tryF L 0 (sharesF true L first s j) := by unfold trialF; rw [e]
        rw [t]; exact q.1) c
    · obtain ⟨o3, o4⟩ := round_out L first s 0 c
      rcases h3 with h3 | h3
      · exact absurd h3 c
      · exact Or.inr (by rw [o4]; exact h3)
  · obtain ⟨o1, o2⟩ := round_out L first s 0 h1
    right; right; left
    refine ⟨⟨o1, by rw [o2]; exact h2⟩, ?_⟩
    by_cases c : 1 ∈ s.loose
    · exact round_one L first s 1 (fun x => ∃ y, x = clI (L 0) y) (fun j hj e => by
        have t : trialF true L first s j = tryF L 1 (sharesF true L first s j) := by unfold trialF; rw [e]
        rw [t]
        exact ⟨H (H (L 1).b + H (sharesF true L first s j)), by rw [← ha.cl]; rfl⟩) c
    · obtain ⟨o3, o4⟩ := round_out L first s 1 c
      rcases h3 with h3 | h3
      · exact absurd h3 c
      · exact Or.inr (by rw [o4]; exact h3)
  · obtain ⟨o1, o2⟩ := round_out L first s 0 h1
    obtain ⟨o3, o4⟩ := round_out L first s 1 h2
    right; right; right
    exact ⟨o1, o3, by rw [o2, o4]; exact h3⟩
theorem runF_more2 (L : Nat → It) (first : Int) (ha : Alike L) : ∀ f s, s.loose.length ≤ f → Good L first s → InvM L s → (runF true L first f s).1.len 1 ≤ (runF true L first f s).1.len 0
  | 0, s, hl, hg, h => by
    have hz : s.loose = [] := List.eq_nil_of_length_eq_zero (by omega)
    exact h.last hz
  | f + 1, s, hl, hg, h => by
    simp only [runF]
    by_cases c : s.loose = []
    · rw [if_pos c]; exact h.last c
    · rw [if_neg c]
      have hlt := roundF_lt true L first s c
      exact runF_more2 L first ha f _ (by omega) hg.round (h.round ha hg)
theorem start_rest (L : Nat → It) (room : Int) (n : Nat) : ∀ k, 2 ≤ k → ∃ rest, (startF true L room n k).loose = (startF true L room n 2).loose ++ rest ∧ (∀ x ∈ rest, 2 ≤ x) ∧ (startF true L room n k).len 1 = (startF true L room n 2).len 1
  | 0, h => by omega
  | k + 1, h => by
    by_cases c : k + 1 = 2
    · rw [c]; exact ⟨[], by simp, by simp, rfl⟩
    · obtain ⟨rest, r1, r2, r4⟩ := start_rest L room n k (by omega)
      rw [startF_succ]
      have e1 : (1 : Nat) ≠ (opens true L k).1 := by show 1 ≠ k; omega
      by_cases he : (opens true L k).2.2 = true
      · refine ⟨rest, ?_, r2, ?_⟩
        · unfold stepF; rw [if_pos he]; exact r1
        · rw [stepF_len _ _ _ _ e1]; exact r4
      · refine ⟨rest ++ [k], ?_, ?_, ?_⟩
        · unfold stepF; rw [if_neg he]; simp only [stay]; rw [r1, List.append_assoc]; rfl
        · intro x hx
          simp only [List.mem_append, List.mem_singleton] at hx
          rcases hx with hx | rfl
          · exact r2 x hx
          · omega
        · rw [stepF_len _ _ _ _ e1]; exact r4
/-- P21.5: who grows more is not shorter -/
theorem resolveF_more (L : Nat → It) (room : Int) (n : Nat) (hn : 2 ≤ n) (hd : ∀ i, HeldI (L i)) (ha : Alike L) (hg : growsF L room n = true) (h0 : (L 0).gr ≠ 0) (hb : (L 0).b ≤ wsh (L 0)) : (resolveF L room n).1.len 1 ≤ (resolveF L room n).1.len 0 := by
  have hgood := good_start L room n hd hg
  have hinv : InvM L (startF true L room n n) := by
    obtain ⟨rest, r1, r2, r4⟩ := start_rest L room n n hn
    have s0 : stiffI true (L 0) = false := by unfold stiffI facI pastI; simp [h0]; omega
    have s1 : stiffI true (L 1) = ((L 1).gr == 0) := by
      unfold stiffI facI pastI
      have := ha.wsh; have := ha.b
      simp only [if_true]
      rw [show decide (wsh (L 1) < (L 1).b) = false from decide_eq_false (by omega)]; simp
    have e2 : startF true L room n 2 = stepF (fun i => (L i).b) (stay (begin0 L room n) 0) (1, wsh (L 1), (L 1).gr == 0) := by
      rw [startF_succ, startF_succ]
      unfold opens
      rw [s0, s1]; rfl
    by_cases c : (L 1).gr = 0
    · have e3 : startF true L room n 2 = frz (fun i => (L i).b) (stay (begin0 L room n) 0) 1 (wsh (L 1)) := by rw [e2]; simp [stepF, c]
      have hl : (startF true L room n 2).loose = [0] := by rw [e3]; rfl
      have hlen : (startF true L room n 2).len 1 = wsh (L 1) := by rw [e3]; rfl
      right; left
      refine ⟨⟨?_, by rw [r4, hlen, ha.wsh]; exact Int.le_refl _⟩, Or.inl (by rw [r1, hl]; simp)⟩
      rw [r1, hl]
      simp only [List.cons_append, List.nil_append, List.mem_cons]
      rintro (h | h)
      · omega
      · have := r2 1 h; omega
    · have e3 : startF true L room n 2 = stay (stay (begin0 L room n) 0) 1 := by rw [e2]; simp [stepF, c]
      have hl : (startF true L room n 2).loose = [0, 1] := by rw [e3]; rfl
      left
      exact ⟨rest, by rw [r1, hl]; rfl, r2⟩
  unfold resolveF
  rw [hg]
  simp only
  exact runF_more2 L _ ha n _ (startF_le true L room n n) hgood hinv
end Go.Proofs.Ytlcncjfgalnfoaa
