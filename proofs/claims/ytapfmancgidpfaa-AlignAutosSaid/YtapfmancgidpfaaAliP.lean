/- What is spread, in numbers: the shares are the whole, and so are the spaces; spaces as the other text has them. -/
import Derived.Test.YtapfmancgidpfaaAliW3
import Derived.Test.YtapfmancgidpfaaShaW15
namespace Go.Proofs.Ytapfmancgidpfaa
open Go.RowKit FixM ShaD ShaM Go.Sort
set_option linter.unusedVariables false

theorem rk_ssum (r : Nat → Int) (n : Nat) : ∀ L : Nat, L ≤ n → ssum (fun i => if rk r n i < L then 1 else 0) n = L
  | 0, _ => by
    rw [ssum_ext (g := fun _ => 0) n (fun i _ => by simp), ssum_zero]; rfl
  | L + 1, h => by
    have ih := rk_ssum r n L (by omega)
    obtain ⟨p, hp, hr⟩ := rk_onto r n L (by omega)
    rw [ssum_ext (g := fun i => if (p : Int) = (i : Int) then (fun i => if rk r n i < L then (1 : Int) else 0) i + 1 else (fun i => if rk r n i < L then (1 : Int) else 0) i) n (fun i hi => by
      by_cases c : p = i
      · subst c
        simp [hr]
      · rw [if_neg (show ¬ (p : Int) = (i : Int) by omega)]
        have hne : rk r n i ≠ L := fun e => c (rk_inj r n p i hp hi (by rw [hr, e]))
        by_cases c2 : rk r n i < L
        · simp only [c2, if_true]; rw [if_pos (by omega)]
        · simp only [c2, if_false]; rw [if_neg (by omega)]), ssum_bump, ih, if_pos hp]
    omega

theorem share0_sum {t : Int} (ht : 0 ≤ t) (ws : List Int) (hz : wsum ws ≠ 0) : ssum (share0 t ws) ws.length = t := by
  have hp : 0 < wsum ws := by have := (wsum_bd ws).1; omega
  have hn : 0 < ws.length := by
    cases ws with
    | nil => exact absurd rfl hz
    | cons x l => simp
  have hl := left_bd (t := t) ws rfl hp hn
  have e : share0 t ws = fun i => qs t (wsum ws) ws i + if rk (rs t (wsum ws) ws) ws.length i < (t - qsum t (wsum ws) ws ws.length).toNat then 1 else 0 := by
    funext i; unfold share0; rw [if_neg hz]
  rw [e, ssum_add, qsum_ssum, rk_ssum _ _ _ (by omega)]
  omega
theorem shareS_sum {t : Int} (ht : 0 ≤ t) (ws : List Int) (hz : wsum ws ≠ 0) : ssum (shareS t ws) ws.length = t := by
  have e : shareS t ws = share0 t ws := by funext i; unfold shareS; rw [if_neg (by omega)]
  rw [e]; exact share0_sum ht ws hz
theorem shareS_pos {t : Int} (ht : 0 ≤ t) (ws : List Int) (i : Nat) : 0 ≤ shareS t ws i ∧ shareS t ws i ≤ t + 1 := by
  unfold shareS; rw [if_neg (by omega)]; exact share0_bd ht ws i
theorem ssum_at (j : Nat) (c : Int) : ∀ n, ssum (fun i => if i = j then c else 0) n = if j < n then c else 0
  | 0 => by simp [ssum]
  | n + 1 => by
    show ssum (fun i => if i = j then c else 0) n + (if n = j then c else 0) = _
    rw [ssum_at j c n]
    by_cases h : n = j
    · rw [if_neg (by omega), if_pos h, if_pos (by omega)]; omega
    · rw [if_neg h]
      by_cases h2 : j < n
      · rw [if_pos h2, if_pos (by omega)]; omega
      · rw [if_neg h2, if_neg (by omega)]; omega

theorem WT_small {x : Int} (h0 : 0 ≤ x) (h1 : x ≤ 1073741824) : WT x = x := by
  unfold WT; rw [H_id (by omega) h1]; omega
theorem EN_bd (way : Int) : 0 ≤ EN way ∧ EN way ≤ 1 := by unfold EN; split <;> omega
theorem IW_bd (way : Int) : 0 ≤ IW way ∧ IW way ≤ 2 := by unfold IW; repeat' split <;> omega
theorem wts_pos {en iw : Int} {N : Nat} (he : 0 ≤ en ∧ en ≤ 1) (hi : 0 ≤ iw ∧ iw ≤ 2) (h : 0 < en ∨ 0 < iw ∧ 1 < N) : wsum ((List.range (N + 1)).map (wts22 en iw N)) ≠ 0 := by
  rcases h with h | ⟨h1, h2⟩
  · have := WT_le_wsum ((List.range (N + 1)).map (wts22 en iw N)) 0
    rw [getD_row _ _ _ (by omega)] at this
    have e : wts22 en iw N 0 = en := by unfold wts22; rw [if_pos (Or.inl rfl)]
    rw [e, WT_small (by omega) (by omega)] at this
    omega
  · have := WT_le_wsum ((List.range (N + 1)).map (wts22 en iw N)) 1
    rw [getD_row _ _ _ (by omega)] at this
    have e : wts22 en iw N 1 = iw := by unfold wts22; rw [if_neg (by omega)]
    rw [e, WT_small (by omega) (by omega)] at this
    omega

theorem half22 {F : Int} (h0 : -1073741824 ≤ F) (h1 : F ≤ 1073741824) : PT F 1 2 = FL F 2 := by
  unfold PT
  rw [if_neg (by decide), H_id h0 h1, H_id (x := 1) (by decide) (by decide), H_id (x := 2) (by decide) (by decide), Int.mul_one]
  have := FL_pos F 2 (by decide)
  exact H_id (by omega) (by omega)
theorem AH_pos {F : Int} (way : Int) (h0 : 0 ≤ F) (h1 : F ≤ 1073741824) : 0 ≤ AH F way ∧ AH F way ≤ F := by
  have h2 := half22 (F := F) (by omega) h1
  have := FL_pos F 2 (by decide)
  unfold AH
  repeat' split <;> omega
theorem spS_pos {F : Int} (N : Nat) (way : Int) (i : Nat) (h0 : 0 ≤ F) (h1 : F ≤ 1073741824) : 0 ≤ spS F N way i := by
  have ha := AH_pos way h0 h1
  unfold spS
  split
  · exact (shareS_pos h0 _ _).1
  · repeat' split <;> omega
theorem spS_bd {F : Int} (N : Nat) (way : Int) (i : Nat) (h0 : -1073741824 ≤ F) (h1 : F ≤ 1073741824) : -4294967296 ≤ spS F N way i ∧ spS F N way i ≤ 4294967296 := by
  have ha := AH_bd F way
  rw [H_id h0 h1] at ha
  unfold spS
  split
  · rename_i h
    have := shareS_pos (t := F) (by omega) ((List.range (N + 1)).map (wts22 (EN way) (IW way) N)) i
    omega
  · repeat' split <;> omega
theorem spS_sum (F : Int) (N : Nat) (way : Int) : ssum (spS F N way) (N + 1) = F := by
  by_cases hb : 0 < F ∧ (0 < EN way ∨ 0 < IW way ∧ 1 < N)
  · have e : spS F N way = shareS F ((List.range (N + 1)).map (wts22 (EN way) (IW way) N)) := by funext i; unfold spS; rw [if_pos hb]
    have h := shareS_sum (t := F) (by omega) ((List.range (N + 1)).map (wts22 (EN way) (IW way) N)) (wts_pos (EN_bd way) (IW_bd way) hb.2)
    rw [len_row] at h
    rw [e, h]
  · have e : spS F N way = fun i => (fun i => if i = 0 then AH F way else 0) i + (fun i => if i = N then F - AH F way else 0) i := by funext i; unfold spS; rw [if_neg hb]
    rw [e, ssum_add, ssum_at, ssum_at, if_pos (by omega), if_pos (by omega)]; omega
theorem spS_zero (N : Nat) (way : Int) (i : Nat) : spS 0 N way i = 0 := by
  have h1 : PT 0 1 2 = 0 := by decide
  have : AH 0 way = 0 := by unfold AH; rw [h1]; split <;> simp
  unfold spS
  rw [if_neg (by omega), this]
  simp
/-- where it is dealt -/
theorem spS_deal {F : Int} (N : Nat) (way en iw : Int) (hen : EN way = en) (hiw : IW way = iw) (h0 : 0 ≤ F) (h : 0 < en ∨ 0 < iw ∧ 1 < N) (i : Nat) : shareS F ((List.range (N + 1)).map (wts22 en iw N)) i = spS F N way i := by
  by_cases c : F = 0
  · subst c
    rw [spS_zero]
    unfold shareS
    rw [if_neg (by omega), share0_zero]
  · unfold spS
    rw [hen, hiw, if_pos ⟨by omega, h⟩]
/-- where it isn't -/
theorem spS_rest {F : Int} (N : Nat) (way : Int) (h : ¬ (0 < F ∧ (0 < EN way ∨ 0 < IW way ∧ 1 < N))) (i : Nat) : spS F N way i = (if i = 0 then AH F way else 0) + (if i = N then F - AH F way else 0) := by
  unfold spS; rw [if_neg h]
theorem spS_none (F way : Int) : spS F 0 way 0 = F := by
  have h := spS_sum F 0 way
  simpa [ssum] using h
end Go.Proofs.Ytapfmancgidpfaa
