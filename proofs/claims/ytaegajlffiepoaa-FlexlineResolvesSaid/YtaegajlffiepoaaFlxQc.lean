/- Layer 21 in numbers: a line that grows without ends to its lengths is filled to the last 64th. -/
import Derived.Test.YtaegajlffiepoaaFlxQb
import Derived.Test.YtaegajlffiepoaaFlxK
namespace Go.Proofs.Ytaegajlffiepoaa
open FixM ShaD ShaM
set_option linter.unusedVariables false

theorem rk_ssumF (r : Nat → Int) (n : Nat) : ∀ L : Nat, L ≤ n → ssum (fun i => if rk r n i < L then 1 else 0) n = L
  | 0, _ => by
    rw [ssum_ext (g := fun _ => 0) n (fun i _ => by simp), ssum_zero]; rfl
  | L + 1, h => by
    have ih := rk_ssumF r n L (by omega)
    obtain ⟨p, hp, hr⟩ := rk_onto r n L (by omega)
    rw [ssum_ext (g := fun i => if (p : Int) = (i : Int) then (fun i => if rk r n i < L then (1 : Int) else 0) i + 1 else (fun i => if rk r n i < L then (1 : Int) else 0) i) n (fun i hi => by
      by_cases c : p = i
      · subst c
        simp [hr]
      · rw [if_neg (show ¬ (p : Int) = (i : Int) by omega)]
        have hne : rk r n i ≠ L := fun e => c (rk_inj r n p i hp hi (by rw [hr, e]))
        by_cases c2 : rk r n i < L
        · simp only [c2, if_true]; rw [if_pos (by omega)]
        · simp only [c2, if_false]; rw [if_neg (by omega)]), ssum_bump, ih, if_pos hp]
    omega

theorem share0_sumF {t : Int} (ht : 0 ≤ t) (ws : List Int) (hz : wsum ws ≠ 0) : ssum (share0 t ws) ws.length = t := by
  have hp : 0 < wsum ws := by have := (wsum_bd ws).1; omega
  have hn : 0 < ws.length := by
    cases ws with
    | nil => exact absurd rfl hz
    | cons x l => simp
  have hl := left_bd (t := t) ws rfl hp hn
  have e : share0 t ws = fun i => qs t (wsum ws) ws i + if rk (rs t (wsum ws) ws) ws.length i < (t - qsum t (wsum ws) ws ws.length).toNat then 1 else 0 := by
    funext i; unfold share0; rw [if_neg hz]
  rw [e, ssum_add, qsum_ssum, rk_ssumF _ _ _ (by omega)]
  omega
theorem shareS_sumF {t : Int} (ht : 0 ≤ t) (ws : List Int) (hz : wsum ws ≠ 0) : ssum (shareS t ws) ws.length = t := by
  have e : shareS t ws = share0 t ws := by funext i; unfold shareS; rw [if_neg (by omega)]
  rw [e]; exact share0_sumF ht ws hz
theorem shareS_posF {t : Int} (ht : 0 ≤ t) (ws : List Int) (i : Nat) : 0 ≤ shareS t ws i ∧ shareS t ws i ≤ t + 1 := by
  unfold shareS; rw [if_neg (by omega)]; exact share0_bd ht ws i
theorem WT_smallF {x : Int} (h0 : 0 ≤ x) (h1 : x ≤ 1073741824) : WT x = x := by
  unfold WT; rw [H_id (by omega) h1]; omega

theorem ssum_fsum (f : Nat → Int) : ∀ n, ssum f n = fsum f n
  | 0 => rfl
  | n + 1 => by simp only [ssum, fsum]; rw [ssum_fsum f n]
theorem fsum_addF (f g : Nat → Int) : ∀ n, fsum (fun i => f i + g i) n = fsum f n + fsum g n
  | 0 => rfl
  | n + 1 => by simp only [fsum]; rw [fsum_addF f g n]; omega
theorem fsum_set (f : Nat → Int) (i : Nat) (x : Int) : ∀ n, fsum (fun j => if j = i then x else f j) n = fsum f n + if i < n then x - f i else 0
  | 0 => by simp [fsum]
  | n + 1 => by
    simp only [fsum]
    rw [fsum_set f i x n]
    by_cases c : n = i
    · subst c; rw [if_pos rfl, if_neg (by omega), if_pos (by omega)]; omega
    · rw [if_neg c]
      by_cases c2 : i < n
      · rw [if_pos c2, if_pos (by omega)]; omega
      · rw [if_neg c2, if_neg (by omega)]; omega
theorem fsumL_snoc (f : Nat → Int) (l : List Nat) (x : Nat) : fsumL f (l ++ [x]) = fsumL f l + f x := by
  unfold fsumL; simp [List.sum_append]

/-- an item without ends, no Base below 0 -/
structure FullI (t : It) : Prop where
  hd : HeldI t
  l0 : t.l = 0
  m0 : t.m = -1
  b0 : 0 ≤ t.b
theorem FullI.cl {t : It} (h : FullI t) {x : Int} (hx : 0 ≤ x) : clI t x = x := by
  have := h.l0; have := h.m0
  unfold clI
  rw [if_neg (by omega)]; omega
theorem FullI.wsh {t : It} (h : FullI t) : wsh t = t.b := h.cl h.b0

theorem start_full (L : Nat → It) (room : Int) (n : Nat) (hF : ∀ i, FullI (L i)) : ∀ k, k ≤ n →
    (startF true L room n k).free = free0 L room n ∧ (startF true L room n k).loose = (List.range k).filter (fun i => decide ((L i).gr ≠ 0)) ∧ (∀ i, k ≤ i → (startF true L room n k).len i = 0) ∧ (∀ i, (L i).gr ≠ 0 → (startF true L room n k).len i = 0) ∧
    fsum (startF true L room n k).len n + fsumL (fun i => (L i).b) (startF true L room n k).loose = fsum (fun i => (L i).b) k ∧ fsumL (fun i => (L i).gr) (startF true L room n k).loose = fsum (fun i => (L i).gr) k
  | 0, _ => by
    refine ⟨rfl, rfl, fun _ _ => rfl, fun _ _ => rfl, ?_, rfl⟩
    show fsum (fun _ => 0) n + 0 = 0
    have : ∀ m, fsum (fun _ => (0 : Int)) m = 0 := fun m => by
      induction m with
      | zero => rfl
      | succ m ih => simp only [fsum, ih]; rfl
    rw [this]; rfl
  | k + 1, hk => by
    obtain ⟨h1, h2, h3, h4, h5, h6⟩ := start_full L room n hF k (by omega)
    have hw := (hF k).wsh
    have hst : stiffI true (L k) = ((L k).gr == 0) := by
      unfold stiffI pastI facI
      simp only [if_true]
      rw [hw]; simp
    rw [startF_succ]
    obtain ⟨s, hs⟩ : ∃ s, startF true L room n k = s := ⟨_, rfl⟩
    rw [hs] at h1 h2 h3 h4 h5 h6 ⊢
    have hfil : ∀ p : Nat → Bool, (List.range (k + 1)).filter p = (List.range k).filter p ++ if p k = true then [k] else [] := fun p => by
      rw [List.range_succ, List.filter_append]
      congr 1
      cases h : p k <;> simp [h]
    by_cases c : (L k).gr = 0
    · have e : stepF (fun i => (L i).b) s (opens true L k) = frz (fun i => (L i).b) s k (L k).b := by
        unfold stepF opens; simp only [hst, hw]; simp [c]
      rw [e]
      refine ⟨?_, ?_, ?_, ?_, ?_, ?_⟩
      · simp only [frz]; omega
      · simp only [frz]; rw [h2, hfil, if_neg (by simp [c])]; simp
      · intro i hi; simp only [frz]; rw [if_neg (by omega)]; exact h3 i (by omega)
      · intro i hi; simp only [frz]; rw [if_neg (fun e => hi (by rw [e]; exact c))]; exact h4 i hi
      · simp only [frz]
        rw [fsum_set, if_pos (by omega), h3 k (Nat.le_refl _)]
        simp only [fsum]; omega
      · simp only [frz]; rw [h6]; simp only [fsum]; omega
    · have e : stepF (fun i => (L i).b) s (opens true L k) = stay s k := by
        unfold stepF opens; simp only [hst]; simp [c]
      rw [e]
      refine ⟨h1, ?_, ?_, h4, ?_, ?_⟩
      · simp only [stay]; rw [h2, hfil, if_pos (by simp [c])]
      · intro i hi; exact h3 i (by omega)
      · simp only [stay]; rw [fsumL_snoc]; simp only [fsum]; omega
      · simp only [stay]; rw [fsumL_snoc]; simp only [fsum]; omega

theorem try_full {L : Nat → It} {i : Nat} (h : FullI (L i)) {x : Int} (h0 : 0 ≤ x) (h1 : x ≤ 1073741825) : (tryF L i x).2.2 = 0 ∧ 0 ≤ (tryF L i x).2.1 ∧ ((tryF L i x).2.1 < 1073741824 → (tryF L i x).2.1 = (L i).b + x) := by
  have hb := h.b0
  have hb1 := h.hd.b1
  have hbe : H (L i).b = (L i).b := H_id (by omega) hb1
  have hx : 0 ≤ H x := by unfold H; repeat' split <;> omega
  have hw : 0 ≤ H (H (L i).b + H x) := by rw [hbe]; unfold H; repeat' split <;> omega
  have e1 : (tryF L i x).2.1 = H (H (L i).b + H x) := h.cl hw
  have e2 : (tryF L i x).2.2 = clI (L i) (H (H (L i).b + H x)) - H (H (L i).b + H x) := rfl
  refine ⟨by rw [e2, h.cl hw]; omega, by rw [e1]; exact hw, fun hlt => ?_⟩
  rw [e1] at hlt ⊢
  rw [hbe] at hlt ⊢
  unfold H at hlt ⊢
  repeat' split at hlt <;> omega

/-- a round of a line all of whose breaches are 0 -/
theorem round_full (L : Nat → It) (first : Int) (s : FSt) (n : Nat) (hin : ∀ k, k < s.loose.length → s.loose.getD k 0 < n) (hnd : ∀ j k, j < k → k < s.loose.length → s.loose.getD j 0 ≠ s.loose.getD k 0) (hz : ∀ k, k < s.loose.length → s.len (s.loose.getD k 0) = 0)
    (hb : ∀ k, k < s.loose.length → (trialF true L first s k).2.2 = 0) : ∀ k, k ≤ s.loose.length →
    (roundTo true L first s k).loose = [] ∧ (∀ j, j < k → (roundTo true L first s k).len (s.loose.getD j 0) = (trialF true L first s j).2.1) ∧ (∀ j, k ≤ j → j < s.loose.length → (roundTo true L first s k).len (s.loose.getD j 0) = 0) ∧
    fsum (roundTo true L first s k).len n = fsum s.len n + fsum (fun j => (trialF true L first s j).2.1) k
  | 0, _ => ⟨rfl, fun j hj => by omega, fun j _ hj => hz j hj, by simp [roundTo, fsum]⟩
  | k + 1, hk => by
    obtain ⟨h1, h2, h3, h4⟩ := round_full L first s n hin hnd hz hb k (by omega)
    have hsum : breachF true L first s s.loose.length = 0 := by
      unfold breachF
      have : ∀ m, m ≤ s.loose.length → fsum (fun j => (trialF true L first s j).2.2) m = 0 := fun m => by
        induction m with
        | zero => intro _; rfl
        | succ m ih => intro hm; simp only [fsum]; rw [ih (by omega), hb m (by omega)]; rfl
      exact this _ (Nat.le_refl _)
    have hen : endsF (breachF true L first s s.loose.length) (trialF true L first s k).2.2 = true := by rw [hsum]; rfl
    rw [roundTo_succ, hen]
    have e : stepF (fun i => (L i).b) (roundTo true L first s k) ((trialF true L first s k).1, (trialF true L first s k).2.1, true) = frz (fun i => (L i).b) (roundTo true L first s k) (s.loose.getD k 0) (trialF true L first s k).2.1 := rfl
    rw [e]
    refine ⟨h1, fun j hj => ?_, fun j hj hj2 => ?_, ?_⟩
    · simp only [frz]
      by_cases c : j = k
      · subst c; rw [if_pos rfl]
      · rw [if_neg (hnd j k (by omega) (by omega))]; exact h2 j (by omega)
    · simp only [frz]
      rw [if_neg (fun e => hnd k j (by omega) hj2 e.symm)]; exact h3 j (by omega) hj2
    · simp only [frz, fsum]
      rw [fsum_set, if_pos (hin k (by omega)), h3 k (Nat.le_refl _) (by omega), h4]; omega

/-- P21.4: the room is filled to the last 64th -/
theorem resolveF_fills (L : Nat → It) (room : Int) (n : Nat) (hF : ∀ i, FullI (L i)) (hg : growsF L room n = true) (hgr : 1000 ≤ fsum (fun i => (L i).gr) n) (hfree : free0 L room n ≤ 1073741824)
    (hlt : ∀ i, i < n → (resolveF L room n).1.len i < 1073741824) : fsum (fun i => (L i).g) n + fsum (resolveF L room n).1.len n = room := by
  have hpos : 0 < free0 L room n := by
    have h : 0 < beside0 L room n := by unfold growsF at hg; exact of_decide_eq_true hg
    have e : beside0 L room n = free0 L room n := by
      unfold beside0 free0
      rw [fsum_ext n (fun i _ => by rw [(hF i).wsh])]
    omega
  obtain ⟨h1, h2, h3, h4, h5, h6⟩ := start_full L room n hF n (Nat.le_refl _)
  unfold resolveF at hlt ⊢
  rw [hg] at hlt ⊢
  simp only at hlt ⊢
  obtain ⟨s, hs⟩ : ∃ s, startF true L room n n = s := ⟨_, rfl⟩
  rw [hs] at h1 h2 h3 h4 h5 h6 hlt ⊢
  rw [h1] at hlt ⊢
  obtain ⟨F, hFe⟩ : ∃ F, free0 L room n = F := ⟨_, rfl⟩
  rw [hFe] at hpos hfree h1 hlt ⊢
  have hmem : ∀ x ∈ s.loose, x < n ∧ (L x).gr ≠ 0 := fun x hx => by
    rw [h2] at hx
    have := List.mem_filter.1 hx
    exact ⟨List.mem_range.1 this.1, of_decide_eq_true this.2⟩
  have hget : ∀ k, k < s.loose.length → s.loose.getD k 0 ∈ s.loose := fun k hk => by
    have : s.loose.getD k 0 = s.loose[k] := by simp [List.getD, hk]
    rw [this]; exact List.getElem_mem hk
  have hin : ∀ k, k < s.loose.length → s.loose.getD k 0 < n := fun k hk => (hmem _ (hget k hk)).1
  have hnod : s.loose.Nodup := by rw [h2]; exact List.Pairwise.filter _ List.nodup_range
  have hnd : ∀ j k, j < k → k < s.loose.length → s.loose.getD j 0 ≠ s.loose.getD k 0 := fun j k hjk hk e => by
    have e1 : s.loose.getD j 0 = s.loose[j]'(by omega) := by simp [List.getD, show j < s.loose.length by omega]
    have e2 : s.loose.getD k 0 = s.loose[k] := by simp [List.getD, hk]
    rw [e1, e2] at e
    exact (List.pairwise_iff_getElem.1 hnod j k (by omega) hk hjk) e
  have hzl : ∀ k, k < s.loose.length → s.len (s.loose.getD k 0) = 0 := fun k hk => h4 _ (hmem _ (hget k hk)).2
  have hm0 : 0 < s.loose.length := by
    cases hl : s.loose with
    | nil => rw [hl] at h6; simp [fsumL] at h6; omega
    | cons x l => simp
  have hne : s.loose ≠ [] := fun e => by rw [e] at hm0; simp at hm0
  have hd : dealtF F s.free (fsumL (fun i => facI true (L i)) s.loose) = F := by
    have e : fsumL (fun i => facI true (L i)) s.loose = fsumL (fun i => (L i).gr) s.loose := rfl
    unfold dealtF
    rw [e, h6, if_neg (by omega), h1, H_id (by omega) hfree]
  have hws : wsum (s.loose.map fun i => wgtI true (L i)) ≠ 0 := by
    have := WT_le_wsum (s.loose.map fun i => wgtI true (L i)) 0
    have e : (s.loose.map fun i => wgtI true (L i)).getD 0 0 = (L (s.loose.getD 0 0)).gr := by
      simp [List.getD, hm0, wgtI]
    rw [e] at this
    have hp := (hF (s.loose.getD 0 0)).hd
    have := hp.r0; have := hp.r1
    rw [WT_smallF (by omega) (by omega)] at *
    have := (hmem _ (hget 0 hm0)).2
    omega
  have hsh : ∀ j, sharesF true L F s j = shareS F (s.loose.map fun i => wgtI true (L i)) j := fun j => by unfold sharesF; rw [hd]
  have hsp := fun j => shareS_posF (t := F) (by omega) (s.loose.map fun i => wgtI true (L i)) j
  have htr : ∀ k, k < s.loose.length → (trialF true L F s k).2.2 = 0 ∧ 0 ≤ (trialF true L F s k).2.1 ∧ ((trialF true L F s k).2.1 < 1073741824 → (trialF true L F s k).2.1 = (L (s.loose.getD k 0)).b + sharesF true L F s k) := fun k hk =>
    try_full (hF _) (by rw [hsh]; exact (hsp k).1) (by rw [hsh]; have := (hsp k).2; omega)
  obtain ⟨r1, r2, _, r4⟩ := round_full L F s n hin hnd hzl (fun k hk => (htr k hk).1) s.loose.length (Nat.le_refl _)
  obtain ⟨n', hn'⟩ : ∃ n', n = n' + 1 := ⟨n - 1, by have := hin 0 hm0; omega⟩
  have hrun : (runF true L F n s).1 = roundTo true L F s s.loose.length := by
    rw [hn']
    have e1 : runF true L F (n' + 1) s = ((runF true L F n' (roundF true L F s)).1, (runF true L F n' (roundF true L F s)).2 + 1) := by simp only [runF]; rw [if_neg hne]
    rw [e1]
    have e2 : runF true L F n' (roundF true L F s) = (roundF true L F s, 0) := by
      cases n' with
      | zero => rfl
      | succ n' => simp only [runF]; rw [if_pos (show (roundF true L F s).loose = [] from r1)]
    rw [e2]; rfl
  rw [hrun] at hlt ⊢
  have hx : ∀ j, j < s.loose.length → (trialF true L F s j).2.1 = (L (s.loose.getD j 0)).b + sharesF true L F s j := fun j hj => (htr j hj).2.2 (by
    have := hlt _ (hin j hj)
    rwa [r2 j hj] at this)
  rw [r4, fsum_ext s.loose.length hx, fsum_addF]
  have hss : fsum (fun j => sharesF true L F s j) s.loose.length = F := by
    rw [fsum_ext s.loose.length (fun j _ => hsh j), ← ssum_fsum]
    have := shareS_sumF (t := F) (by omega) (s.loose.map fun i => wgtI true (L i)) hws
    rwa [List.length_map] at this
  rw [hss]
  have hbl := fsumL_eq (fun i => (L i).b) s.loose
  rw [hbl] at h5
  have hfr : F = room - (fsum (fun i => (L i).g) n + fsum (fun i => (L i).b) n) := by
    rw [← hFe]; unfold free0; rw [fsum_addF]
  omega
end Go.Proofs.Ytaegajlffiepoaa
