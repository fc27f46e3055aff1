/- Layer 21 in numbers: in a line that grows what is dealt is never below 0. -/
import Derived.Test.YtlcncjfgalnfoaaFlxQc
namespace Go.Proofs.Ytlcncjfgalnfoaa
open FixM ShaD ShaM
set_option linter.unusedVariables false

theorem clI_mono (t : It) {x y : Int} (h : x ≤ y) : clI t x ≤ clI t y := by unfold clI; split <;> omega
def gapI (L : Nat → It) (i : Nat) : Int := wsh (L i) - (L i).b

theorem start_gap (L : Nat → It) (room : Int) (n : Nat) : ∀ k, (startF true L room n k).free - fsumL (gapI L) (startF true L room n k).loose = free0 L room n - fsum (gapI L) k
  | 0 => by simp [startF, begin0, fsumL, fsum]
  | k + 1 => by
    have ih := start_gap L room n k
    rw [startF_succ]
    unfold stepF
    split
    · simp only [frz, opens, fsum, gapI] at ih ⊢; omega
    · simp only [stay, opens]; rw [fsumL_snoc]; simp only [fsum]; omega
theorem start_good (L : Nat → It) (room : Int) (n : Nat) : ∀ k, ∀ x ∈ (startF true L room n k).loose, (L x).gr ≠ 0 ∧ (L x).b ≤ wsh (L x)
  | 0, x, hx => by simp [startF, begin0] at hx
  | k + 1, x, hx => by
    rw [startF_succ] at hx
    unfold stepF at hx
    split at hx
    · exact start_good L room n k x hx
    · rename_i hst
      simp only [stay, opens, List.mem_append, List.mem_singleton] at hx hst
      rcases hx with hx | rfl
      · exact start_good L room n k x hx
      · unfold stiffI facI pastI at hst
        simp only [if_true, Bool.or_eq_true, beq_iff_eq, decide_eq_true_eq, not_or] at hst
        exact ⟨hst.1, by omega⟩

theorem PT_nonneg {a n d : Int} (ha : 0 ≤ a) (hn : 0 ≤ n) (hd : 0 < d) : 0 ≤ PT a n d := by
  unfold PT
  rw [if_neg (by omega)]
  have h1 : 0 ≤ H a := by unfold H; repeat' split <;> omega
  have h2 : 0 ≤ H n := by unfold H; repeat' split <;> omega
  have h3 : 0 < H d := by unfold H; repeat' split <;> omega
  have h4 : 0 ≤ H a * H n := Int.mul_nonneg h1 h2
  have h5 : 0 ≤ FL (H a * H n) (H d) := by rw [FL_pos _ _ h3]; exact Int.ediv_nonneg h4 (by omega)
  have h6 : ∀ z : Int, 0 ≤ z → 0 ≤ H z := fun z hz => by unfold H; repeat' split <;> omega
  exact h6 _ h5
theorem dealtF_bd {first free fac : Int} (h1 : 0 ≤ first) (h2 : 0 ≤ free) (h3 : 0 ≤ fac) : 0 ≤ dealtF first free fac ∧ dealtF first free fac ≤ free ∧ dealtF first free fac ≤ 1073741824 := by
  have hb := H_bd free
  have hf : 0 ≤ H free ∧ H free ≤ free := by unfold H; repeat' split <;> omega
  have hff : 0 ≤ H first := by unfold H; repeat' split <;> omega
  have hp := PT_nonneg (a := H first) (n := fac) (d := 1000) hff h3 (by decide)
  have hpb := PT_bd22f (H first) fac 1000
  unfold dealtF
  split
  · split
    · rename_i hab
      unfold absI at hab
      rw [H_id (by omega) hpb.2]
      omega
    · omega
  · omega

/-- a state in which dealing goes on: what is free is enough for all wishes -/
structure Good (L : Nat → It) (first : Int) (s : FSt) : Prop where
  hd : ∀ i, HeldI (L i)
  it : ∀ x ∈ s.loose, (L x).gr ≠ 0 ∧ (L x).b ≤ wsh (L x)
  j0 : 0 ≤ s.free - fsumL (gapI L) s.loose
  f0 : 0 ≤ first
theorem fsumL_nonneg {f : Nat → Int} : ∀ l : List Nat, (∀ x ∈ l, 0 ≤ f x) → 0 ≤ fsumL f l
  | [], _ => by simp [fsumL]
  | x :: l, h => by
    have := fsumL_nonneg l (fun y hy => h y (List.mem_cons_of_mem _ hy))
    have := h x (List.mem_cons_self ..)
    unfold fsumL at *
    simp only [List.map_cons, List.sum_cons]; omega
theorem Good.free {L : Nat → It} {first : Int} {s : FSt} (h : Good L first s) : 0 ≤ s.free := by
  have := h.j0
  have := fsumL_nonneg (f := gapI L) s.loose (fun x hx => by have := (h.it x hx).2; unfold gapI; omega)
  omega
theorem Good.get {L : Nat → It} {first : Int} {s : FSt} (h : Good L first s) (j : Nat) (hj : j < s.loose.length) : (L (s.loose.getD j 0)).gr ≠ 0 ∧ (L (s.loose.getD j 0)).b ≤ wsh (L (s.loose.getD j 0)) := by
  have e : s.loose.getD j 0 = s.loose[j] := by simp [List.getD, hj]
  rw [e]; exact h.it _ (List.getElem_mem hj)
theorem Good.dealt {L : Nat → It} {first : Int} {s : FSt} (h : Good L first s) : 0 ≤ dealtF first s.free (fsumL (fun i => facI true (L i)) s.loose) ∧ dealtF first s.free (fsumL (fun i => facI true (L i)) s.loose) ≤ s.free ∧ dealtF first s.free (fsumL (fun i => facI true (L i)) s.loose) ≤ 1073741824 :=
  dealtF_bd h.f0 h.free (fsumL_nonneg _ (fun x _ => ((h.hd x).fac true).1))
theorem Good.share {L : Nat → It} {first : Int} {s : FSt} (h : Good L first s) (j : Nat) : 0 ≤ sharesF true L first s j ∧ sharesF true L first s j ≤ 1073741825 := by
  have hd := h.dealt
  have := shareS_posF hd.1 (s.loose.map fun i => wgtI true (L i)) j
  unfold sharesF
  omega
theorem Good.sum {L : Nat → It} {first : Int} {s : FSt} (h : Good L first s) : fsum (sharesF true L first s) s.loose.length ≤ s.free := by
  have hd := h.dealt
  have e : sharesF true L first s = shareS (dealtF first s.free (fsumL (fun i => facI true (L i)) s.loose)) (s.loose.map fun i => wgtI true (L i)) := by funext j; rfl
  rw [e]
  by_cases hz : wsum (s.loose.map fun i => wgtI true (L i)) = 0
  · have hzz : ∀ j, shareS (dealtF first s.free (fsumL (fun i => facI true (L i)) s.loose)) (s.loose.map fun i => wgtI true (L i)) j = 0 := fun j => by
      unfold shareS share0; rw [if_neg (by omega), if_pos hz]
    have : ∀ m, fsum (shareS (dealtF first s.free (fsumL (fun i => facI true (L i)) s.loose)) (s.loose.map fun i => wgtI true (L i))) m = 0 := fun m => by
      induction m with
      | zero => rfl
      | succ m ih => simp only [fsum]; rw [ih, hzz]; rfl
    rw [this]; exact h.free
  · have hs := shareS_sumF hd.1 (s.loose.map fun i => wgtI true (L i)) hz
    rw [List.length_map, ssum_fsum] at hs
    rw [hs]; omega
/-- what a trial makes of an item, as its share is not below 0 -/
theorem try_good {L : Nat → It} {i : Nat} (hh : HeldI (L i)) (hb : (L i).b ≤ wsh (L i)) {x : Int} (h0 : 0 ≤ x) :
    wsh (L i) ≤ (tryF L i x).2.1 ∧ (tryF L i x).2.1 - (tryF L i x).2.2 - (L i).b ≤ x ∧ (0 < (tryF L i x).2.2 → (tryF L i x).2.1 = wsh (L i) ∧ (tryF L i x).2.1 = (L i).l) ∧ ((tryF L i x).2.2 < 0 → ∀ y, clI (L i) y ≤ (tryF L i x).2.1) := by
  have hbe : H (L i).b = (L i).b := H_id hh.b0 hh.b1
  have hx : 0 ≤ H x ∧ H x ≤ x := by unfold H; repeat' split <;> omega
  have b0 := hh.b0; have b1 := hh.b1
  obtain ⟨w, hw⟩ : ∃ w, H (H (L i).b + H x) = w := ⟨_, rfl⟩
  have hwb : (L i).b ≤ w ∧ w ≤ (L i).b + x := by rw [← hw, hbe]; unfold H at *; repeat' split <;> omega
  have e1 : (tryF L i x).2.1 = clI (L i) w := by rw [← hw]; rfl
  have e2 : (tryF L i x).2.2 = clI (L i) w - w := by rw [← hw]; rfl
  rw [e1, e2]
  refine ⟨clI_mono _ hwb.1, by omega, fun h => ?_, fun h y => ?_⟩
  · unfold wsh clI at *
    split at h <;> split <;> omega
  · unfold clI at *
    split at h <;> split <;> omega

/-- the places of a round -/
theorem roundTo_sub (L : Nat → It) (first : Int) (s : FSt) : ∀ k, k ≤ s.loose.length → ∀ x ∈ (roundTo true L first s k).loose, x ∈ s.loose
  | 0, _, x, hx => by simp [roundTo] at hx
  | k + 1, hk, x, hx => by
    rw [roundTo_succ] at hx
    unfold stepF at hx
    split at hx
    · exact roundTo_sub L first s k (by omega) x hx
    · simp only [stay, List.mem_append, List.mem_singleton] at hx
      rcases hx with hx | rfl
      · exact roundTo_sub L first s k (by omega) x hx
      · have e : (trialF true L first s k).1 = s.loose[k] := by
          have : (trialF true L first s k).1 = s.loose.getD k 0 := rfl
          rw [this]; simp [List.getD, show k < s.loose.length by omega]
        rw [e]; exact List.getElem_mem _
/-- what a round leaves free, against the wishes of those that stay -/
def costF (L : Nat → It) (first : Int) (s : FSt) (j : Nat) : Int :=
  if endsF (breachF true L first s s.loose.length) (trialF true L first s j).2.2 = true then (trialF true L first s j).2.1 - (L (s.loose.getD j 0)).b else gapI L (s.loose.getD j 0)
theorem round_gap (L : Nat → It) (first : Int) (s : FSt) : ∀ k, (roundTo true L first s k).free - fsumL (gapI L) (roundTo true L first s k).loose = s.free - fsum (costF L first s) k
  | 0 => by simp [roundTo, fsumL, fsum]
  | k + 1 => by
    have ih := round_gap L first s k
    rw [roundTo_succ]
    have e1 : (trialF true L first s k).1 = s.loose.getD k 0 := rfl
    simp only [fsum]
    unfold costF stepF at *
    by_cases c : endsF (breachF true L first s s.loose.length) (trialF true L first s k).2.2 = true
    · simp only [c, if_true, frz, e1] at ih ⊢; omega
    · have c' : endsF (breachF true L first s s.loose.length) (trialF true L first s k).2.2 = false := by simpa using c
      simp only [c', Bool.false_eq_true, if_false, stay, e1]
      rw [fsumL_snoc]
      omega
theorem fsum_leF {f g : Nat → Int} : ∀ n, (∀ i, i < n → f i ≤ g i) → fsum f n ≤ fsum g n
  | 0, _ => Int.le_refl _
  | n + 1, h => by
    have := fsum_leF n (fun i hi => h i (by omega))
    have := h n (by omega)
    simp only [fsum]; omega
/-- a round keeps a state good -/
theorem Good.round {L : Nat → It} {first : Int} {s : FSt} (h : Good L first s) : Good L first (roundF true L first s) := by
  refine ⟨h.hd, fun x hx => h.it x (roundTo_sub L first s _ (Nat.le_refl _) x hx), ?_, h.f0⟩
  have hg := round_gap L first s s.loose.length
  show 0 ≤ (roundTo true L first s s.loose.length).free - fsumL (gapI L) (roundTo true L first s s.loose.length).loose
  rw [hg]
  have ht : ∀ j, j < s.loose.length → _ := fun j hj => try_good (h.hd (s.loose.getD j 0)) (h.get j hj).2 (h.share j).1
  by_cases hp : 0 < breachF true L first s s.loose.length
  · have hc : ∀ j, j < s.loose.length → costF L first s j = gapI L (s.loose.getD j 0) := fun j hj => by
      unfold costF
      split
      · rename_i he
        have hbr : 0 < (trialF true L first s j).2.2 := by
          unfold endsF at he
          simp only [Bool.or_eq_true, Bool.and_eq_true, beq_iff_eq, decide_eq_true_eq] at he
          omega
        have := ((ht j hj).2.2.1 hbr).1
        have e : (trialF true L first s j).2.1 = (tryF L (s.loose.getD j 0) (sharesF true L first s j)).2.1 := rfl
        unfold gapI; rw [e, this]
      · rfl
    rw [fsum_ext _ hc, ← fsumL_eq]
    exact h.j0
  · have hc : ∀ j, j < s.loose.length → costF L first s j ≤ sharesF true L first s j + (trialF true L first s j).2.2 := fun j hj => by
      have h1 := (ht j hj).1
      have h2 := (ht j hj).2.1
      have e : (trialF true L first s j).2.1 = (tryF L (s.loose.getD j 0) (sharesF true L first s j)).2.1 := rfl
      have e2 : (trialF true L first s j).2.2 = (tryF L (s.loose.getD j 0) (sharesF true L first s j)).2.2 := rfl
      unfold costF gapI
      rw [e, e2]
      split <;> omega
    have h1 := fsum_leF _ hc
    rw [fsum_addF] at h1
    have h2 : fsum (fun j => (trialF true L first s j).2.2) s.loose.length = breachF true L first s s.loose.length := rfl
    rw [h2] at h1
    have := h.sum
    omega
theorem good_start (L : Nat → It) (room : Int) (n : Nat) (hd : ∀ i, HeldI (L i)) (hg : growsF L room n = true) : Good L (startF true L room n n).free (startF true L room n n) := by
  have hb : 0 < beside0 L room n := by unfold growsF at hg; exact of_decide_eq_true hg
  have he : free0 L room n - fsum (gapI L) n = beside0 L room n := by
    have e : fsum (fun i => (L i).g + wsh (L i)) n = fsum (fun i => (L i).g + (L i).b) n + fsum (gapI L) n := by
      rw [← fsum_addF]; exact fsum_ext _ (fun i _ => by unfold gapI; omega)
    unfold free0 beside0; omega
  have hj := start_gap L room n n
  have hit := start_good L room n n
  have h0 := fsumL_nonneg (f := gapI L) (startF true L room n n).loose (fun x hx => by have := (hit x hx).2; unfold gapI; omega)
  exact ⟨hd, hit, by omega, by omega⟩
end Go.Proofs.Ytlcncjfgalnfoaa
