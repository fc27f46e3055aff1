/- Layer 14, pure: more that is held is no less that is known; a Not around; two bounds. -/
import Derived.Test.YtoaenlbbochjhaaTruP
namespace Go.Proofs.Ytoaenlbbochjhaa.TruP
open FixM FixP TreN QryP
set_option linter.unusedVariables false

def LeT (a b : Int) : Prop := a = b ∨ a = 2
theorem three3 (a : Int) : a = 0 ∨ a = 1 ∨ (a ≠ 0 ∧ a ≠ 1) := by omega
theorem not_le {a b : Int} (h : LeT a b) : LeT (notT a) (notT b) := by
  rcases h with rfl | rfl
  · exact Or.inl rfl
  · exact Or.inr rfl
theorem and_le {a b c d : Int} (h : LeT a b) (k : LeT c d) : LeT (andT a c) (andT b d) := by
  rcases h with rfl | rfl <;> rcases k with rfl | rfl
  · exact Or.inl rfl
  · rcases three3 a with rfl | rfl | ⟨h1, h2⟩ <;> simp [LeT, andT, *]
  · rcases three3 c with rfl | rfl | ⟨h1, h2⟩ <;> simp [LeT, andT, *]
  · exact Or.inr rfl
theorem or_le {a b c d : Int} (h : LeT a b) (k : LeT c d) : LeT (orT a c) (orT b d) := by
  rcases h with rfl | rfl <;> rcases k with rfl | rfl
  · exact Or.inl rfl
  · rcases three3 a with rfl | rfl | ⟨h1, h2⟩ <;> simp [LeT, orT, *]
  · rcases three3 c with rfl | rfl | ⟨h1, h2⟩ <;> simp [LeT, orT, *]
  · exact Or.inr rfl
theorem jnG_le {e1 e2 : List QN → Int} {op : Int → Int → Int} (hop : ∀ a b c d, LeT a b → LeT c d → LeT (op a c) (op b d)) (m : Nat) (h : ∀ l : List QN, l.length ≤ m → LeT (e1 l) (e2 l)) : ∀ (n : Nat) (l : List QN) (a b : Int), l.length ≤ m → LeT a b → LeT (jnG e1 op n l a) (jnG e2 op n l b)
  | 0, _, _, _, _, hab => hab
  | n + 1, l, a, b, hl, hab => by
    rw [jnG_succ, jnG_succ]
    exact jnG_le hop m h n _ _ _ (by rw [List.length_drop]; omega) (hop _ _ _ _ hab (h l hl))
theorem evL_le {F G : QN → Int} (hF : ∀ x, LeT (F x) (G x)) : ∀ (m : Nat) (l : List QN), l.length ≤ m → LeT (evL F l) (evL G l) := by
  intro m
  induction m with
  | zero =>
    intro l hl
    have : l = [] := List.length_eq_zero_iff.1 (by omega)
    subst this
    exact Or.inl rfl
  | succ m ih =>
    intro l hl
    cases l with
    | nil => exact Or.inl rfl
    | cons x l =>
      have hl2 : l.length ≤ m := by simpa using hl
      rw [evL_cons, evL_cons]
      split
      · exact jnG_le (fun _ _ _ _ => and_le) m ih _ _ _ _ hl2 (Or.inl rfl)
      · split
        · exact jnG_le (fun _ _ _ _ => or_le) m ih _ _ _ _ hl2 (Or.inl rfl)
        · split
          · exact not_le (ih l hl2)
          · exact hF x
theorem ft_le (w h : Int) (x : QN) : LeT (ftT 1 w 0 x) (ftT 2 w h x) := by
  by_cases hf : x.feat = 1 ∨ x.feat = 3
  · left
    have e : bnT x w 0 = bnT x w h := by
      unfold bnT sdA sdB smT
      simp only [if_pos hf]
    unfold ftT knT
    simp only [if_pos hf, e]
    rfl
  · right
    unfold ftT knT
    rw [if_neg hf, if_neg (by decide)]
theorem ft_zero (w h : Int) (x : QN) : ftT 0 w h x = 2 := by
  have hk : knT x.feat 0 = false := by unfold knT; split <;> rfl
  unfold ftT
  rw [hk]
  rfl
def BoT (a : Int) : Prop := a = 0 ∨ a = 1
theorem ft_two (w h : Int) (x : QN) : BoT (ftT 2 w h x) := by
  have hk : knT x.feat 2 = true := by unfold knT; split <;> simp
  unfold ftT
  rw [if_pos hk]
  split
  · exact Or.inr rfl
  · exact Or.inl rfl
theorem bo_not {a : Int} (h : BoT a) : BoT (notT a) := by rcases h with rfl | rfl <;> simp [BoT, notT]
theorem bo_and {a b : Int} (h : BoT a) (k : BoT b) : BoT (andT a b) := by rcases h with rfl | rfl <;> rcases k with rfl | rfl <;> simp [BoT, andT]
theorem bo_or {a b : Int} (h : BoT a) (k : BoT b) : BoT (orT a b) := by rcases h with rfl | rfl <;> rcases k with rfl | rfl <;> simp [BoT, orT]
theorem jnG_bo {F : QN → Int} {op : Int → Int → Int} (hop : ∀ a b, BoT a → BoT b → BoT (op a b)) (m : Nat) (h : ∀ l : List QN, l.length ≤ m → (∃ j, eat l 1 = some j) → BoT (evL F l)) : ∀ (n : Nat) (l : List QN) (a : Int), l.length ≤ m → (∃ j, eat l n = some j) → BoT a → BoT (jnG (evL F) op n l a)
  | 0, _, _, _, _, ha => ha
  | n + 1, l, a, hl, ⟨j, hj⟩, ha => by
    obtain ⟨k, hk, _, _, hk2⟩ := eat_first hj
    rw [jnG_succ, hk]
    exact jnG_bo hop m h n _ _ (by rw [List.length_drop]; omega) ⟨_, hk2⟩ (hop _ _ ha (h l hl ⟨k, hk⟩))
theorem evL_bo {F : QN → Int} (hF : ∀ x, BoT (F x)) : ∀ (m : Nat) (l : List QN), l.length ≤ m → (∃ j, eat l 1 = some j) → BoT (evL F l) := by
  intro m
  induction m with
  | zero =>
    intro l hl ⟨j, hj⟩
    have : l = [] := List.length_eq_zero_iff.1 (by omega)
    subst this
    cases hj
  | succ m ih =>
    intro l hl ⟨j, hj⟩
    cases l with
    | nil => cases hj
    | cons x l =>
      have hl2 : l.length ≤ m := by simpa using hl
      obtain ⟨c, hc, he⟩ := eat_kids hj
      rw [evL_cons]
      by_cases h1 : x.kind = 1
      · rw [if_pos h1]
        have : c = x.count.toNat := by unfold cntQ at hc; rw [if_pos (Or.inl h1)] at hc; injection hc with hc; exact hc.symm
        subst this
        exact jnG_bo (fun _ _ => bo_and) m ih _ _ _ hl2 ⟨_, he⟩ (Or.inr rfl)
      · rw [if_neg h1]
        by_cases h2 : x.kind = 2
        · rw [if_pos h2]
          have : c = x.count.toNat := by unfold cntQ at hc; rw [if_pos (Or.inr h2)] at hc; injection hc with hc; exact hc.symm
          subst this
          exact jnG_bo (fun _ _ => bo_or) m ih _ _ _ hl2 ⟨_, he⟩ (Or.inl rfl)
        · rw [if_neg h2]
          by_cases h3 : x.kind = 3
          · rw [if_pos h3]
            have : c = 1 := by unfold cntQ at hc; rw [if_neg (by omega), if_pos h3] at hc; injection hc with hc; exact hc.symm
            subst this
            exact bo_not (ih l hl2 ⟨_, he⟩)
          · rw [if_neg h3]
            exact hF x
theorem right_eat {nm : ByteArray} {L : List QN} (h : rightQ nm L = true) : nmB nm = true ∧ L.all ndR = true ∧ 0 < L.length ∧ L.length ≤ 32 ∧ eat L 1 = some L.length := by
  unfold rightQ at h
  rw [Bool.and_eq_true, Bool.and_eq_true, decide_eq_true_eq] at h
  obtain ⟨h1, h2, h3, h4, h5⟩ := h
  exact ⟨h1, h2, h3, h4, span_kinds h3 h5⟩
theorem right_mk {nm : ByteArray} {L : List QN} (h1 : nmB nm = true) (h2 : L.all ndR = true) (h3 : 0 < L.length) (h4 : L.length ≤ 32) (h5 : eat L 1 = some L.length) : rightQ nm L = true := by
  unfold rightQ
  rw [Bool.and_eq_true, Bool.and_eq_true, decide_eq_true_eq]
  refine ⟨h1, h2, h3, h4, ?_⟩
  unfold spanS
  rw [List.drop_zero, h5]
  simp
/-- P14.4 -/
theorem say_more (nm : ByteArray) (L : List QN) (w h : Int) (hr : rightQ nm L = true) :
    LeT (sayQ nm L 1 w 0) (sayQ nm L 2 w h) ∧ sayQ nm L 2 w h ≠ 2 ∧ LeT (sayQ nm L 0 w h) (sayQ nm L 2 w h) := by
  obtain ⟨_, _, _, _, he⟩ := right_eat hr
  have h0 : H 0 = 0 := by decide
  unfold sayQ
  rw [if_pos hr, if_pos hr, if_pos hr, h0]
  refine ⟨evL_le (ft_le _ _) L.length L (Nat.le_refl _), ?_, evL_le (fun x => Or.inr (ft_zero _ _ x)) L.length L (Nat.le_refl _)⟩
  have hb := evL_bo (ft_two (H w) (H h)) L.length L (Nat.le_refl _) ⟨_, he⟩
  unfold BoT at hb
  omega
/-- P14.2 -/
theorem say_turned (nm : ByteArray) (L : List QN) (t w h : Int) (hr : rightQ nm L = true) (hl : L.length ≤ 31) : sayQ nm (⟨3, 1, 0, ⟨0, 0, 0⟩, ⟨0, 0, 0⟩⟩ :: L) t w h = notT (sayQ nm L t w h) := by
  obtain ⟨h1, h2, h3, h4, he⟩ := right_eat hr
  have hr2 : rightQ nm (⟨3, 1, 0, ⟨0, 0, 0⟩, ⟨0, 0, 0⟩⟩ :: L) = true := by
    refine right_mk h1 ?_ (by simp) (by simp; omega) ?_
    · rw [List.all_cons, h2]; decide
    · rw [show (1 : Nat) = 0 + 1 from rfl, eat_cons]
      show (eat L (0 + 1)).map (· + 1) = _
      rw [Nat.zero_add, he]; rfl
  unfold sayQ
  rw [if_pos hr, if_pos hr2, evL_cons]
  rfl
theorem cm_turn (A op B : Int) (h : op = 1 ∨ op = 2 ∨ op = 4 ∨ op = 5) : cmT A (6 - op) B = cmT B op A := by
  rcases h with rfl | rfl | rfl | rfl <;> rfl
theorem all_one (x : QN) : [x].all ndR = ndR x := by simp
theorem eat_one (c f : Int) (lo hi : Bd) : eat [(⟨4, c, f, lo, hi⟩ : QN)] 1 = some 1 := rfl
theorem evL_one (F : QN → Int) (c f : Int) (lo hi : Bd) : evL F [(⟨4, c, f, lo, hi⟩ : QN)] = F ⟨4, c, f, lo, hi⟩ := rfl
/-- P14.5 -/
theorem say_bounds (c f : Int) (lo hi : Bd) (t w h : Int) (hr : rightQ ⟨#[]⟩ [⟨4, c, f, lo, hi⟩] = true) (hop : lo.op ≠ 0) :
    sayQ ⟨#[]⟩ [⟨4, c, f, lo, hi⟩] t w h = andT (sayQ ⟨#[]⟩ [⟨4, c, f, ⟨0, 0, 0⟩, hi⟩] t w h) (sayQ ⟨#[]⟩ [⟨4, c, f, ⟨0, 0, 0⟩, ⟨6 - lo.op, lo.n, lo.d⟩⟩] t w h) := by
  obtain ⟨h1, h2, h3, h4, he⟩ := right_eat hr
  rw [all_one] at h2
  have hlo : thrB lo = true := (thrB_iff lo).2 (fun k => hop k.1)
  have hz : thrB (⟨0, 0, 0⟩ : Bd) = false := by decide
  unfold ndR at h2
  rw [if_pos rfl] at h2
  unfold ftR at h2
  rw [Bool.and_eq_true, decide_eq_true_eq] at h2
  obtain ⟨⟨hc, hf1, hf6⟩, h2⟩ := h2
  dsimp only at hc hf1 hf6 h2
  cases hhi : thrB hi with
  | false => rw [hhi, if_pos rfl, hlo] at h2; cases h2
  | true =>
    rw [hhi, if_neg (by decide), hlo] at h2
    simp only [Bool.not_true, Bool.false_or, Bool.and_eq_true, decide_eq_true_eq] at h2
    obtain ⟨hbh, hf5, hbl, hops⟩ := h2
    have hlr : 1 ≤ lo.op ∧ lo.op ≤ 5 := by unfold bdR at hbl; rw [Bool.and_eq_true, decide_eq_true_eq] at hbl; exact hbl.1
    have hb2 : bdR f ⟨6 - lo.op, lo.n, lo.d⟩ = true := by
      unfold bdR at hbl ⊢
      rw [Bool.and_eq_true, decide_eq_true_eq] at hbl ⊢
      obtain ⟨_, hbl⟩ := hbl
      rw [if_neg hf5] at hbl ⊢
      exact ⟨⟨by show 1 ≤ 6 - lo.op; omega, by show 6 - lo.op ≤ 5; omega⟩, hbl⟩
    have ht2 : thrB ⟨6 - lo.op, lo.n, lo.d⟩ = true := (thrB_iff _).2 (fun k => by have := k.1; dsimp only at this; omega)
    have n1 : ndR ⟨4, c, f, ⟨0, 0, 0⟩, hi⟩ = true := by
      unfold ndR; rw [if_pos rfl]; unfold ftR
      rw [Bool.and_eq_true, decide_eq_true_eq]
      refine ⟨⟨hc, hf1, hf6⟩, ?_⟩
      dsimp only
      rw [hhi, if_neg (by decide), hbh, hz]; rfl
    have n2 : ndR ⟨4, c, f, ⟨0, 0, 0⟩, ⟨6 - lo.op, lo.n, lo.d⟩⟩ = true := by
      unfold ndR; rw [if_pos rfl]; unfold ftR
      rw [Bool.and_eq_true, decide_eq_true_eq]
      refine ⟨⟨hc, hf1, hf6⟩, ?_⟩
      dsimp only
      rw [ht2, if_neg (by decide), hb2, hz]; rfl
    have r1 : rightQ ⟨#[]⟩ [⟨4, c, f, ⟨0, 0, 0⟩, hi⟩] = true := right_mk h1 (by rw [all_one]; exact n1) (by simp) (by simp) rfl
    have r2 : rightQ ⟨#[]⟩ [⟨4, c, f, ⟨0, 0, 0⟩, ⟨6 - lo.op, lo.n, lo.d⟩⟩] = true := right_mk h1 (by rw [all_one]; exact n2) (by simp) (by simp) rfl
    unfold sayQ
    rw [if_pos hr, if_pos r1, if_pos r2, evL_one, evL_one, evL_one]
    generalize H w = W
    generalize H h = G
    unfold ftT
    dsimp only
    by_cases hk : knT f t = true
    · rw [if_pos hk, if_pos hk, if_pos hk]
      have e : bnT ⟨4, c, f, lo, hi⟩ W G = (bnT ⟨4, c, f, ⟨0, 0, 0⟩, hi⟩ W G && bnT ⟨4, c, f, ⟨0, 0, 0⟩, ⟨6 - lo.op, lo.n, lo.d⟩⟩ W G) := by
        unfold bnT
        dsimp only
        rw [if_pos hhi, if_pos hhi, if_pos ht2, hlo, hz]
        simp only [Bool.not_true, Bool.not_false, Bool.false_or, Bool.true_or, Bool.and_true]
        rw [cm_turn _ _ _ (by omega)]
        rfl
      rw [e]
      cases bnT ⟨4, c, f, ⟨0, 0, 0⟩, hi⟩ W G <;> cases bnT ⟨4, c, f, ⟨0, 0, 0⟩, ⟨6 - lo.op, lo.n, lo.d⟩⟩ W G <;> rfl
    · rw [if_neg hk, if_neg hk, if_neg hk]
      rfl
end Go.Proofs.Ytoaenlbbochjhaa.TruP
