/- Joined texts: SynP SynP2. -/
import Derived.Test.YthfabalnioggcaaLexPs
namespace Go.Proofs.Ythfabalnioggcaa.SynP
open LexP

/-- the kind that closes a kind; 0: none -/
def clo (k : Int) : Int := if k = 13 ∨ k = 2 then 14 else if k = 15 then 16 else if k = 17 then 18 else 0
theorem clo_cases (k : Int) : clo k = 0 ∨ clo k = 14 ∨ clo k = 16 ∨ clo k = 18 := by
  unfold clo
  by_cases h1 : k = 13 ∨ k = 2
  · rw [if_pos h1]; simp
  · rw [if_neg h1]
    by_cases h2 : k = 15
    · rw [if_pos h2]; simp
    · rw [if_neg h2]
      by_cases h3 : k = 17
      · rw [if_pos h3]; simp
      · rw [if_neg h3]; simp
theorem clo_clo (k : Int) : clo (clo k) = 0 := by
  rcases clo_cases k with h | h | h | h <;> rw [h] <;> decide
/-- how many tokens stand ahead of what closes all that is awaited -/
def mt : List Tok → List Int → Option Nat
  | [], _ => none
  | t :: r, aw =>
    if clo t.kind = 0 then
      match aw with
      | [] => none
      | c :: aw' => if t.kind = c then (if aw' = [] then some 0 else (mt r aw').map (· + 1)) else (mt r (c :: aw')).map (· + 1)
    else (mt r (clo t.kind :: aw)).map (· + 1)
theorem mt_open {t : Tok} (h : clo t.kind ≠ 0) (r : List Tok) (aw : List Int) : mt (t :: r) aw = (mt r (clo t.kind :: aw)).map (· + 1) := by
  show (if clo t.kind = 0 then _ else _) = _
  rw [if_neg h]
theorem mt_last {t : Tok} (h : clo t.kind = 0) (r : List Tok) : mt (t :: r) [t.kind] = some 0 := by
  show (if clo t.kind = 0 then _ else _) = _
  rw [if_pos h]
  simp
theorem mt_close {t : Tok} (h : clo t.kind = 0) (r : List Tok) {aw : List Int} (h2 : aw ≠ []) : mt (t :: r) (t.kind :: aw) = (mt r aw).map (· + 1) := by
  show (if clo t.kind = 0 then _ else _) = _
  rw [if_pos h]
  simp [h2]
theorem mt_other {t : Tok} (h : clo t.kind = 0) (r : List Tok) {c : Int} (h2 : t.kind ≠ c) (aw : List Int) : mt (t :: r) (c :: aw) = (mt r (c :: aw)).map (· + 1) := by
  show (if clo t.kind = 0 then _ else _) = _
  rw [if_pos h]
  simp [h2]
theorem map_some {o : Option Nat} {d : Nat} (h : o.map (· + 1) = some d) : ∃ d', o = some d' ∧ d = d' + 1 := by
  cases o with
  | none => cases h
  | some x => simp at h; exact ⟨x, rfl, h.symm⟩
theorem mt_lt : ∀ (r : List Tok) (aw : List Int) (d : Nat), mt r aw = some d → d < r.length
  | [], _, d, h => by simp [mt] at h
  | t :: r, aw, d, h => by
    by_cases ho : clo t.kind = 0
    · cases aw with
      | nil => simp [mt, ho] at h
      | cons c aw' =>
        by_cases hc : t.kind = c
        · subst hc
          by_cases ha : aw' = []
          · subst ha; rw [mt_last ho] at h; injection h with h; simp; omega
          · rw [mt_close ho r ha] at h
            obtain ⟨d', h1, rfl⟩ := map_some h
            have := mt_lt r _ d' h1; simp; omega
        · rw [mt_other ho r hc] at h
          obtain ⟨d', h1, rfl⟩ := map_some h
          have := mt_lt r _ d' h1; simp; omega
    · rw [mt_open ho] at h
      obtain ⟨d', h1, rfl⟩ := map_some h
      have := mt_lt r _ d' h1; simp; omega
/-- one after the other -/
theorem mt_cons : ∀ (r : List Tok) (c : Int) (aw : List Int), clo c = 0 → aw ≠ [] → mt r (c :: aw) = (mt r [c]).bind fun d => (mt (r.drop (d + 1)) aw).map (· + (d + 1))
  | [], _, _, _, _ => rfl
  | t :: r, c, aw, hc, ha => by
    by_cases ho : clo t.kind = 0
    · by_cases hk : t.kind = c
      · subst hk
        rw [mt_close ho r ha, mt_last ho]; rfl
      · rw [mt_other ho r hk, mt_other ho r hk, mt_cons r c aw hc ha]
        cases mt r [c] with
        | none => rfl
        | some d =>
          show ((mt (r.drop (d + 1)) aw).map _).map _ = (mt ((t :: r).drop (d + 1 + 1)) aw).map _
          rw [List.drop_succ_cons, Option.map_map]
          congr 1
    · rw [mt_open ho, mt_open ho, mt_cons r (clo t.kind) (c :: aw) (clo_clo _) (by simp), mt_cons r (clo t.kind) [c] (clo_clo _) (by simp)]
      cases mt r [clo t.kind] with
      | none => rfl
      | some d =>
        show ((mt (r.drop (d + 1)) (c :: aw)).map _).map _ = (((mt (r.drop (d + 1)) [c]).map _).map _).bind _
        have hlt : (r.drop (d + 1)).length ≤ r.length := by rw [List.length_drop]; omega
        rw [mt_cons (r.drop (d + 1)) c aw hc ha]
        cases mt (r.drop (d + 1)) [c] with
        | none => rfl
        | some e =>
          show (((mt ((r.drop (d + 1)).drop (e + 1)) aw).map _).map _).map _ = (mt ((t :: r).drop (e + (d + 1) + 1 + 1)) aw).map _
          rw [List.drop_succ_cons, List.drop_drop, show d + 1 + (e + 1) = e + (d + 1) + 1 by omega, Option.map_map, Option.map_map]
          congr 1
          funext x
          show x + (e + 1) + (d + 1) + 1 = x + (e + (d + 1) + 1 + 1)
          omega
termination_by r => r.length
decreasing_by all_goals simp_all; try omega
/-- more behind changes nothing -/
theorem mt_app : ∀ (r : List Tok) (aw : List Int) (d : Nat) (z : List Tok), mt r aw = some d → mt (r ++ z) aw = some d
  | [], _, d, _, h => by simp [mt] at h
  | t :: r, aw, d, z, h => by
    rw [List.cons_append]
    by_cases ho : clo t.kind = 0
    · cases aw with
      | nil => simp [mt, ho] at h
      | cons c aw' =>
        by_cases hc : t.kind = c
        · subst hc
          by_cases ha : aw' = []
          · subst ha; rw [mt_last ho] at h ⊢; exact h
          · rw [mt_close ho _ ha] at h ⊢
            obtain ⟨d', h1, rfl⟩ := map_some h
            rw [mt_app r _ d' z h1]; rfl
        · rw [mt_other ho _ hc] at h ⊢
          obtain ⟨d', h1, rfl⟩ := map_some h
          rw [mt_app r _ d' z h1]; rfl
    · rw [mt_open ho] at h ⊢
      obtain ⟨d', h1, rfl⟩ := map_some h
      rw [mt_app r _ d' z h1]; rfl
/-- what closes an opening that stands within lies within -/
theorem mt_inside : ∀ (r : List Tok) (aw : List Int) (d e : Nat) (t : Tok), aw ≠ [] → mt r aw = some d → e < d → r[e]? = some t → clo t.kind ≠ 0 → ∃ b, mt (r.drop (e + 1)) [clo t.kind] = some b ∧ e + 1 + b < d
  | [], _, d, _, _, _, h, _, _, _ => by simp [mt] at h
  | u :: r, aw, d, 0, t, ha, h, _, ht, hk => by
    simp at ht
    subst ht
    rw [mt_open hk, mt_cons r _ aw (clo_clo _) ha] at h
    cases hb : mt r [clo u.kind] with
    | none => rw [hb] at h; cases h
    | some b =>
      rw [hb] at h
      obtain ⟨d', h1, rfl⟩ := map_some h
      have h1 : (mt (r.drop (b + 1)) aw).map (· + (b + 1)) = some d' := h1
      cases hq : mt (r.drop (b + 1)) aw with
      | none => rw [hq] at h1; cases h1
      | some x =>
        rw [hq] at h1
        simp at h1
        refine ⟨b, hb, by omega⟩
  | u :: r, aw, d, e + 1, t, ha, h, he, ht, hk => by
    have ht : r[e]? = some t := by simpa using ht
    have step : ∀ aw' d', aw' ≠ [] → mt r aw' = some d' → d = d' + 1 → ∃ b, mt ((u :: r).drop (e + 1 + 1)) [clo t.kind] = some b ∧ e + 1 + 1 + b < d := by
      intro aw' d' h1 h2 h3
      obtain ⟨b, h4, h5⟩ := mt_inside r aw' d' e t h1 h2 (by omega) ht hk
      exact ⟨b, h4, by omega⟩
    by_cases ho : clo u.kind = 0
    · cases aw with
      | nil => exact absurd rfl ha
      | cons c aw' =>
        by_cases hc : u.kind = c
        · subst hc
          by_cases hq : aw' = []
          · subst hq; rw [mt_last ho] at h; injection h with h; omega
          · rw [mt_close ho r hq] at h
            obtain ⟨d', h1, h2⟩ := map_some h
            exact step _ d' hq h1 h2
        · rw [mt_other ho r hc] at h
          obtain ⟨d', h1, h2⟩ := map_some h
          exact step _ d' (by simp) h1 h2
    · rw [mt_open ho] at h
      obtain ⟨d', h1, h2⟩ := map_some h
      exact step _ d' (by simp) h1 h2

/-- what closes the token at a place -/
def mtc (l : List Tok) (k : Nat) : Nat :=
  match l.drop k with
  | [] => k
  | t :: r => if clo t.kind = 0 then k else match mt r [clo t.kind] with | some d => k + 1 + d | none => l.length
def matchS (l : List Tok) (i : Int) : Int := if 0 ≤ i ∧ i < l.length then (mtc l i.toNat : Nat) else i
theorem mtc_none {l : List Tok} {k : Nat} (h : k < l.length) (hc : clo l[k].kind = 0) : mtc l k = k := by
  unfold mtc; rw [List.drop_eq_getElem_cons h]; simp [hc]
theorem mtc_some {l : List Tok} {k d : Nat} (h : k < l.length) (hc : clo l[k].kind ≠ 0) (hm : mt (l.drop (k + 1)) [clo l[k].kind] = some d) : mtc l k = k + 1 + d := by
  unfold mtc; rw [List.drop_eq_getElem_cons h]; simp [hc, hm]
theorem mtc_end {l : List Tok} {k : Nat} (h : k < l.length) (hc : clo l[k].kind ≠ 0) (hm : mt (l.drop (k + 1)) [clo l[k].kind] = none) : mtc l k = l.length := by
  unfold mtc; rw [List.drop_eq_getElem_cons h]; simp [hc, hm]
theorem mtc_bd {l : List Tok} {k : Nat} (h : k < l.length) : k ≤ mtc l k ∧ mtc l k ≤ l.length := by
  by_cases hc : clo l[k].kind = 0
  · rw [mtc_none h hc]; omega
  · cases hm : mt (l.drop (k + 1)) [clo l[k].kind] with
    | none => rw [mtc_end h hc hm]; omega
    | some d =>
      have := mt_lt _ _ _ hm
      rw [List.length_drop] at this
      rw [mtc_some h hc hm]; omega
/-- what the reference's loop comes to -/
def lpR (l : List Tok) (c : Int) (k : Nat) : Nat := match mt (l.drop k) [c] with | some d => k + d | none => l.length
theorem lpR_hit {l : List Tok} {c : Int} {k : Nat} (h : k < l.length) (hc : clo c = 0) (hk : l[k].kind = c) : lpR l c k = k := by
  unfold lpR
  rw [List.drop_eq_getElem_cons h, ← hk, mt_last (by rw [hk]; exact hc)]
  rfl
theorem lpR_step {l : List Tok} {c : Int} {k : Nat} (h : k < l.length) (hk : l[k].kind ≠ c) : lpR l c k = if mtc l k + 1 ≤ l.length then lpR l c (mtc l k + 1) else l.length := by
  by_cases ho : clo l[k].kind = 0
  · rw [mtc_none h ho, if_pos (by omega)]
    unfold lpR
    rw [List.drop_eq_getElem_cons h, mt_other ho _ hk]
    cases mt (l.drop (k + 1)) [c] with
    | none => rfl
    | some d => show k + (d + 1) = k + 1 + d; omega
  · have e : mt (l.drop k) [c] = ((mt (l.drop (k + 1)) [clo l[k].kind]).bind fun d => (mt ((l.drop (k + 1)).drop (d + 1)) [c]).map (· + (d + 1))).map (· + 1) := by
      rw [List.drop_eq_getElem_cons h, mt_open ho, mt_cons _ _ _ (clo_clo _) (by simp)]
    cases hm : mt (l.drop (k + 1)) [clo l[k].kind] with
    | none =>
      rw [mtc_end h ho hm, if_neg (by omega)]
      unfold lpR
      rw [e, hm]; rfl
    | some d =>
      have hlt := mt_lt _ _ _ hm
      rw [List.length_drop] at hlt
      rw [mtc_some h ho hm, if_pos (by omega)]
      unfold lpR
      rw [e, hm]
      show (match ((mt ((l.drop (k + 1)).drop (d + 1)) [c]).map (· + (d + 1))).map (· + 1) with | some d => k + d | none => l.length) = _
      rw [List.drop_drop, show k + 1 + (d + 1) = k + 1 + d + 1 by omega]
      cases mt (l.drop (k + 1 + d + 1)) [c] with
      | none => rfl
      | some x => show k + (x + (d + 1) + 1) = k + 1 + d + 1 + x; omega
theorem lpR_end {l : List Tok} (c : Int) {k : Nat} (h : l.length ≤ k) : lpR l c k = l.length := by
  unfold lpR
  rw [List.drop_of_length_le h]; rfl
theorem mtc_lpR {l : List Tok} {k : Nat} (h : k < l.length) (hc : clo l[k].kind ≠ 0) : mtc l k = lpR l (clo l[k].kind) (k + 1) := by
  unfold lpR
  cases hm : mt (l.drop (k + 1)) [clo l[k].kind] with
  | none => rw [mtc_end h hc hm]
  | some d => rw [mtc_some h hc hm]
theorem match_inside {l : List Tok} {i j : Nat} (hij : i < j) (hj : j < l.length) (ci : clo l[i].kind ≠ 0) (cj : clo l[j].kind ≠ 0) (hle : j ≤ mtc l i) :
    j < mtc l j ∧ (mtc l j < mtc l i ∨ (mtc l j = l.length ∧ mtc l i = l.length)) := by
  have hjb := mtc_bd hj
  have hj1 : j < mtc l j := by
    cases hm : mt (l.drop (j + 1)) [clo l[j].kind] with
    | none => rw [mtc_end hj cj hm]; exact hj
    | some d => rw [mtc_some hj cj hm]; omega
  refine ⟨hj1, ?_⟩
  have hi : i < l.length := by omega
  cases hm : mt (l.drop (i + 1)) [clo l[i].kind] with
  | none =>
    rw [mtc_end hi ci hm]
    omega
  | some d =>
    rw [mtc_some hi ci hm] at hle ⊢
    left
    have hd := mt_lt _ _ _ hm
    rw [List.length_drop] at hd
    have hne : j ≠ i + 1 + d := by
      intro e
      have key : ∀ (r : List Tok) (aw : List Int) (d : Nat), mt r aw = some d → ∀ t, r[d]? = some t → clo t.kind = 0 := by
        intro r
        induction r with
        | nil => intro aw d h; simp [mt] at h
        | cons u r ih =>
          intro aw d h t ht
          have stp : ∀ aw' d', mt r aw' = some d' → d = d' + 1 → clo t.kind = 0 := by
            intro aw' d' h1 h2
            subst h2
            exact ih aw' d' h1 t (by simpa using ht)
          by_cases ho : clo u.kind = 0
          · cases aw with
            | nil => simp [mt, ho] at h
            | cons c aw' =>
              by_cases hc : u.kind = c
              · subst hc
                by_cases hq : aw' = []
                · subst hq; rw [mt_last ho] at h; injection h with h; subst h
                  simp at ht; subst ht; exact ho
                · rw [mt_close ho r hq] at h
                  obtain ⟨d', h1, h2⟩ := map_some h
                  exact stp _ d' h1 h2
              · rw [mt_other ho r hc] at h
                obtain ⟨d', h1, h2⟩ := map_some h
                exact stp _ d' h1 h2
          · rw [mt_open ho] at h
            obtain ⟨d', h1, h2⟩ := map_some h
            exact stp _ d' h1 h2
      refine cj (key _ _ _ hm l[j] ?_)
      rw [List.getElem?_drop, ← e]
      exact List.getElem?_eq_getElem hj
    obtain ⟨b, h1, h2⟩ := mt_inside (l.drop (i + 1)) _ d (j - (i + 1)) l[j] (by simp) hm (by omega) (by
      rw [List.getElem?_drop, show i + 1 + (j - (i + 1)) = j by omega]; exact List.getElem?_eq_getElem hj) cj
    rw [List.drop_drop, show i + 1 + (j - (i + 1) + 1) = j + 1 by omega] at h1
    rw [mtc_some hj cj h1]
    omega
end Go.Proofs.Ythfabalnioggcaa.SynP

namespace Go.Proofs.Ythfabalnioggcaa.SynP
open LexP

/-- how many tokens are passed with one -/
def pas (t : Tok) (r : List Tok) : Nat := if clo t.kind = 0 then 1 else match mt r [clo t.kind] with | some d => d + 2 | none => r.length + 1
theorem pas_bd (t : Tok) (r : List Tok) : 1 ≤ pas t r ∧ pas t r ≤ r.length + 1 := by
  unfold pas
  by_cases h : clo t.kind = 0
  · rw [if_pos h]; omega
  · rw [if_neg h]
    cases hm : mt r [clo t.kind] with
    | none => simp
    | some d => have := mt_lt _ _ _ hm; simp; omega
def fsF (p : Tok → Bool) : Nat → List Tok → Nat
  | 0, _ => 0
  | _ + 1, [] => 0
  | f + 1, t :: r => if p t = true then 0 else pas t r + fsF p f ((t :: r).drop (pas t r))
theorem fsF_same (p : Tok → Bool) : ∀ (f : Nat) (l : List Tok), l.length ≤ f → ∀ g, l.length ≤ g → fsF p f l = fsF p g l
  | 0, l, h, g, _ => by
    have : l = [] := List.eq_nil_of_length_eq_zero (by omega)
    subst this
    cases g <;> rfl
  | f + 1, [], _, g, _ => by cases g <;> rfl
  | f + 1, t :: r, h, 0, hg => by simp at hg
  | f + 1, t :: r, h, g + 1, hg => by
    have := pas_bd t r
    simp only [List.length_cons] at h hg
    show (if p t = true then 0 else _) = (if p t = true then 0 else _)
    rw [fsF_same p f _ (by rw [List.length_drop]; simp only [List.length_cons]; omega) g (by rw [List.length_drop]; simp only [List.length_cons]; omega)]
/-- the first token at the top that is looked for -/
def fst (p : Tok → Bool) (l : List Tok) : Nat := fsF p l.length l
theorem fst_nil (p : Tok → Bool) : fst p [] = 0 := rfl
theorem fst_cons (p : Tok → Bool) (t : Tok) (r : List Tok) : fst p (t :: r) = if p t = true then 0 else pas t r + fst p ((t :: r).drop (pas t r)) := by
  have := pas_bd t r
  unfold fst
  show (if p t = true then 0 else _) = _
  rw [fsF_same p r.length _ (by rw [List.length_drop]; simp only [List.length_cons]; omega) _ (Nat.le_refl _)]
theorem fst_le (p : Tok → Bool) : ∀ (n : Nat) (l : List Tok), l.length ≤ n → fst p l ≤ l.length
  | _, [], _ => Nat.le_refl _
  | 0, t :: r, h => by simp at h
  | n + 1, t :: r, h => by
    rw [fst_cons]
    have hb := pas_bd t r
    split
    · omega
    · have := fst_le p n ((t :: r).drop (pas t r)) (by rw [List.length_drop]; simp only [List.length_cons] at *; omega)
      rw [List.length_drop] at this
      simp only [List.length_cons] at *
      omega
theorem fst_bd (p : Tok → Bool) (l : List Tok) : fst p l ≤ l.length := fst_le p _ l (Nat.le_refl _)
/-- the token that was found -/
theorem fst_hit (p : Tok → Bool) : ∀ (n : Nat) (l : List Tok), l.length ≤ n → ∀ h : fst p l < l.length, p (l[fst p l]) = true
  | _, [], _, h => by simp at h
  | 0, t :: r, hn, _ => by simp at hn
  | n + 1, t :: r, hn, h => by
    by_cases hp : p t = true
    · have e : fst p (t :: r) = 0 := by rw [fst_cons, if_pos hp]
      simp only [e, List.getElem_cons_zero, hp]
    · have e : fst p (t :: r) = pas t r + fst p ((t :: r).drop (pas t r)) := by rw [fst_cons, if_neg hp]
      have hb := pas_bd t r
      have hl : ((t :: r).drop (pas t r)).length = (t :: r).length - pas t r := List.length_drop
      have ih := fst_hit p n ((t :: r).drop (pas t r)) (by rw [hl]; simp only [List.length_cons] at *; omega) (by rw [hl]; omega)
      rw [List.getElem_drop] at ih
      simp only [e]
      exact ih
theorem mtc_pas {l : List Tok} {i : Nat} (h : i < l.length) : (mtc l i + 1 = i + pas l[i] (l.drop (i + 1)) ∧ mtc l i < l.length) ∨ (mtc l i = l.length ∧ i + pas l[i] (l.drop (i + 1)) = l.length) := by
  unfold pas
  by_cases hc : clo l[i].kind = 0
  · rw [if_pos hc, mtc_none h hc]; omega
  · rw [if_neg hc]
    cases hm : mt (l.drop (i + 1)) [clo l[i].kind] with
    | none =>
      right
      rw [mtc_end h hc hm]
      show l.length = l.length ∧ i + ((l.drop (i + 1)).length + 1) = l.length
      rw [List.length_drop]
      omega
    | some d =>
      left
      have := mt_lt _ _ _ hm
      rw [List.length_drop] at this
      rw [mtc_some h hc hm]
      show i + 1 + d + 1 = i + (d + 2) ∧ i + 1 + d < l.length
      omega
/-- where the loop that looks for the first one stands -/
def FsAt (p : Tok → Bool) (l : List Tok) (i : Nat) : Prop := (i ≤ l.length ∧ fst p l = i + fst p (l.drop i)) ∨ (i = l.length + 1 ∧ fst p l = l.length)
theorem FsAt.start (p : Tok → Bool) (l : List Tok) : FsAt p l 0 := Or.inl ⟨Nat.zero_le _, by simp⟩
theorem FsAt.step {p : Tok → Bool} {l : List Tok} {i : Nat} (h : FsAt p l i) (hi : i < l.length) (hp : p l[i] = false) : FsAt p l (mtc l i + 1) := by
  rcases h with ⟨h1, h2⟩ | ⟨h1, _⟩
  · rw [List.drop_eq_getElem_cons hi, fst_cons, if_neg (by rw [hp]; simp)] at h2
    have hd : (l[i] :: l.drop (i + 1)).drop (pas l[i] (l.drop (i + 1))) = l.drop (i + pas l[i] (l.drop (i + 1))) := by
      rw [← List.drop_eq_getElem_cons hi, List.drop_drop]
    rw [hd] at h2
    rcases mtc_pas hi with ⟨h3, h4⟩ | ⟨h3, h4⟩
    · left
      rw [h3]
      exact ⟨by omega, by rw [h2]; omega⟩
    · right
      refine ⟨by omega, ?_⟩
      rw [h2, h4, List.drop_length, fst_nil]; omega
  · omega
theorem FsAt.hit {p : Tok → Bool} {l : List Tok} {i : Nat} (h : FsAt p l i) (hi : i < l.length) (hp : p l[i] = true) : fst p l = i := by
  rcases h with ⟨h1, h2⟩ | ⟨h1, _⟩
  · rw [List.drop_eq_getElem_cons hi, fst_cons, if_pos hp] at h2; omega
  · omega
theorem FsAt.over {p : Tok → Bool} {l : List Tok} {i : Nat} (h : FsAt p l i) (hi : l.length ≤ i) : fst p l = l.length := by
  rcases h with ⟨h1, h2⟩ | ⟨_, h2⟩
  · rw [List.drop_of_length_le hi, fst_nil] at h2; omega
  · exact h2

/-! pieces -/
def spF (p : Tok → Bool) : Nat → List Tok → List (List Tok)
  | 0, l => [l]
  | f + 1, l => if fst p l = l.length then [l] else l.take (fst p l) :: spF p f (l.drop (fst p l + 1))
theorem spF_same (p : Tok → Bool) : ∀ (f : Nat) (l : List Tok), l.length ≤ f → ∀ g, l.length ≤ g → spF p f l = spF p g l
  | 0, l, h, g, _ => by
    have : l = [] := List.eq_nil_of_length_eq_zero (by omega)
    subst this
    cases g <;> rfl
  | f + 1, l, h, 0, hg => by
    have : l = [] := List.eq_nil_of_length_eq_zero (by omega)
    subst this; rfl
  | f + 1, l, h, g + 1, hg => by
    have hb := fst_bd p l
    show (if fst p l = l.length then [l] else _) = (if fst p l = l.length then [l] else _)
    by_cases e : fst p l = l.length
    · rw [if_pos e, if_pos e]
    · rw [if_neg e, if_neg e, spF_same p f _ (by rw [List.length_drop]; omega) g (by rw [List.length_drop]; omega)]
def spl (p : Tok → Bool) (l : List Tok) : List (List Tok) := spF p l.length l
theorem spl_end {p : Tok → Bool} {l : List Tok} (h : fst p l = l.length) : spl p l = [l] := by
  unfold spl
  cases hl : l.length with
  | zero => rfl
  | succ n => show (if fst p l = l.length then [l] else _) = _; rw [if_pos h]
theorem spl_cut {p : Tok → Bool} {l : List Tok} (h : fst p l < l.length) : spl p l = l.take (fst p l) :: spl p (l.drop (fst p l + 1)) := by
  unfold spl
  cases hl : l.length with
  | zero => omega
  | succ n =>
    show (if fst p l = l.length then [l] else _) = _
    rw [if_neg (by omega), spF_same p n _ (by rw [List.length_drop]; omega) _ (Nat.le_refl _)]

/-! trimmed lists -/
def isSp (t : Tok) : Bool := decide (t.kind = 20)
def bs (l : List Tok) : List Tok := l.dropWhile isSp
def es (l : List Tok) : List Tok := (l.reverse.dropWhile isSp).reverse
def trm (l : List Tok) : List Tok := es (bs l)
theorem es_nil : es [] = [] := rfl
theorem es_snoc (l : List Tok) (t : Tok) : es (l ++ [t]) = if isSp t = true then es l else l ++ [t] := by
  unfold es
  rw [List.reverse_append]
  show (List.dropWhile isSp (t :: l.reverse)).reverse = _
  rw [List.dropWhile_cons]
  split
  · rfl
  · rw [List.reverse_cons, List.reverse_reverse]
theorem bs_len (l : List Tok) : (bs l).length ≤ l.length := by
  have h : (l.takeWhile isSp ++ l.dropWhile isSp).length = l.length := by rw [List.takeWhile_append_dropWhile]
  rw [List.length_append] at h
  unfold bs; omega
theorem es_len (l : List Tok) : (es l).length ≤ l.length := by
  unfold es
  have := bs_len l.reverse
  unfold bs at this
  rw [List.length_reverse] at this ⊢
  exact this
theorem trm_len (l : List Tok) : (trm l).length ≤ l.length := Nat.le_trans (es_len _) (bs_len l)

/-! declarations -/
structure Dec where
  name : List UInt8
  value : List Tok
  imp : Bool
def impT : List UInt8 := [105, 109, 112, 111, 114, 116, 97, 110, 116]
def excl (t : Tok) : Bool := decide (t.kind = 19) && decide (t.text = [33])
def unmS (v : List Tok) : List Tok × Bool :=
  match v.getLast? with
  | none => (v, false)
  | some t => if t.kind = 1 ∧ t.text = impT then
      (match (trm v.dropLast).getLast? with | some u => if excl u = true then (trm (trm v.dropLast).dropLast, true) else (v, false) | none => (v, false))
    else (v, false)
def bad6 (t : Tok) : Bool := decide (t.kind = 6)
def spoS (v : List Tok) : Bool := v.any bad6 || decide (fst excl v < v.length)
/-- of a trimmed piece -/
def decT (l : List Tok) : Option Dec :=
  match l with
  | [] => none
  | t :: r => if t.kind = 1 then
      (match bs r with
      | [] => none
      | c :: q => if c.kind = 10 then
          (if (unmS (trm q)).1 = [] ∨ spoS (unmS (trm q)).1 = true then none else some ⟨t.text, (unmS (trm q)).1, (unmS (trm q)).2⟩)
        else none)
    else none
def decS (piece : List Tok) : Option Dec := decT (trm piece)
def semi (t : Tok) : Bool := decide (t.kind = 11)
def declsS (l : List Tok) : List Dec := (spl semi l).filterMap decS

/-! rules -/
structure Rul where
  att : List UInt8
  head : List Tok
  body : List Tok
  block : Bool
def stopB (at_ : Bool) (t : Tok) : Bool := decide (t.kind = 17) || (at_ && decide (t.kind = 11))
/-- a rule whose beginning was passed, and how many tokens it takes -/
def rulT (att : List UInt8) (at_ : Bool) (l : List Tok) : Rul × Nat :=
  let e := fst (stopB at_) l
  match l[e]? with
  | some t => if t.kind = 17 then (⟨att, trm (l.take e), (l.take (mtc l e)).drop (e + 1), true⟩, min (mtc l e + 1) l.length) else (⟨att, trm (l.take e), [], false⟩, e + 1)
  | none => (⟨att, trm (l.take e), [], false⟩, l.length)
def rulS (l : List Tok) : Rul × Nat :=
  match l with
  | [] => (⟨[], [], [], false⟩, 0)
  | t :: r => if t.kind = 3 then ((rulT t.text true r).1, (rulT t.text true r).2 + 1) else rulT [] false (t :: r)
def isAt (l : List Tok) : Bool := match l with | [] => false | t :: _ => decide (t.kind = 3)
def rusF : Nat → List Tok → List Rul
  | 0, _ => []
  | f + 1, l => match bs l with
    | [] => []
    | t :: r => (if isAt (t :: r) || (rulS (t :: r)).1.block then [(rulS (t :: r)).1] else []) ++ rusF f ((t :: r).drop (rulS (t :: r)).2)
end Go.Proofs.Ythfabalnioggcaa.SynP
