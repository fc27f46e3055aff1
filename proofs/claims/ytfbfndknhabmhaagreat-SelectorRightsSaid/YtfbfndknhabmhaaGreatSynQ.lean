/- Layer 6, pure: closed lists; declarations behind a semicolon; rules behind a closed block. -/
import Derived.Test.YtfbfndknhabmhaaGreatSynU3
import Derived.Test.YtfbfndknhabmhaaGreatSynR2
namespace Go.Proofs.YtfbfndknhabmhaaGreat
open Go.RowKit TreN LexP FixP SynP
set_option linter.unusedVariables false

/-- what opens at the top is closed -/
def clF : Nat → List Tok → Bool
  | 0, _ => true
  | _ + 1, [] => true
  | f + 1, t :: r => if clo t.kind ≠ 0 ∧ mt r [clo t.kind] = none then false else clF f ((t :: r).drop (pas t r))
theorem clF_same : ∀ (f : Nat) (l : List Tok), l.length ≤ f → ∀ g, l.length ≤ g → clF f l = clF g l
  | 0, l, h, g, _ => by
    have : l = [] := List.eq_nil_of_length_eq_zero (by omega)
    subst this
    cases g <;> rfl
  | f + 1, [], _, g, _ => by cases g <;> rfl
  | f + 1, t :: r, h, 0, hg => by simp at hg
  | f + 1, t :: r, h, g + 1, hg => by
    have := pas_bd t r
    simp only [List.length_cons] at h hg
    show (if clo t.kind ≠ 0 ∧ mt r [clo t.kind] = none then false else _) = (if clo t.kind ≠ 0 ∧ mt r [clo t.kind] = none then false else _)
    rw [clF_same f _ (by rw [List.length_drop]; simp only [List.length_cons]; omega) g (by rw [List.length_drop]; simp only [List.length_cons]; omega)]
def clS (l : List Tok) : Bool := clF l.length l
theorem clS_nil : clS [] = true := rfl
theorem clS_cons (t : Tok) (r : List Tok) : clS (t :: r) = if clo t.kind ≠ 0 ∧ mt r [clo t.kind] = none then false else clS ((t :: r).drop (pas t r)) := by
  have := pas_bd t r
  unfold clS
  show (if clo t.kind ≠ 0 ∧ mt r [clo t.kind] = none then false else _) = _
  rw [clF_same r.length _ (by rw [List.length_drop]; simp only [List.length_cons]; omega) _ (Nat.le_refl _)]
theorem clS_pas {t : Tok} {r : List Tok} (h : clS (t :: r) = true) : clS ((t :: r).drop (pas t r)) = true ∧ ∀ z, pas t (r ++ z) = pas t r := by
  rw [clS_cons] at h
  by_cases hc : clo t.kind ≠ 0 ∧ mt r [clo t.kind] = none
  · rw [if_pos hc] at h; cases h
  · rw [if_neg hc] at h
    refine ⟨h, fun z => ?_⟩
    unfold pas
    by_cases h0 : clo t.kind = 0
    · rw [if_pos h0, if_pos h0]
    · rw [if_neg h0, if_neg h0]
      cases hm : mt r [clo t.kind] with
      | none => exact absurd ⟨h0, hm⟩ hc
      | some d => rw [mt_app r _ d z hm]
/-- what is looked for in a closed list and what stands behind it -/
theorem fst_app (p : Tok → Bool) : ∀ (n : Nat) (a : List Tok), a.length ≤ n → clS a = true → ∀ z, fst p (a ++ z) = if fst p a < a.length then fst p a else a.length + fst p z
  | _, [], _, _, z => by simp [fst_nil]
  | 0, t :: r, h, _, _ => by simp at h
  | n + 1, t :: r, h, hc, z => by
    obtain ⟨h1, h2⟩ := clS_pas hc
    have hb := pas_bd t r
    simp only [List.length_cons] at h
    by_cases hp : p t = true
    · have e1 : fst p (t :: r) = 0 := by rw [fst_cons, if_pos hp]
      have e2 : fst p (t :: r ++ z) = 0 := by rw [List.cons_append, fst_cons, if_pos hp]
      rw [e1, e2, if_pos (by simp)]
    · have e1 : fst p (t :: r) = pas t r + fst p ((t :: r).drop (pas t r)) := by rw [fst_cons, if_neg hp]
      have e2 : fst p (t :: r ++ z) = pas t r + fst p ((t :: r).drop (pas t r) ++ z) := by
        rw [List.cons_append, fst_cons, if_neg hp, h2, ← List.cons_append, List.drop_append_of_le_length (by simp only [List.length_cons]; omega)]
      have ih := fst_app p n ((t :: r).drop (pas t r)) (by rw [List.length_drop]; simp only [List.length_cons]; omega) h1 z
      rw [e2, ih, e1, List.length_drop]
      simp only [List.length_cons]
      by_cases hl : fst p ((t :: r).drop (pas t r)) < r.length + 1 - pas t r
      · rw [if_pos hl, if_pos (by omega)]
      · rw [if_neg hl, if_neg (by omega)]; omega
theorem clS_fst (p : Tok → Bool) : ∀ (n : Nat) (a : List Tok), a.length ≤ n → clS a = true → clS (a.drop (fst p a)) = true
  | _, [], _, _ => by rw [fst_nil]; rfl
  | 0, t :: r, h, _ => by simp at h
  | n + 1, t :: r, h, hc => by
    obtain ⟨h1, h2⟩ := clS_pas hc
    have hb := pas_bd t r
    simp only [List.length_cons] at h
    by_cases hp : p t = true
    · have e1 : fst p (t :: r) = 0 := by rw [fst_cons, if_pos hp]
      rw [e1]; exact hc
    · have e1 : fst p (t :: r) = pas t r + fst p ((t :: r).drop (pas t r)) := by rw [fst_cons, if_neg hp]
      rw [e1, ← List.drop_drop]
      exact clS_fst p n _ (by rw [List.length_drop]; simp only [List.length_cons]; omega) h1
/-- behind the token that was found, with what closes it -/
theorem clS_behind (p : Tok → Bool) {a : List Tok} (hc : clS a = true) (h : fst p a < a.length) : clS (a.drop (fst p a + pas a[fst p a] (a.drop (fst p a + 1)))) = true := by
  have h1 := clS_fst p _ a (Nat.le_refl _) hc
  rw [List.drop_eq_getElem_cons h] at h1
  have h2 := (clS_pas h1).1
  rw [← List.drop_eq_getElem_cons h, List.drop_drop] at h2
  exact h2
theorem pas_one {t : Tok} (h : clo t.kind = 0) (r : List Tok) : pas t r = 1 := by unfold pas; rw [if_pos h]
theorem clo_semi {t : Tok} (h : semi t = true) : clo t.kind = 0 := by
  have : t.kind = 11 := by unfold semi at h; simpa using h
  rw [this]; decide
/-- pieces ahead of a semicolon and behind it -/
theorem spl_semi (s : Tok) (hs : semi s = true) (b : List Tok) : ∀ (n : Nat) (a : List Tok), a.length ≤ n → clS a = true → spl semi (a ++ s :: b) = spl semi a ++ spl semi b := by
  intro n
  induction n with
  | zero =>
    intro a h _
    have : a = [] := List.eq_nil_of_length_eq_zero (by omega)
    subst this
    have e : fst semi (s :: b) = 0 := by rw [fst_cons, if_pos hs]
    rw [List.nil_append, spl_cut (by rw [e]; simp), e]
    rfl
  | succ n ih =>
    intro a h hc
    have hf := fst_app semi _ a (Nat.le_refl _) hc (s :: b)
    have hb := fst_bd semi a
    by_cases hl : fst semi a < a.length
    · rw [if_pos hl] at hf
      have hk : clo a[fst semi a].kind = 0 := clo_semi (fst_hit semi _ a (Nat.le_refl _) hl)
      have hc2 := clS_behind semi hc hl
      rw [pas_one hk] at hc2
      rw [spl_cut (by rw [hf, List.length_append]; omega), hf, spl_cut hl, List.take_append_of_le_length (by omega), List.drop_append_of_le_length (by omega),
        ih _ (by rw [List.length_drop]; omega) hc2]
      rfl
    · rw [if_neg hl] at hf
      have e : fst semi (s :: b) = 0 := by rw [fst_cons, if_pos hs]
      rw [e, Nat.add_zero] at hf
      rw [spl_cut (by rw [hf, List.length_append]; simp), hf, spl_end (p := semi) (l := a) (by omega), List.take_left' rfl, List.drop_append, List.drop_of_length_le (by omega)]
      have : a.length + 1 - a.length = 1 := by omega
      rw [this]
      rfl
theorem decls_semi (s : Tok) (hs : semi s = true) (a b : List Tok) (hc : clS a = true) : declsS (a ++ s :: b) = declsS a ++ declsS b := by
  unfold declsS
  rw [spl_semi s hs b _ a (Nat.le_refl _) hc, List.filterMap_append]

/-! rules behind a closed block -/
theorem clS_tail {t : Tok} {r : List Tok} (h : clo t.kind = 0) (hc : clS (t :: r) = true) : clS r = true := by
  have := (clS_pas hc).1
  rw [pas_one h] at this
  exact this
theorem stop_open {ab : Bool} {t : Tok} (h : t.kind = 17) : stopB ab t = true := by unfold stopB; rw [h]; rfl
theorem stop_kind {ab : Bool} {t : Tok} (h : stopB ab t = true) (hk : ¬ t.kind = 17) : clo t.kind = 0 := by
  unfold stopB at h
  rw [decide_eq_false hk, Bool.false_or, Bool.and_eq_true] at h
  have : t.kind = 11 := by simpa using h.2
  rw [this]; decide
theorem mtc_app {a z : List Tok} {k : Nat} (h : k < a.length) (hlt : mtc a k < a.length) : mtc (a ++ z) k = mtc a k := by
  have hk : k < (a ++ z).length := by rw [List.length_append]; omega
  have hg : (a ++ z)[k] = a[k] := List.getElem_append_left h
  by_cases hc : clo a[k].kind = 0
  · rw [mtc_none h hc, mtc_none hk (by rw [hg]; exact hc)]
  · cases hm : mt (a.drop (k + 1)) [clo a[k].kind] with
    | none => rw [mtc_end h hc hm] at hlt; omega
    | some d =>
      rw [mtc_some h hc hm, mtc_some hk (by rw [hg]; exact hc) (d := d) (by rw [hg, List.drop_append_of_le_length (by omega)]; exact mt_app _ _ d z hm)]
theorem mtc_lt_of_cl {p : Tok → Bool} {a : List Tok} (hc : clS a = true) (h : fst p a < a.length) : mtc a (fst p a) < a.length ∧ mtc a (fst p a) + 1 = fst p a + pas a[fst p a] (a.drop (fst p a + 1)) := by
  have h1 := clS_fst p _ a (Nat.le_refl _) hc
  rw [List.drop_eq_getElem_cons h, clS_cons] at h1
  by_cases hk : clo a[fst p a].kind = 0
  · rw [mtc_none h hk, pas_one hk]; omega
  · cases hm : mt (a.drop (fst p a + 1)) [clo a[fst p a].kind] with
    | none => rw [if_pos ⟨hk, hm⟩] at h1; cases h1
    | some d =>
      have := mt_lt _ _ _ hm
      rw [List.length_drop] at this
      rw [mtc_some h hk hm]
      unfold pas
      rw [if_neg hk, hm]
      show _ ∧ _ = _ + (d + 2)
      omega
/-- a rule that ends in what is closed, or takes the block behind it -/
theorem rulT_app {att : List UInt8} {ab : Bool} {a : List Tok} (hc : clS a = true) (h : fst (stopB ab) a < a.length) (z : List Tok) :
    rulT att ab (a ++ z) = rulT att ab a ∧ (rulT att ab a).2 ≤ a.length ∧ clS (a.drop (rulT att ab a).2) = true := by
  have hf := fst_app (stopB ab) _ a (Nat.le_refl _) hc z
  rw [if_pos h] at hf
  have hl : fst (stopB ab) a < (a ++ z).length := by rw [List.length_append]; omega
  have hg : (a ++ z)[fst (stopB ab) a] = a[fst (stopB ab) a] := List.getElem_append_left h
  have hcb := clS_behind (stopB ab) hc h
  by_cases hk : a[fst (stopB ab) a].kind = 17
  · obtain ⟨m1, m2⟩ := mtc_lt_of_cl hc h
    rw [rulT_open hf hl (by rw [hg]; exact hk), rulT_open rfl h hk, mtc_app h m1, List.take_append_of_le_length (by omega), List.take_append_of_le_length (by omega)]
    rw [← m2] at hcb
    have e1 : min (mtc a (fst (stopB ab) a) + 1) (a ++ z).length = mtc a (fst (stopB ab) a) + 1 := by rw [List.length_append]; omega
    have e2 : min (mtc a (fst (stopB ab) a) + 1) a.length = mtc a (fst (stopB ab) a) + 1 := by omega
    rw [e1, e2]
    exact ⟨rfl, by show mtc a _ + 1 ≤ _; omega, hcb⟩
  · have hk0 := stop_kind (fst_hit (stopB ab) _ a (Nat.le_refl _) h) hk
    rw [rulT_semi hf hl (by rw [hg]; exact hk), rulT_semi rfl h hk, List.take_append_of_le_length (by omega)]
    rw [pas_one hk0] at hcb
    exact ⟨rfl, by show fst _ a + 1 ≤ _; omega, hcb⟩
theorem rulT_take {att : List UInt8} {ab : Bool} {a : List Tok} (hc : clS a = true) (h : fst (stopB ab) a = a.length) {o c : Tok} {body : List Tok} (ho : o.kind = 17)
    (hm : mt (body ++ [c]) [18] = some body.length) (z : List Tok) :
    rulT att ab (a ++ o :: (body ++ c :: z)) = (⟨att, trm a, body, true⟩, a.length + 1 + body.length + 1) := by
  have hf := fst_app (stopB ab) _ a (Nat.le_refl _) hc (o :: (body ++ c :: z))
  rw [if_neg (by omega), fst_cons, if_pos (stop_open ho), Nat.add_zero] at hf
  have hl : a.length < (a ++ o :: (body ++ c :: z)).length := by rw [List.length_append]; simp
  have hg : (a ++ o :: (body ++ c :: z))[a.length] = o := by simp
  have hko : clo o.kind = 18 := by rw [ho]; decide
  have hd : (a ++ o :: (body ++ c :: z)).drop (a.length + 1) = body ++ c :: z := by
    rw [List.drop_append, List.drop_of_length_le (by omega), show a.length + 1 - a.length = 1 by omega]; rfl
  have hM : mtc (a ++ o :: (body ++ c :: z)) a.length = a.length + 1 + body.length := by
    refine mtc_some hl (by rw [hg, hko]; decide) ?_
    rw [hg, hko, hd]
    have := mt_app _ _ _ z hm
    rwa [List.append_assoc] at this
  have hlen : (a ++ o :: (body ++ c :: z)).length = a.length + 1 + body.length + 1 + z.length := by simp; omega
  rw [rulT_open hf hl (by rw [hg]; exact ho), hM, List.take_left' rfl]
  have e1 : min (a.length + 1 + body.length + 1) (a ++ o :: (body ++ c :: z)).length = a.length + 1 + body.length + 1 := by omega
  have e2 : ((a ++ o :: (body ++ c :: z)).take (a.length + 1 + body.length)).drop (a.length + 1) = body := by
    rw [List.drop_take, hd, show a.length + 1 + body.length - (a.length + 1) = body.length by omega]
    simp
  rw [e1, e2]
theorem bs_app : ∀ {a : List Tok} (z : List Tok), bs a ≠ [] → bs (a ++ z) = bs a ++ z
  | [], _, h => absurd rfl h
  | t :: r, z, h => by
    by_cases hk : t.kind = 20
    · rw [bs_sp hk] at h
      rw [List.cons_append, bs_sp hk, bs_sp hk]
      exact bs_app z h
    · rw [List.cons_append, bs_no hk, bs_no hk]; rfl
theorem bs_app_nil : ∀ {a : List Tok} (z : List Tok), bs a = [] → bs (a ++ z) = bs z
  | [], _, _ => rfl
  | t :: r, z, h => by
    by_cases hk : t.kind = 20
    · rw [bs_sp hk] at h
      rw [List.cons_append, bs_sp hk]
      exact bs_app_nil z h
    · rw [bs_no hk] at h; cases h
theorem clS_bs : ∀ {a : List Tok}, clS a = true → clS (bs a) = true
  | [], h => h
  | t :: r, h => by
    by_cases hk : t.kind = 20
    · rw [bs_sp hk]
      exact clS_bs (clS_tail (by rw [hk]; decide) h)
    · rw [bs_no hk]; exact h
theorem rulS_at {t : Tok} {r : List Tok} (h : t.kind = 3) : rulS (t :: r) = ((rulT t.text true r).1, (rulT t.text true r).2 + 1) := if_pos h
theorem rulS_no {t : Tok} {r : List Tok} (h : ¬ t.kind = 3) : rulS (t :: r) = rulT [] false (t :: r) := if_neg h
theorem rulS_app {t : Tok} {r : List Tok} (hc : clS (t :: r) = true) {o c : Tok} {body : List Tok} (ho : o.kind = 17) (hm : mt (body ++ [c]) [18] = some body.length) :
    (∃ R k, 1 ≤ k ∧ k ≤ (t :: r).length ∧ clS ((t :: r).drop k) = true ∧ ∀ z, rulS (t :: (r ++ o :: (body ++ c :: z))) = (R, k)) ∨
    (∃ R : Rul, ∀ z, rulS (t :: (r ++ o :: (body ++ c :: z))) = (R, (t :: r).length + 1 + body.length + 1)) := by
  by_cases hk : t.kind = 3
  · have hcr := clS_tail (t := t) (r := r) (by rw [hk]; decide) hc
    have hb := fst_bd (stopB true) r
    by_cases hl : fst (stopB true) r < r.length
    · left
      obtain ⟨_, h2, h3⟩ := rulT_app (att := t.text) hcr hl []
      refine ⟨(rulT t.text true r).1, (rulT t.text true r).2 + 1, by omega, by simp only [List.length_cons]; omega, h3, fun z => ?_⟩
      rw [rulS_at hk, (rulT_app hcr hl _).1]
    · right
      refine ⟨⟨t.text, trm r, body, true⟩, fun z => ?_⟩
      rw [rulS_at hk, rulT_take hcr (by omega) ho hm]
      simp only [List.length_cons, Prod.mk.injEq, true_and]
      omega
  · have hb := fst_bd (stopB false) (t :: r)
    by_cases hl : fst (stopB false) (t :: r) < (t :: r).length
    · left
      obtain ⟨_, h2, h3⟩ := rulT_app (att := []) hc hl []
      refine ⟨(rulT [] false (t :: r)).1, (rulT [] false (t :: r)).2, rulT_pos (by simp), h2, h3, fun z => ?_⟩
      rw [rulS_no hk, ← List.cons_append, (rulT_app hc hl _).1]
    · right
      refine ⟨⟨[], trm (t :: r), body, true⟩, fun z => ?_⟩
      rw [rulS_no hk, ← List.cons_append, rulT_take hc (by omega) ho hm]
theorem ruls1_of {t : Tok} {r r2 : List Tok} {x y : Rul × Nat} (h : rulS (t :: r) = x) (h2 : rulS (t :: r2) = y) (e : x.1 = y.1) : ruls1 t r = ruls1 t r2 := by
  unfold ruls1
  rw [h, h2, e]; rfl
/-- rules behind a closed block -/
theorem rus_close {o c : Tok} {body : List Tok} (ho : o.kind = 17) (hm : mt (body ++ [c]) [18] = some body.length) (z : List Tok) : ∀ (n : Nat) (a : List Tok), a.length ≤ n → clS a = true →
    rusS (a ++ o :: (body ++ c :: z)) = rusS (a ++ o :: (body ++ [c])) ++ rusS z := by
  have ho20 : ¬ o.kind = 20 := by rw [ho]; decide
  have ho3 : ¬ o.kind = 3 := by rw [ho]; decide
  have base : ∀ a, bs a = [] → rusS (a ++ o :: (body ++ c :: z)) = rusS (a ++ o :: (body ++ [c])) ++ rusS z := by
    intro a h
    have h1 : ∀ y, bs (a ++ o :: (body ++ c :: y)) = o :: (body ++ c :: y) := fun y => by rw [bs_app_nil _ h, bs_no ho20]
    have h2 : ∀ y, rulS (o :: (body ++ c :: y)) = (⟨[], trm [], body, true⟩, 0 + 1 + body.length + 1) := fun y => by
      rw [rulS_no ho3]
      exact rulT_take (a := []) clS_nil rfl ho hm y
    have h3 : ∀ y, (o :: (body ++ c :: y)).drop (0 + 1 + body.length + 1) = y := fun y => by
      rw [show 0 + 1 + body.length + 1 = (body.length + 1) + 1 by omega, List.drop_succ_cons, List.drop_append, List.drop_of_length_le (by omega), show body.length + 1 - body.length = 1 by omega]
      rfl
    rw [rusS_cons (h1 z), rusS_cons (h1 []), h2, h2, h3, h3, ruls1_of (h2 z) (h2 []) rfl, rusS_nil (l := []) rfl, List.append_nil]
  intro n
  induction n with
  | zero =>
    intro a h _
    have : a = [] := List.eq_nil_of_length_eq_zero (by omega)
    subst this
    exact base [] rfl
  | succ n ih =>
    intro a h hc
    cases hb : bs a with
    | nil => exact base a hb
    | cons t r =>
      have hcb := clS_bs hc
      rw [hb] at hcb
      have hlen := bs_len a
      rw [hb] at hlen
      have h1 : ∀ y, bs (a ++ o :: (body ++ c :: y)) = t :: (r ++ o :: (body ++ c :: y)) := fun y => by rw [bs_app _ (by rw [hb]; simp), hb]; rfl
      rcases rulS_app hcb ho hm with ⟨R, k, k1, k2, k3, k4⟩ | ⟨R, k4⟩
      · have h3 : ∀ y, (t :: (r ++ o :: (body ++ c :: y))).drop k = (t :: r).drop k ++ o :: (body ++ c :: y) := fun y => by
          rw [← List.cons_append, List.drop_append_of_le_length k2]
        rw [rusS_cons (h1 z), rusS_cons (h1 []), k4, k4, h3, h3, ruls1_of (k4 z) (k4 []) rfl, ih _ (by rw [List.length_drop]; omega) k3, List.append_assoc]
      · have h3 : ∀ y, (t :: (r ++ o :: (body ++ c :: y))).drop ((t :: r).length + 1 + body.length + 1) = y := fun y => by
          rw [← List.cons_append, List.drop_append, List.drop_of_length_le (by omega), show (t :: r).length + 1 + body.length + 1 - (t :: r).length = (body.length + 1) + 1 by omega,
            List.drop_succ_cons, List.drop_append, List.drop_of_length_le (by omega), show body.length + 1 - body.length = 1 by omega]
          rfl
        rw [rusS_cons (h1 z), rusS_cons (h1 []), k4, k4, h3, h3, ruls1_of (k4 z) (k4 []) rfl, rusS_nil (l := []) rfl, List.append_nil]
/-- the opening's match, as the law reckons it -/
theorem block_match {head body : List Tok} {o c : Tok} (ho : o.kind = 17) (h : mtc (head ++ o :: (body ++ [c])) head.length = head.length + 1 + body.length) : mt (body ++ [c]) [18] = some body.length := by
  have hl : head.length < (head ++ o :: (body ++ [c])).length := by simp
  have hg : (head ++ o :: (body ++ [c]))[head.length] = o := by simp
  have hko : clo o.kind = 18 := by rw [ho]; decide
  have hd : (head ++ o :: (body ++ [c])).drop (head.length + 1) = body ++ [c] := by
    rw [List.drop_append, List.drop_of_length_le (by omega), show head.length + 1 - head.length = 1 by omega]; rfl
  cases hm : mt (body ++ [c]) [18] with
  | none =>
    rw [mtc_end hl (by rw [hg, hko]; decide) (by rw [hg, hko, hd]; exact hm)] at h
    simp at h
    exfalso; omega
  | some d =>
    rw [mtc_some hl (by rw [hg, hko]; decide) (by rw [hg, hko, hd]; exact hm)] at h
    congr 1; omega
end Go.Proofs.YtfbfndknhabmhaaGreat
