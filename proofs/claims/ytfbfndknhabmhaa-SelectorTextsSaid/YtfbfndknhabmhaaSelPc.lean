/- Joined texts: SelPu SelCl. -/
import Derived.Test.YtfbfndknhabmhaaSelQ
import Derived.Test.YtfbfndknhabmhaaSelMa
namespace Go.Proofs.Ytfbfndknhabmhaa.SelP
open FixM FixP TreN LexP SynP ValP
set_option linter.unusedVariables false

theorem clo_comma {t : Tok} (h : commaB t = true) : clo t.kind = 0 := by
  have : t.kind = 12 := by unfold commaB at h; simpa using h
  rw [this]; decide
/-- pieces ahead of a comma and behind it -/
theorem spl_comma (s : Tok) (hs : commaB s = true) (b : List Tok) : ∀ (n : Nat) (a : List Tok), a.length ≤ n → clS a = true → spl commaB (a ++ s :: b) = spl commaB a ++ spl commaB b := by
  intro n
  induction n with
  | zero =>
    intro a h _
    have : a = [] := List.eq_nil_of_length_eq_zero (by omega)
    subst this
    have e : fst commaB (s :: b) = 0 := by rw [fst_cons, if_pos hs]
    rw [List.nil_append, spl_cut (by rw [e]; simp), e]
    rfl
  | succ n ih =>
    intro a h hc
    have hf := fst_app commaB _ a (Nat.le_refl _) hc (s :: b)
    have hb := fst_bd commaB a
    by_cases hl : fst commaB a < a.length
    · rw [if_pos hl] at hf
      have hk : clo a[fst commaB a].kind = 0 := clo_comma (fst_hit commaB _ a (Nat.le_refl _) hl)
      have hc2 := clS_behind commaB hc hl
      rw [pas_one hk] at hc2
      rw [spl_cut (by rw [hf, List.length_append]; omega), hf, spl_cut hl, List.take_append_of_le_length (by omega), List.drop_append_of_le_length (by omega),
        ih _ (by rw [List.length_drop]; omega) hc2]
      rfl
    · rw [if_neg hl] at hf
      have e : fst commaB (s :: b) = 0 := by rw [fst_cons, if_pos hs]
      rw [e, Nat.add_zero] at hf
      rw [spl_cut (by rw [hf, List.length_append]; simp), hf, spl_end (p := commaB) (l := a) (by omega), List.take_left' rfl, List.drop_append, List.drop_of_length_le (by omega)]
      have : a.length + 1 - a.length = 1 := by omega
      rw [this]
      rfl
theorem mapM_append7 {α β : Type} (f : α → Option β) : ∀ (a b : List α), (a ++ b).mapM f = (a.mapM f).bind fun x => (b.mapM f).map fun y => x ++ y
  | [], b => by simp
  | t :: a, b => by
    rw [List.cons_append, List.mapM_cons, List.mapM_cons, mapM_append7 f a b]
    cases f t with
    | none => rfl
    | some u => cases a.mapM f with
      | none => rfl
      | some v => cases b.mapM f <;> rfl
/-- P7.2: a list is read just if both its halves are -/
theorem parse_comma (s : Tok) (hs : commaB s = true) (a b : List Tok) (hc : clS a = true) : parseS (a ++ s :: b) = (parseS a).bind fun x => (parseS b).map fun y => x ++ y := by
  unfold parseS
  rw [spl_comma s hs b _ a (Nat.le_refl _) hc, mapM_append7]

/-! ### what is printed is closed -/
theorem clS_app : ∀ (n : Nat) (a b : List Tok), a.length ≤ n → clS a = true → clS b = true → clS (a ++ b) = true
  | _, [], b, _, _, hb => hb
  | 0, t :: r, _, h, _, _ => by simp at h
  | n + 1, t :: r, b, h, ha, hb => by
    obtain ⟨h1, h2⟩ := clS_pas ha
    have hp := pas_bd t r
    simp only [List.length_cons] at h
    have hm : ¬ (clo t.kind ≠ 0 ∧ mt (r ++ b) [clo t.kind] = none) := by
      rintro ⟨c1, c2⟩
      rw [clS_cons] at ha
      cases hm : mt r [clo t.kind] with
      | none => rw [if_pos ⟨c1, hm⟩] at ha; cases ha
      | some d => rw [mt_app r _ d b hm] at c2; cases c2
    rw [List.cons_append, clS_cons, if_neg hm, h2 b, ← List.cons_append, List.drop_append_of_le_length (by simp only [List.length_cons]; omega)]
    exact clS_app n _ b (by rw [List.length_drop]; simp only [List.length_cons]; omega) h1 hb
theorem clS_and {a b : List Tok} (ha : clS a = true) (hb : clS b = true) : clS (a ++ b) = true := clS_app _ a b (Nat.le_refl _) ha hb
theorem clS_one {t : Tok} (h : clo t.kind = 0) : clS [t] = true := by
  rw [clS_cons, if_neg (by rintro ⟨c, _⟩; exact c h), pas_one h]; rfl
theorem clS_flat {α : Type} (f : α → List Tok) : ∀ (l : List α), (∀ x ∈ l, clS (f x) = true) → clS (l.flatMap f) = true
  | [], _ => rfl
  | x :: l, h => by rw [List.flatMap_cons]; exact clS_and (h x (by simp)) (clS_flat f l fun y hy => h y (by simp [hy]))
theorem clS_test (t : Tst) : clS (testT t) = true := by
  obtain ⟨n, e, v⟩ := t
  cases e <;> rfl
theorem clS_state (n k : Int) : clS (stateT n k) = true := by
  unfold stateT
  split
  · exact clS_and (a := [tkS 10]) (clS_one (by decide)) (clS_one (by show clo 1 = 0; decide))
  · rfl
theorem clS_body (p : Prt) : clS (bodyT p) = true := by
  unfold bodyT
  refine clS_and ?_ (clS_and ?_ (clS_and ?_ (clS_and ?_ (clS_and (clS_state _ _) (clS_and (clS_state _ _) (clS_state _ _))))))
  · split
    · rfl
    · exact clS_one (by show clo 1 = 0; decide)
  · split
    · rfl
    · exact clS_one (by show clo 4 = 0; decide)
  · exact clS_flat _ _ fun c _ => clS_and (a := [tkD [46]]) (clS_one (by decide)) (clS_one (by show clo 1 = 0; decide))
  · exact clS_flat _ _ fun c _ => clS_test c
theorem clS_part (p : Prt) : clS (partT p) = true := by
  unfold partT
  split
  · exact clS_one (by decide)
  · exact clS_body p
theorem clS_comb (c : Int) : clS (combT c) = true := by
  unfold combT
  split
  · rfl
  · split
    · exact clS_one (by decide)
    · exact clS_and (a := [tkS 20]) (clS_one (by decide)) (clS_and (a := [tkD (markS c)]) (clS_one (by show clo 19 = 0; decide)) (clS_one (by decide)))
theorem clS_sel (s : List Prt) : clS (selT s) = true := clS_flat _ _ fun p _ => clS_and (clS_comb _) (clS_part p)

/-! ### no comma stands in it -/
def NoC (l : List Tok) : Prop := ∀ t ∈ l, t.kind ≠ 12
theorem NoC.app {a b : List Tok} (h : NoC a) (k : NoC b) : NoC (a ++ b) := fun t ht => by
  rcases List.mem_append.1 ht with x | x
  · exact h t x
  · exact k t x
theorem NoC.nil : NoC [] := fun t h => by cases h
theorem NoC.one {t : Tok} (h : t.kind ≠ 12) : NoC [t] := fun x hx => by
  have : x = t := by simpa using hx
  rw [this]; exact h
theorem NoC.flat {α : Type} (f : α → List Tok) {l : List α} (h : ∀ x ∈ l, NoC (f x)) : NoC (l.flatMap f) := fun t ht => by
  obtain ⟨x, hx, hy⟩ := List.mem_flatMap.1 ht
  exact h x hx t hy
theorem NoC.fst {l : List Tok} (h : NoC l) : fst commaB l = l.length := by
  have h1 := fst_bd commaB l
  rcases Nat.lt_or_ge (SynP.fst commaB l) l.length with h2 | h2
  · have h3 := fst_hit commaB _ l (Nat.le_refl _) h2
    have h4 := h _ (List.getElem_mem h2)
    unfold commaB at h3
    simp at h3
    exact absurd h3 h4
  · omega
theorem noC_test (t : Tst) : NoC (testT t) := by
  obtain ⟨n, e, v⟩ := t
  cases e
  · exact (NoC.one (t := tkS 15) (by decide)).app ((NoC.one (t := tkI n) (by show (1 : Int) ≠ 12; decide)).app (NoC.one (by decide)))
  · exact (NoC.one (t := tkS 15) (by decide)).app ((NoC.one (t := tkI n) (by show (1 : Int) ≠ 12; decide)).app ((NoC.one (t := tkD [61]) (by decide)).app ((NoC.one (t := ⟨5, v, 0⟩) (by show (5 : Int) ≠ 12; decide)).app (NoC.one (by decide)))))
theorem noC_state (n k : Int) : NoC (stateT n k) := by
  unfold stateT
  split
  · exact (NoC.one (t := tkS 10) (by decide)).app (NoC.one (by show (1 : Int) ≠ 12; decide))
  · exact NoC.nil
theorem noC_part (p : Prt) : NoC (partT p) := by
  unfold partT
  split
  · exact NoC.one (by decide)
  · unfold bodyT
    refine NoC.app ?_ (NoC.app ?_ (NoC.app ?_ (NoC.app ?_ ((noC_state _ _).app ((noC_state _ _).app (noC_state _ _))))))
    · split
      · exact NoC.nil
      · exact NoC.one (by show (1 : Int) ≠ 12; decide)
    · split
      · exact NoC.nil
      · exact NoC.one (by show (4 : Int) ≠ 12; decide)
    · exact NoC.flat _ fun c _ => (NoC.one (t := tkD [46]) (by decide)).app (NoC.one (by show (1 : Int) ≠ 12; decide))
    · exact NoC.flat _ fun c _ => noC_test c
theorem noC_comb (c : Int) : NoC (combT c) := by
  unfold combT
  split
  · exact NoC.nil
  · split
    · exact NoC.one (by decide)
    · exact (NoC.one (t := tkS 20) (by decide)).app ((NoC.one (t := tkD (markS c)) (by show (19 : Int) ≠ 12; decide)).app (NoC.one (by decide)))
theorem noC_sel (s : List Prt) : NoC (selT s) := NoC.flat _ fun p _ => (noC_comb _).app (noC_part p)

/-! ### no Space at its ends -/
theorem last_app {a b : List Tok} (hb : ∃ m u, b = m ++ [u] ∧ u.kind ≠ 20) : ∃ m u, a ++ b = m ++ [u] ∧ u.kind ≠ 20 := by
  obtain ⟨m, u, e, h⟩ := hb
  exact ⟨a ++ m, u, by rw [e, List.append_assoc], h⟩
def Lst7 (b : List Tok) : Prop := b = [] ∨ ∃ m u, b = m ++ [u] ∧ u.kind ≠ 20
theorem Lst7.app {a b : List Tok} (ha : Lst7 a) (hb : Lst7 b) : Lst7 (a ++ b) := by
  rcases hb with rfl | hb
  · rw [List.append_nil]; exact ha
  · exact Or.inr (last_app hb)
theorem Lst7.one {t : Tok} (h : t.kind ≠ 20) : Lst7 [t] := Or.inr ⟨[], t, rfl, h⟩
theorem Lst7.flat {α : Type} (f : α → List Tok) : ∀ {l : List α}, (∀ x ∈ l, Lst7 (f x)) → Lst7 (l.flatMap f)
  | [], _ => Or.inl rfl
  | x :: l, h => by rw [List.flatMap_cons]; exact (h x (by simp)).app (Lst7.flat f fun y hy => h y (by simp [hy]))
theorem lst_part (p : Prt) : ∃ m u, partT p = m ++ [u] ∧ u.kind ≠ 20 := by
  have h : Lst7 (partT p) := by
    unfold partT
    split
    · exact Lst7.one (by decide)
    · unfold bodyT
      have hs : ∀ n k, Lst7 (stateT n k) := fun n k => by
        unfold stateT
        split
        · exact (Lst7.one (t := tkS 10) (by decide)).app (Lst7.one (by show (1 : Int) ≠ 20; decide))
        · exact Or.inl rfl
      refine Lst7.app ?_ (Lst7.app ?_ (Lst7.app ?_ (Lst7.app ?_ ((hs _ _).app ((hs _ _).app (hs _ _))))))
      · split
        · exact Or.inl rfl
        · exact Lst7.one (by show (1 : Int) ≠ 20; decide)
      · split
        · exact Or.inl rfl
        · exact Lst7.one (by show (4 : Int) ≠ 20; decide)
      · exact Lst7.flat _ fun c _ => (Lst7.one (t := tkD [46]) (by decide)).app (Lst7.one (by show (1 : Int) ≠ 20; decide))
      · refine Lst7.flat _ fun c _ => ?_
        unfold testT
        rw [← List.append_assoc]
        exact Or.inr (last_app ⟨[], tkS 16, rfl, by decide⟩)
  rcases h with h | h
  · obtain ⟨t, r, e, _⟩ := part_head p
    rw [e] at h; cases h
  · exact h
theorem lst_sel : ∀ (s : List Prt), s ≠ [] → ∃ m u, selT s = m ++ [u] ∧ u.kind ≠ 20
  | [], h => absurd rfl h
  | [p], _ => by
    show ∃ m u, (combT p.comb ++ partT p) ++ [] = m ++ [u] ∧ u.kind ≠ 20
    rw [List.append_nil]
    exact last_app (lst_part p)
  | p :: q :: r, _ => by
    show ∃ m u, (combT p.comb ++ partT p) ++ selT (q :: r) = m ++ [u] ∧ u.kind ≠ 20
    exact last_app (lst_sel (q :: r) (by simp))
theorem right_first {s : List Prt} (h : rightS s = true) : ∃ p r, s = p :: r ∧ p.comb = 0 := by
  unfold rightS at h
  rw [Bool.and_eq_true, Bool.and_eq_true, decide_eq_true_eq] at h
  cases s with
  | nil => simp at h
  | cons p r =>
    have h3 : (combB 0 p && (rightPt p && rightF 1 r)) = true := h.2.2
    rw [Bool.and_eq_true] at h3
    exact ⟨p, r, rfl, by simpa [combB] using h3.1⟩
theorem trm_sel {s : List Prt} (h : rightS s = true) : trm (selT s) = selT s := by
  obtain ⟨p, r, e, hc⟩ := right_first h
  obtain ⟨m, u, e2, hu⟩ := lst_sel s (by rw [e]; simp)
  obtain ⟨t, r2, e3, hk, _⟩ := part_head p
  have e4 : selT s = t :: (r2 ++ selT r) := by
    rw [e]
    show (combT p.comb ++ partT p) ++ selT r = _
    rw [hc, e3]; rfl
  rw [e4] at e2 ⊢
  exact trm_keep hk hu e2
theorem trm_sel2 {s : List Prt} (h : rightS s = true) : trm (tkS 20 :: selT s) = selT s := by rw [trm_sp (by rfl), trm_sel h]

theorem spl_list (i : Nat) : ∀ (r : List (List Prt)) (x : List Tok), clS x = true → NoC x → spl commaB (x ++ lstF (i + 1) r) = x :: r.map fun s => tkS 20 :: selT s := by
  intro r
  induction r generalizing i with
  | nil =>
    intro x _ hn
    show spl commaB (x ++ []) = [x]
    rw [List.append_nil, spl_end hn.fst]
  | cons s r ih =>
    intro x hc hn
    have e : lstF (i + 1) (s :: r) = tkS 12 :: ((tkS 20 :: selT s) ++ lstF (i + 1 + 1) r) := rfl
    rw [e, spl_comma _ (by rfl) _ _ x (Nat.le_refl _) hc, spl_end hn.fst]
    rw [ih (i + 1) (tkS 20 :: selT s) (clS_and (a := [tkS 20]) (clS_one (by decide)) (clS_sel s)) ((NoC.one (t := tkS 20) (by decide)).app (noC_sel s))]
    rfl
theorem mapM_all7 {α β : Type} (f : α → Option β) (g : β → α) : ∀ (l : List β), (∀ x ∈ l, f (g x) = some x) → (l.map g).mapM f = some l
  | [], _ => by simp
  | x :: l, h => by
    rw [List.map_cons, List.mapM_cons, h x (by simp), mapM_all7 f g l fun y hy => h y (by simp [hy])]
    rfl
/-- P7.4: what is printed is read as it was -/
theorem list_read {l : List (List Prt)} (h : allR l = true) : parseS (listT l) = some l := by
  unfold allR at h
  rw [Bool.and_eq_true, decide_eq_true_eq, List.all_eq_true] at h
  obtain ⟨h1, h2⟩ := h
  cases l with
  | nil => simp at h1
  | cons s r =>
    have e : listT (s :: r) = selT s ++ lstF (0 + 1) r := rfl
    unfold parseS
    rw [e, spl_list 0 r _ (clS_sel s) (noC_sel s), List.mapM_cons, trm_sel (h2 s (by simp)), sel_read s (h2 s (by simp))]
    have k := mapM_all7 (fun x => readS (trm x)) (fun s => tkS 20 :: selT s) r fun x hx => by
      show readS (trm (tkS 20 :: selT x)) = some x
      rw [trm_sel2 (h2 x (by simp [hx])), sel_read x (h2 x (by simp [hx]))]
    rw [k]; rfl

/-! ### the law's own closed lists -/
def shutL : List Tok → Bool
  | [] => false
  | t :: r => if t.kind = 15 then false else if t.kind = 16 then true else shutL r
def closedL : List Tok → Bool
  | [] => true
  | t :: r => if t.kind = 13 ∨ t.kind = 2 ∨ t.kind = 17 ∨ (t.kind = 15 ∧ shutL r = false) then false else closedL r
theorem closedL_cons {t : Tok} {r : List Tok} (h : closedL (t :: r) = true) : t.kind ≠ 13 ∧ t.kind ≠ 2 ∧ t.kind ≠ 17 ∧ (t.kind = 15 → shutL r = true) ∧ closedL r = true := by
  have h : (if t.kind = 13 ∨ t.kind = 2 ∨ t.kind = 17 ∨ (t.kind = 15 ∧ shutL r = false) then false else closedL r) = true := h
  by_cases c : t.kind = 13 ∨ t.kind = 2 ∨ t.kind = 17 ∨ (t.kind = 15 ∧ shutL r = false)
  · rw [if_pos c] at h; cases h
  · rw [if_neg c] at h
    refine ⟨fun e => c (Or.inl e), fun e => c (Or.inr (Or.inl e)), fun e => c (Or.inr (Or.inr (Or.inl e))), fun e => ?_, h⟩
    cases hs : shutL r with
    | true => rfl
    | false => exact absurd (Or.inr (Or.inr (Or.inr ⟨e, hs⟩))) c
theorem closedL_drop : ∀ (k : Nat) (l : List Tok), closedL l = true → closedL (l.drop k) = true
  | 0, _, h => h
  | _ + 1, [], _ => rfl
  | k + 1, t :: r, h => closedL_drop k r (closedL_cons h).2.2.2.2
theorem shut_mt : ∀ (r : List Tok), closedL r = true → shutL r = true → ∃ d, mt r [16] = some d
  | [], _, h => by cases h
  | t :: r, hc, hs => by
    obtain ⟨h1, h2, h3, h4, h5⟩ := closedL_cons hc
    have hs : (if t.kind = 15 then false else if t.kind = 16 then true else shutL r) = true := hs
    by_cases c15 : t.kind = 15
    · rw [if_pos c15] at hs; cases hs
    · rw [if_neg c15] at hs
      have h0 : clo t.kind = 0 := by
        unfold clo
        rw [if_neg (by rintro (e | e); exact h1 e; exact h2 e), if_neg c15, if_neg h3]
      by_cases c16 : t.kind = 16
      · refine ⟨0, ?_⟩
        rw [← c16]
        exact mt_last h0 r
      · rw [if_neg c16] at hs
        obtain ⟨d, hd⟩ := shut_mt r h5 hs
        exact ⟨d + 1, by rw [mt_other h0 r c16, hd]; rfl⟩
theorem closed_cl : ∀ (n : Nat) (l : List Tok), l.length ≤ n → closedL l = true → clS l = true
  | _, [], _, _ => rfl
  | 0, t :: r, h, _ => by simp at h
  | n + 1, t :: r, h, hc => by
    obtain ⟨h1, h2, h3, h4, h5⟩ := closedL_cons hc
    have hp := pas_bd t r
    simp only [List.length_cons] at h
    rw [clS_cons, if_neg]
    · exact closed_cl n _ (by rw [List.length_drop]; simp only [List.length_cons]; omega) (closedL_drop _ _ hc)
    · rintro ⟨c1, c2⟩
      by_cases c15 : t.kind = 15
      · obtain ⟨d, hd⟩ := shut_mt r h5 (h4 c15)
        have : clo t.kind = 16 := by rw [c15]; decide
        rw [this, hd] at c2; cases c2
      · apply c1
        unfold clo
        rw [if_neg (by rintro (e | e); exact h1 e; exact h2 e), if_neg c15, if_neg h3]
end Go.Proofs.Ytfbfndknhabmhaa.SelP

namespace Go.Proofs.Ytfbfndknhabmhaa
open Go.RowKit TreN LexP FixP SynP ValP SelP FixM
set_option linter.unusedVariables false

theorem shutL_drop {l : List Tok} {k : Nat} (h : k < l.length) : shutL (l.drop k) = if l[k].kind = 15 then false else if l[k].kind = 16 then true else shutL (l.drop (k + 1)) := by
  rw [List.drop_eq_getElem_cons h]; rfl
theorem closedL_drop2 {l : List Tok} {k : Nat} (h : k < l.length) : closedL (l.drop k) = if l[k].kind = 13 ∨ l[k].kind = 2 ∨ l[k].kind = 17 ∨ (l[k].kind = 15 ∧ shutL (l.drop (k + 1)) = false) then false else closedL (l.drop (k + 1)) := by
  rw [List.drop_eq_getElem_cons h]; rfl
set_option maxRecDepth 100000 in
set_option maxHeartbeats 1000000 in
theorem shut_any (a : Option Addr) (l : List Tok) (n cap : Nat) (w : World) (hn : l.length = n) (hm : n ≤ 90000) (hT : Tks w a l) :
    Calls Try.prog 34 #[.slice a n cap] w fun e w' => e = .returned (.bool (shutL (l.drop 1))) ∧ w = w' := by
  obtain ⟨R, hR⟩ : ∃ R, shutL (l.drop 1) = R := ⟨_, rfl⟩
  rw [hR]
  have HR := Lib.hid hR
  have HN := Lib.hid hn
  have HT := Lib.hid hT
  clear hR hn hT
  go_enter Try.func34, Try.ntmps34
  go_wp2_with fail
  go_loop [3] (fun i => ∃ k : Nat, 1 ≤ k ∧ k ≤ n + 1 ∧ i = .int .i64 (k : Int) ∧ Hid (shutL (l.drop k) = R)) (fun i => n + 1 - (intOf i).toNat)
  case atStart => exact ⟨1, by omega, by omega, rfl, HR⟩
  case round =>
    obtain ⟨k, h1, hk, rfl, HJ⟩ := hrel
    by_cases hlt : k < n
    · have hltz : (k : Int) < (n : Int) := by omega
      have hkl : k < l.length := by have := HN.out; omega
      obtain ⟨b, o, rfl, _, d0, _, _⟩ := HT.out.get hkl
      have hj := HJ.out
      rw [shutL_drop hkl] at hj
      generalize l[k].kind = c at *
      by_cases c15 : c = 15
      · rw [if_pos c15] at hj
        subst c15
        have HF : Hid (R = false) := Lib.hid hj.symm
        clear hj HJ
        go_wp2_with fail
        go_ret
        exact ⟨ret_bool HF.out.symm, rfl⟩
      · rw [if_neg c15] at hj
        have z15 : (c == 15) = false := by rw [beq_eq_false_iff_ne]; exact c15
        by_cases c16 : c = 16
        · rw [if_pos c16] at hj
          subst c16
          have HF : Hid (R = true) := Lib.hid hj.symm
          clear hj HJ c15
          go_wp2_with fail
          go_ret
          exact ⟨ret_bool HF.out.symm, rfl⟩
        · rw [if_neg c16] at hj
          have z16 : (c == 16) = false := by rw [beq_eq_false_iff_ne]; exact c16
          have HJ2 := Lib.hid hj
          clear hj HJ c15 c16
          go_wp2_with fail
          go_round
          case rel => exact ⟨k + 1, by omega, by omega, by go_num, HJ2⟩
          case measure => simp [intOf]; omega
    · have hltz : ¬ (k : Int) < (n : Int) := by omega
      have HF : Hid (R = false) := Lib.hid (by
        have := HJ.out
        rw [List.drop_of_length_le (by have := HN.out; omega)] at this
        exact this.symm)
      clear HJ
      go_wp2_with fail
      go_ret
      exact ⟨ret_bool HF.out.symm, rfl⟩
set_option maxRecDepth 100000 in
set_option maxHeartbeats 2000000 in
theorem closed_any (a : Option Addr) (l : List Tok) (n cap : Nat) (w : World) (hn : l.length = n) (hm : n ≤ 90000) (hc : n ≤ cap) (hcm : cap ≤ maxLen) (hT : Tks w a l) :
    Calls Try.prog 17 #[.slice a n cap] w fun e w' => e = .returned (.bool (closedL l)) ∧ w = w' := by
  obtain ⟨R, hR⟩ : ∃ R, closedL l = R := ⟨_, rfl⟩
  rw [hR]
  have HR := Lib.hid hR
  have HN := Lib.hid hn
  have HT := Lib.hid hT
  have HC := Lib.hid (And.intro hc hcm)
  clear hR hn hT hc hcm
  go_enter Try.func17, Try.ntmps17
  go_wp2_with fail
  go_loop [3] (fun i => ∃ k : Nat, k ≤ n ∧ i = .int .i64 (k : Int) ∧ Hid (closedL (l.drop k) = R)) (fun i => n - (intOf i).toNat)
  case atStart => exact ⟨0, by omega, rfl, HR⟩
  case round =>
    obtain ⟨k, hk, rfl, HJ⟩ := hrel
    by_cases hlt : k < n
    · have hltz : (k : Int) < (n : Int) := by omega
      have hkl : k < l.length := by have := HN.out; omega
      obtain ⟨b, o, rfl, _, d0, _, _⟩ := HT.out.get hkl
      have hj := HJ.out
      rw [closedL_drop2 hkl] at hj
      obtain ⟨a2, s1, s2, _, _, s5⟩ := sl_from (some ⟨b, o, none⟩) l cap n k HN.out (k : Int) rfl (by omega) HC.out.1 HC.out.2
      have hsh := s1
      have CS := Lib.hid (shut_any a2 (l.drop k) (n - k) (cap - k) w s2 (by omega) (s5 w HT.out))
      rw [List.drop_drop] at CS
      have ecs : 1 + k = k + 1 := by omega
      rw [show k + 1 = 1 + k by omega] at hj
      rw [show k + 1 = 1 + k by omega] at CS
      obtain ⟨sh, hsx⟩ : ∃ sh, shutL (l.drop (1 + k)) = sh := ⟨_, rfl⟩
      rw [hsx] at hj CS
      rw [show 1 + k = k + 1 by omega] at hj
      clear s1 s2 s5 hsx ecs
      generalize l[k].kind = c at *
      by_cases c0 : c = 13 ∨ c = 2 ∨ c = 17
      · rw [if_pos (by rcases c0 with h | h | h; exact Or.inl h; exact Or.inr (Or.inl h); exact Or.inr (Or.inr (Or.inl h)))] at hj
        have HF : Hid (R = false) := Lib.hid hj.symm
        clear hj HJ CS hsh
        rcases c0 with rfl | rfl | rfl
        all_goals
          go_wp2_with fail
          go_ret
          exact ⟨ret_bool HF.out.symm, rfl⟩
      · have z13 : (c == 13) = false := by rw [beq_eq_false_iff_ne]; exact fun h => c0 (Or.inl h)
        have z2 : (c == 2) = false := by rw [beq_eq_false_iff_ne]; exact fun h => c0 (Or.inr (Or.inl h))
        have z17 : (c == 17) = false := by rw [beq_eq_false_iff_ne]; exact fun h => c0 (Or.inr (Or.inr h))
        by_cases c15 : c = 15
        · subst c15
          cases sh
          · rw [if_pos (Or.inr (Or.inr (Or.inr ⟨rfl, rfl⟩)))] at hj
            have HF : Hid (R = false) := Lib.hid hj.symm
            clear hj HJ c0
            go_wp2_with fail
            refine CS.out.mono ?_
            rintro e w1 ⟨rfl, rfl⟩
            go_wp2_with fail
            go_ret
            exact ⟨ret_bool HF.out.symm, rfl⟩
          · rw [if_neg (by rintro (h | h | h | h); cases h; cases h; cases h; exact absurd h.2 (by simp))] at hj
            have HJ2 := Lib.hid hj
            clear hj HJ c0
            go_wp2_with fail
            refine CS.out.mono ?_
            rintro e w1 ⟨rfl, rfl⟩
            go_wp2_with fail
            go_round
            case rel => exact ⟨k + 1, by omega, by go_num, HJ2⟩
            case measure => simp [intOf]; omega
        · rw [if_neg (by rintro (h | h | h | h); exact c0 (Or.inl h); exact c0 (Or.inr (Or.inl h)); exact c0 (Or.inr (Or.inr h)); exact c15 h.1)] at hj
          have z15 : (c == 15) = false := by rw [beq_eq_false_iff_ne]; exact c15
          have HJ2 := Lib.hid hj
          clear hj HJ c0 c15 hsh CS
          go_wp2_with fail
          go_round
          case rel => exact ⟨k + 1, by omega, by go_num, HJ2⟩
          case measure => simp [intOf]; omega
    · have hltz : ¬ (k : Int) < (n : Int) := by omega
      have HF : Hid (R = true) := Lib.hid (by
        have := HJ.out
        rw [List.drop_of_length_le (by have := HN.out; omega)] at this
        exact this.symm)
      clear HJ
      go_wp2_with fail
      go_ret
      exact ⟨ret_bool HF.out.symm, rfl⟩
end Go.Proofs.Ytfbfndknhabmhaa
