/- Layer 7, pure: how long a list is when it is written, and the shapes of its tokens. -/
import Derived.Test.YtfbfndknhabmhaaSelPc
import Derived.Test.YtfbfndknhabmhaaLexQ
namespace Go.Proofs.Ytfbfndknhabmhaa.SelP
open FixM FixP TreN LexP SynP ValP
set_option linter.unusedVariables false

/-! ### names and texts in tokens -/
theorem bt_list (x : List UInt8) (i : Nat) (h : i < x.length) : bt ⟨x.toArray⟩ i = (x[i].toNat : Int) := by
  have hs : i < (⟨x.toArray⟩ : ByteArray).size := by show i < x.toArray.size; simpa using h
  rw [bt_eq _ _ hs]
  rfl
theorem size_list (x : List UInt8) : (⟨x.toArray⟩ : ByteArray).size = x.length := by show x.toArray.size = _; simp
theorem nm_name {x : List UInt8} (h : nameL x = true) : nm x ∧ x ≠ [] := by
  unfold nameL nameB at h
  rw [Bool.and_eq_true, Bool.and_eq_true] at h
  obtain ⟨_, hb, hg⟩ := h
  rw [allB_iff] at hg
  have hg2 : ∀ c ∈ x, gB c = true := fun c hc => by
    obtain ⟨i, hi, rfl⟩ := List.getElem_of_mem hc
    have := hg i (by rw [size_list]; exact hi)
    rw [bt_list x i hi] at this
    exact this
  cases x with
  | nil => exact absurd hb (by decide)
  | cons c r =>
    refine ⟨⟨?_, hg2⟩, by simp⟩
    unfold begB at hb
    rw [size_list] at hb
    have h0 := bt_list (c :: r) 0 (by simp)
    rw [h0] at hb
    cases r with
    | nil =>
      rw [if_neg (by simp)] at hb
      simp at hb
      show (decide (c.toNat ≠ 45) && lB c) = true
      have hl : lB c = true := hb
      rw [hl, decide_eq_true (let_facts hl).2.2.2.2.2.1]; rfl
    | cons d r =>
      have h1 := bt_list (c :: d :: r) 1 (by simp)
      rw [h1] at hb
      show (if c.toNat = 45 then lB d || decide (d.toNat = 45) else lB c) = true
      by_cases h45 : c.toNat = 45
      · rw [if_pos h45]
        rw [if_pos ⟨by simp, by show (c.toNat : Int) = 45; omega⟩] at hb
        have hb : (decide ((d.toNat : Int) = 45) || lB d) = true := hb
        rw [Bool.or_comm] at hb
        have e : decide (d.toNat = 45) = decide ((d.toNat : Int) = 45) := decide_eq_decide.2 (by omega)
        rw [e]; exact hb
      · rw [if_neg h45]
        rw [if_neg (by rintro ⟨_, e⟩; have e : (c.toNat : Int) = 45 := e; omega)] at hb
        rw [Bool.and_eq_true] at hb
        exact hb.2
theorem str_text {x : List UInt8} (h : textL x = true) : (∀ c ∈ x, c ≠ 10) ∧ (34 ∈ x → 39 ∉ x) := by
  unfold textL textB at h
  rw [Bool.and_eq_true] at h
  have hg := allB_iff.1 h.2
  have hg2 : ∀ c ∈ x, txB (c.toNat : Int) = true := fun c hc => by
    obtain ⟨i, hi, rfl⟩ := List.getElem_of_mem hc
    have := hg i (by rw [size_list]; exact hi)
    rwa [bt_list x i hi] at this
  constructor
  · rintro c hc rfl
    exact absurd (hg2 _ hc) (by decide)
  · intro h34
    exact absurd (hg2 _ h34) (by decide)

/-! ### the tokens that are written have a shape -/
def Shp (l : List Tok) : Prop := ∀ t ∈ l, Shape t
theorem Shp.app {a b : List Tok} (h : Shp a) (k : Shp b) : Shp (a ++ b) := fun t ht => by
  rcases List.mem_append.1 ht with x | x
  · exact h t x
  · exact k t x
theorem Shp.nil : Shp [] := fun t h => by cases h
theorem Shp.one {t : Tok} (h : Shape t) : Shp [t] := fun x hx => by
  have : x = t := by simpa using hx
  rw [this]; exact h
theorem Shp.flat {α : Type} (f : α → List Tok) {l : List α} (h : ∀ x ∈ l, Shp (f x)) : Shp (l.flatMap f) := fun t ht => by
  obtain ⟨x, hx, hy⟩ := List.mem_flatMap.1 ht
  exact h x hx t hy
theorem shp_id {x : List UInt8} (h : nameL x = true) : Shape (tkI x) := Shape.ident x (nm_name h).1
theorem shp_word (k : Int) : Shape (tkI (wordS k)) := by
  refine Shape.ident _ ?_
  unfold wordS
  split
  · exact ⟨by decide, by decide⟩
  · split
    · exact ⟨by decide, by decide⟩
    · exact ⟨by decide, by decide⟩
theorem shp_d {c : UInt8} (h : oneC c [] = (some ⟨19, [c], 0⟩, 1)) : Shape (tkD [c]) := Shape.one c h
theorem shp_mark (k : Int) : Shape (tkD (markS k)) := by
  unfold markS
  split
  · exact shp_d (by decide)
  · split
    · exact shp_d (by decide)
    · exact shp_d (by decide)
theorem shp_s (c : UInt8) (h : signK c ≠ 0) : Shape (tkS (signK c)) := Shape.sign c h
theorem shp_test {t : Tst} (h : rightT t = true) (h2 : textL t.value = true) : Shp (testT t) := by
  unfold rightT at h
  rw [Bool.and_eq_true] at h
  unfold testT
  refine Shp.app ((Shp.one (t := tkS 15) (shp_s 91 (by decide))).app (Shp.one (shp_id h.1))) (Shp.app ?_ (Shp.one (shp_s 93 (by decide))))
  split
  · exact (Shp.one (t := tkD [61]) (shp_d (by decide))).app (Shp.one (Shape.str _ (str_text h2).1 (str_text h2).2))
  · exact Shp.nil
theorem shp_state (n k : Int) : Shp (stateT n k) := by
  unfold stateT
  split
  · exact (Shp.one (t := tkS 10) (shp_s 58 (by decide))).app (Shp.one (shp_word k))
  · exact Shp.nil
theorem value_text {t : Tst} (h : rightT t = true) : textL t.value = true := by
  unfold rightT at h
  rw [Bool.and_eq_true] at h
  by_cases he : t.equal = true
  · have := h.2; rwa [if_pos he] at this
  · have := h.2
    rw [if_neg he] at this
    rw [of_decide_eq_true this]; decide
theorem shp_part {p : Prt} (h : rightPt p = true) : Shp (partT p) := by
  obtain ⟨_, _, h1, h2, _, _, h3, h4⟩ := right_parts h
  have hn : ∀ x, orNone x = true → x ≠ [] → nameL x = true := fun x hx h0 => by
    unfold orNone at hx
    rw [decide_eq_false h0, Bool.false_or] at hx
    exact hx
  unfold partT
  split
  · exact Shp.one (shp_d (by decide))
  · unfold bodyT
    refine Shp.app ?_ (Shp.app ?_ (Shp.app ?_ (Shp.app ?_ ((shp_state _ _).app ((shp_state _ _).app (shp_state _ _))))))
    · by_cases c : p.tag = []
      · rw [if_pos c]; exact Shp.nil
      · rw [if_neg c]; exact Shp.one (shp_id (hn _ h1 c))
    · by_cases c : p.id = []
      · rw [if_pos c]; exact Shp.nil
      · rw [if_neg c]; exact Shp.one (Shape.hash _ c (nm_name (hn _ h2 c)).1.2)
    · exact Shp.flat _ fun c hc => (Shp.one (t := tkD [46]) (shp_d (by decide))).app (Shp.one (shp_id (List.all_eq_true.1 h3 c hc)))
    · exact Shp.flat _ fun t ht => shp_test (List.all_eq_true.1 h4 t ht) (value_text (List.all_eq_true.1 h4 t ht))
theorem shp_comb (c : Int) : Shp (combT c) := by
  unfold combT
  split
  · exact Shp.nil
  · split
    · exact Shp.one Shape.space
    · exact (Shp.one (t := tkS 20) Shape.space).app ((Shp.one (shp_mark c)).app (Shp.one Shape.space))
theorem rightF_mem : ∀ (k : Nat) (l : List Prt), rightF k l = true → ∀ p ∈ l, rightPt p = true
  | _, [], _, p, hp => by cases hp
  | k, q :: r, h, p, hp => by
    have h : (combB k q && (rightPt q && rightF (k + 1) r)) = true := h
    rw [Bool.and_eq_true, Bool.and_eq_true] at h
    rcases List.mem_cons.1 hp with rfl | hp
    · exact h.2.1
    · exact rightF_mem (k + 1) r h.2.2 p hp
theorem right_mem {s : List Prt} (h : rightS s = true) : ∀ p ∈ s, rightPt p = true := by
  unfold rightS at h
  rw [Bool.and_eq_true, Bool.and_eq_true] at h
  exact rightF_mem 0 s h.2.2
theorem shp_sel {s : List Prt} (h : rightS s = true) : Shp (selT s) := Shp.flat _ fun p hp => (shp_comb _).app (shp_part (right_mem h p hp))
theorem shp_list : ∀ (l : List (List Prt)) (i : Nat), l.all rightS = true → Shp (lstF i l)
  | [], _, _ => Shp.nil
  | s :: r, i, h => by
    rw [List.all_cons, Bool.and_eq_true] at h
    have e : lstF i (s :: r) = ((if i = 0 then [] else [tkS 12, tkS 20]) ++ selT s) ++ lstF (i + 1) r := rfl
    rw [e]
    refine Shp.app (Shp.app ?_ (shp_sel h.1)) (shp_list r (i + 1) h.2)
    split
    · exact Shp.nil
    · exact (Shp.one (t := tkS 12) (shp_s 44 (by decide))).app (Shp.one Shape.space)

/-! ### what is read costs, and what is written -/
def kB : List Tok → Nat
  | [] => 0
  | t :: l => max 1 t.text.length + kB l
def cB : List Tok → Nat
  | [] => 0
  | t :: l => (t.text.length + 6) + cB l
theorem kB_app : ∀ a b, kB (a ++ b) = kB a + kB b
  | [], b => by simp [kB]
  | t :: a, b => by rw [List.cons_append]; show _ + kB (a ++ b) = _ + kB a + kB b; rw [kB_app a b]; omega
theorem cB_app : ∀ a b, cB (a ++ b) = cB a + cB b
  | [], b => by simp [cB]
  | t :: a, b => by rw [List.cons_append]; show _ + cB (a ++ b) = _ + cB a + cB b; rw [cB_app a b]; omega
theorem kB_cons (t : Tok) (l : List Tok) : kB (t :: l) = max 1 t.text.length + kB l := rfl
theorem cB_cons (t : Tok) (l : List Tok) : cB (t :: l) = (t.text.length + 6) + cB l := rfl
theorem one_K (c : UInt8) (r : List UInt8) (t : Tok) (h : (oneC c r).1 = some t) : max 1 t.text.length ≤ (oneC c r).2 := by
  have hb := (one_bd c r).1
  have hb : 1 ≤ (oneC c r).2 := hb
  have g : t.text.length ≤ (oneC c r).2 := by
    revert h hb
    unfold oneC
    split
    · intro h; cases h
    · split
      · intro h _; injection h with h; subst h; exact Nat.zero_le _
      · split
        · intro h _
          have h : some (quoL c r).1 = some t := h
          injection h with h
          subst h
          show (quoL c r).1.text.length ≤ (quoL c r).2
          unfold quoL
          split
          · simp
          · split <;> simp <;> omega
        · split
          · intro h _
            rename_i hn
            have h : some (meaL (worth ((c :: r).take (numL (c :: r)))) (numL (c :: r)) ((c :: r).drop (numL (c :: r)))).1 = some t := h
            injection h with h
            subst h
            show (meaL _ _ _).1.text.length ≤ (meaL _ _ _).2
            unfold meaL
            split
            · simp
            · split <;> simp
          · split
            · intro h _; injection h with h; subst h; show (r.takeWhile gB).length ≤ 1 + (r.takeWhile gB).length; omega
            · split
              · intro h _; injection h with h; subst h; show (r.takeWhile gB).length ≤ 1 + (r.takeWhile gB).length; omega
              · split
                · split
                  · intro h _; injection h with h; subst h; exact Nat.le_succ _
                  · intro h _; injection h with h; subst h; exact Nat.le_refl _
                · split
                  · intro h _; injection h with h; subst h; exact Nat.le_refl _
                  · intro h _; injection h with h; subst h; exact Nat.zero_le _
  omega
theorem cut_K : ∀ (n : Nat) (l : List UInt8), l.length ≤ n → kB (cut l) ≤ l.length
  | n, [], _ => by rw [cut_nil]; exact Nat.le_refl _
  | 0, c :: r, h => by simp at h
  | n + 1, c :: r, h => by
    have hb := one_bd c r
    have ih := cut_K n ((c :: r).drop (one (c :: r)).2) (by rw [List.length_drop]; omega)
    rw [List.length_drop] at ih
    rw [cut_cons]
    cases ho : (one (c :: r)).1 with
    | none =>
      simp only [Option.toList, List.nil_append]
      omega
    | some t0 =>
      have := one_K c r t0 ho
      have e : (oneC c r).2 = (one (c :: r)).2 := rfl
      simp only [Option.toList, List.singleton_append]
      rw [kB_cons]
      omega
theorem takeP_K {k : Int} {l : List Tok} {t : Tok} {r : List Tok} (h : takeP k l = some (t, r)) : kB l = max 1 t.text.length + kB r := by rw [(takeP_len h).1]; rfl
theorem passP_K {k : Int} {x : List UInt8} {l r : List Tok} (h : passP k x l = some r) : kB l = max 1 x.length + kB r := by
  obtain ⟨t, e, _, e2⟩ := passP_len h
  rw [e, kB_cons, e2]
theorem bs_K : ∀ l : List Tok, kB (bs l) ≤ kB l
  | [] => Nat.le_refl _
  | t :: r => by
    by_cases h : t.kind = 20
    · rw [bs_space h, kB_cons]; have := bs_K r; omega
    · rw [bs_hit h]; exact Nat.le_refl _
theorem kB_pre {a b : List Tok} (h : a <+: b) : kB a ≤ kB b := by
  obtain ⟨c, rfl⟩ := h
  rw [kB_app]; omega
theorem kB_suf {a b : List Tok} (h : a <:+ b) : kB a ≤ kB b := by
  obtain ⟨c, rfl⟩ := h
  rw [kB_app]; omega
theorem es_pre (l : List Tok) : es l <+: l := by
  unfold es
  have h := List.dropWhile_suffix isSp (l := l.reverse)
  obtain ⟨c, hc⟩ := h
  refine ⟨c.reverse, ?_⟩
  have := congrArg List.reverse hc
  rw [List.reverse_append, List.reverse_reverse] at this
  exact this
theorem trm_K (l : List Tok) : kB (trm l) ≤ kB l := Nat.le_trans (kB_pre (es_pre _)) (bs_K l)

/-! ### parts -/
theorem testP_K {r z : List Tok} {t : Tst} (h : testP r = some (t, z)) : cB (testT t) + 19 * kB z ≤ 19 * kB r + 19 := by
  unfold testP at h
  have b1 := bs_K r
  cases h1 : takeP 1 (bs r) with
  | none => rw [h1] at h; cases h
  | some q1 =>
    obtain ⟨t1, r1⟩ := q1
    have l1 := takeP_K h1
    rw [h1] at h
    have b2 := bs_K r1
    cases h2 : passP 19 [61] (bs r1) with
    | none =>
      have h : (takeP 16 (bs r1)).map (fun z => ((⟨t1.text, false, []⟩ : Tst), z.2)) = some (t, z) := by simpa [h2] using h
      cases h3 : takeP 16 (bs r1) with
      | none => rw [h3] at h; cases h
      | some q3 =>
        obtain ⟨t3, r3⟩ := q3
        rw [h3] at h
        injection h with h
        injection h with ha hb
        have l3 := takeP_K h3
        subst ha
        subst hb
        have e : cB (testT ⟨t1.text, false, []⟩) = (0 + 6) + ((t1.text.length + 6) + ((0 + 6) + 0)) := rfl
        rw [e]
        have e2 : ((t1, r1) : Tok × List Tok).1.text = t1.text := rfl
        show _ + 19 * kB r3 ≤ _
        omega
    | some m =>
      have h : testE t1.text (bs m) = some (t, z) := by simpa [h2] using h
      have l2 := passP_K h2
      have e61 : ([61] : List UInt8).length = 1 := rfl
      rw [e61] at l2
      have b3 := bs_K m
      unfold testE at h
      cases h4 : valT (bs m) with
      | none => rw [h4] at h; cases h
      | some q4 =>
        obtain ⟨t4, r4⟩ := q4
        rw [h4] at h
        have l4 : kB (bs m) = max 1 t4.text.length + kB r4 := by
          unfold valT at h4
          cases h5 : takeP 1 (bs m) with
          | some q5 =>
            rw [h5] at h4
            injection h4 with h4
            subst h4
            exact takeP_K h5
          | none =>
            rw [h5] at h4
            exact takeP_K (show takeP 5 (bs m) = some (t4, r4) from h4)
        have b5 := bs_K r4
        have h : (takeP 16 (bs r4)).map (fun z => ((⟨t1.text, true, t4.text⟩ : Tst), z.2)) = some (t, z) := h
        cases h6 : takeP 16 (bs r4) with
        | none => rw [h6] at h; cases h
        | some q6 =>
          obtain ⟨t6, r6⟩ := q6
          rw [h6] at h
          injection h with h
          injection h with ha hb
          have l6 := takeP_K h6
          subst ha
          subst hb
          have e : cB (testT ⟨t1.text, true, t4.text⟩) = (0 + 6) + ((t1.text.length + 6) + ((1 + 6) + ((t4.text.length + 6) + ((0 + 6) + 0)))) := rfl
          rw [e]
          show _ + 19 * kB r6 ≤ _
          omega
def stC (n : Int) : Nat := cB (stateT n 1) + (cB (stateT n 2) + cB (stateT n 4))
theorem stC_or (n k : Int) (h0 : 0 ≤ n) (h7 : n ≤ 7) (hk : k = 1 ∨ k = 2 ∨ k = 4) : stC (orS n k) ≤ stC n + 23 ∧ 0 ≤ orS n k ∧ orS n k ≤ 7 := by
  rcases hk with rfl | rfl | rfl <;> rcases (by omega : n = 0 ∨ n = 1 ∨ n = 2 ∨ n = 3 ∨ n = 4 ∨ n = 5 ∨ n = 6 ∨ n = 7) with rfl | rfl | rfl | rfl | rfl | rfl | rfl | rfl <;> decide
theorem stateP_K {n m : Int} {r z : List Tok} (h : stateP n r = some (m, z)) (h0 : 0 ≤ n) (h7 : n ≤ 7) : stC m + 19 * kB z ≤ stC n + 19 * kB r ∧ 0 ≤ m ∧ m ≤ 7 := by
  have l1 : rootT.length = 4 := rfl
  have l2 : firstT.length = 11 := rfl
  have l4 : lastT.length = 10 := rfl
  unfold stateP at h
  cases h1 : passP 1 rootT r with
  | some q =>
    rw [h1] at h
    injection h with h; injection h with ha hb; subst ha; subst hb
    have := passP_K h1
    have := stC_or n 1 h0 h7 (Or.inl rfl)
    rw [l1] at *
    refine ⟨by omega, this.2⟩
  | none =>
    rw [h1] at h
    simp only [] at h
    cases h2 : passP 1 firstT r with
    | some q =>
      rw [h2] at h
      injection h with h; injection h with ha hb; subst ha; subst hb
      have := passP_K h2
      have := stC_or n 2 h0 h7 (Or.inr (Or.inl rfl))
      rw [l2] at *
      refine ⟨by omega, this.2⟩
    | none =>
      rw [h2] at h
      simp only [] at h
      cases h3 : passP 1 lastT r with
      | some q =>
        rw [h3] at h
        injection h with h; injection h with ha hb; subst ha; subst hb
        have := passP_K h3
        have := stC_or n 4 h0 h7 (Or.inr (Or.inr rfl))
        rw [l4] at *
        refine ⟨by omega, this.2⟩
      | none => rw [h3] at h; cases h
def optC (x : List UInt8) : Nat := if x = [] then 0 else x.length + 6
theorem optC_le (x : List UInt8) : optC x ≤ x.length + 6 := by unfold optC; split <;> omega
def clC (l : List (List UInt8)) : Nat := cB (l.flatMap fun c => [tkD [46], tkI c])
def tsC (l : List Tst) : Nat := cB (l.flatMap testT)
theorem body_C (p : Prt) : cB (bodyT p) = optC p.tag + (optC p.id + (clC p.classes + (tsC p.tests + stC p.states))) := by
  unfold bodyT optC clC tsC stC
  rw [cB_app, cB_app, cB_app, cB_app, cB_app, cB_app]
  have e1 : cB (if p.tag = [] then [] else [tkI p.tag]) = if p.tag = [] then 0 else p.tag.length + 6 := by split <;> rfl
  have e2 : cB (if p.id = [] then [] else [(⟨4, p.id, 0⟩ : Tok)]) = if p.id = [] then 0 else p.id.length + 6 := by split <;> rfl
  rw [e1, e2]
theorem stepP_K {p q : Prt} {l z : List Tok} (h : stepP p l = some (some (q, z))) (h0 : 0 ≤ p.states) (h7 : p.states ≤ 7) :
    cB (bodyT q) + 19 * kB z ≤ cB (bodyT p) + 19 * kB l ∧ 0 ≤ q.states ∧ q.states ≤ 7 ∧ q.comb = p.comb ∧ kB z + 1 ≤ kB l := by
  have hlen := stepP_len h
  cases l with
  | nil => cases h
  | cons t r =>
    rw [stepP_cons] at h
    rw [body_C, body_C, kB_cons]
    by_cases h4 : t.kind = 4
    · rw [if_pos h4] at h
      injection h with h
      by_cases hp : p.id = []
      · rw [if_pos hp] at h; injection h with h; injection h with ha hb; subst ha; subst hb
        have e : optC p.id = 0 := by unfold optC; rw [if_pos hp]
        have e2 := optC_le t.text
        simp only
        refine ⟨by omega, h0, h7, by trivial, by omega⟩
      · rw [if_neg hp] at h; cases h
    · rw [if_neg h4] at h
      by_cases h15 : t.kind = 15
      · rw [if_pos h15] at h
        injection h with h
        cases ht : testP r with
        | none => rw [ht] at h; cases h
        | some m =>
          obtain ⟨m1, m2⟩ := m
          rw [ht] at h; injection h with h; injection h with ha hb; subst ha; subst hb
          have hk := testP_K ht
          have e : tsC (p.tests ++ [m1]) = tsC p.tests + cB (testT m1) := by unfold tsC; rw [List.flatMap_append, cB_app]; simp
          simp only
          rw [e]
          have hk2 : kB m2 ≤ kB r := by
            have h5 : testP r = some (m1, m2) := ht
            have : cB (testT m1) ≥ 18 := by
              obtain ⟨a, b, c⟩ := m1
              cases b
              · show (0 + 6) + ((a.length + 6) + ((0 + 6) + 0)) ≥ 18; omega
              · show (0 + 6) + ((a.length + 6) + ((1 + 6) + ((c.length + 6) + ((0 + 6) + 0)))) ≥ 18; omega
            omega
          refine ⟨by omega, h0, h7, by trivial, by omega⟩
      · rw [if_neg h15] at h
        by_cases h10 : t.kind = 10
        · rw [if_pos h10] at h
          injection h with h
          cases ht : stateP p.states r with
          | none => rw [ht] at h; cases h
          | some m =>
            obtain ⟨m1, m2⟩ := m
            rw [ht] at h; injection h with h; injection h with ha hb; subst ha; subst hb
            obtain ⟨k1, k2, k3⟩ := stateP_K ht h0 h7
            have hk2 : kB m2 ≤ kB r := by
              unfold stateP at ht
              cases h1 : passP 1 rootT r with
              | some q => rw [h1] at ht; injection ht with ht; injection ht with _ hb; subst hb; have := passP_K h1; omega
              | none =>
                rw [h1] at ht
                simp only [] at ht
                cases h2 : passP 1 firstT r with
                | some q => rw [h2] at ht; injection ht with ht; injection ht with _ hb; subst hb; have := passP_K h2; omega
                | none =>
                  rw [h2] at ht
                  simp only [] at ht
                  cases h3 : passP 1 lastT r with
                  | some q => rw [h3] at ht; injection ht with ht; injection ht with _ hb; subst hb; have := passP_K h3; omega
                  | none => rw [h3] at ht; cases ht
            simp only
            refine ⟨by omega, k2, k3, by trivial, by omega⟩
        · rw [if_neg h10] at h
          by_cases h19 : t.kind = 19 ∧ t.text = [46]
          · rw [if_pos h19] at h
            injection h with h
            cases ht : takeP 1 r with
            | none => rw [ht] at h; cases h
            | some m =>
              obtain ⟨u, m⟩ := m
              rw [ht] at h; injection h with h; injection h with ha hb; subst ha; subst hb
              have hk := takeP_K ht
              have e : clC (p.classes ++ [u.text]) = clC p.classes + ((1 + 6) + ((u.text.length + 6) + 0)) := by unfold clC; rw [List.flatMap_append, cB_app]; rfl
              simp only
              rw [e]
              refine ⟨by omega, h0, h7, by trivial, by omega⟩
          · rw [if_neg h19] at h; cases h
theorem partF_K : ∀ (n : Nat) (b : Bool) (p : Prt) (l : List Tok) (q : Prt) (z : List Tok), partF n b p l = some (q, z) → 0 ≤ p.states → p.states ≤ 7 →
    cB (bodyT q) + 19 * kB z ≤ cB (bodyT p) + 19 * kB l ∧ q.comb = p.comb ∧ kB z ≤ kB l ∧ (b = true ∨ kB z + 1 ≤ kB l)
  | 0, _, _, _, _, _, h, _, _ => by cases h
  | n + 1, b, p, l, q, z, h, h0, h7 => by
    have h : (match stepP p l with | none => if b = true then some (p, l) else none | some none => none | some (some q) => partF n true q.1 q.2) = some (q, z) := h
    cases hs : stepP p l with
    | none =>
      rw [hs] at h
      simp only [] at h
      by_cases hb : b = true
      · rw [if_pos hb] at h
        injection h with h; injection h with ha hb2; subst ha; subst hb2
        exact ⟨Nat.le_refl _, rfl, Nat.le_refl _, Or.inl hb⟩
      · rw [if_neg hb] at h; cases h
    | some o =>
      rw [hs] at h
      cases o with
      | none => cases h
      | some m =>
        obtain ⟨m1, m2⟩ := m
        obtain ⟨k1, k2, k3, k4, k5⟩ := stepP_K hs h0 h7
        have h : partF n true m1 m2 = some (q, z) := h
        obtain ⟨j1, j2, j3, _⟩ := partF_K n true m1 m2 q z h k2 k3
        exact ⟨by omega, j2.trans k4, by omega, Or.inr (by omega)⟩
theorem partP_K {c : Int} {l z : List Tok} {q : Prt} (h : partP c l = some (q, z)) : cB (partT q) + 19 * kB z ≤ 19 * kB l ∧ q.comb = c := by
  have key : ∀ (g : List UInt8) (b : Bool) (m : List Tok), partF (m.length + 1) b (bare c g) m = some (q, z) → (b = true → kB m + max 1 g.length ≤ kB l) → (b = false → g = [] ∧ m = l) → cB (partT q) + 19 * kB z ≤ 19 * kB l ∧ q.comb = c := by
    intro g b m hp ht hf
    obtain ⟨k1, k2, k3, k4⟩ := partF_K _ b (bare c g) m q z hp (by show (0 : Int) ≤ 0; decide) (by show (0 : Int) ≤ 7; decide)
    have e : cB (bodyT (bare c g)) = optC g := by
      rw [body_C]
      show optC g + (optC [] + (clC [] + (tsC [] + stC 0))) = optC g
      have : optC [] + (clC [] + (tsC [] + stC 0)) = 0 := rfl
      rw [this]; rfl
    rw [e] at k1
    have e2 := optC_le g
    refine ⟨?_, k2⟩
    have hmax : cB (bodyT q) + 19 * kB z ≤ 19 * kB l ∧ 7 + 19 * kB z ≤ 19 * kB l := by
      cases b with
      | true => have := ht rfl; constructor <;> omega
      | false =>
        obtain ⟨rfl, rfl⟩ := hf rfl
        have e3 : optC [] = 0 := rfl
        rw [e3] at k1
        rcases k4 with k4 | k4
        · cases k4
        · constructor <;> omega
    unfold partT
    split
    · have : cB [tkD [42]] = 7 := rfl
      omega
    · exact hmax.1
  rw [show partP c l = partF ((tagP l).2.2.length + 1) (tagP l).2.1 (bare c (tagP l).1) (tagP l).2.2 from rfl] at h
  unfold tagP at h
  cases h1 : passP 19 [42] l with
  | some r =>
    rw [h1] at h
    have hk := passP_K h1
    exact key [] true r h (fun _ => by have e : ([42] : List UInt8).length = 1 := rfl; rw [e] at hk; simp; omega) (fun h => by cases h)
  | none =>
    rw [h1] at h
    cases h2 : takeP 1 l with
    | some m =>
      obtain ⟨t, r⟩ := m
      rw [h2] at h
      have hk := takeP_K h2
      exact key t.text true r h (fun _ => by omega) (fun h => by cases h)
    | none =>
      rw [h2] at h
      exact key [] false l h (fun h => by cases h) (fun _ => ⟨rfl, rfl⟩)
theorem bs_K1 : ∀ l : List Tok, (bs l).length < l.length → kB (bs l) + 1 ≤ kB l
  | [], h => by simp at h
  | t :: r, h => by
    by_cases hk : t.kind = 20
    · rw [bs_space hk, kB_cons]; have := bs_K r; omega
    · rw [bs_hit hk] at h; omega
theorem combP_K (l : List Tok) : cB (combT (combP l).1) + 19 * kB (combP l).2 ≤ 19 * kB l := by
  have b0 := bs_K l
  unfold combP
  cases h1 : passP 19 [62] (bs l) with
  | some q =>
    have hk := passP_K h1
    have hb := bs_K q
    have e : cB (combT 2) = 19 := rfl
    have e1 : ([62] : List UInt8).length = 1 := rfl
    rw [e1] at hk
    simp only
    rw [e]; omega
  | none =>
    simp only
    cases h2 : passP 19 [43] (bs l) with
    | some q =>
      have hk := passP_K h2
      have hb := bs_K q
      have e : cB (combT 3) = 19 := rfl
      have e1 : ([43] : List UInt8).length = 1 := rfl
      rw [e1] at hk
      simp only
      rw [e]; omega
    | none =>
      simp only
      cases h3 : passP 19 [126] (bs l) with
      | some q =>
        have hk := passP_K h3
        have hb := bs_K q
        have e : cB (combT 4) = 19 := rfl
        have e1 : ([126] : List UInt8).length = 1 := rfl
        rw [e1] at hk
        simp only
        rw [e]; omega
      | none =>
        simp only
        by_cases hl : (bs l).length < l.length
        · rw [if_pos hl]
          have := bs_K1 l hl
          have e : cB (combT 1) = 6 := rfl
          rw [e]; omega
        · rw [if_neg hl]
          have e : cB (combT 0) = 0 := rfl
          rw [e]; omega
theorem selT_snoc (a : List Prt) (p : Prt) : cB (selT (a ++ [p])) = cB (selT a) + (cB (combT p.comb) + cB (partT p)) := by
  unfold selT
  rw [List.flatMap_append, cB_app]
  simp [cB_app]
theorem readF_K : ∀ (n : Nat) (c : Int) (acc : List Prt) (l : List Tok) (s : List Prt), readF n c acc l = some s → cB (selT s) ≤ cB (selT acc) + cB (combT c) + 19 * kB l ∧ rightS s = true
  | 0, _, _, _, _, h => by cases h
  | n + 1, c, acc, l, s, h => by
    have h : (match partP c l with | none => none | some q => if q.2 = [] then (if rightS (acc ++ [q.1]) = true then some (acc ++ [q.1]) else none) else readF n (combP q.2).1 (acc ++ [q.1]) (combP q.2).2) = some s := h
    cases hp : partP c l with
    | none => rw [hp] at h; cases h
    | some m =>
      obtain ⟨p, z⟩ := m
      obtain ⟨k1, k2⟩ := partP_K hp
      rw [hp] at h
      simp only at h
      by_cases hz : z = []
      · rw [if_pos hz] at h
        by_cases hr : rightS (acc ++ [p]) = true
        · rw [if_pos hr] at h
          injection h with h
          subst h
          rw [selT_snoc, k2]
          exact ⟨by omega, hr⟩
        · rw [if_neg hr] at h; cases h
      · rw [if_neg hz] at h
        obtain ⟨j1, j2⟩ := readF_K n _ _ _ s h
        have hc := combP_K z
        rw [selT_snoc, k2] at j1
        exact ⟨by omega, j2⟩
theorem readS_K {l : List Tok} {s : List Prt} (h : readS l = some s) : cB (selT s) ≤ 19 * kB l ∧ rightS s = true := by
  obtain ⟨h1, h2⟩ := readF_K 8 0 [] l s h
  have e : cB (selT []) + cB (combT 0) = 0 := rfl
  rw [e] at h1
  exact ⟨by omega, h2⟩
def sumK : List (List Tok) → Nat
  | [] => 0
  | x :: l => kB x + sumK l
theorem spF_K (p : Tok → Bool) : ∀ (f : Nat) (l : List Tok), sumK (spF p f l) + (spF p f l).length ≤ kB l + 1
  | 0, l => by show kB l + 0 + 1 ≤ kB l + 1; omega
  | f + 1, l => by
    show sumK (if fst p l = l.length then [l] else l.take (fst p l) :: spF p f (l.drop (fst p l + 1))) + (if fst p l = l.length then [l] else l.take (fst p l) :: spF p f (l.drop (fst p l + 1))).length ≤ kB l + 1
    by_cases e : fst p l = l.length
    · rw [if_pos e]; show kB l + 0 + 1 ≤ kB l + 1; omega
    · rw [if_neg e]
      have hb := fst_bd p l
      have hl : fst p l < l.length := by omega
      have ih := spF_K p f (l.drop (fst p l + 1))
      have e2 : kB l = kB (l.take (fst p l)) + (max 1 l[fst p l].text.length + kB (l.drop (fst p l + 1))) := by
        have h1 : l = l.take (fst p l) ++ (l[fst p l] :: l.drop (fst p l + 1)) := by rw [← List.drop_eq_getElem_cons hl, List.take_append_drop]
        have h2 := congrArg kB h1
        rw [kB_app, kB_cons] at h2
        exact h2
      show kB (l.take (fst p l)) + sumK (spF p f (l.drop (fst p l + 1))) + ((spF p f (l.drop (fst p l + 1))).length + 1) ≤ kB l + 1
      omega
theorem pieces_K : ∀ (L : List (List Tok)) (i : Nat) (S : List (List Prt)), L.mapM (fun x => readS (trm x)) = some S → cB (lstF i S) ≤ 19 * sumK L + 12 * L.length ∧ S.all rightS = true ∧ (i = 0 → cB (lstF i S) + 12 ≤ 19 * sumK L + 12 * L.length ∨ L = [])
  | [], i, S, h => by simp at h; subst h; exact ⟨Nat.le_refl _, rfl, fun _ => Or.inr rfl⟩
  | x :: L, i, S, h => by
    rw [List.mapM_cons] at h
    cases hx : readS (trm x) with
    | none => rw [hx] at h; cases h
    | some y =>
      rw [hx] at h
      cases hl : L.mapM (fun x => readS (trm x)) with
      | none => rw [hl] at h; cases h
      | some M =>
        rw [hl] at h
        injection h with h
        subst h
        obtain ⟨k1, k2, _⟩ := pieces_K L (i + 1) M hl
        obtain ⟨j1, j2⟩ := readS_K hx
        have ht := trm_K x
        have e : cB (lstF i (y :: M)) = cB (if i = 0 then [] else [tkS 12, tkS 20]) + cB (selT y) + cB (lstF (i + 1) M) := by
          show cB (((if i = 0 then [] else [tkS 12, tkS 20]) ++ selT y) ++ lstF (i + 1) M) = _
          rw [cB_app, cB_app]
        have es : sumK (x :: L) = kB x + sumK L := rfl
        have e12 : cB [tkS 12, tkS 20] = 12 := rfl
        have e0 : cB [] = 0 := rfl
        rw [e, es]
        simp only [List.length_cons]
        refine ⟨?_, by rw [List.all_cons, j2, k2]; rfl, fun hi => Or.inl ?_⟩
        · split
          · omega
          · omega
        · rw [if_pos hi]; omega
/-- what a text's selectors are written as is not much longer than the text -/
theorem parse_K {l : List Tok} {S : List (List Prt)} (h : parseS l = some S) : cB (listT S) ≤ 19 * kB l ∧ allR S = true := by
  unfold parseS at h
  obtain ⟨h1, h2, h3⟩ := pieces_K (spl commaB l) 0 S h
  have hk := spF_K commaB l.length l
  have hk : sumK (spl commaB l) + (spl commaB l).length ≤ kB l + 1 := hk
  have hne : spl commaB l ≠ [] := by
    unfold spl
    unfold spF
    repeat' split
    all_goals simp
  have h3 := (h3 rfl).resolve_right hne
  have h3 : cB (listT S) + 12 ≤ 19 * sumK (spl commaB l) + 12 * (spl commaB l).length := h3
  have hp : 0 < (spl commaB l).length := List.length_pos_iff.2 hne
  refine ⟨by omega, ?_⟩
  unfold allR
  rw [Bool.and_eq_true]
  refine ⟨decide_eq_true ?_, h2⟩
  cases S with
  | nil =>
    exfalso
    have : ∀ (L : List (List Tok)) (S : List (List Prt)), L.mapM (fun x => readS (trm x)) = some S → L ≠ [] → S ≠ [] := by
      intro L S hL hne he
      cases L with
      | nil => exact hne rfl
      | cons x L =>
        rw [List.mapM_cons] at hL
        cases hx : readS (trm x) with
        | none => rw [hx] at hL; cases hL
        | some y =>
          rw [hx] at hL
          cases hl : L.mapM (fun x => readS (trm x)) with
          | none => rw [hl] at hL; cases hL
          | some M => rw [hl] at hL; injection hL with hL; rw [← hL] at he; cases he
    exact this _ _ h hne rfl
  | cons s r => simp
/-- the tokens that a selector is written with -/
def SelK (l : List Tok) : Prop := ∀ t ∈ l, t.kind = 1 ∨ t.kind = 4 ∨ t.kind = 5 ∨ t.kind = 10 ∨ t.kind = 12 ∨ t.kind = 15 ∨ t.kind = 16 ∨ t.kind = 19 ∨ t.kind = 20
theorem SelK.app {a b : List Tok} (h : SelK a) (k : SelK b) : SelK (a ++ b) := fun t ht => by
  rcases List.mem_append.1 ht with x | x
  · exact h t x
  · exact k t x
theorem SelK.nil : SelK [] := fun t h => by cases h
theorem SelK.one {t : Tok} (h : t.kind = 1 ∨ t.kind = 4 ∨ t.kind = 5 ∨ t.kind = 10 ∨ t.kind = 12 ∨ t.kind = 15 ∨ t.kind = 16 ∨ t.kind = 19 ∨ t.kind = 20) : SelK [t] := fun x hx => by
  have : x = t := by simpa using hx
  rw [this]; exact h
theorem SelK.flat {α : Type} (f : α → List Tok) {l : List α} (h : ∀ x ∈ l, SelK (f x)) : SelK (l.flatMap f) := fun t ht => by
  obtain ⟨x, hx, hy⟩ := List.mem_flatMap.1 ht
  exact h x hx t hy
theorem sk_s (k : Int) (h : k = 10 ∨ k = 12 ∨ k = 15 ∨ k = 16 ∨ k = 20) : SelK [tkS k] := SelK.one (by show k = 1 ∨ k = 4 ∨ k = 5 ∨ k = 10 ∨ k = 12 ∨ k = 15 ∨ k = 16 ∨ k = 19 ∨ k = 20; omega)
theorem sk_i (x : List UInt8) : SelK [tkI x] := SelK.one (Or.inl rfl)
theorem sk_d (x : List UInt8) : SelK [tkD x] := SelK.one (by show (19 : Int) = 1 ∨ _; simp [tkD])
theorem sk_state (n k : Int) : SelK (stateT n k) := by
  unfold stateT
  split
  · exact (sk_s 10 (by omega)).app (sk_i _)
  · exact SelK.nil
theorem sk_part (p : Prt) : SelK (partT p) := by
  unfold partT
  split
  · exact sk_d _
  · unfold bodyT
    refine SelK.app ?_ (SelK.app ?_ (SelK.app ?_ (SelK.app ?_ ((sk_state _ _).app ((sk_state _ _).app (sk_state _ _))))))
    · split
      · exact SelK.nil
      · exact sk_i _
    · split
      · exact SelK.nil
      · exact SelK.one (Or.inr (Or.inl rfl))
    · exact SelK.flat _ fun c _ => (sk_d _).app (sk_i _)
    · refine SelK.flat _ fun t _ => ?_
      unfold testT
      refine SelK.app ((sk_s 15 (by omega)).app (sk_i _)) (SelK.app ?_ (sk_s 16 (by omega)))
      split
      · exact (sk_d _).app (SelK.one (Or.inr (Or.inr (Or.inl rfl))))
      · exact SelK.nil
theorem sk_comb (c : Int) : SelK (combT c) := by
  unfold combT
  split
  · exact SelK.nil
  · split
    · exact sk_s 20 (by omega)
    · exact (sk_s 20 (by omega)).app ((sk_d _).app (sk_s 20 (by omega)))
theorem sk_list : ∀ (l : List (List Prt)) (i : Nat), SelK (lstF i l)
  | [], _ => SelK.nil
  | s :: r, i => by
    have e : lstF i (s :: r) = ((if i = 0 then [] else [tkS 12, tkS 20]) ++ selT s) ++ lstF (i + 1) r := rfl
    rw [e]
    refine SelK.app (SelK.app ?_ (SelK.flat _ fun p _ => (sk_comb _).app (sk_part p))) (sk_list r (i + 1))
    split
    · exact SelK.nil
    · exact (sk_s 12 (by omega)).app (sk_s 20 (by omega))
theorem tx_K {t : Tok} (h : t.kind = 1 ∨ t.kind = 4 ∨ t.kind = 5 ∨ t.kind = 10 ∨ t.kind = 12 ∨ t.kind = 15 ∨ t.kind = 16 ∨ t.kind = 19 ∨ t.kind = 20) : (tx t).length ≤ t.text.length + 2 := by
  have hq : (quoT t.text).length = t.text.length + 2 := by unfold quoT; split <;> simp
  unfold tx
  rcases h with h | h | h | h | h | h | h | h | h <;> rw [h] <;> simp <;> omega
theorem tot_K : ∀ l : List Tok, SelK l → tot l ≤ cB l
  | [], _ => Nat.le_refl _
  | t :: l, h => by
    have h1 := tx_K (h t (by simp))
    have h2 := tot_K l fun u hu => h u (by simp [hu])
    show (tx t).length + 4 + tot l ≤ (t.text.length + 6) + cB l
    omega
theorem len_K : ∀ l : List Tok, 6 * l.length ≤ cB l
  | [] => Nat.le_refl _
  | t :: l => by have := len_K l; simp only [List.length_cons]; show _ ≤ (t.text.length + 6) + cB l; omega
end Go.Proofs.Ytfbfndknhabmhaa.SelP
