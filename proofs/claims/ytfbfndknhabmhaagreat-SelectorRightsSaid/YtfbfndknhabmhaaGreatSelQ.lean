/- Layer 7, pure: what is written is read. -/
import Derived.Test.YtfbfndknhabmhaaGreatSelP
import Derived.Test.YtfbfndknhabmhaaGreatSynQ
namespace Go.Proofs.YtfbfndknhabmhaaGreat.SelP
open FixM FixP TreN LexP SynP ValP
set_option linter.unusedVariables false

theorem testP_len {r : List Tok} {q : Tst × List Tok} (h : testP r = some q) : q.2.length < r.length := by
  unfold testP at h
  have b1 := bs_len r
  cases h1 : takeP 1 (bs r) with
  | none => rw [h1] at h; cases h
  | some q1 =>
    obtain ⟨t1, r1⟩ := q1
    have e1 := (takeP_len h1).1
    rw [h1] at h
    have l1 := congrArg List.length e1
    simp only [List.length_cons] at l1
    have b2 := bs_len r1
    cases h2 : passP 19 [61] (bs r1) with
    | none =>
      have h : (takeP 16 (bs r1)).map (fun z => ((⟨t1.text, false, []⟩ : Tst), z.2)) = some q := by simpa [h2] using h
      cases h3 : takeP 16 (bs r1) with
      | none => rw [h3] at h; cases h
      | some q3 =>
        obtain ⟨t3, r3⟩ := q3
        rw [h3] at h
        injection h with h
        have e3 := (takeP_len h3).1
        have l3 := congrArg List.length e3
        simp only [List.length_cons] at l3
        subst h
        simp only []
        omega
    | some m =>
      have h : testE t1.text (bs m) = some q := by simpa [h2] using h
      obtain ⟨u, e2, _, _⟩ := passP_len h2
      have l2 := congrArg List.length e2
      simp only [List.length_cons] at l2
      have b3 := bs_len m
      unfold testE at h
      cases h4 : valT (bs m) with
      | none => rw [h4] at h; cases h
      | some q4 =>
        obtain ⟨t4, r4⟩ := q4
        rw [h4] at h
        have l4 : (bs m).length = r4.length + 1 := by
          unfold valT at h4
          cases h5 : takeP 1 (bs m) with
          | some q5 =>
            rw [h5] at h4
            injection h4 with h4
            subst h4
            have := congrArg List.length (takeP_len h5).1
            simpa using this
          | none =>
            rw [h5] at h4
            have := congrArg List.length (takeP_len (show takeP 5 (bs m) = some (t4, r4) from h4)).1
            simpa using this
        have b5 := bs_len r4
        have h : (takeP 16 (bs r4)).map (fun z => ((⟨t1.text, true, t4.text⟩ : Tst), z.2)) = some q := h
        cases h6 : takeP 16 (bs r4) with
        | none => rw [h6] at h; cases h
        | some q6 =>
          obtain ⟨t6, r6⟩ := q6
          rw [h6] at h
          injection h with h
          have l6 := congrArg List.length (takeP_len h6).1
          simp only [List.length_cons] at l6
          subst h
          simp only []
          omega
theorem passP_lt {k : Int} {x : List UInt8} {l r : List Tok} (h : passP k x l = some r) : r.length < l.length := by
  obtain ⟨t, e, _, _⟩ := passP_len h
  rw [e]; simp
theorem stateP_len {n : Int} {r : List Tok} {q : Int × List Tok} (h : stateP n r = some q) : q.2.length < r.length := by
  unfold stateP at h
  cases h1 : passP 1 rootT r with
  | some m => rw [h1] at h; injection h with h; subst h; exact passP_lt h1
  | none =>
    rw [h1] at h
    simp only [] at h
    cases h2 : passP 1 firstT r with
    | some m => rw [h2] at h; injection h with h; subst h; exact passP_lt h2
    | none =>
      rw [h2] at h
      simp only [] at h
      cases h3 : passP 1 lastT r with
      | some m => rw [h3] at h; injection h with h; subst h; exact passP_lt h3
      | none => rw [h3] at h; cases h
theorem stepP_len {p : Prt} {l : List Tok} {q : Prt × List Tok} (h : stepP p l = some (some q)) : q.2.length < l.length := by
  cases l with
  | nil => cases h
  | cons t r =>
    rw [stepP_cons] at h
    by_cases h4 : t.kind = 4
    · rw [if_pos h4] at h
      injection h with h
      by_cases hp : p.id = []
      · rw [if_pos hp] at h; injection h with h; subst h; simp
      · rw [if_neg hp] at h; cases h
    · rw [if_neg h4] at h
      by_cases h15 : t.kind = 15
      · rw [if_pos h15] at h
        injection h with h
        cases ht : testP r with
        | none => rw [ht] at h; cases h
        | some m => rw [ht] at h; injection h with h; subst h; have := testP_len ht; simp; omega
      · rw [if_neg h15] at h
        by_cases h10 : t.kind = 10
        · rw [if_pos h10] at h
          injection h with h
          cases ht : stateP p.states r with
          | none => rw [ht] at h; cases h
          | some m => rw [ht] at h; injection h with h; subst h; have := stateP_len ht; simp; omega
        · rw [if_neg h10] at h
          by_cases h19 : t.kind = 19 ∧ t.text = [46]
          · rw [if_pos h19] at h
            injection h with h
            cases ht : takeP 1 r with
            | none => rw [ht] at h; cases h
            | some m =>
              obtain ⟨u, m⟩ := m
              rw [ht] at h; injection h with h; subst h
              have := congrArg List.length (takeP_len ht).1
              simp at this ⊢; omega
          · rw [if_neg h19] at h; cases h
theorem partF_same : ∀ (n : Nat) (b : Bool) (p : Prt) (l : List Tok), l.length < n → ∀ m, l.length < m → partF n b p l = partF m b p l
  | 0, _, _, _, h, _, _ => by omega
  | n + 1, _, _, _, _, 0, h => by omega
  | n + 1, b, p, l, h, m + 1, h2 => by
    show (match stepP p l with | none => _ | some none => _ | some (some q) => partF n true q.1 q.2) = (match stepP p l with | none => _ | some none => _ | some (some q) => partF m true q.1 q.2)
    cases hs : stepP p l with
    | none => rfl
    | some o =>
      cases o with
      | none => rfl
      | some q =>
        have := stepP_len hs
        exact partF_same n true q.1 q.2 (by omega) m (by omega)
def pf (b : Bool) (p : Prt) (l : List Tok) : Option (Prt × List Tok) := partF (l.length + 1) b p l
theorem pf_eq (b : Bool) (p : Prt) (l : List Tok) : pf b p l = match stepP p l with | none => if b = true then some (p, l) else none | some none => none | some (some q) => pf true q.1 q.2 := by
  unfold pf
  show (match stepP p l with | none => _ | some none => _ | some (some q) => partF l.length true q.1 q.2) = _
  cases hs : stepP p l with
  | none => rfl
  | some o =>
    cases o with
    | none => rfl
    | some q =>
      have := stepP_len hs
      exact partF_same _ true q.1 q.2 (by omega) _ (by omega)
theorem partP_pf (c : Int) (l : List Tok) : partP c l = pf (tagP l).2.1 (bare c (tagP l).1) (tagP l).2.2 := rfl
theorem pf_stop {b : Bool} {p : Prt} {l : List Tok} (h : stepP p l = none) : pf b p l = if b = true then some (p, l) else none := by rw [pf_eq, h]
theorem pf_fail {b : Bool} {p : Prt} {l : List Tok} (h : stepP p l = some none) : pf b p l = none := by rw [pf_eq, h]
theorem pf_step {b : Bool} {p : Prt} {l : List Tok} {q : Prt × List Tok} (h : stepP p l = some (some q)) : pf b p l = pf true q.1 q.2 := by rw [pf_eq, h]

/-- tokens that turn one part into another -/
def Rd (p : Prt) (L : List Tok) (q : Prt) : Prop := ∀ b z, pf b p (L ++ z) = pf (b || !L.isEmpty) q z
theorem Rd.nil (p : Prt) : Rd p [] p := fun b z => by simp
theorem Rd.app {p q r : Prt} {L M : List Tok} (h : Rd p L q) (k : Rd q M r) : Rd p (L ++ M) r := fun b z => by
  rw [List.append_assoc, h, k]
  congr 1
  cases L <;> cases M <;> simp
theorem Rd.step {p q : Prt} {t : Tok} {L : List Tok} (h : ∀ z, stepP p (t :: (L ++ z)) = some (some (q, z))) : Rd p (t :: L) q := fun b z => by
  rw [List.cons_append, pf_step (h z)]
  simp
theorem rd_id (c : Int) (g x : List UInt8) : Rd (bare c g) (if x = [] then [] else [⟨4, x, 0⟩]) ⟨c, g, x, [], [], 0⟩ := by
  by_cases h : x = []
  · subst h; exact Rd.nil _
  · rw [if_neg h]
    refine Rd.step fun z => ?_
    rw [stepP_cons, if_pos rfl, if_pos (show (bare c g).id = [] from rfl)]
    rfl
theorem rd_class (p : Prt) (x : List UInt8) : Rd p [tkD [46], tkI x] { p with classes := p.classes ++ [x] } := by
  refine Rd.step fun z => ?_
  rw [stepP_cons]
  rw [if_neg (show ¬ (tkD [46]).kind = 4 by decide), if_neg (show ¬ (tkD [46]).kind = 15 by decide), if_neg (show ¬ (tkD [46]).kind = 10 by decide), if_pos (by exact ⟨rfl, rfl⟩), List.cons_append, takeP_hit (by rfl)]
  rfl
theorem rd_classes : ∀ (l : List (List UInt8)) (p : Prt), Rd p (l.flatMap fun c => [tkD [46], tkI c]) { p with classes := p.classes ++ l }
  | [], p => by simpa using Rd.nil p
  | x :: l, p => by
    rw [List.flatMap_cons]
    have h := (rd_class p x).app (rd_classes l _)
    simpa using h
theorem rd_test (p : Prt) (t : Tst) (h : rightT t = true) : Rd p (testT t) { p with tests := p.tests ++ [t] } := by
  have e : testT t = tkS 15 :: (tkI t.name :: ((if t.equal = true then [tkD [61], ⟨5, t.value, 0⟩] else []) ++ [tkS 16])) := rfl
  rw [e]
  refine Rd.step fun z => ?_
  have e2 : tkI t.name :: ((if t.equal = true then [tkD [61], ⟨5, t.value, 0⟩] else []) ++ [tkS 16]) ++ z = tkI t.name :: ((if t.equal = true then [tkD [61], ⟨5, t.value, 0⟩] else []) ++ (tkS 16 :: z)) := by simp
  rw [e2]
  rw [stepP_cons]
  rw [if_neg (show ¬ (tkS 15).kind = 4 by decide), if_pos (by rfl), testP_read t z h]
  rfl
theorem rd_tests : ∀ (l : List Tst) (p : Prt), l.all rightT = true → Rd p (l.flatMap testT) { p with tests := p.tests ++ l }
  | [], p, _ => by simpa using Rd.nil p
  | x :: l, p, h => by
    rw [List.all_cons, Bool.and_eq_true] at h
    rw [List.flatMap_cons]
    have k := (rd_test p x h.1).app (rd_tests l _ h.2)
    simpa using k
theorem stateP_word {n k : Int} (hk : k = 1 ∨ k = 2 ∨ k = 4) (z : List Tok) : stateP n (tkI (wordS k) :: z) = some (orS n k, z) := by
  unfold stateP
  rcases hk with rfl | rfl | rfl
  · rw [passP_hit (by rfl) (by rfl)]
  · rw [passP_text (by decide), passP_hit (by rfl) (by rfl)]
  · rw [passP_text (by decide), passP_text (by decide), passP_hit (by rfl) (by rfl)]
theorem rd_state (p : Prt) (n k : Int) (hk : k = 1 ∨ k = 2 ∨ k = 4) : Rd p (stateT n k) { p with states := if hasB n k = true then orS p.states k else p.states } := by
  unfold stateT
  by_cases h : hasB n k = true
  · rw [if_pos h, if_pos h]
    refine Rd.step fun z => ?_
    rw [stepP_cons]
    rw [if_neg (show ¬ (tkS 10).kind = 4 by decide), if_neg (show ¬ (tkS 10).kind = 15 by decide), if_pos (by rfl), List.cons_append, List.nil_append, stateP_word hk]
    rfl
  · rw [if_neg h, if_neg h]; exact Rd.nil p
theorem states_back (n : Int) (h0 : 0 ≤ n) (h7 : n ≤ 7) : (if hasB n 4 = true then orS (if hasB n 2 = true then orS (if hasB n 1 = true then orS 0 1 else 0) 2 else (if hasB n 1 = true then orS 0 1 else 0)) 4 else (if hasB n 2 = true then orS (if hasB n 1 = true then orS 0 1 else 0) 2 else (if hasB n 1 = true then orS 0 1 else 0))) = n := by
  rcases (by omega : n = 0 ∨ n = 1 ∨ n = 2 ∨ n = 3 ∨ n = 4 ∨ n = 5 ∨ n = 6 ∨ n = 7) with rfl | rfl | rfl | rfl | rfl | rfl | rfl | rfl <;> decide
def restT (p : Prt) : List Tok := (if p.id = [] then [] else [⟨4, p.id, 0⟩]) ++ (p.classes.flatMap (fun c => [tkD [46], tkI c]) ++ (p.tests.flatMap testT ++ (stateT p.states 1 ++ (stateT p.states 2 ++ stateT p.states 4))))
theorem right_parts {p : Prt} (h : rightPt p = true) : p.classes.length ≤ 8 ∧ p.tests.length ≤ 8 ∧ orNone p.tag = true ∧ orNone p.id = true ∧ 0 ≤ p.states ∧ p.states ≤ 7 ∧ p.classes.all nameL = true ∧ p.tests.all rightT = true := by
  unfold rightPt at h
  simp only [Bool.and_eq_true, decide_eq_true_eq] at h
  exact h
theorem rd_rest (p : Prt) (h : rightPt p = true) : Rd (bare p.comb p.tag) (restT p) p := by
  obtain ⟨_, _, _, _, h0, h7, _, ht⟩ := right_parts h
  obtain ⟨c, g, i, cl, ts, n⟩ := p
  have k1 := rd_id c g i
  have k2 := rd_classes cl ⟨c, g, i, [], [], 0⟩
  have k3 := rd_tests ts ⟨c, g, i, [] ++ cl, [], 0⟩ ht
  have k4 := rd_state ⟨c, g, i, [] ++ cl, [] ++ ts, 0⟩ n 1 (Or.inl rfl)
  have k5 := rd_state ⟨c, g, i, [] ++ cl, [] ++ ts, if hasB n 1 = true then orS 0 1 else 0⟩ n 2 (Or.inr (Or.inl rfl))
  have k6 := rd_state ⟨c, g, i, [] ++ cl, [] ++ ts, if hasB n 2 = true then orS (if hasB n 1 = true then orS 0 1 else 0) 2 else (if hasB n 1 = true then orS 0 1 else 0)⟩ n 4 (Or.inr (Or.inr rfl))
  have e := states_back n h0 h7
  simp only [e, List.nil_append] at k3 k4 k5 k6
  have k := k1.app (k2.app (k3.app (k4.app (k5.app k6))))
  exact k
/-- no part goes on there -/
def Stops (z : List Tok) : Prop := z = [] ∨ ∃ t r, z = t :: r ∧ (t.kind = 20 ∨ t.kind = 12)
theorem Stops.step {z : List Tok} (h : Stops z) (p : Prt) : stepP p z = none := by
  rcases h with rfl | ⟨t, r, rfl, h⟩
  · rfl
  · rw [stepP_cons]
    rw [if_neg (by omega), if_neg (by omega), if_neg (by omega), if_neg (by omega)]
theorem body_eq (p : Prt) : bodyT p = (if p.tag = [] then [] else [tkI p.tag]) ++ restT p := rfl
theorem rest_nil {p : Prt} (h : restT p = []) (h0 : 0 ≤ p.states) (h7 : p.states ≤ 7) : p.id = [] ∧ p.classes = [] ∧ p.tests = [] ∧ p.states = 0 := by
  unfold restT at h
  simp only [List.append_eq_nil_iff] at h
  obtain ⟨h1, h2, h3, h4, h5, h6⟩ := h
  refine ⟨?_, ?_, ?_, ?_⟩
  · by_cases c : p.id = []
    · exact c
    · rw [if_neg c] at h1; cases h1
  · cases hc : p.classes with
    | nil => rfl
    | cons x l => rw [hc] at h2; simp at h2
  · cases hc : p.tests with
    | nil => rfl
    | cons x l => rw [hc] at h3; simp [testT] at h3
  · have g : ∀ k, stateT p.states k = [] → hasB p.states k = false := fun k hk => by
      unfold stateT at hk
      by_cases c : hasB p.states k = true
      · rw [if_pos c] at hk; cases hk
      · simpa using c
    have g1 := g 1 h4
    have g2 := g 2 h5
    have g4 := g 4 h6
    generalize p.states = n at *
    rcases (by omega : n = 0 ∨ n = 1 ∨ n = 2 ∨ n = 3 ∨ n = 4 ∨ n = 5 ∨ n = 6 ∨ n = 7) with rfl | rfl | rfl | rfl | rfl | rfl | rfl | rfl <;> first | rfl | (revert g1; decide) | (revert g2; decide) | (revert g4; decide)
/-- what a part's further tokens begin with -/
theorem rest_head {p : Prt} (h : restT p ≠ []) : ∃ t r, restT p = t :: r ∧ (t.kind = 4 ∨ (t.kind = 19 ∧ t.text = [46]) ∨ t.kind = 15 ∨ t.kind = 10) := by
  unfold restT at h ⊢
  by_cases h1 : p.id = []
  · rw [if_pos h1, List.nil_append] at h ⊢
    cases h2 : p.classes with
    | cons x l => exact ⟨_, _, rfl, Or.inr (Or.inl ⟨rfl, rfl⟩)⟩
    | nil =>
      rw [h2, List.flatMap_nil, List.nil_append] at h
      rw [List.flatMap_nil, List.nil_append]
      cases h3 : p.tests with
      | cons x l => exact ⟨_, _, rfl, Or.inr (Or.inr (Or.inl rfl))⟩
      | nil =>
        rw [h3, List.flatMap_nil, List.nil_append] at h
        rw [List.flatMap_nil, List.nil_append]
        have g : ∀ k, stateT p.states k = [] ∨ stateT p.states k = [tkS 10, tkI (wordS k)] := fun k => by
          unfold stateT
          by_cases c : hasB p.states k = true
          · rw [if_pos c]; exact Or.inr rfl
          · rw [if_neg c]; exact Or.inl rfl
        rcases g 1 with e1 | e1
        · rcases g 2 with e2 | e2
          · rcases g 4 with e4 | e4
            · rw [e1, e2, e4] at h; exact absurd rfl h
            · rw [e1, e2, e4]; exact ⟨_, _, rfl, Or.inr (Or.inr (Or.inr rfl))⟩
          · rw [e1, e2]; exact ⟨_, _, rfl, Or.inr (Or.inr (Or.inr rfl))⟩
        · rw [e1]; exact ⟨_, _, rfl, Or.inr (Or.inr (Or.inr rfl))⟩
  · rw [if_neg h1]; exact ⟨_, _, rfl, Or.inl rfl⟩
theorem part_read (p : Prt) (h : rightPt p = true) (z : List Tok) (hz : Stops z) : partP p.comb (partT p ++ z) = some (p, z) := by
  obtain ⟨_, _, _, _, h0, h7, _, _⟩ := right_parts h
  have hr := rd_rest p h
  have hst : pf true p z = some (p, z) := by rw [pf_stop (hz.step p)]; rfl
  unfold partT
  by_cases hb : bodyT p = []
  · rw [if_pos hb]
    rw [body_eq, List.append_eq_nil_iff] at hb
    have ht : p.tag = [] := by
      by_cases c : p.tag = []
      · exact c
      · rw [if_neg c] at hb; cases hb.1
    obtain ⟨e1, e2, e3, e4⟩ := rest_nil hb.2 h0 h7
    have e : bare p.comb [] = p := by
      obtain ⟨c, g, i, cl, ts, n⟩ := p
      simp only at ht e1 e2 e3 e4
      subst ht; subst e1; subst e2; subst e3; subst e4; rfl
    have ep : tagP ([tkD [42]] ++ z) = ([], true, z) := by
      unfold tagP
      rw [List.singleton_append, passP_hit (by rfl) (by rfl)]
    rw [partP_pf, ep, e]
    exact hst
  · rw [if_neg hb]
    by_cases ht : p.tag = []
    · rw [body_eq, if_pos ht, List.nil_append] at hb ⊢
      obtain ⟨t, r, e, hk⟩ := rest_head hb
      have ep : tagP (restT p ++ z) = ([], false, restT p ++ z) := by
        unfold tagP
        rw [e, List.cons_append]
        have h1 : passP 19 [42] (t :: (r ++ z)) = none := by
          rcases hk with hk | ⟨hk, hx⟩ | hk | hk
          · exact passP_kind (by omega)
          · exact passP_text (by rw [hx]; decide)
          · exact passP_kind (by omega)
          · exact passP_kind (by omega)
        have h2 : takeP 1 (t :: (r ++ z)) = none := takeP_miss (by omega)
        rw [h1, h2]
      rw [partP_pf, ep]
      have := hr false z
      rw [ht] at this
      rw [this]
      have e3 : (false || !(restT p).isEmpty) = true := by rw [e]; rfl
      rw [e3]
      exact hst
    · rw [body_eq, if_neg ht, List.singleton_append, List.cons_append]
      have ep : tagP (tkI p.tag :: (restT p ++ z)) = (p.tag, true, restT p ++ z) := by
        unfold tagP
        rw [passP_kind (by show (1 : Int) ≠ 19; decide), takeP_hit (by rfl)]
        rfl
      rw [partP_pf, ep]
      have := hr true z
      rw [this]
      exact hst
/-- what a part begins with -/
theorem part_head (p : Prt) : ∃ t r, partT p = t :: r ∧ t.kind ≠ 20 ∧ (t.kind = 19 → t.text = [42] ∨ t.text = [46]) := by
  unfold partT
  by_cases hb : bodyT p = []
  · rw [if_pos hb]; exact ⟨_, _, rfl, by decide, fun _ => Or.inl rfl⟩
  · rw [if_neg hb]
    by_cases ht : p.tag = []
    · rw [body_eq, if_pos ht, List.nil_append] at hb ⊢
      obtain ⟨t, r, e, hk⟩ := rest_head hb
      exact ⟨t, r, e, by omega, fun h => by rcases hk with hk | ⟨_, hk⟩ | hk | hk <;> first | exact Or.inr hk | omega⟩
    · rw [body_eq, if_neg ht, List.singleton_append]
      exact ⟨_, _, rfl, by show (1 : Int) ≠ 20; decide, fun h => by cases h⟩
theorem comb_read (c : Int) (h1 : 1 ≤ c) (h4 : c ≤ 4) (p : Prt) (z : List Tok) : combP (combT c ++ (partT p ++ z)) = (c, partT p ++ z) := by
  obtain ⟨t, r, e, hk, hx⟩ := part_head p
  rw [e, List.cons_append]
  have hb : bs (t :: (r ++ z)) = t :: (r ++ z) := bs_hit hk
  have hn : ∀ x, x = [62] ∨ x = [43] ∨ x = [126] → passP 19 x (t :: (r ++ z)) = none := fun x hx2 => by
    by_cases c : t.kind = 19
    · refine passP_text ?_
      rcases hx c with e | e <;> rw [e] <;> rcases hx2 with rfl | rfl | rfl <;> decide
    · exact passP_kind c
  rcases (by omega : c = 1 ∨ c = 2 ∨ c = 3 ∨ c = 4) with rfl | rfl | rfl | rfl
  · have e1 : combT 1 = [tkS 20] := rfl
    rw [e1, List.singleton_append]
    unfold combP
    rw [bs_space (by rfl), hb, hn _ (Or.inl rfl), hn _ (Or.inr (Or.inl rfl)), hn _ (Or.inr (Or.inr rfl))]
    simp
  · have e1 : combT 2 = [tkS 20, tkD [62], tkS 20] := rfl
    rw [e1]
    unfold combP
    rw [List.cons_append, bs_space (by rfl), List.cons_append, bs_hit (by decide), passP_hit (by rfl) (by rfl)]
    simp only [List.cons_append, List.nil_append]
    rw [bs_space (by rfl), hb]
  · have e1 : combT 3 = [tkS 20, tkD [43], tkS 20] := rfl
    rw [e1]
    unfold combP
    rw [List.cons_append, bs_space (by rfl), List.cons_append, bs_hit (by decide), passP_text (by decide), passP_hit (by rfl) (by rfl)]
    simp only [List.cons_append, List.nil_append]
    rw [bs_space (by rfl), hb]
  · have e1 : combT 4 = [tkS 20, tkD [126], tkS 20] := rfl
    rw [e1]
    unfold combP
    rw [List.cons_append, bs_space (by rfl), List.cons_append, bs_hit (by decide), passP_text (by decide), passP_text (by decide), passP_hit (by rfl) (by rfl)]
    simp only [List.cons_append, List.nil_append]
    rw [bs_space (by rfl), hb]
def tailT (s : List Prt) : List Tok := s.flatMap fun p => combT p.comb ++ partT p
theorem combT_stops {c : Int} (h1 : 1 ≤ c) (x : List Tok) : Stops (combT c ++ x) := by
  unfold combT
  rw [if_neg (by omega)]
  split
  · exact Or.inr ⟨_, _, rfl, Or.inl rfl⟩
  · exact Or.inr ⟨_, _, rfl, Or.inl rfl⟩
theorem readF_tail : ∀ (r : List Prt) (n : Nat) (p : Prt) (acc : List Prt), r.length < n → rightPt p = true → rightF (acc.length + 1) r = true → readF n p.comb acc (partT p ++ tailT r) = if rightS (acc ++ p :: r) = true then some (acc ++ p :: r) else none
  | [], 0, _, _, h, _, _ => by simp at h
  | [], n + 1, p, acc, _, hp, _ => by
    show (match partP p.comb (partT p ++ tailT []) with | none => none | some q => _) = _
    have e : tailT [] = [] := rfl
    rw [e, part_read p hp _ (Or.inl rfl)]
    rfl
  | p2 :: r, 0, _, _, h, _, _ => by simp at h
  | p2 :: r, n + 1, p, acc, h, hp, hr => by
    have hr : (combB (acc.length + 1) p2 && (rightPt p2 && rightF (acc.length + 2) r)) = true := hr
    rw [Bool.and_eq_true, Bool.and_eq_true] at hr
    obtain ⟨hc, hp2, hr2⟩ := hr
    have hc : (decide (1 ≤ p2.comb) && decide (p2.comb ≤ 4)) = true := by simpa [combB] using hc
    rw [Bool.and_eq_true, decide_eq_true_eq, decide_eq_true_eq] at hc
    have e : tailT (p2 :: r) = combT p2.comb ++ (partT p2 ++ tailT r) := by unfold tailT; rw [List.flatMap_cons, List.append_assoc]
    show (match partP p.comb (partT p ++ tailT (p2 :: r)) with | none => none | some q => if q.2 = [] then (if rightS (acc ++ [q.1]) = true then some (acc ++ [q.1]) else none) else readF n (combP q.2).1 (acc ++ [q.1]) (combP q.2).2) = _
    rw [e, part_read p hp _ (combT_stops hc.1 _)]
    have hne : ¬ combT p2.comb ++ (partT p2 ++ tailT r) = [] := by
      obtain ⟨t, r', e, _⟩ := part_head p2
      rw [e]; simp
    simp only []
    rw [if_neg hne, comb_read p2.comb hc.1 hc.2]
    simp only []
    have ih := readF_tail r n p2 (acc ++ [p]) (by simpa using h) hp2 (by rw [List.length_append, List.length_singleton]; exact hr2)
    rw [ih, List.append_assoc]
    rfl
theorem sel_read (s : List Prt) (h : rightS s = true) : readS (selT s) = some s := by
  have h0 := h
  unfold rightS at h
  rw [Bool.and_eq_true, Bool.and_eq_true, decide_eq_true_eq, decide_eq_true_eq] at h
  obtain ⟨h1, h2, h3⟩ := h
  cases s with
  | nil => simp at h1
  | cons p r =>
    have h3 : (combB 0 p && (rightPt p && rightF 1 r)) = true := h3
    rw [Bool.and_eq_true, Bool.and_eq_true] at h3
    have hc : p.comb = 0 := by simpa [combB] using h3.1
    have e : selT (p :: r) = partT p ++ tailT r := by
      unfold selT tailT
      rw [List.flatMap_cons, hc]; rfl
    rw [e]
    have := readF_tail r 8 p [] (by simp at h2; omega) h3.2.1 h3.2.2
    rw [hc] at this
    unfold readS
    rw [this, List.nil_append, if_pos h0]
end Go.Proofs.YtfbfndknhabmhaaGreat.SelP
