/- Joined texts: FlxQf FlxQg FlxQh. -/
import Derived.Test.YtaegajlffiepoaaFlxQc
namespace Go.Proofs.Ytaegajlffiepoaa
open FixM ShaD ShaM
set_option linter.unusedVariables false

/-- the places that are not frozen -/
def looseU (U : Nat → Bool) (n : Nat) : List Nat := (List.range n).filter U
theorem looseU_succ (U : Nat → Bool) (n : Nat) : looseU U (n + 1) = looseU U n ++ if U n = true then [n] else [] := by
  unfold looseU
  rw [List.range_succ, List.filter_append]
  congr 1
  cases h : U n <;> simp [h]
theorem fsumL_loose (U : Nat → Bool) (f : Nat → Int) : ∀ n, fsumL f (looseU U n) = fsum (fun i => if U i = true then f i else 0) n
  | 0 => rfl
  | n + 1 => by
    have ih := fsumL_loose U f n
    rw [looseU_succ]
    simp only [fsum]
    rw [← ih]
    by_cases c : U n = true
    · rw [if_pos c, if_pos c, fsumL_snoc]
    · rw [if_neg c, if_neg c, List.append_nil]; omega
/-- over positions, over places -/
theorem fsum_loose (U : Nat → Bool) (f : Nat → Int) (n : Nat) : fsum (fun j => f ((looseU U n).getD j 0)) (looseU U n).length = fsum (fun i => if U i = true then f i else 0) n := by
  rw [← fsumL_eq, fsumL_loose]
theorem loose_mono (U : Nat → Bool) (n : Nat) : ∀ j k, j < k → k < (looseU U n).length → (looseU U n).getD j 0 < (looseU U n).getD k 0 := fun j k hjk hk => by
  have hp : (looseU U n).Pairwise (· < ·) := List.Pairwise.filter _ List.pairwise_lt_range
  have e1 : (looseU U n).getD j 0 = (looseU U n)[j]'(by omega) := by simp [List.getD, show j < (looseU U n).length by omega]
  have e2 : (looseU U n).getD k 0 = (looseU U n)[k] := by simp [List.getD, hk]
  rw [e1, e2]
  exact List.pairwise_iff_getElem.1 hp j k (by omega) hk hjk
theorem loose_in (U : Nat → Bool) (n j : Nat) (hj : j < (looseU U n).length) : (looseU U n).getD j 0 < n ∧ U ((looseU U n).getD j 0) = true := by
  have e1 : (looseU U n).getD j 0 = (looseU U n)[j] := by simp [List.getD, hj]
  have h : (looseU U n)[j] ∈ looseU U n := List.getElem_mem hj
  rw [← e1] at h
  have := List.mem_filter.1 h
  exact ⟨List.mem_range.1 this.1, this.2⟩
theorem cnt_eq (p : Nat → Bool) : ∀ n, (((List.range n).filter p).length : Int) = fsum (fun x => if p x = true then 1 else 0) n
  | 0 => rfl
  | n + 1 => by
    have e := looseU_succ p n
    unfold looseU at e
    rw [e]
    simp only [fsum]
    rw [← cnt_eq p n]
    by_cases c : p n = true
    · rw [if_pos c, if_pos c]; simp
    · rw [if_neg c, if_neg c]; simp
theorem wsum_fsum (n : Nat) (f : Nat → Int) : wsum ((List.range n).map f) = fsum (fun i => WT (f i)) n := by
  induction n with
  | zero => rfl
  | succ n ih =>
    rw [List.range_succ, List.map_append]
    simp only [fsum]
    rw [← ih]
    unfold wsum
    simp [List.sum_append]
theorem qsum_fsum (t A : Int) (ws : List Int) : ∀ n, qsum t A ws n = fsum (qs t A ws) n
  | 0 => rfl
  | n + 1 => by show qsum t A ws n + qs t A ws n = _; rw [qsum_fsum t A ws n]; rfl
theorem rsum_fsum (t A : Int) (ws : List Int) : ∀ n, rsum t A ws n = fsum (rs t A ws) n
  | 0 => rfl
  | n + 1 => by show rsum t A ws n + rs t A ws n = _; rw [rsum_fsum t A ws n]; rfl
theorem rk_fsum (r : Nat → Int) (n i : Nat) : (rk r n i : Int) = fsum (fun x => if r i < r x ∨ (r i = r x ∧ x < i) then 1 else 0) n := by
  unfold rk
  rw [cnt_eq]
  exact fsum_ext _ (fun x _ => by
    by_cases c : r i < r x ∨ (r i = r x ∧ x < i)
    · rw [if_pos c, if_pos (by simp only [decide_eq_true_eq]; omega)]
    · rw [if_neg c, if_neg (by simp only [decide_eq_true_eq]; omega)])
theorem fsum_leQ {f g : Nat → Int} : ∀ n, (∀ i, i < n → f i ≤ g i) → fsum f n ≤ fsum g n
  | 0, _ => Int.le_refl _
  | n + 1, h => by
    have := fsum_leQ n (fun i hi => h i (by omega))
    have := h n (by omega)
    simp only [fsum]; omega
/-- the rests together: what is left, times the sum -/
theorem rests_left {t A : Int} (ws : List Int) (hA : A = wsum ws) : fsum (rs t A ws) ws.length = (t - qsum t A ws ws.length) * A := by
  have h := sums (t := t) (A := A) ws ws.length (Nat.le_refl _)
  rw [List.take_length, ← hA, rsum_fsum] at h
  rw [Int.sub_mul]; omega
/-- who has no rest gets none of what is left -/
theorem no_rest {t A : Int} (ws : List Int) (hA : A = wsum ws) (hp : 0 < A) (i : Nat) (hr : rs t A ws i = 0) : ¬ rk (rs t A ws) ws.length i < (t - qsum t A ws ws.length).toNat := by
  intro h
  have h1 := rests_left (t := t) ws hA
  have h2 := rk_fsum (rs t A ws) ws.length i
  obtain ⟨n, hn⟩ : ∃ n, ws.length = n := ⟨_, rfl⟩
  rw [hn] at h h1 h2
  have h3 : fsum (rs t A ws) n ≤ fsum (fun x => (A - 1) * (if rs t A ws i < rs t A ws x ∨ (rs t A ws i = rs t A ws x ∧ x < i) then 1 else 0)) n := fsum_leQ n (fun x _ => by
    have hb := rs_bd (t := t) ws hp x
    rw [hr]
    by_cases c : 0 < rs t A ws x
    · rw [if_pos (Or.inl c)]; omega
    · have e : rs t A ws x = 0 := by omega
      rw [e]
      split <;> omega)
  have h4 : ∀ m, fsum (fun x => (A - 1) * (if rs t A ws i < rs t A ws x ∨ (rs t A ws i = rs t A ws x ∧ x < i) then (1 : Int) else 0)) m = (A - 1) * fsum (fun x => if rs t A ws i < rs t A ws x ∨ (rs t A ws i = rs t A ws x ∧ x < i) then (1 : Int) else 0) m := fun m => by
    induction m with
    | zero => simp [fsum]
    | succ m ih => simp only [fsum]; rw [ih, Int.mul_add]
  rw [h4, ← h2, h1] at h3
  obtain ⟨D, hD⟩ : ∃ D, t - qsum t A ws n = D := ⟨_, rfl⟩
  rw [hD] at h h3
  obtain ⟨k, hk⟩ : ∃ k, rk (rs t A ws) n i = k := ⟨_, rfl⟩
  rw [hk] at h h3
  have hkD : (k : Int) + 1 ≤ D := by omega
  have h5 : ((k : Int) + 1) * A ≤ D * A := Int.mul_le_mul_of_nonneg_right hkD (by omega)
  have h6 : (A - 1) * (k : Int) = (k : Int) * A - k := by rw [Int.sub_mul, Int.mul_comm A]; omega
  have h7 : ((k : Int) + 1) * A = (k : Int) * A + A := by rw [Int.add_mul]; omega
  omega
end Go.Proofs.Ytaegajlffiepoaa

namespace Go.Proofs.Ytaegajlffiepoaa
open FixM ShaD ShaM
set_option linter.unusedVariables false

/-- the weights over the whole list -/
def wideU (U : Nat → Bool) (f : Nat → Int) (n : Nat) : List Int := (List.range n).map (fun i => if U i = true then f i else 0)
def tightU (U : Nat → Bool) (f : Nat → Int) (n : Nat) : List Int := (looseU U n).map f
theorem WT_zero : WT 0 = 0 := by unfold WT H; omega
theorem wideU_len (U : Nat → Bool) (f : Nat → Int) (n : Nat) : (wideU U f n).length = n := by unfold wideU; simp
theorem tightU_len (U : Nat → Bool) (f : Nat → Int) (n : Nat) : (tightU U f n).length = (looseU U n).length := by unfold tightU; simp
theorem wideU_at (U : Nat → Bool) (f : Nat → Int) (n i : Nat) (h : i < n) : (wideU U f n).getD i 0 = if U i = true then f i else 0 := by
  unfold wideU
  simp [List.getD, h]
theorem tightU_at (U : Nat → Bool) (f : Nat → Int) (n j : Nat) (h : j < (looseU U n).length) : (tightU U f n).getD j 0 = f ((looseU U n).getD j 0) := by
  unfold tightU
  simp [List.getD, h]
theorem tightU_eq (U : Nat → Bool) (f : Nat → Int) (n : Nat) : tightU U f n = (List.range (looseU U n).length).map (fun j => f ((looseU U n).getD j 0)) := by
  refine List.ext_getElem (by simp [tightU]) (fun j h1 h2 => ?_)
  have hj : j < (looseU U n).length := by simpa [tightU] using h1
  have e := tightU_at U f n j hj
  simp only [List.getD, List.getElem?_eq_getElem h1, Option.getD_some] at e
  rw [e]
  simp
theorem wsum_same (U : Nat → Bool) (f : Nat → Int) (n : Nat) : wsum (wideU U f n) = wsum (tightU U f n) := by
  rw [tightU_eq, wsum_fsum]
  unfold wideU
  rw [wsum_fsum, fsum_loose U (fun i => WT (f i)) n]
  exact fsum_ext _ (fun i _ => by split <;> simp [*, WT_zero])
theorem qs_wide (t A : Int) (U : Nat → Bool) (f : Nat → Int) (n i : Nat) (h : i < n) : qs t A (wideU U f n) i = if U i = true then t * WT (f i) / A else 0 := by
  unfold qs
  rw [wideU_at U f n i h]
  split
  · rfl
  · rw [WT_zero]; simp
theorem rs_wide (t A : Int) (U : Nat → Bool) (f : Nat → Int) (n i : Nat) (h : i < n) : rs t A (wideU U f n) i = if U i = true then t * WT (f i) % A else 0 := by
  unfold rs
  rw [wideU_at U f n i h]
  split
  · rfl
  · rw [WT_zero]; simp
theorem qs_tight (t A : Int) (U : Nat → Bool) (f : Nat → Int) (n j : Nat) (h : j < (looseU U n).length) : qs t A (tightU U f n) j = t * WT (f ((looseU U n).getD j 0)) / A := by
  unfold qs
  rw [tightU_at U f n j h]
theorem rs_tight (t A : Int) (U : Nat → Bool) (f : Nat → Int) (n j : Nat) (h : j < (looseU U n).length) : rs t A (tightU U f n) j = t * WT (f ((looseU U n).getD j 0)) % A := by
  unfold rs
  rw [tightU_at U f n j h]
theorem qsum_same (t A : Int) (U : Nat → Bool) (f : Nat → Int) (n : Nat) : qsum t A (wideU U f n) n = qsum t A (tightU U f n) (looseU U n).length := by
  rw [qsum_fsum, qsum_fsum, fsum_ext (g := fun i => if U i = true then t * WT (f i) / A else 0) n (fun i hi => qs_wide t A U f n i hi), ← fsum_loose U (fun i => t * WT (f i) / A) n]
  exact fsum_ext _ (fun j hj => (qs_tight t A U f n j hj).symm)
theorem loose_lt_iff (U : Nat → Bool) (n j k : Nat) (hj : j < (looseU U n).length) (hk : k < (looseU U n).length) : (looseU U n).getD k 0 < (looseU U n).getD j 0 ↔ k < j := by
  constructor
  · intro h
    by_cases c : k < j
    · exact c
    · by_cases e : k = j
      · subst e; omega
      · have := loose_mono U n j k (by omega) hk; omega
  · intro h; exact loose_mono U n k j h hj
theorem rk_same (t A : Int) (hp : 0 < A) (U : Nat → Bool) (f : Nat → Int) (n j : Nat) (hj : j < (looseU U n).length) (h0 : rs t A (tightU U f n) j ≠ 0) :
    rk (rs t A (wideU U f n)) n ((looseU U n).getD j 0) = rk (rs t A (tightU U f n)) (looseU U n).length j := by
  have hi := loose_in U n j hj
  have hpos := rs_bd (t := t) (tightU U f n) hp j
  have e0 := rs_tight t A U f n j hj
  obtain ⟨i, ei⟩ : ∃ i, (looseU U n).getD j 0 = i := ⟨_, rfl⟩
  rw [ei] at hi e0
  have e1 : rs t A (wideU U f n) i = rs t A (tightU U f n) j := by rw [rs_wide t A U f n i hi.1, if_pos hi.2, e0]
  have h1 := rk_fsum (rs t A (wideU U f n)) n i
  have h2 := rk_fsum (rs t A (tightU U f n)) (looseU U n).length j
  rw [fsum_ext (g := fun x => if U x = true then (if t * WT (f i) % A < t * WT (f x) % A ∨ (t * WT (f i) % A = t * WT (f x) % A ∧ x < i) then (1 : Int) else 0) else 0) n (fun x hx => by
    show (if _ then (1 : Int) else 0) = _
    rw [e1, e0, rs_wide t A U f n x hx]
    by_cases c : U x = true
    · rw [if_pos c, if_pos c]
    · rw [if_neg c, if_neg c, if_neg (by omega)]), ← fsum_loose U (fun x => if t * WT (f i) % A < t * WT (f x) % A ∨ (t * WT (f i) % A = t * WT (f x) % A ∧ x < i) then (1 : Int) else 0) n] at h1
  rw [fsum_ext (g := fun k => if t * WT (f i) % A < t * WT (f ((looseU U n).getD k 0)) % A ∨ (t * WT (f i) % A = t * WT (f ((looseU U n).getD k 0)) % A ∧ (looseU U n).getD k 0 < i) then (1 : Int) else 0) (looseU U n).length (fun k hk => by
    show (if _ then (1 : Int) else 0) = _
    rw [e0, rs_tight t A U f n k hk, ← ei]
    simp only [loose_lt_iff U n j k hj hk])] at h2
  rw [ei]
  omega
theorem share0_same (t : Int) (U : Nat → Bool) (f : Nat → Int) (n j : Nat) (hj : j < (looseU U n).length) :
    share0 t (wideU U f n) ((looseU U n).getD j 0) = share0 t (tightU U f n) j := by
  have hi := loose_in U n j hj
  unfold share0
  rw [wsum_same, wideU_len, tightU_len]
  by_cases c : wsum (tightU U f n) = 0
  · rw [if_pos c, if_pos c]
  rw [if_neg c, if_neg c]
  have hp : 0 < wsum (tightU U f n) := by have := (wsum_bd (tightU U f n)).1; omega
  have hW := wsum_same U f n
  obtain ⟨A, hA⟩ : ∃ A, wsum (tightU U f n) = A := ⟨_, rfl⟩
  rw [hA] at hp hW ⊢
  have e1 : qs t A (wideU U f n) ((looseU U n).getD j 0) = qs t A (tightU U f n) j := by
    rw [qs_wide t A U f n _ hi.1, if_pos hi.2, qs_tight t A U f n j hj]
  rw [e1, qsum_same]
  congr 1
  by_cases h0 : rs t A (tightU U f n) j = 0
  · have e2 : rs t A (wideU U f n) ((looseU U n).getD j 0) = 0 := by
      rw [rs_wide t A U f n _ hi.1, if_pos hi.2, ← h0, rs_tight t A U f n j hj]
    have n1 := no_rest (t := t) (wideU U f n) hW.symm hp _ e2
    have n2 := no_rest (t := t) (tightU U f n) hA.symm hp _ h0
    rw [wideU_len, qsum_same] at n1
    rw [tightU_len] at n2
    rw [if_neg n1, if_neg n2]
  · rw [rk_same t A hp U f n j hj h0]
theorem share_same (t : Int) (U : Nat → Bool) (f : Nat → Int) (n j : Nat) (hj : j < (looseU U n).length) :
    shareS t (wideU U f n) ((looseU U n).getD j 0) = shareS t (tightU U f n) j := by
  unfold shareS
  rw [share0_same _ U f n j hj, share0_same _ U f n j hj]
end Go.Proofs.Ytaegajlffiepoaa

namespace Go.Proofs.Ytaegajlffiepoaa
open FixM ShaD ShaM
set_option linter.unusedVariables false

theorem ssum_ge (f : Nat → Int) : ∀ n, (∀ i, 0 ≤ f i) → 0 ≤ ssum f n ∧ ∀ i, i < n → f i ≤ ssum f n
  | 0, _ => ⟨by simp [ssum], fun i h => by omega⟩
  | n + 1, h => by
    have ⟨a, b⟩ := ssum_ge f n h
    have := h n
    refine ⟨by simp only [ssum]; omega, fun i hi => ?_⟩
    simp only [ssum]
    by_cases c : i = n
    · subst c; omega
    · have := b i (by omega); omega
theorem share0_top {t : Int} (ht : 0 ≤ t) (ws : List Int) (i : Nat) (hi : i < ws.length) : 0 ≤ share0 t ws i ∧ share0 t ws i ≤ t := by
  refine ⟨(share0_bd ht ws i).1, ?_⟩
  by_cases c : wsum ws = 0
  · unfold share0; rw [if_pos c]; exact ht
  · have h := (ssum_ge (share0 t ws) ws.length (fun i => (share0_bd ht ws i).1)).2 i hi
    rw [share0_sumF ht ws c] at h
    exact h
theorem shareS_top (t : Int) (ws : List Int) (i : Nat) (hi : i < ws.length) : -1073741824 ≤ shareS (H t) ws i ∧ shareS (H t) ws i ≤ 1073741824 := by
  have hb := H_bd t
  unfold shareS
  by_cases c : H t < 0
  · rw [if_pos c]
    have := share0_top (t := -H t) (by omega) ws i hi
    omega
  · rw [if_neg c]
    have := share0_top (t := H t) (by omega) ws i hi
    omega

/-- what is free, told over the whole list -/
def freeR (L : Nat → It) (room : Int) (U : Nat → Bool) (out : Nat → Int) (n : Nat) : Int := room - fsum (fun i => (L i).g + (if U i = true then (L i).b else out i)) n
def facR (g : Bool) (L : Nat → It) (U : Nat → Bool) (n : Nat) : Int := fsum (fun i => if U i = true then facI g (L i) else 0) n
def dealR (g : Bool) (L : Nat → It) (room first : Int) (U : Nat → Bool) (out : Nat → Int) (n : Nat) : Int := dealtF first (freeR L room U out n) (facR g L U n)
def shR (g : Bool) (L : Nat → It) (room first : Int) (U : Nat → Bool) (out : Nat → Int) (n i : Nat) : Int := shareS (dealR g L room first U out n) (wideU U (fun i => wgtI g (L i)) n) i
def lenR (L : Nat → It) (sh : Nat → Int) (i : Nat) : Int := clI (L i) (H ((L i).b + sh i))
def brR (L : Nat → It) (U : Nat → Bool) (sh : Nat → Int) (i : Nat) : Int := if U i = true then lenR L sh i - H ((L i).b + sh i) else 0
def endR (L : Nat → It) (U : Nat → Bool) (sh : Nat → Int) (n i : Nat) : Bool := endsF (fsum (brR L U sh) n) (brR L U sh i)
def nextU (L : Nat → It) (U : Nat → Bool) (sh : Nat → Int) (n i : Nat) : Bool := U i && !endR L U sh n i
def nextO (L : Nat → It) (U : Nat → Bool) (sh : Nat → Int) (out : Nat → Int) (n i : Nat) : Int := if (U i && endR L U sh n i) = true then lenR L sh i else out i

/-- a line that is being resolved is told by who is undecided and by the lengths -/
structure RelF (n : Nat) (L : Nat → It) (room : Int) (U : Nat → Bool) (out : Nat → Int) (s : FSt) : Prop where
  lo : s.loose = looseU U n
  le : ∀ i, i < n → s.len i = out i
  fr : s.free = freeR L room U out n

theorem fold_loose (B : Nat → Int) (U : Nat → Bool) (x : Nat → Int) (e : Nat → Bool) (s : FSt) : ∀ k,
    (((looseU U k).map (fun i => (i, x i, e i))).foldl (stepF B) ⟨s.len, [], s.free⟩).loose = looseU (fun i => U i && !e i) k ∧
    (∀ i, (((looseU U k).map (fun i => (i, x i, e i))).foldl (stepF B) ⟨s.len, [], s.free⟩).len i = if i < k ∧ (U i && e i) = true then x i else s.len i) ∧
    (((looseU U k).map (fun i => (i, x i, e i))).foldl (stepF B) ⟨s.len, [], s.free⟩).free = s.free + fsum (fun i => if (U i && e i) = true then B i - x i else 0) k
  | 0 => by
    refine ⟨rfl, fun i => ?_, ?_⟩
    · rw [if_neg (by omega)]; rfl
    · simp [looseU, fsum]
  | k + 1 => by
    obtain ⟨h1, h2, h3⟩ := fold_loose B U x e s k
    rw [looseU_succ, List.map_append, List.foldl_append]
    generalize ((looseU U k).map (fun i => (i, x i, e i))).foldl (stepF B) ⟨s.len, [], s.free⟩ = z at h1 h2 h3
    rw [looseU_succ]
    simp only [fsum]
    cases hu : U k
    · simp only [Bool.false_and, if_neg (show ¬(false = true) by decide), List.map_nil, List.foldl_nil, List.append_nil]
      refine ⟨h1, fun i => ?_, by omega⟩
      rw [h2]
      by_cases c : i = k
      · subst c; rw [if_neg (by omega), if_neg (by simp [hu])]
      · by_cases d : i < k ∧ (U i && e i) = true
        · rw [if_pos d, if_pos ⟨by omega, d.2⟩]
        · rw [if_neg d, if_neg (fun q => d ⟨by omega, q.2⟩)]
    · simp only [Bool.true_and, if_true, List.map_cons, List.map_nil, List.foldl_cons, List.foldl_nil]
      cases he : e k
      · have hz : stepF B z (k, x k, false) = stay z k := rfl
        rw [hz]
        simp only [Bool.not_false, if_true, if_neg (show ¬(false = true) by decide)]
        refine ⟨by simp only [stay]; rw [h1], fun i => ?_, by simp only [stay]; omega⟩
        simp only [stay]
        rw [h2]
        by_cases c : i = k
        · subst c; rw [if_neg (by omega), if_neg (by simp [he])]
        · by_cases d : i < k ∧ (U i && e i) = true
          · rw [if_pos d, if_pos ⟨by omega, d.2⟩]
          · rw [if_neg d, if_neg (fun q => d ⟨by omega, q.2⟩)]
      · have hz : stepF B z (k, x k, true) = frz B z k (x k) := rfl
        rw [hz]
        simp only [Bool.not_true, if_true, if_neg (show ¬(false = true) by decide), List.append_nil]
        refine ⟨by simp only [frz]; rw [h1], fun i => ?_, by simp only [frz]; omega⟩
        simp only [frz]
        by_cases c : i = k
        · subst c; rw [if_pos rfl, if_pos ⟨by omega, by simp [hu, he]⟩]
        · rw [if_neg c, h2]
          by_cases d : i < k ∧ (U i && e i) = true
          · rw [if_pos d, if_pos ⟨by omega, d.2⟩]
          · rw [if_neg d, if_neg (fun q => d ⟨by omega, q.2⟩)]
theorem fsum_sub (f g : Nat → Int) : ∀ n, fsum (fun i => f i - g i) n = fsum f n - fsum g n
  | 0 => rfl
  | n + 1 => by simp only [fsum]; rw [fsum_sub f g n]; omega

theorem range_loose {α : Type} (U : Nat → Bool) (n : Nat) (p : Nat → α) (q : Nat → α) (h : ∀ j, j < (looseU U n).length → q j = p ((looseU U n).getD j 0)) :
    (List.range (looseU U n).length).map q = (looseU U n).map p := by
  refine List.ext_getElem (by simp) (fun j h1 h2 => ?_)
  have hj : j < (looseU U n).length := by simpa using h2
  have e : (looseU U n).getD j 0 = (looseU U n)[j] := by simp [List.getD, hj]
  simp only [List.getElem_map, List.getElem_range]
  rw [h j hj, e]

/-- one round, told over the whole list -/
theorem round_same {n : Nat} {L : Nat → It} (g : Bool) {room : Int} (first : Int) {U : Nat → Bool} {out : Nat → Int} {s : FSt} (hL : ∀ i, HeldI (L i)) (h : RelF n L room U out s) :
    RelF n L room (nextU L U (shR g L room first U out n) n) (nextO L U (shR g L room first U out n) out n) (roundF g L first s) := by
  obtain ⟨sh, hsh⟩ : ∃ sh, shR g L room first U out n = sh := ⟨_, rfl⟩
  have hfac : fsumL (fun i => facI g (L i)) (looseU U n) = facR g L U n := fsumL_loose U _ n
  have hs : ∀ j, j < (looseU U n).length → sharesF g L first s j = sh ((looseU U n).getD j 0) := fun j hj => by
    unfold sharesF
    rw [h.lo, h.fr, hfac, ← hsh]
    exact (share_same _ U (fun i => wgtI g (L i)) n j hj).symm
  have ht : ∀ i, i < n → -1073741824 ≤ sh i ∧ sh i ≤ 1073741824 := fun i hi => by
    rw [← hsh]
    unfold shR dealR dealtF
    have hw : i < (wideU U (fun i => wgtI g (L i)) n).length := by rw [wideU_len]; exact hi
    split
    · split
      · exact shareS_top _ _ i hw
      · exact shareS_top _ _ i hw
    · exact shareS_top _ _ i hw
  have htr : ∀ j, j < (looseU U n).length → trialF g L first s j = ((looseU U n).getD j 0, lenR L sh ((looseU U n).getD j 0), brR L U sh ((looseU U n).getD j 0)) := fun j hj => by
    have hi := loose_in U n j hj
    unfold trialF tryF
    rw [hs j hj, h.lo]
    generalize (looseU U n).getD j 0 = i at hi
    have hb := (hL i)
    have := ht i hi.1
    simp only
    rw [H_id hb.b0 hb.b1, H_id this.1 this.2]
    unfold lenR brR lenR
    rw [if_pos hi.2]
  have hbr : breachF g L first s s.loose.length = fsum (brR L U sh) n := by
    unfold breachF
    rw [h.lo, fsum_ext (g := fun j => brR L U sh ((looseU U n).getD j 0)) _ (fun j hj => by simp only [htr j hj]), fsum_loose]
    exact fsum_ext _ (fun i _ => by
      by_cases c : U i = true
      · rw [if_pos c]
      · rw [if_neg c]; unfold brR; rw [if_neg c])
  have hR : roundF g L first s = ((looseU U n).map (fun i => (i, lenR L sh i, endR L U sh n i))).foldl (stepF (fun i => (L i).b)) ⟨s.len, [], s.free⟩ := by
    unfold roundF roundTo
    rw [hbr, h.lo, range_loose U n (fun i => (i, lenR L sh i, endR L U sh n i)) _ (fun j hj => by simp only [htr j hj]; rfl)]
  rw [hsh, hR]
  obtain ⟨k1, k2, k3⟩ := fold_loose (fun i => (L i).b) U (lenR L sh) (endR L U sh n) s n
  refine ⟨k1, fun i hi => ?_, ?_⟩
  · rw [k2]
    unfold nextO
    by_cases c : (U i && endR L U sh n i) = true
    · rw [if_pos ⟨hi, c⟩, if_pos c]
    · rw [if_neg (fun q => c q.2), if_neg c, h.le i hi]
  · rw [k3, h.fr]
    unfold freeR
    have e : fsum (fun i => (L i).g + (if nextU L U sh n i = true then (L i).b else nextO L U sh out n i)) n
        = fsum (fun i => (L i).g + (if U i = true then (L i).b else out i)) n - fsum (fun i => if (U i && endR L U sh n i) = true then (L i).b - lenR L sh i else 0) n := by
      rw [← fsum_sub]
      refine fsum_ext _ (fun i _ => ?_)
      unfold nextU nextO
      cases U i <;> cases endR L U sh n i <;> simp <;> omega
    rw [e]; omega

/-- ahead of all rounds -/
def openU (g : Bool) (L : Nat → It) (i : Nat) : Bool := !stiffI g (L i)
def openO (g : Bool) (L : Nat → It) (i : Nat) : Int := if stiffI g (L i) = true then wsh (L i) else 0
theorem looseU_true (n : Nat) : looseU (fun _ => true) n = List.range n := by
  unfold looseU
  exact List.filter_eq_self.2 (fun _ _ => rfl)
theorem start_same (g : Bool) (L : Nat → It) (room : Int) (n : Nat) : RelF n L room (openU g L) (openO g L) (startF g L room n n) := by
  obtain ⟨k1, k2, k3⟩ := fold_loose (fun i => (L i).b) (fun _ => true) (fun i => wsh (L i)) (fun i => stiffI g (L i)) (begin0 L room n) n
  rw [looseU_true] at k1 k2 k3
  refine ⟨k1, fun i hi => (k2 i).trans ?_, k3.trans ?_⟩
  · unfold openO
    simp only [Bool.true_and]
    by_cases c : stiffI g (L i) = true
    · rw [if_pos ⟨hi, c⟩, if_pos c]
    · rw [if_neg (fun q => c q.2), if_neg c]; rfl
  · unfold freeR
    show free0 L room n + _ = _
    unfold free0
    have e : fsum (fun i => (L i).g + (if openU g L i = true then (L i).b else openO g L i)) n
        = fsum (fun i => (L i).g + (L i).b) n - fsum (fun i => if (true && stiffI g (L i)) = true then (L i).b - wsh (L i) else 0) n := by
      rw [← fsum_sub]
      refine fsum_ext _ (fun i _ => ?_)
      unfold openU openO
      cases stiffI g (L i) <;> simp
      omega
    rw [e]; omega
end Go.Proofs.Ytaegajlffiepoaa
