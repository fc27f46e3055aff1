/- Layer 9, pure: what is written is read. -/
import Derived.Test.YthfabalnioggcaaValP
import Derived.Test.YthfabalnioggcaaSynR2
namespace Go.Proofs.Ythfabalnioggcaa.ValP
open FixM FixP TreN LexP SynP
set_option linter.unusedVariables false

theorem words_back : ∀ k : Fin 30, wordP (wordsL.getD k.val []) = k.val + 1 := by decide +kernel
theorem units_back : ∀ k : Fin 8, unitP (unitsL.getD k.val []) = k.val + 1 := by decide +kernel
theorem txt_nat {L : List (List UInt8)} {n : Int} (h1 : 1 ≤ n) (h2 : n ≤ L.length) : txtP L n = L.getD (n.toNat - 1) [] := by unfold txtP; rw [if_pos ⟨h1, h2⟩]
theorem word_txt {n : Int} (h1 : 1 ≤ n) (h2 : n ≤ 30) : wordP (txtP wordsL n) = n.toNat := by
  rw [txt_nat h1 (by show n ≤ 30; exact h2)]
  have := words_back ⟨n.toNat - 1, by omega⟩
  have e : (⟨n.toNat - 1, by omega⟩ : Fin 30).val = n.toNat - 1 := rfl
  rw [e] at this
  rw [this]; omega
theorem unit_txt {n : Int} (h1 : 1 ≤ n) (h2 : n ≤ 8) : unitP (txtP unitsL n) = n.toNat := by
  rw [txt_nat h1 (by show n ≤ 8; exact h2)]
  have := units_back ⟨n.toNat - 1, by omega⟩
  have e : (⟨n.toNat - 1, by omega⟩ : Fin 8).val = n.toNat - 1 := rfl
  rw [e] at this
  rw [this]; omega

/-- what a right value is -/
inductive RV : Val → List Tok → Prop
  | word (n : Int) : 1 ≤ n → n ≤ 30 → RV ⟨1, n, 0, []⟩ [⟨1, txtP wordsL n, 0⟩]
  | len (n d : Int) : n = H n → 1 ≤ d → d ≤ 8 → RV ⟨2, n, d, []⟩ [⟨9, txtP unitsL d, n⟩]
  | pct (n : Int) : n = H n → RV ⟨3, n, 0, []⟩ [⟨8, [], n⟩]
  | num (n : Int) : n = H n → RV ⟨4, n, 0, []⟩ [⟨7, [], n⟩]
  | rat (n d : Int) : 0 ≤ n → n ≤ 1073741824 → 0 ≤ d → d ≤ 1073741824 → RV ⟨5, n, d, []⟩ (ratT n d)
  | name (x : List UInt8) : nameL x = true → wordP x = 0 → RV ⟨6, 0, 0, x⟩ [⟨1, x, 0⟩]
theorem rv_of {v : Val} (h : rightV v = true) : RV v (tokV v) := by
  obtain ⟨k, n, d, nm⟩ := v
  unfold tokV
  rw [if_pos h]
  unfold rightV at h
  dsimp only at h ⊢
  by_cases h1 : k = 1
  · subst h1
    rw [if_pos rfl] at h ⊢
    simp only [decide_eq_true_eq] at h
    obtain ⟨rfl, rfl, a, b⟩ := h
    exact RV.word n a b
  rw [if_neg h1] at h ⊢
  by_cases h2 : k = 2
  · subst h2
    rw [if_pos rfl] at h ⊢
    simp only [decide_eq_true_eq] at h
    obtain ⟨a, b, c, rfl⟩ := h
    exact RV.len n d a b c
  rw [if_neg h2] at h ⊢
  by_cases h3 : k = 3
  · subst h3
    rw [if_pos (Or.inl rfl)] at h
    rw [if_pos rfl]
    simp only [decide_eq_true_eq] at h
    obtain ⟨a, rfl, rfl⟩ := h
    exact RV.pct n a
  by_cases h4 : k = 4
  · subst h4
    rw [if_pos (Or.inr rfl)] at h
    rw [if_neg h3, if_pos rfl]
    simp only [decide_eq_true_eq] at h
    obtain ⟨a, rfl, rfl⟩ := h
    exact RV.num n a
  rw [if_neg (by omega)] at h
  rw [if_neg h3, if_neg h4]
  by_cases h5 : k = 5
  · subst h5
    rw [if_pos rfl] at h ⊢
    simp only [decide_eq_true_eq] at h
    obtain ⟨a, b, c, e, rfl⟩ := h
    exact RV.rat n d a b c e
  rw [if_neg h5] at h ⊢
  by_cases h6 : k = 6
  · subst h6
    rw [if_pos rfl] at h
    simp only [decide_eq_true_eq] at h
    obtain ⟨rfl, rfl, a, b⟩ := h
    exact RV.name nm a b
  · rw [if_neg h6] at h; cases h
theorem tok_head {v : Val} {l : List Tok} (h : RV v l) : ∃ t r, l = t :: r ∧ t.kind ≠ 20 ∧ t.kind ≠ 19 := by
  cases h <;> exact ⟨_, _, rfl, by simp, by simp⟩
theorem tok_last {v : Val} {l : List Tok} (h : RV v l) : ∃ m u, l = m ++ [u] ∧ u.kind ≠ 20 := by
  cases h with
  | rat n d a b c e => exact ⟨[⟨7, [], n⟩, ⟨20, [], 0⟩, ⟨19, [47], 0⟩, ⟨20, [], 0⟩], ⟨7, [], d⟩, rfl, by simp⟩
  | word n a b => exact ⟨[], ⟨1, txtP wordsL n, 0⟩, rfl, by simp⟩
  | len n d a b c => exact ⟨[], ⟨9, txtP unitsL d, n⟩, rfl, by simp⟩
  | pct n a => exact ⟨[], ⟨8, [], n⟩, rfl, by simp⟩
  | num n a => exact ⟨[], ⟨7, [], n⟩, rfl, by simp⟩
  | name x a b => exact ⟨[], ⟨1, x, 0⟩, rfl, by simp⟩
theorem over_no {z : List Tok} (h : ∀ t r, bs z = t :: r → t.kind ≠ 19) : overP z = none := by
  unfold overP
  have : passP 19 [47] (bs z) = none := by
    cases hb : bs z with
    | nil => rfl
    | cons t r =>
      unfold passP
      split
      · show (if t.kind = 19 then some (t, r) else none).map Prod.snd = none
        rw [if_neg (h t r hb)]; rfl
      · rfl
  rw [this]; rfl
theorem over_rat (n d : Int) (z : List Tok) : overP ([⟨20, [], 0⟩, ⟨19, [47], 0⟩, ⟨20, [], 0⟩, ⟨7, [], d⟩] ++ z) = some (⟨7, [], d⟩, z) := by
  have h1 : bs ([⟨20, [], 0⟩, ⟨19, [47], 0⟩, ⟨20, [], 0⟩, ⟨7, [], d⟩] ++ z) = ⟨19, [47], 0⟩ :: ⟨20, [], 0⟩ :: ⟨7, [], d⟩ :: z := rfl
  have h2 : bs ((⟨20, [], 0⟩ : Tok) :: ⟨7, [], d⟩ :: z) = ⟨7, [], d⟩ :: z := rfl
  unfold overP
  rw [h1]
  have h3 : passP 19 [47] (⟨19, [47], 0⟩ :: ⟨20, [], 0⟩ :: ⟨7, [], d⟩ :: z) = some (⟨20, [], 0⟩ :: ⟨7, [], d⟩ :: z) := rfl
  rw [h3]
  show takeP 7 (bs ((⟨20, [], 0⟩ : Tok) :: ⟨7, [], d⟩ :: z)) = _
  rw [h2]; rfl
theorem raw_tok {v : Val} {l : List Tok} (h : RV v l) {z : List Tok} (hz : overP z = none) : rawV (l ++ z) = (v, z) := by
  cases h with
  | word n a b =>
    show (namedV (txtP wordsL n), z) = _
    unfold namedV
    rw [word_txt a b, if_pos (by omega)]
    congr 2; omega
  | len n d a b c =>
    show ((⟨2, n, unitP (txtP unitsL d), []⟩ : Val), z) = _
    rw [unit_txt b c]
    congr 2; omega
  | pct n a => rfl
  | num n a =>
    show (match overP z with | some (u, r2) => ((⟨5, n, u.n, []⟩ : Val), r2) | none => (⟨4, n, 0, []⟩, z)) = _
    rw [hz]
  | rat n d a b c e =>
    show (match overP (([⟨20, [], 0⟩, ⟨19, [47], 0⟩, ⟨20, [], 0⟩, ⟨7, [], d⟩] : List Tok) ++ z) with | some (u, r2) => ((⟨5, n, u.n, []⟩ : Val), r2) | none => (⟨4, n, 0, []⟩, ([⟨20, [], 0⟩, ⟨19, [47], 0⟩, ⟨20, [], 0⟩, ⟨7, [], d⟩] : List Tok) ++ z)) = _
    rw [over_rat n d z]
  | name x a b =>
    show (namedV x, z) = _
    unfold namedV
    rw [b, if_neg (by omega)]
theorem read_tok {v : Val} (h : rightV v = true) {z : List Tok} (hz : overP z = none) : readV (tokV v ++ z) = (v, (tokV v).length) := by
  unfold readV
  rw [raw_tok (rv_of h) hz]
  dsimp only
  rw [if_pos h, List.length_append]
  congr 1; omega
theorem over_nil : overP [] = none := rfl
theorem over_semi (z : List Tok) : overP (⟨11, [], 0⟩ :: z) = none := over_no fun t r h => by
  rw [bs_no (by simp)] at h
  injection h with h1 _
  subst h1; simp
/-- values with two Spaces between -/
def spc : Tok := ⟨20, [], 0⟩
def tailJ (r : List Val) : List Tok := r.flatMap fun u => spc :: spc :: tokV u
def joinJ : List Val → List Tok
  | [] => []
  | v :: r => tokV v ++ tailJ r
theorem joinJ_snoc (l : List Val) (v : Val) : joinJ (l ++ [v]) = (joinJ l ++ (if l = [] then [] else [spc, spc])) ++ tokV v := by
  cases l with
  | nil => simp [joinJ, tailJ]
  | cons u r => simp [joinJ, tailJ]
theorem bs_two {l : List Tok} {t : Tok} {r : List Tok} (h : l = t :: r) (ht : t.kind ≠ 20) : bs (spc :: spc :: l) = l := by
  rw [bs_sp rfl, bs_sp rfl, h, bs_no ht]
theorem over_tail {r : List Val} (h : ∀ v ∈ r, rightV v = true) : overP (tailJ r) = none := by
  cases r with
  | nil => rfl
  | cons u r =>
    obtain ⟨t, q, e, h20, h19⟩ := tok_head (rv_of (h u (by simp)))
    refine over_no fun t' r' hb => ?_
    have e2 : tailJ (u :: r) = spc :: spc :: (tokV u ++ tailJ r) := by simp [tailJ]
    rw [e2, bs_two (t := t) (r := q ++ tailJ r) (by rw [e]; rfl) h20, e] at hb
    injection hb with hb _
    subst hb; exact h19
theorem pv_join : ∀ (r : List Val) (v : Val) (f : Nat), rightV v = true → (∀ u ∈ r, rightV u = true) → (tokV v ++ tailJ r).length < f → pv f (tokV v ++ tailJ r) = some (v :: r)
  | r, v, 0, _, _, hf => by omega
  | [], v, f + 1, hv, hr, hf => by
    have h1 := read_tok hv (z := tailJ []) rfl
    unfold pv
    obtain ⟨t, q, e, _, _⟩ := tok_head (rv_of hv)
    have hl : 0 < (tokV v).length := by rw [e]; simp
    have hd : (tokV v ++ tailJ []).drop (tokV v).length = [] := by rw [List.drop_left]; rfl
    rw [h1]
    dsimp only
    rw [hd, if_neg (by omega), if_neg (by simp [bs]), if_pos rfl]
  | u :: r, v, f + 1, hv, hr, hf => by
    have h1 := read_tok hv (over_tail hr)
    have hu := hr u (by simp)
    obtain ⟨t, q, e, h20, _⟩ := tok_head (rv_of hu)
    have e2 : tailJ (u :: r) = spc :: spc :: (tokV u ++ tailJ r) := by simp [tailJ]
    have hb : bs (tailJ (u :: r)) = tokV u ++ tailJ r := by
      rw [e2, bs_two (t := t) (r := q ++ tailJ r) (by rw [e]; rfl) h20]
    obtain ⟨t0, q0, e0, _, _⟩ := tok_head (rv_of hv)
    have hl : 0 < (tokV v).length := by rw [e0]; simp
    have hlen : (tailJ (u :: r)).length = (tokV u ++ tailJ r).length + 2 := by rw [e2]; simp
    unfold pv
    rw [h1]
    dsimp only
    rw [List.drop_left, hb, if_neg (by omega), if_pos (by omega), pv_join r u f hu (fun x hx => hr x (List.mem_cons_of_mem _ hx)) (by rw [List.length_append] at hf; omega)]
    rfl
theorem tailJ_last : ∀ (r : List Val) (v : Val), rightV v = true → (∀ u ∈ r, rightV u = true) → ∃ m u, tokV v ++ tailJ r = m ++ [u] ∧ u.kind ≠ 20
  | [], v, hv, _ => by
    obtain ⟨m, u, e, h⟩ := tok_last (rv_of hv)
    exact ⟨m, u, by rw [e]; simp [tailJ], h⟩
  | x :: r, v, hv, hr => by
    obtain ⟨m, u, e, h⟩ := tailJ_last r x (hr x (by simp)) (fun y hy => hr y (List.mem_cons_of_mem _ hy))
    have e2 : tailJ (x :: r) = spc :: spc :: (tokV x ++ tailJ r) := by simp [tailJ]
    exact ⟨tokV v ++ spc :: spc :: m, u, by rw [e2, e]; simp, h⟩
theorem parse_join {l : List Val} (h0 : l ≠ []) (h : ∀ v ∈ l, rightV v = true) : parseV (joinJ l) = some l := by
  cases l with
  | nil => exact absurd rfl h0
  | cons v r =>
    have hv := h v (by simp)
    have hr : ∀ u ∈ r, rightV u = true := fun u hu => h u (List.mem_cons_of_mem _ hu)
    obtain ⟨t, q, e, h20, _⟩ := tok_head (rv_of hv)
    obtain ⟨m, u, e2, hu⟩ := tailJ_last r v hv hr
    have htr : trm (tokV v ++ tailJ r) = tokV v ++ tailJ r := by
      have e3 : tokV v ++ tailJ r = t :: (q ++ tailJ r) := by rw [e]; rfl
      rw [e3]
      exact trm_keep h20 hu (by rw [← e3]; exact e2)
    show pv ((trm (tokV v ++ tailJ r)).length + 1) (trm (tokV v ++ tailJ r)) = _
    rw [htr]
    exact pv_join r v _ hv hr (by omega)
theorem tok_texts {v : Val} {l : List Tok} (h : RV v l) : l.length ≤ 5 ∧ ∀ t ∈ l, t.text.length ≤ 32 := by
  have hw : ∀ x ∈ wordsL, x.length ≤ 32 := by decide +kernel
  have hu : ∀ x ∈ unitsL, x.length ≤ 32 := by decide +kernel
  have htx : ∀ (L : List (List UInt8)), (∀ x ∈ L, x.length ≤ 32) → ∀ n : Int, (txtP L n).length ≤ 32 := by
    intro L hL n
    unfold txtP
    split
    · rename_i hh
      rw [List.getD_eq_getElem?_getD, List.getElem?_eq_getElem (by omega)]
      exact hL _ (by simp)
    · simp
  cases h with
  | word n a b => exact ⟨by simp, fun t ht => by rw [List.mem_singleton] at ht; subst ht; exact htx _ hw n⟩
  | len n d a b c => exact ⟨by simp, fun t ht => by rw [List.mem_singleton] at ht; subst ht; exact htx _ hu d⟩
  | pct n a => exact ⟨by simp, fun t ht => by rw [List.mem_singleton] at ht; subst ht; exact Nat.zero_le _⟩
  | num n a => exact ⟨by simp, fun t ht => by rw [List.mem_singleton] at ht; subst ht; exact Nat.zero_le _⟩
  | rat n d a b c e =>
    refine ⟨by simp [ratT], fun t ht => ?_⟩
    simp only [ratT, List.mem_cons, List.not_mem_nil, or_false] at ht
    rcases ht with rfl | rfl | rfl | rfl | rfl <;> simp
  | name x a b =>
    refine ⟨by simp, fun t ht => ?_⟩
    rw [List.mem_singleton] at ht; subst ht
    unfold nameL nameB at a
    simp only [Bool.and_eq_true, decide_eq_true_eq] at a
    exact a.1
end Go.Proofs.Ythfabalnioggcaa.ValP
