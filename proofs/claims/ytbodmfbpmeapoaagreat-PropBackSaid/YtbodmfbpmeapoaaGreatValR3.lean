/- Layer 9's reference: Parse, Same. -/
import Derived.Test.YtbodmfbpmeapoaaGreatValR1
import Derived.Test.YtbodmfbpmeapoaaGreatValWf
namespace Go.Proofs.YtbodmfbpmeapoaaGreat
open Go.RowKit TreN LexP FixP SynP ValP FixM
set_option linter.unusedVariables false

theorem bs_nil_all : ∀ {r : List Tok}, bs r = [] → ∀ t ∈ r, isSp t = true
  | [], _, t, ht => by cases ht
  | u :: r, h, t, ht => by
    by_cases hu : u.kind = 20
    · rw [bs_sp hu] at h
      rcases List.mem_cons.1 ht with rfl | ht
      · exact isSp_t hu
      · exact bs_nil_all h t ht
    · rw [bs_no hu] at h; cases h
/-- what is trimmed does not end with a Space -/
theorem noTail {L r : List Tok} (hs : r <:+ trm L) (h0 : r ≠ []) : bs r ≠ [] := by
  intro hb
  have hall := bs_nil_all hb
  unfold trm es at hs
  have hp : r.reverse <+: (bs L).reverse.dropWhile isSp := by
    have := List.reverse_prefix.2 hs
    rwa [List.reverse_reverse] at this
  obtain ⟨z, hz⟩ := hp
  cases hr : r.reverse with
  | nil => exact h0 (by simpa using hr)
  | cons t q =>
    rw [hr] at hz
    have h1 : isSp t = true := hall t (by rw [← List.mem_reverse, hr]; simp)
    have h2 : ((bs L).reverse.dropWhile isSp).head? = some t := by rw [← hz]; rfl
    have h3 := List.head?_dropWhile_not isSp (bs L).reverse
    rw [h2] at h3
    simp [h1] at h3

/-- where the reference's Parse stands -/
def RvAt (L : List Tok) (acc : List Val) (at_ : Nat) : Prop :=
  at_ ≤ (trm L).length ∧ acc.length ≤ at_ ∧ if at_ < (trm L).length ∨ at_ = 0 then parseV L = (pv (((trm L).drop at_).length + 1) ((trm L).drop at_)).map (acc ++ ·) else parseV L = some acc
theorem rvAt_start (L : List Tok) : RvAt L [] 0 := by
  refine ⟨Nat.zero_le _, Nat.le_refl _, ?_⟩
  rw [if_pos (Or.inr rfl)]
  show pv ((trm L).length + 1) (trm L) = _
  rw [List.drop_zero]
  cases pv ((trm L).length + 1) (trm L) <;> rfl
theorem RvAt.fail {L : List Tok} {acc : List Val} {i : Nat} (h : RvAt L acc i) (hi : i < (trm L).length ∨ i = 0) (hr : (readV ((trm L).drop i)).2 = 0) : parseV L = none := by
  obtain ⟨h1, h2, h3⟩ := h
  rw [if_pos hi] at h3
  rw [h3]
  have e : pv (((trm L).drop i).length + 1) ((trm L).drop i) = none := by
    show (if (readV ((trm L).drop i)).2 = 0 then none else _) = none
    rw [if_pos hr]
  rw [e]; rfl
theorem RvAt.step {L : List Tok} {acc : List Val} {i q : Nat} {v : Val} (h : RvAt L acc i) (hi : i < (trm L).length ∨ i = 0) (hv : (readV ((trm L).drop i)).1 = v) (hq : (readV ((trm L).drop i)).2 = q) (h0 : 0 < q) :
    i + q ≤ (trm L).length ∧ (i + q < (trm L).length → isP (trm L) (i + q) 20 = false → parseV L = none) ∧ ((i + q = (trm L).length ∨ isP (trm L) (i + q) 20 = true) → RvAt L (acc ++ [v]) (skipN (trm L) (i + q))) := by
  obtain ⟨h1, h2, h3⟩ := h
  rw [if_pos hi, pv_step (by omega), hv, hq, List.drop_drop] at h3
  have hle : i + q ≤ (trm L).length := by
    have := readV_le ((trm L).drop i)
    rw [hq, List.length_drop] at this
    omega
  refine ⟨hle, fun hlt hn => ?_, fun hor => ?_⟩
  · rw [isP_lt hlt, decide_eq_false_iff_not] at hn
    rw [h3, List.drop_eq_getElem_cons hlt, bs_no hn, if_neg (by omega), if_neg (List.cons_ne_nil _ _)]; rfl
  · have hsk := skipN_drop (trm L) (i + q)
    have hge := skipN_ge (trm L) (i + q)
    have hsl := skipN_le hle
    refine ⟨hsl, by rw [List.length_append, List.length_singleton]; omega, ?_⟩
    rcases hor with he | hsp
    · have hd : (trm L).drop (i + q) = [] := List.drop_of_length_le (by omega)
      rw [hd] at h3 hsk
      have hlen := congrArg List.length hsk
      rw [List.length_drop] at hlen
      have hb : bs ([] : List Tok) = [] := rfl
      rw [hb] at hlen h3
      simp at hlen
      rw [if_neg (by omega), h3]; rfl
    · have hlt : i + q < (trm L).length := by
        by_cases c : i + q < (trm L).length
        · exact c
        · rw [isP_ge (by omega)] at hsp; cases hsp
      rw [isP_lt hlt, decide_eq_true_eq] at hsp
      have hd := List.drop_eq_getElem_cons hlt
      have hbl : (bs ((trm L).drop (i + q))).length < ((trm L).drop (i + q)).length := by
        rw [hd, bs_sp hsp]
        have := bs_len ((trm L).drop (i + q + 1))
        simp only [List.length_cons]; omega
      rw [if_pos hbl] at h3
      have hne : bs ((trm L).drop (i + q)) ≠ [] := noTail (List.drop_suffix _ _) (by rw [hd]; exact List.cons_ne_nil _ _)
      have hlt2 : skipN (trm L) (i + q) < (trm L).length := by
        by_cases c : skipN (trm L) (i + q) < (trm L).length
        · exact c
        · exact absurd (by rw [← hsk, List.drop_of_length_le (by omega)]) hne
      rw [if_pos (Or.inl hlt2), h3, hsk, Option.map_map]
      congr 1
      funext z
      simp

/-- values lie there -/
def Vs (w : World) (a : Option Addr) (l : List Val) : Prop := l = [] ∨ ∃ b o, a = some ⟨b, o, none⟩ ∧ b < w.heap.size ∧ ∀ i (h : i < l.length), w.cell? ⟨b, o + i * 4, none⟩ = some (.int .i64 l[i].kind) ∧ w.cell? ⟨b, o + i * 4 + 1, none⟩ = some (.int .i64 l[i].n) ∧ w.cell? ⟨b, o + i * 4 + 2, none⟩ = some (.int .i64 l[i].d) ∧ w.cell? ⟨b, o + i * 4 + 3, none⟩ = some (.string ⟨l[i].name.toArray⟩)
theorem Vs.below {w w' : World} {a : Option Addr} {l : List Val} (h : Vs w a l) (hb : Below w.heap.size w w') : Vs w' a l := by
  rcases h with h | ⟨b, o, e, hl, hc⟩
  · exact Or.inl h
  · refine Or.inr ⟨b, o, e, Nat.lt_of_lt_of_le hl hb.size, fun i hi => ?_⟩
    obtain ⟨h1, h2, h3, h4⟩ := hc i hi
    exact ⟨(hb.cell (p := ⟨b, o + i * 4, none⟩) hl).trans h1, (hb.cell (p := ⟨b, o + i * 4 + 1, none⟩) hl).trans h2, (hb.cell (p := ⟨b, o + i * 4 + 2, none⟩) hl).trans h3, (hb.cell (p := ⟨b, o + i * 4 + 3, none⟩) hl).trans h4⟩
theorem Vls.vs {w : World} {v : Value} {l : List Val} (h : Vls w v l) : ∃ a c, v = .slice a l.length c ∧ Vs w a l ∧ l.length ≤ c ∧ c ≤ maxLen := by
  obtain ⟨base, h⟩ := h
  by_cases h0 : l.length = 0
  · have hl : l = [] := List.eq_nil_of_length_eq_zero h0
    rcases h.2 with ⟨hv, _⟩ | ⟨g, cap, cur, hv, _, _, h1, h2, _⟩
    · exact ⟨none, 0, by rw [hv, h0], Or.inl hl, by omega, Nat.zero_le _⟩
    · exact ⟨_, cap, hv, Or.inl hl, h1, h2⟩
  · obtain ⟨g, cap, hv, hg, hgl⟩ := h.form (by omega)
    have hcap : l.length ≤ cap ∧ cap ≤ maxLen := by
      rcases h.2 with ⟨_, hz⟩ | ⟨g', cap', cur, hv', _, _, h1, h2, _⟩
      · omega
      · rw [hv] at hv'
        injection hv' with _ _ hc
        subst hc
        exact ⟨h1, h2⟩
    refine ⟨_, cap, hv, Or.inr ⟨g, 0, rfl, hgl, fun i hi => ?_⟩, hcap⟩
    subst hv
    obtain ⟨k1, k2, k3, k4⟩ := vcs_get l i hi
    rw [Nat.zero_add]
    exact ⟨by rw [h.cellAt _ (by omega), k1], by rw [h.cellAt _ (by omega), k2], by rw [h.cellAt _ (by omega), k3], by rw [h.cellAt _ (by omega), k4]⟩

end Go.Proofs.YtbodmfbpmeapoaaGreat
