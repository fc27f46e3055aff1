/- Plain lists for layer 1's texts: both ways of reading a number come to the same. Nothing of the program is imported. -/
import Derived.Test.YtpkhmagjdlpbjaaFixN
namespace Go.Proofs.Ytpkhmagjdlpbjaa.FixP
open FixM

theorem H_cap {v d : Int} (hv : 0 ≤ v) (h0 : 0 ≤ d) (h9 : d ≤ 9) : H (H v * 10 + d) = H (if 1125899906842624 < v * 10 + d then 1125899906842624 else v * 10 + d) := by
  unfold H; repeat' split <;> omega
theorem H_ten {v : Int} (hv : 0 ≤ v) : H (H v * 10) = H (v * 10) := by
  unfold H; repeat' split <;> omega
theorem zer_mul (v : Int) (hv : 0 ≤ v) : ∀ k, zer (H v) k = H (mul10 v k) ∧ 0 ≤ mul10 v k
  | 0 => ⟨rfl, hv⟩
  | k + 1 => by
    have h := zer_mul v hv k
    simp only [zer, mul10]
    rw [h.1]
    exact ⟨H_ten h.2, by have := h.2; omega⟩
theorem sgnd_H (l : List UInt8) (x : Int) : sgnd l (H x) = H (sgnd l x) := by
  unfold sgnd
  cases l with
  | nil => rfl
  | cons c l => simp only []; split; rw [H_neg]; rfl

theorem dv_bd {c : UInt8} (h : isD c = true) : 0 ≤ dv c ∧ dv c ≤ 9 := by
  have := (isD_iff c).1 h; unfold dv; omega
theorem wstep_neg {c : UInt8} (h : isD c = true) (v : Int) : wstep (v, -1) c = (if 1125899906842624 < v * 10 + dv c then 1125899906842624 else v * 10 + dv c, -1) := by
  have hc := (isD_iff c).1 h
  have h46 : ¬ c.toNat = 46 := by omega
  unfold wstep
  simp only [h46, if_false]
  rw [if_neg (show ¬ (c.toNat < 48 ∨ 57 < c.toNat ∨ (-1 : Int) = 0) by omega), if_neg (show ¬ (0 : Int) < -1 by omega)]
theorem wstep_pos {c : UInt8} (h : isD c = true) (v e : Int) (he : 0 < e) : wstep (v, e) c = (if 1125899906842624 < v * 10 + dv c then 1125899906842624 else v * 10 + dv c, e - 1) := by
  have hc := (isD_iff c).1 h
  have h46 : ¬ c.toNat = 46 := by omega
  unfold wstep
  simp only [h46, if_false]
  rw [if_neg (show ¬ (c.toNat < 48 ∨ 57 < c.toNat ∨ e = 0) by omega), if_pos he]
theorem wstep_zero {c : UInt8} (h : isD c = true) (v : Int) : wstep (v, 0) c = (v, 0) := by
  have hc := (isD_iff c).1 h
  have h46 : ¬ c.toNat = 46 := by omega
  unfold wstep
  simp [h46]
theorem wstep_dot {c : UInt8} (h : c.toNat = 46) (v e : Int) : wstep (v, e) c = (v, 3) := by
  unfold wstep; simp [h]
theorem wstep_sign {c : UInt8} (h : c.toNat = 43 ∨ c.toNat = 45) (v e : Int) : wstep (v, e) c = (v, e) := by
  have h46 : ¬ c.toNat = 46 := by omega
  unfold wstep
  simp only [h46, if_false]
  rw [if_pos (by omega)]

theorem cap_nonneg {v d : Int} (hv : 0 ≤ v) (h0 : 0 ≤ d) : 0 ≤ (if 1125899906842624 < v * 10 + d then 1125899906842624 else v * 10 + d) := by split <;> omega
theorem fold_neg : ∀ (l : List UInt8) (v b : Int), (∀ c ∈ l, isD c = true) → 0 ≤ v →
    ∃ v', l.foldl wstep (v, -1) = (v', -1) ∧ 0 ≤ v' ∧ tell st1 (H v, b) l = (H v', b)
  | [], v, b, _, hv => ⟨v, rfl, hv, rfl⟩
  | c :: l, v, b, hl, hv => by
    have hc := hl c (List.mem_cons_self)
    have hd := dv_bd hc
    obtain ⟨v', h1, h2, h3⟩ := fold_neg l _ b (fun x hx => hl x (List.mem_cons_of_mem _ hx)) (cap_nonneg hv hd.1)
    refine ⟨v', ?_, h2, ?_⟩
    · rw [List.foldl_cons, wstep_neg hc]; exact h1
    · rw [← h3, ← H_cap hv hd.1 hd.2]; rfl
theorem fold_pos : ∀ (l : List UInt8) (v e : Int), (∀ c ∈ l, isD c = true) → 0 ≤ v → 0 ≤ e → e ≤ 3 →
    ∃ v' e', l.foldl wstep (v, e) = (v', e') ∧ 0 ≤ v' ∧ 0 ≤ e' ∧ e' ≤ 3 ∧ (l ≠ [] → e' < 3) ∧ (e' = 3 → e = 3) ∧ tell st2 (H v, 3 - e) l = (H v', 3 - e')
  | [], v, e, _, hv, h0, h3 => ⟨v, e, rfl, hv, h0, h3, fun h => (h rfl).elim, id, rfl⟩
  | c :: l, v, e, hl, hv, h0, h3 => by
    have hc := hl c (List.mem_cons_self)
    have hd := dv_bd hc
    by_cases he : 0 < e
    · obtain ⟨v', e', g1, g2, g3, g4, g5, g6, g7⟩ := fold_pos l _ (e - 1) (fun x hx => hl x (List.mem_cons_of_mem _ hx)) (cap_nonneg hv hd.1) (by omega) (by omega)
      refine ⟨v', e', ?_, g2, g3, g4, fun _ => ?_, fun h => ?_, ?_⟩
      · rw [List.foldl_cons, wstep_pos hc _ _ he]; exact g1
      · by_cases h : e' = 3
        · have := g6 h; omega
        · omega
      · have := g6 h; omega
      · rw [← g7, ← H_cap hv hd.1 hd.2]
        have hs : st2 (H v, 3 - e) (dv c) = (H (H v * 10 + dv c), 3 - (e - 1)) := by
          unfold st2; simp only []; rw [if_pos (by omega)]; congr 1; omega
        show tell st2 (st2 (H v, 3 - e) (dv c)) l = _
        rw [hs]
    · have he0 : e = 0 := by omega
      subst he0
      obtain ⟨v', e', g1, g2, g3, g4, g5, g6, g7⟩ := fold_pos l v 0 (fun x hx => hl x (List.mem_cons_of_mem _ hx)) hv (by omega) (by omega)
      refine ⟨v', e', ?_, g2, g3, g4, fun _ => ?_, g6, ?_⟩
      · rw [List.foldl_cons, wstep_zero hc]; exact g1
      · by_cases h : e' = 3
        · have := g6 h; omega
        · omega
      · rw [← g7]
        have hs : st2 (H v, 3 - 0) (dv c) = (H v, 3 - 0) := by
          unfold st2; simp only []; rw [if_neg (by omega)]
        show tell st2 (st2 (H v, 3 - 0) (dv c)) l = _
        rw [hs]

/-- behind the sign and the digits ahead of the point -/
theorem fold_front (l : List UInt8) : ∃ v, (l.take (pt l)).foldl wstep (0, -1) = (v, -1) ∧ 0 ≤ v ∧ stA l = (H v, 0) := by
  have h1 : l.take (pt l) = l.take (beg l) ++ ds l (beg l) := by
    unfold pt
    rw [List.take_add]
    congr 1
    have := drop_split l (beg l)
    rw [this]
    unfold nd
    simp
  have h2 : (l.take (beg l)).foldl wstep (0, -1) = (0, -1) := by
    by_cases hl : 0 < l.length
    · rw [beg_cons hl]
      by_cases c : l[0].toNat = 43 ∨ l[0].toNat = 45
      · rw [if_pos c]
        cases l with
        | nil => simp at hl
        | cons x l => simp only [List.take_succ_cons, List.take_zero, List.foldl_cons, List.foldl_nil]; exact wstep_sign c _ _
      · rw [if_neg c]; rfl
    · have : l = [] := List.eq_nil_of_length_eq_zero (by omega)
      subst this; rfl
  obtain ⟨v, g1, g2, g3⟩ := fold_neg (ds l (beg l)) 0 0 (ds_all l _) (by omega)
  refine ⟨v, ?_, g2, ?_⟩
  · rw [h1, List.foldl_append, h2]; exact g1
  · unfold stA; exact g3

theorem numAt_zero (l : List UInt8) : numAt l 0 = if pt l < l.length ∧ at0 l (pt l) = 46 ∧ 0 < nd l (pt l + 1) then pt l + 1 + nd l (pt l + 1)
    else if nd l (beg l) = 0 then 0 else pt l := by
  unfold numAt; rw [ptAt_zero, begAt_zero]; rfl

/-- BOTH WAYS OF READING COME TO THE SAME -/
theorem parse_eq (l : List UInt8) : parse l = if l.length = 0 ∨ numAt l 0 ≠ l.length then (0, 10) else (worth l, 0) := by
  have hpl := pt_le l
  obtain ⟨v, f1, f2, f3⟩ := fold_front l
  have hfold : wfold l = (l.drop (pt l)).foldl wstep (v, -1) := by
    unfold wfold
    conv => lhs; rw [← List.take_append_drop (pt l) l]
    rw [List.foldl_append, f1]
  by_cases hlt : pt l < l.length
  · have hat := at0_eq hlt
    by_cases h46 : l[pt l].toNat = 46
    · obtain ⟨m, hm⟩ : ∃ m, nd l (pt l + 1) = m := ⟨_, rfl⟩
      have hml := nd_le (l := l) (a := pt l + 1) (by omega)
      rw [hm] at hml
      have hd1 : l.drop (pt l) = l[pt l] :: l.drop (pt l + 1) := List.drop_eq_getElem_cons hlt
      have hd2 := drop_split l (pt l + 1)
      obtain ⟨v', e', g1, g2, g3, g4, g5, g6, g7⟩ := fold_pos (ds l (pt l + 1)) v 3 (ds_all l _) f2 (by omega) (by omega)
      have hB : stB l = (H v', 3 - e') := by unfold stB; rw [f3, ← g7]; rfl
      by_cases hm0 : 0 < m
      · have hnum : numAt l 0 = pt l + 1 + m := by rw [numAt_zero, hm, if_pos ⟨hlt, by rw [hat]; exact h46, hm0⟩]
        have hne : ds l (pt l + 1) ≠ [] := by
          intro h
          have : nd l (pt l + 1) = 0 := by unfold nd; rw [h]; rfl
          omega
        have he3 := g5 hne
        by_cases hend : pt l + 1 + m < l.length
        · rw [parse_dot_bad hlt h46 (Or.inr (by rw [hm]; exact hend)), if_pos (Or.inr (by rw [hnum]; omega))]
        · rw [parse_dot hlt h46 (by rw [hm, hB]; rintro (h | h); exact absurd h (by simp only []; omega); exact hend h), if_neg (by rw [hnum]; omega)]
          have hrest : l.drop (pt l + 1 + nd l (pt l + 1)) = [] := List.drop_of_length_le (by rw [hm]; omega)
          rw [hrest, List.append_nil] at hd2
          have hw : wfold l = (v', e') := by
            rw [hfold, hd1, List.foldl_cons, wstep_dot h46, hd2, g1]
          have hz := zer_mul v' g2 e'.toNat
          have hk : (3 - (3 - e')).toNat = e'.toNat := by omega
          have hr : rest e' = e'.toNat := by unfold rest; rw [if_neg (by omega)]
          unfold worth
          rw [hB, hw]
          simp only []
          rw [hk, hr, hz.1, sgnd_H]
      · have hm1 : m = 0 := by omega
        have hds : ds l (pt l + 1) = [] := by
          have : (ds l (pt l + 1)).length = 0 := by have := hm; unfold nd at this; omega
          exact List.eq_nil_of_length_eq_zero this
        have hB0 : (stB l).2 = 0 := by
          unfold stB; rw [hds, f3]; rfl
        rw [parse_dot_bad hlt h46 (Or.inl hB0), if_pos (Or.inr _)]
        rw [numAt_zero, hm, if_neg (fun x => hm0 x.2.2)]
        split <;> omega
    · rw [parse_bad hlt h46, if_pos (Or.inr _)]
      rw [numAt_zero, hat, if_neg (fun x => h46 x.2.1)]
      split <;> omega
  · have hpe : pt l = l.length := by omega
    have hnum : numAt l 0 = if nd l (beg l) = 0 then 0 else pt l := by rw [numAt_zero, if_neg (fun x => hlt x.1)]
    by_cases hb : pt l = beg l
    · have hn0 : nd l (beg l) = 0 := by have h : pt l = beg l + nd l (beg l) := rfl; omega
      rw [parse_end_bad hlt hb, if_pos _]
      rw [hnum, if_pos hn0]; omega
    · have hn0 : ¬ nd l (beg l) = 0 := by have h : pt l = beg l + nd l (beg l) := rfl; omega
      have hge : beg l ≤ pt l := by have h : pt l = beg l + nd l (beg l) := rfl; omega
      rw [parse_end hlt hb, if_neg (by rw [hnum, if_neg hn0]; omega)]
      have hw : wfold l = (v, -1) := by rw [hfold, hpe, List.drop_of_length_le (Nat.le_refl _)]; rfl
      have hz := zer_mul v f2 3
      have hr : rest (-1) = 3 := by decide
      unfold worth
      rw [f3, hw]
      simp only []
      rw [hr, hz.1, sgnd_H]
end Go.Proofs.Ytpkhmagjdlpbjaa.FixP
