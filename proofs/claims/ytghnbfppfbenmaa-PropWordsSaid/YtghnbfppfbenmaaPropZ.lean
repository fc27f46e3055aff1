/- Layer 10, pure: values with a Space behind each; a property's own name. -/
import Derived.Test.YtghnbfppfbenmaaPropXc
namespace Go.Proofs.Ytghnbfppfbenmaa.PropP
open FixM FixP TreN LexP SynP ValP
set_option linter.unusedVariables false

def tailS (r : List Val) : List Tok := r.flatMap fun u => spc :: tokV u
def joinS (l : List Val) : List Tok := l.flatMap fun u => tokV u ++ [spc]
theorem bs_one {l : List Tok} {t : Tok} {r : List Tok} (h : l = t :: r) (ht : t.kind ≠ 20) : bs (spc :: l) = l := by
  rw [bs_sp rfl, h, bs_no ht]
theorem over_tailS {r : List Val} (h : ∀ v ∈ r, rightV v = true) : overP (tailS r) = none := by
  cases r with
  | nil => rfl
  | cons u r =>
    obtain ⟨t, q, e, h20, h19⟩ := tok_head (rv_of (h u (by simp)))
    refine over_no fun t' r' hb => ?_
    have e2 : tailS (u :: r) = spc :: (tokV u ++ tailS r) := by simp [tailS]
    rw [e2, bs_one (t := t) (r := q ++ tailS r) (by rw [e]; rfl) h20, e] at hb
    injection hb with hb _
    subst hb; exact h19
theorem pv_joinS : ∀ (r : List Val) (v : Val) (f : Nat), rightV v = true → (∀ u ∈ r, rightV u = true) → (tokV v ++ tailS r).length < f → pv f (tokV v ++ tailS r) = some (v :: r)
  | r, v, 0, _, _, hf => by omega
  | [], v, f + 1, hv, hr, hf => by
    have h1 := read_tok hv (z := tailS []) rfl
    unfold pv
    obtain ⟨t, q, e, _, _⟩ := tok_head (rv_of hv)
    have hl : 0 < (tokV v).length := by rw [e]; simp
    have hd : (tokV v ++ tailS []).drop (tokV v).length = [] := by rw [List.drop_left]; rfl
    rw [h1]
    dsimp only
    rw [hd, if_neg (by omega), if_neg (by simp [bs]), if_pos rfl]
  | u :: r, v, f + 1, hv, hr, hf => by
    have h1 := read_tok hv (over_tailS hr)
    have hu := hr u (by simp)
    obtain ⟨t, q, e, h20, _⟩ := tok_head (rv_of hu)
    have e2 : tailS (u :: r) = spc :: (tokV u ++ tailS r) := by simp [tailS]
    have hb : bs (tailS (u :: r)) = tokV u ++ tailS r := by
      rw [e2, bs_one (t := t) (r := q ++ tailS r) (by rw [e]; rfl) h20]
    obtain ⟨t0, q0, e0, _, _⟩ := tok_head (rv_of hv)
    have hl : 0 < (tokV v).length := by rw [e0]; simp
    have hlen : (tailS (u :: r)).length = (tokV u ++ tailS r).length + 1 := by rw [e2]; simp
    unfold pv
    rw [h1]
    dsimp only
    rw [List.drop_left, hb, if_neg (by omega), if_pos (by omega), pv_joinS r u f hu (fun x hx => hr x (List.mem_cons_of_mem _ hx)) (by rw [List.length_append] at hf; omega)]
    rfl
theorem tailS_last : ∀ (r : List Val) (v : Val), rightV v = true → (∀ u ∈ r, rightV u = true) → ∃ m u, tokV v ++ tailS r = m ++ [u] ∧ u.kind ≠ 20
  | [], v, hv, _ => by
    obtain ⟨m, u, e, h⟩ := tok_last (rv_of hv)
    exact ⟨m, u, by rw [e]; simp [tailS], h⟩
  | x :: r, v, hv, hr => by
    obtain ⟨m, u, e, h⟩ := tailS_last r x (hr x (by simp)) (fun y hy => hr y (List.mem_cons_of_mem _ hy))
    have e2 : tailS (x :: r) = spc :: (tokV x ++ tailS r) := by simp [tailS]
    exact ⟨tokV v ++ spc :: m, u, by rw [e2, e]; simp, h⟩

theorem joinS_cons : ∀ (r : List Val) (v : Val), joinS (v :: r) = (tokV v ++ tailS r) ++ [spc]
  | [], v => by simp [joinS, tailS]
  | u :: r, v => by
    have e : joinS (v :: u :: r) = (tokV v ++ [spc]) ++ joinS (u :: r) := by simp [joinS]
    rw [e, joinS_cons r u]
    simp [tailS]
theorem trm_sp {X : List Tok} {t : Tok} {q : List Tok} (h : X = t :: q) (ht : t.kind ≠ 20) : trm (X ++ [spc]) = trm X := by
  have e1 : bs (X ++ [spc]) = X ++ [spc] := by rw [h]; exact bs_no ht
  have e2 : bs X = X := by rw [h]; exact bs_no ht
  unfold trm
  rw [e1, e2]
  unfold es
  rw [List.reverse_append]
  rfl
theorem parse_joinS {l : List Val} (h0 : l ≠ []) (h : ∀ v ∈ l, rightV v = true) : parseV (joinS l) = some l := by
  cases l with
  | nil => exact absurd rfl h0
  | cons v r =>
    have hv := h v (by simp)
    have hr : ∀ u ∈ r, rightV u = true := fun u hu => h u (List.mem_cons_of_mem _ hu)
    obtain ⟨t, q, e, h20, _⟩ := tok_head (rv_of hv)
    obtain ⟨m, u, e2, hu⟩ := tailS_last r v hv hr
    have e3 : tokV v ++ tailS r = t :: (q ++ tailS r) := by rw [e]; rfl
    have htr : trm (tokV v ++ tailS r) = tokV v ++ tailS r := by
      rw [e3]
      exact trm_keep h20 hu (by rw [← e3]; exact e2)
    have hts : trm (joinS (v :: r)) = tokV v ++ tailS r := by rw [joinS_cons, trm_sp e3 h20, htr]
    unfold parseV
    rw [hts]
    exact pv_joinS r v _ hv hr (by omega)
theorem parse_one {v : Val} (h : rightV v = true) : parseV (tokV v) = some [v] := by
  have := parse_join (l := [v]) (by simp) (by intro u hu; rw [List.mem_singleton] at hu; subst hu; exact h)
  simpa [joinJ, tailJ] using this
theorem joinS_snoc (l : List Val) (v : Val) : joinS (l ++ [v]) = joinS l ++ tokV v ++ [spc] := by simp [joinS]
theorem names_st : ∀ k : Fin 37, stP (namesL.getD k.val []) = (k.val + 1, 1) ∧ namesL.getD k.val [] ≠ flowT ∧ namesL.getD k.val [] ≠ flexT ∧ namesL.getD k.val [] ≠ contT := by decide +kernel
theorem name_st {p : Nat} (h1 : 1 ≤ p) (h2 : p ≤ 37) : stP (txtP namesL (p : Int)) = (p, 1) ∧ txtP namesL (p : Int) ≠ flowT ∧ txtP namesL (p : Int) ≠ flexT ∧ txtP namesL (p : Int) ≠ contT := by
  have h := names_st ⟨p - 1, by omega⟩
  have e : txtP namesL (p : Int) = namesL.getD (p - 1) [] := by
    rw [txt_nat (by omega) (by have : namesL.length = 37 := rfl; omega)]
    congr 1
  have e2 : p - 1 + 1 = p := by omega
  rw [e]
  simp only [e2] at h
  exact h
/-- one value of a property's own -/
theorem parseP_one {p : Nat} (h1 : 1 ≤ p) (h2 : p ≤ 37) (v : Val) (b : Bool) : parseP (txtP namesL (p : Int)) (some [v]) b = if takesP p v = true then (0, [⟨p, v, b⟩]) else (22, []) := by
  obtain ⟨k1, k2, k3, k4⟩ := name_st h1 h2
  unfold parseP
  rw [k1]
  have hf : fitP [v] 1 = true := rfl
  have hp : partsP (txtP namesL (p : Int)) [v] = [v] := parts_plain (Or.inr ⟨k2, k3, k4⟩)
  have hd : declP p [v] 1 = [⟨p, v, false⟩] := by
    unfold declP
    simp [sideP, sIx]
  have h0 : ¬ (1 : Nat) = 0 := by omega
  simp only [h0, if_false, hf, hp, hd, true_and]
  by_cases ht : takesP p v = true
  · rw [if_pos ht, if_pos (by simp [takesD, ht])]; rfl
  · rw [if_neg ht, if_neg (by simp [takesD]; simpa using ht)]
end Go.Proofs.Ytghnbfppfbenmaa.PropP
