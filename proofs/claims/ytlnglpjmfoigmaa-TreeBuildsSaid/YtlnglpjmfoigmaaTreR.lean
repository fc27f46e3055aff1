/- What Graft answers, as lists. -/
import Derived.Test.YtlnglpjmfoigmaaTreW19
namespace Go.Proofs.Ytlnglpjmfoigmaa
open Go.RowKit TreN TreP

set_option maxRecDepth 100000 in
theorem par_bd (L : Nat → Nd) (len : Nat) (h : checkS L len = 0) (k : Nat) (hk : k < len) : -1 ≤ (L k).par ∧ (L k).par < (k : Int) ∧ (L k).par ≤ 1024 := by
  obtain ⟨_, hl, hn⟩ := check_ok L len h
  obtain ⟨_, hs, _⟩ := nodeS_st L k (hn k hk)
  unfold stB at hs
  by_cases h0 : k = 0
  · subst h0
    rw [if_pos rfl, Bool.and_eq_true, decide_eq_true_eq] at hs
    omega
  · rw [if_neg h0, Bool.and_eq_true, decide_eq_true_eq] at hs
    have hb := up_bd (parOf L) k
    have hu : up (parOf L) k = (L k).par := by
      have h1 := hs.1
      unfold up at h1 ⊢
      split at h1
      · rename_i hc
        rw [if_pos hc]
        rfl
      · omega
    rw [hu] at hb hs
    omega
set_option maxRecDepth 100000 in
theorem right_bd (n : Nd) (h : rightB n = true) : n.cl ≤ 8 ∧ n.al ≤ 8 := by
  unfold rightB at h
  by_cases he : emB n.tag = true
  · rw [if_pos he, Bool.and_eq_true, Bool.and_eq_true, Bool.and_eq_true, decide_eq_true_eq, decide_eq_true_eq] at h
    omega
  · rw [if_neg he, Bool.and_eq_true, Bool.and_eq_true, Bool.and_eq_true] at h
    have := h.2.2.2
    unfold mkB at this
    rw [Bool.and_eq_true, Bool.and_eq_true, decide_eq_true_eq, decide_eq_true_eq] at this
    omega
set_option maxRecDepth 100000 in
theorem small_of (L : Nat → Nd) (len : Nat) (h : checkS L len = 0) (k : Nat) (hk : k < len) : (L k).cl ≤ 8 ∧ (L k).al ≤ 8 :=
  right_bd _ (nodeS_st L k ((check_ok L len h).2.2 k hk)).1

def Nd.withP (n : Nd) (p : Int) : Nd := { n with par := p }
/-- the three parts of what Graft answers -/
def gR (L M : Nat → Nd) (i E m : Nat) (t k : Nat) : Nd := if t = 0 then (L k).withP (lS i E m (L k).par) else if t = 1 then (M (k + 1)).withP (mS i (M (k + 1)).par) else (L (k + E)).withP (lS i E m (L (k + E)).par)
def gn (l i E m : Nat) (t : Nat) : Nat := if t = 0 then i + 1 else if t = 1 then m - 1 else l - E
def GR (L M : Nat → Nd) (l i E m : Nat) : Nat → Nd := catp (gR L M i E m) (gn l i E m) 3
def GN (l i E m : Nat) : Nat := sumN (gn l i E m) 3
set_option maxRecDepth 100000 in
theorem Eqn.withP {A B : Nd} (h : Eqn A B) (p : Int) : Eqn (A.withP p) B := ⟨h.tag, h.id, h.tx, h.cl, h.al, h.cs, h.an, h.av⟩
set_option maxRecDepth 100000 in
theorem EqL_catp (C D : Nat → Nat → Nd) (n : Nat → Nat) (k : Nat) (h : ∀ t, t < k → EqL (C t) (D t) (n t)) : EqL (catp C n k) (catp D n k) (sumN n k) := by
  induction k with
  | zero => intro i hi; exact absurd hi (by simp [sumN])
  | succ k ih =>
    intro i hi
    unfold catp cat
    by_cases hc : i < sumN n k
    · rw [if_pos hc, if_pos hc]
      exact ih (fun t ht => h t (by omega)) i hc
    · rw [if_neg hc, if_neg hc]
      exact h k (by omega) _ (by unfold sumN at hi; omega)

set_option maxRecDepth 100000 in
/-- what a list is from another node on -/
theorem Nods.pre {w : World} {a : Option Addr} {len n : Nat} {L : Nat → Nd} (h : Nods w a len L) (hn : n ≤ len) : Nods w a n L := by
  rcases h with h | ⟨b, off, e, hb, hc⟩
  · exact Or.inl (by omega)
  · exact Or.inr ⟨b, off, e, hb, fun i hi => hc i (by omega)⟩
set_option maxRecDepth 100000 in
theorem Nods.suf {w : World} {b off len : Nat} {L : Nat → Nd} (h : Nods w (some ⟨b, off, none⟩) len L) (k : Nat) (hk : k < len) : Nods w (some ⟨b, off + k * 6, none⟩) (len - k) (fun j => L (j + k)) := by
  rcases h with h | ⟨b', off', e, hb, hc⟩
  · omega
  · injection e with e
    injection e with e1 e2
    subst e1; subst e2
    refine Or.inr ⟨b, off + k * 6, rfl, hb, fun i hi => ?_⟩
    have := hc (i + k) (by omega)
    rw [show off + (i + k) * 6 = off + k * 6 + i * 6 by omega] at this
    exact this
end Go.Proofs.Ytlnglpjmfoigmaa
