/- Layer 21 in numbers: what stays true round by round. -/
import Derived.Test.YtaegajlffiepoaaFlxP
namespace Go.Proofs.Ytaegajlffiepoaa
open FixM ShaD
set_option linter.unusedVariables false

/-- places below n; what is free, in bounds that shrink with what may still be frozen -/
structure FInv (n : Nat) (C e : Int) (s : FSt) : Prop where
  pl : ∀ k, k < s.loose.length → s.loose.getD k 0 < n
  lo : -(C - 2147483648 * ((s.loose.length : Int) + e)) ≤ s.free
  hi : s.free ≤ C - 2147483648 * ((s.loose.length : Int) + e)
theorem FInv.step {n : Nat} {C e : Int} {s : FSt} (B : Nat → Int) (p : Nat × Int × Bool) (h : FInv n C (e + 1) s) (hp : p.1 < n) (h0 : -2147483648 ≤ B p.1 - p.2.1) (h1 : B p.1 - p.2.1 ≤ 2147483648) : FInv n C e (stepF B s p) := by
  have hl := h.lo
  have hh := h.hi
  unfold stepF
  split
  · exact ⟨h.pl, by simp only [frz]; omega, by simp only [frz]; omega⟩
  · refine ⟨fun k hk => ?_, ?_, ?_⟩
    · simp only [stay, List.length_append, List.length_cons, List.length_nil] at hk ⊢
      by_cases c : k < s.loose.length
      · have := h.pl k c
        simpa [List.getD, List.getElem?_append_left c] using this
      · obtain rfl : k = s.loose.length := by omega
        simpa [List.getD] using hp
    · simp only [stay, List.length_append, List.length_cons, List.length_nil]; omega
    · simp only [stay, List.length_append, List.length_cons, List.length_nil]; omega
theorem tryF_at (L : Nat → It) (i : Nat) (s : Int) : (tryF L i s).1 = i := rfl
theorem tryF_bd {L : Nat → It} {i : Nat} (h : HeldI (L i)) (s : Int) : 0 ≤ (tryF L i s).2.1 ∧ (tryF L i s).2.1 ≤ 1073741824 ∧ -2147483648 ≤ (tryF L i s).2.2 ∧ (tryF L i s).2.2 ≤ 2147483648 := by
  have hw := H_bd (H (L i).b + H s)
  have hc := h.cl hw.1 hw.2
  have e1 : (tryF L i s).2.1 = clI (L i) (H (H (L i).b + H s)) := rfl
  have e2 : (tryF L i s).2.2 = clI (L i) (H (H (L i).b + H s)) - H (H (L i).b + H s) := rfl
  rw [e1, e2]
  omega
theorem roundTo_inv (g : Bool) (L : Nat → It) (first : Int) (s : FSt) (n : Nat) (C : Int) (hL : ∀ i, i < n → HeldI (L i)) (h : FInv n C 0 s) : ∀ k, k ≤ s.loose.length → FInv n C ((s.loose.length : Int) - k) (roundTo g L first s k)
  | 0, _ => by
    refine ⟨fun k hk => by simp [roundTo] at hk, ?_, ?_⟩
    · have := h.lo; simp [roundTo]; omega
    · have := h.hi; simp [roundTo]; omega
  | k + 1, hk => by
    have ih := roundTo_inv g L first s n C hL h k (by omega)
    have hp := h.pl k (by omega)
    have hb := hL _ hp
    have ht := tryF_bd hb (sharesF g L first s k)
    have := hb.b0; have := hb.b1
    rw [roundTo_succ]
    refine FInv.step _ _ ?_ hp ?_ ?_
    · have e : (s.loose.length : Int) - ((k + 1 : Nat) : Int) + 1 = (s.loose.length : Int) - (k : Int) := by omega
      rw [e]; exact ih
    · have e1 : (trialF g L first s k).1 = s.loose.getD k 0 := rfl
      have e2 : (trialF g L first s k).2.1 = (tryF L (s.loose.getD k 0) (sharesF g L first s k)).2.1 := rfl
      simp only [e1, e2]; omega
    · have e1 : (trialF g L first s k).1 = s.loose.getD k 0 := rfl
      have e2 : (trialF g L first s k).2.1 = (tryF L (s.loose.getD k 0) (sharesF g L first s k)).2.1 := rfl
      simp only [e1, e2]; omega
theorem roundF_inv (g : Bool) (L : Nat → It) (first : Int) (s : FSt) (n : Nat) (C : Int) (hL : ∀ i, i < n → HeldI (L i)) (h : FInv n C 0 s) : FInv n C 0 (roundF g L first s) := by
  have := roundTo_inv g L first s n C hL h s.loose.length (Nat.le_refl _)
  rwa [show (s.loose.length : Int) - (s.loose.length : Nat) = 0 by omega] at this
theorem fsum_b2 {f : Nat → Int} : ∀ n, (∀ i, i < n → -2147483648 ≤ f i ∧ f i ≤ 2147483648) → -(2147483648 * (n : Int)) ≤ fsum f n ∧ fsum f n ≤ 2147483648 * (n : Int)
  | 0, _ => by simp [fsum]
  | n + 1, h => by
    have h1 := fsum_b2 n (fun i hi => h i (by omega))
    have h2 := h n (by omega)
    simp only [fsum]
    omega
theorem startF_inv (g : Bool) (L : Nat → It) (room : Int) (n : Nat) (hL : ∀ i, i < n → HeldI (L i)) (hr0 : -1073741824 ≤ room) (hr1 : room ≤ 1073741824) : ∀ k, k ≤ n → FInv n (2147483648 * (2 * (n : Int) + 1)) ((n : Int) - k) (startF g L room n k)
  | 0, _ => by
    have hb := fsum_b2 (f := fun i => (L i).g + (L i).b) n (fun i hi => by have h := hL i hi; have := h.g0; have := h.g1; have := h.b0; have := h.b1; omega)
    refine ⟨fun k hk => by simp [startF, begin0] at hk, ?_, ?_⟩
    · simp [startF, begin0, free0]; omega
    · simp [startF, begin0, free0]; omega
  | k + 1, hk => by
    have ih := startF_inv g L room n hL hr0 hr1 k (by omega)
    have hb := hL k (by omega)
    have hw := hb.wsh
    have := hb.b0; have := hb.b1
    rw [startF_succ]
    refine FInv.step _ _ ?_ (by show k < n; omega) ?_ ?_
    · have e : (n : Int) - ((k + 1 : Nat) : Int) + 1 = (n : Int) - (k : Int) := by omega
      rw [e]; exact ih
    · show -2147483648 ≤ (L k).b - wsh (L k); omega
    · show (L k).b - wsh (L k) ≤ 2147483648; omega
theorem map_getD (f : Nat → Int) (l : List Nat) : l.map f = (List.range l.length).map (fun k => f (l.getD k 0)) := by
  apply List.ext_getElem
  · simp
  · intro i h1 h2
    simp at h1
    simp [List.getD, h1]
theorem dealtF_H (first free fac : Int) : H (dealtF first free fac) = dealtF first free fac := by
  unfold dealtF
  split
  · split <;> exact H_H _
  · exact H_H _
end Go.Proofs.Ytaegajlffiepoaa
