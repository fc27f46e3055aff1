/- Layer 4, pure: what a builder has is a tree. -/
import Derived.Test.YtlnglpjmfoigmaaTreW24
import Derived.Test.YtlnglpjmfoigmaaTreQ
import Derived.Test.YtlnglpjmfoigmaaTreT
namespace Go.Proofs.Ytlnglpjmfoigmaa
open Go.RowKit TreN TreP
set_option linter.unusedVariables false

structure BInv (L : Nat → Nd) (N : Nat) (O : List Nat) : Prop where
  ok : ∀ k, k < N → nodeS L k = 0
  lt : ∀ o ∈ O, o < N ∧ emB (L o).tag = false ∧ (o = N - 1 ∨ o ∈ ups (parOf L) (N - 1))
  top : ∀ p O', O = O' ++ [p] → ups (parOf L) p = O'.reverse
theorem BInv.start (L : Nat → Nd) : BInv L 0 [] := ⟨fun k h => (by omega), fun o h => (by cases h), fun p O' h => (by simp at h)⟩
theorem BInv.pop {L : Nat → Nd} {N k : Nat} {O : List Nat} (h : BInv L N (O ++ [k])) : BInv L N O := by
  refine ⟨h.ok, fun o ho => h.lt o (List.mem_append_left _ ho), fun p O' e => ?_⟩
  have h1 := h.top k O rfl
  subst e
  rw [List.reverse_append] at h1
  rcases ups_cases (parOf L) k with ⟨_, q⟩ | ⟨p', _, _, q⟩
  · rw [q] at h1; cases h1
  · rw [q] at h1
    injection h1 with h1 h2
    subst h1; exact h2
theorem Eqn.self (A : Nd) : Eqn A A := ⟨rfl, rfl, rfl, rfl, rfl, fun _ _ => rfl, fun _ _ => rfl, fun _ _ => rfl⟩
theorem putS_lt {L : Nat → Nd} {N i : Nat} {x : Nd} (h : i < N) : putS L N x i = L i := if_pos h
theorem putS_at {L : Nat → Nd} {N : Nat} {x : Nd} : putS L N x N = x := if_neg (Nat.lt_irrefl N)
theorem put_eql (L : Nat → Nd) (N : Nat) (x : Nd) : EqL L (putS L N x) N := fun i hi => by rw [putS_lt hi]; exact ⟨Eqn.self _, rfl⟩
theorem lastO_snoc (O : List Nat) (p : Nat) : lastO (O ++ [p]) = (p : Int) := by unfold lastO; rw [List.getLast?_concat]
theorem snoc_of {α : Type} {l : List α} (h : l ≠ []) : ∃ m x, l = m ++ [x] := ⟨l.dropLast, l.getLast h, (List.dropLast_concat_getLast h).symm⟩
/-- one node more -/
theorem BInv.put {L : Nat → Nd} {N : Nat} {O : List Nat} (h : BInv L N O) (x : Nd) (hr : rightB x = true) (hp : x.par = lastO O) (hO : O.length < 64) (hc : O = [] → N = 0 ∧ emB x.tag = false) :
    (∀ k, k < N + 1 → nodeS (putS L N x) k = 0) ∧ ups (parOf (putS L N x)) N = O.reverse := by
  have hq := put_eql L N x
  have hpar : parOf (putS L N x) N = lastO O := by unfold parOf; rw [putS_at]; exact hp
  have hups : ups (parOf (putS L N x)) N = O.reverse := by
    by_cases h0 : O = []
    · obtain ⟨hN, _⟩ := hc h0
      subst hN; subst h0
      refine ups_none _ _ ?_
      have := up_bd (parOf (putS L 0 x)) 0
      omega
    · obtain ⟨O', p, rfl⟩ := snoc_of h0
      rw [lastO_snoc] at hpar
      have hpl := (h.lt p (by simp)).1
      have hup : up (parOf (putS L N x)) N = (p : Int) := by
        unfold up
        rw [hpar, if_pos (by omega)]
      rw [ups_some _ _ p hup, List.reverse_append]
      show p :: _ = p :: _
      rw [ups_eq L (putS L N x) N hq p p (Nat.le_refl _) hpl, h.top p O' rfl]
      rfl
  refine ⟨fun k hk => ?_, hups⟩
  by_cases hkN : k < N
  · rw [nodeS_eq L (putS L N x) N hq k hkN]; exact h.ok k hkN
  · have e : k = N := by omega
    subst e
    have hst : stB (putS L k x) k = true := by
      by_cases h0 : O = []
      · obtain ⟨hN, ht⟩ := hc h0
        subst hN; subst h0
        have hpar0 : (putS L 0 x 0).par = -1 := hpar
        have htag : emB (putS L 0 x 0).tag = false := by rw [putS_at]; exact ht
        unfold stB
        rw [if_pos rfl, hpar0, htag]; rfl
      · obtain ⟨O', p, rfl⟩ := snoc_of h0
        rw [lastO_snoc] at hpar
        obtain ⟨hpl, hpt, hpu⟩ := h.lt p (by simp)
        have hup : up (parOf (putS L k x)) k = (p : Int) := by
          unfold up
          rw [hpar, if_pos (by omega)]
        have hk0 : ¬ k = 0 := by omega
        have htag : emB (putS L k x p).tag = false := by rw [putS_lt hpl]; exact hpt
        unfold stB
        rw [if_neg hk0, hup]
        have e1 : ((p : Int)).toNat = p := by omega
        rw [e1, htag]
        have e2 : decide (0 ≤ (p : Int)) = true := decide_eq_true (by omega)
        rw [e2]
        show (true && (true && _)) = true
        rw [Bool.true_and, Bool.true_and, Bool.or_eq_true]
        rcases hpu with hpu | hpu
        · left; exact decide_eq_true (by omega)
        · right
          rw [undB_eq L (putS L k x) k hq (k - 1) p (by omega)]
          unfold undB
          exact decide_eq_true hpu
    unfold nodeS
    rw [putS_at, hr, hst, hups, List.length_reverse, if_pos (show (true && true) = true from rfl), if_neg (by omega)]
theorem BInv.old {L : Nat → Nd} {N : Nat} {O : List Nat} (h : BInv L N O) (x : Nd) : (∀ o ∈ O, emB (putS L N x o).tag = false) ∧ (∀ p O', O = O' ++ [p] → ups (parOf (putS L N x)) p = O'.reverse) := by
  refine ⟨fun o ho => ?_, fun p O' e => ?_⟩
  · rw [putS_lt (h.lt o ho).1]; exact (h.lt o ho).2.1
  · have hpl := (h.lt p (by rw [e]; simp)).1
    rw [ups_eq L (putS L N x) N (put_eql L N x) p p (Nat.le_refl _) hpl]; exact h.top p O' e
theorem BInv.open_ {L : Nat → Nd} {N : Nat} {O : List Nat} (h : BInv L N O) (x : Nd) (hr : rightB x = true) (hp : x.par = lastO O) (hO : O.length < 64) (hc : N = 0 ∨ 0 < O.length) (ht : emB x.tag = false) : BInv (putS L N x) (N + 1) (O ++ [N]) := by
  obtain ⟨h1, h2⟩ := h.put x hr hp hO (fun e => by subst e; simp at hc; exact ⟨hc, ht⟩)
  obtain ⟨h3, h4⟩ := h.old x
  refine ⟨h1, fun o ho => ?_, fun p O' e => ?_⟩
  · rcases List.mem_append.1 ho with ho | ho
    · refine ⟨by have := (h.lt o ho).1; omega, h3 o ho, Or.inr ?_⟩
      rw [Nat.add_sub_cancel, h2]; simpa using ho
    · rw [List.mem_singleton] at ho
      subst ho
      exact ⟨by omega, by rw [putS_at]; exact ht, Or.inl (by omega)⟩
  · obtain ⟨e1, e2⟩ := List.append_inj' e rfl
    injection e2 with e2 _
    subst e1; subst e2; exact h2
theorem BInv.words {L : Nat → Nd} {N : Nat} {O : List Nat} (h : BInv L N O) (x : Nd) (hr : rightB x = true) (hp : x.par = lastO O) (hO : O.length < 64) (hc : 0 < O.length) : BInv (putS L N x) (N + 1) O := by
  obtain ⟨h1, h2⟩ := h.put x hr hp hO (fun e => by subst e; simp at hc)
  obtain ⟨h3, h4⟩ := h.old x
  refine ⟨h1, fun o ho => ⟨by have := (h.lt o ho).1; omega, h3 o ho, Or.inr ?_⟩, h4⟩
  rw [Nat.add_sub_cancel, h2]; simpa using ho
theorem BInv.tree {L : Nat → Nd} {N : Nat} {O : List Nat} (h : BInv L N O) (h0 : 0 < N) (h1 : N ≤ 1024) : checkS L N = 0 := by
  unfold checkS
  rw [if_neg (by omega), if_neg (by omega)]
  exact chk_zero L N h.ok
theorem wordN_right {s : ByteArray} (h : textB s = true) : rightB (wordN s) = true := by
  have e0 : emB ⟨#[]⟩ = true := by unfold emB; rw [Lib.toList_data]; rfl
  have e : emB (wordN s).tag = true := e0
  unfold rightB
  rw [if_pos e]
  show (textB s && (emB ⟨#[]⟩ && (decide (0 = 0) && decide (0 = 0)))) = true
  rw [h, e0]; rfl
end Go.Proofs.Ytlnglpjmfoigmaa
