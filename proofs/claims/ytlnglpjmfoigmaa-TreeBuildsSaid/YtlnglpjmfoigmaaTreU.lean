/- A list of nodes that grows by one. -/
import Derived.Test.YtlnglpjmfoigmaaTreS
namespace Go.Proofs.Ytlnglpjmfoigmaa
open Go.RowKit TreN TreP

set_option maxRecDepth 100000 in
theorem ndcs_congr (C D : Nat → Nd) (N : Nat) (h : ∀ i, i < N → C i = D i) : ndcs C N = ndcs D N := by
  apply List.ext_getElem?
  intro j
  by_cases hj : j < N * 6
  · rw [ndcs_get C N j hj, ndcs_get D N j hj, h (j / 6) (by omega)]
  · rw [List.getElem?_eq_none (by rw [ndcs_length]; omega), List.getElem?_eq_none (by rw [ndcs_length]; omega)]
set_option maxRecDepth 100000 in
theorem ndcs_succ (R : Nat → Nd) (n : Nat) (x : Nd) (h : R n = x) : ndcs R n ++ ndcs (fun _ => x) 1 = ndcs R (n + 1) := by
  rw [ndcs_cat]
  apply ndcs_congr
  intro i hi
  unfold cat
  by_cases hc : i < n
  · rw [if_pos hc]
  · rw [if_neg hc, ← h, show i = n by omega]
set_option maxRecDepth 100000 in
theorem ndcs_single (x : Nd) : ndcs (fun _ => x) 1 = [.int .i64 x.par, .string x.tag, .string x.id, .slice x.ca x.cl x.cc, .slice x.aa x.al x.ac, .string x.tx] := rfl

set_option maxRecDepth 100000 in
theorem GN_eq (l i E m : Nat) : GN l i E m = i + 1 + (m - 1) + (l - E) := by
  simp [GN, sumN, gn]
set_option maxRecDepth 100000 in
theorem GR_0 (L M : Nat → Nd) (l i E m k : Nat) (h : k < i + 1) : GR L M l i E m k = (L k).withP (lS i E m (L k).par) := by
  simp only [GR, catp, cat, sumN, gn, gR]
  simp [h, show k < i + 1 + (m - 1) by omega]
set_option maxRecDepth 100000 in
theorem GR_1 (L M : Nat → Nd) (l i E m k : Nat) (h1 : 1 ≤ k) (h : k < m) : GR L M l i E m (i + 1 + (k - 1)) = (M k).withP (mS i (M k).par) := by
  simp only [GR, catp, cat, sumN, gn, gR]
  have e2 : k - 1 < m - 1 := by omega
  have e3 : k - 1 + 1 = k := by omega
  simp [e2, e3]
  intro h9
  omega
set_option maxRecDepth 100000 in
theorem GR_2 (L M : Nat → Nd) (l i E m k : Nat) (h : E ≤ k) : GR L M l i E m (i + 1 + (m - 1) + (k - E)) = (L k).withP (lS i E m (L k).par) := by
  simp only [GR, catp, cat, sumN, gn, gR]
  have e3 : k - E + E = k := by omega
  have e1 : ¬ i + 1 + (m - 1) + (k - E) < i + 1 := by omega
  simp [e1, e3]
  intro h9
  omega
end Go.Proofs.Ytlnglpjmfoigmaa
