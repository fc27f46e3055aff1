/- Lists of nodes as rows of cells, and rows put together. -/
import Derived.Test.YtlnglpjmfoigmaaTreW15
namespace Go.Proofs.Ytlnglpjmfoigmaa
open Go.RowKit TreN TreP

/-- a node's cell -/
def ndc (n : Nd) (r : Nat) : Value := if r = 0 then .int .i64 n.par else if r = 1 then .string n.tag else if r = 2 then .string n.id else if r = 3 then .slice n.ca n.cl n.cc else if r = 4 then .slice n.aa n.al n.ac else .string n.tx
/-- the cells of a list -/
def ndcs (C : Nat → Nd) (N : Nat) : List Value := (List.range (N * 6)).map (fun j => ndc (C (j / 6)) (j % 6))
set_option maxRecDepth 100000 in
theorem ndcs_length (C : Nat → Nd) (N : Nat) : (ndcs C N).length = N * 6 := by simp [ndcs]
set_option maxRecDepth 100000 in
theorem ndcs_get (C : Nat → Nd) (N j : Nat) (h : j < N * 6) : (ndcs C N)[j]? = some (ndc (C (j / 6)) (j % 6)) := by
  unfold ndcs
  rw [List.getElem?_map, List.getElem?_range h]
  rfl
set_option maxRecDepth 100000 in
theorem ndcs_get6 (C : Nat → Nd) (N i r : Nat) (hi : i < N) (hr : r < 6) : (ndcs C N)[i * 6 + r]? = some (ndc (C i) r) := by
  rw [ndcs_get C N _ (by omega)]
  have e1 : (i * 6 + r) / 6 = i := by omega
  have e2 : (i * 6 + r) % 6 = r := by omega
  rw [e1, e2]
set_option maxRecDepth 100000 in
theorem ndcs_one (C : Nat → Nd) (N : Nat) : ∀ u ∈ ndcs C N, u.oneCell' = true := by
  intro u hu
  obtain ⟨j, _, rfl⟩ := List.mem_map.mp hu
  unfold ndc
  split
  · rfl
  · split
    · rfl
    · split
      · rfl
      · split
        · rfl
        · split <;> rfl
set_option maxRecDepth 100000 in
theorem ndcs_news {w : World} {b off N : Nat} {C : Nat → Nd} (h : ∀ i, i < N → NdAt w b (off + i * 6) (C i)) : ∀ (j : Nat) (u : Value), (ndcs C N)[j]? = some u → w.cell? ((⟨b, off, none⟩ : Addr).add j) = some u := by
  intro j u hj
  by_cases hjn : j < N * 6
  · rw [ndcs_get C N j hjn] at hj
    injection hj with hj
    subst hj
    obtain ⟨h0, h1, h2, h3, h4, h5⟩ := h (j / 6) (by omega)
    rw [Addr.add_lit]
    have hr : j % 6 = 0 ∨ j % 6 = 1 ∨ j % 6 = 2 ∨ j % 6 = 3 ∨ j % 6 = 4 ∨ j % 6 = 5 := by omega
    rcases hr with hr | hr | hr | hr | hr | hr
    · rw [hr, show off + j = off + j / 6 * 6 by omega]; exact h0
    · rw [hr, show off + j = off + j / 6 * 6 + 1 by omega]; exact h1
    · rw [hr, show off + j = off + j / 6 * 6 + 2 by omega]; exact h2
    · rw [hr, show off + j = off + j / 6 * 6 + 3 by omega]; exact h3
    · rw [hr, show off + j = off + j / 6 * 6 + 4 by omega]; exact h4
    · rw [hr, show off + j = off + j / 6 * 6 + 5 by omega]; exact h5
  · rw [List.getElem?_eq_none (by rw [ndcs_length]; omega)] at hj
    cases hj
set_option maxRecDepth 100000 in
theorem ndcs_back {w : World} {base g cap N : Nat} {t : TypeId} {C : Nat → Nd} (h : w.ownsRow base t 6 (.slice (some ⟨g, 0, none⟩) N cap) N (ndcs C N)) : ∀ i, i < N → NdAt w g (i * 6) (C i) := by
  intro i hi
  have hc : ∀ r, r < 6 → w.cell? ⟨g, i * 6 + r, none⟩ = some (ndc (C i) r) := fun r hr => by
    rw [h.cellAt (i * 6 + r) (by omega), ndcs_get6 C N i r hi hr]
  exact ⟨hc 0 (by omega), hc 1 (by omega), hc 2 (by omega), hc 3 (by omega), hc 4 (by omega), hc 5 (by omega)⟩
/-- one list behind another -/
def cat (C D : Nat → Nd) (N : Nat) (i : Nat) : Nd := if i < N then C i else D (i - N)
set_option maxRecDepth 100000 in
theorem ndcs_cat (C D : Nat → Nd) (N M : Nat) : ndcs C N ++ ndcs D M = ndcs (cat C D N) (N + M) := by
  apply List.ext_getElem?
  intro j
  by_cases h1 : j < N * 6
  · rw [List.getElem?_append_left (by rw [ndcs_length]; exact h1), ndcs_get C N j h1, ndcs_get _ _ j (by omega)]
    unfold cat
    rw [if_pos (by omega)]
  · rw [List.getElem?_append_right (by rw [ndcs_length]; omega), ndcs_length]
    by_cases h2 : j < (N + M) * 6
    · rw [ndcs_get D M _ (by omega), ndcs_get _ _ j h2]
      unfold cat
      rw [if_neg (by omega), show (j - N * 6) / 6 = j / 6 - N by omega, show (j - N * 6) % 6 = j % 6 by omega]
    · rw [List.getElem?_eq_none (by rw [ndcs_length]; omega), List.getElem?_eq_none (by rw [ndcs_length]; omega)]
set_option maxRecDepth 100000 in
theorem ndcs_nil (C : Nat → Nd) : ndcs C 0 = [] := rfl
set_option maxRecDepth 100000 in
theorem NAt.ndat {w : World} {b off N : Nat} {C : Nat → Nd} (h : NAt w b off N C) : ∀ i, i < N → NdAt w b (off + i * 6) (C i) := fun i hi => (h.2 i hi).1
set_option maxRecDepth 100000 in
theorem NAt.of {w : World} {g N : Nat} {C : Nat → Nd} (hg : g < w.heap.size) (h : ∀ i, i < N → NdAt w g (i * 6) (C i)) (hn : ∀ i, i < N → NdIn w (C i)) : NAt w g 0 N C := by
  refine ⟨hg, fun i hi => ?_⟩
  rw [Nat.zero_add]
  exact ⟨h i hi, hn i hi⟩
end Go.Proofs.Ytlnglpjmfoigmaa
