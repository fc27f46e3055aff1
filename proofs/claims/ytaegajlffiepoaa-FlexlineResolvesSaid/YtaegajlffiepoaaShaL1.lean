/- The walks of layer 2's laws: a total below 0. -/
import Derived.Test.YtaegajlffiepoaaShaW13
import Derived.OpenShut
namespace Go.Proofs.Ytaegajlffiepoaa
open Go.RowKit FixM ShaD ShaM Go.Sort

theorem share0_zero (ws : List Int) (i : Nat) : share0 0 ws i = 0 := by
  unfold share0
  by_cases hz : wsum ws = 0
  · rw [if_pos hz]
  · rw [if_neg hz]
    have hq : ∀ k, qsum 0 (wsum ws) ws k = 0 := fun k => by
      induction k with
      | zero => rfl
      | succ k ih => show qsum 0 (wsum ws) ws k + qs 0 (wsum ws) ws k = 0; rw [ih]; unfold qs; simp
    rw [hq]
    unfold qs
    simp

theorem shareS_neg (t : Int) (ws : List Int) (i : Nat) : shareS (-t) ws i = -(shareS t ws i) := by
  unfold shareS
  by_cases h1 : t < 0
  · rw [if_pos h1, if_neg (by omega)]; omega
  · by_cases h2 : t = 0
    · subst h2
      rw [if_neg (by omega), if_neg (by omega)]
      show share0 0 ws i = -(share0 0 ws i)
      rw [share0_zero]; rfl
    · rw [if_neg h1, if_pos (by omega), Int.neg_neg]

theorem share0_bd {t : Int} (ht : 0 ≤ t) (ws : List Int) (i : Nat) : 0 ≤ share0 t ws i ∧ share0 t ws i ≤ t + 1 := by
  unfold share0
  by_cases hz : wsum ws = 0
  · rw [if_pos hz]; omega
  · rw [if_neg hz]
    have hq := qs_bd ht ws rfl (by have := (wsum_bd ws).1; omega) i
    split <;> omega

theorem shareS_bd (t : Int) (ws : List Int) (i : Nat) : -1073741825 ≤ shareS (H t) ws i ∧ shareS (H t) ws i ≤ 1073741825 := by
  have h := H_bd t
  unfold shareS
  by_cases c : H t < 0
  · rw [if_pos c]
    have := share0_bd (t := -H t) (by omega) ws i
    omega
  · rw [if_neg c]
    have := share0_bd (t := H t) (by omega) ws i
    omega

/-- a slice of numbers that came in, as the walks are told of it -/
theorem Lst_of {w : World} {a : Option Addr} {len cap : Nat} {zs : List Int}
    (h : (a = none ∧ len = 0 ∧ cap = 0 ∧ zs = []) ∨ ∃ x, a = some x ∧ len ≤ cap ∧ cap ≤ maxLen ∧ zs.length = cap ∧ (∀ i, i < zs.length → w.cell? (x.add i) = some (.int .i64 (zs.getD i 0))) ∧ ∀ n ∈ zs, (Lit.int .i64 n).wf = true) :
    ∃ ws, ws.length = len ∧ Lst w a ws := by
  rcases h with ⟨rfl, rfl, rfl, rfl⟩ | ⟨x, rfl, h1, h2, h3, h4, h5⟩
  · exact ⟨[], rfl, Or.inl rfl⟩
  · by_cases hz : len = 0
    · subst hz; exact ⟨[], rfl, Or.inl rfl⟩
    · obtain ⟨b, off, rfl, hc⟩ := Go.ints_at h4 (by omega)
      refine ⟨zs.take len, by rw [List.length_take]; omega, Or.inr ⟨b, off, rfl, ?_, ?_⟩⟩
      · have h := hc 0 (by omega)
        by_cases c : b < w.heap.size
        · exact c
        · exfalso
          have hn : w.heap[b]? = none := Array.getElem?_eq_none (by omega)
          unfold World.cell? at h
          rw [hn] at h
          simp at h
      · intro i hi
        rw [List.length_take] at hi
        rw [hc i (by omega), List.getD_eq_getElem?_getD, List.getD_eq_getElem?_getD, List.getElem?_take_of_lt (by omega)]

theorem Row_lt {w : World} {b n : Nat} {f : Nat → Int} (h : Row w b n f) (hn : 0 < n) : b < w.heap.size := by
  have h := (h 0 hn).1
  by_cases c : b < w.heap.size
  · exact c
  · exfalso
    have hn : w.heap[b]? = none := Array.getElem?_eq_none (by omega)
    unfold World.cell? at h
    rw [hn] at h
    simp at h

end Go.Proofs.Ytaegajlffiepoaa
