/- Layer 9's reference: Read. -/
import Derived.Test.YtppnpdjbmhbimaaValR1
import Derived.Test.YtppnpdjbmhbimaaValW8
namespace Go.Proofs.Ytppnpdjbmhbimaa
open Go.RowKit TreN LexP FixP SynP ValP FixM
set_option linter.unusedVariables false

theorem bs_drop1 (t : Tok) (r : List Tok) : (t :: r).drop (skipN (t :: r) 1) = bs r := skipN_drop (t :: r) 1
/-- over, by places -/
theorem over_idx (t : Tok) (r : List Tok) :
    (signP (t :: r) (skipN (t :: r) 1) [47] = true ∧ isP (t :: r) (skipN (t :: r) (skipN (t :: r) 1 + 1)) 7 = true ∧ ∃ h : skipN (t :: r) (skipN (t :: r) 1 + 1) < (t :: r).length, overP r = some ((t :: r)[skipN (t :: r) (skipN (t :: r) 1 + 1)], (t :: r).drop (skipN (t :: r) (skipN (t :: r) 1 + 1) + 1))) ∨
    ((signP (t :: r) (skipN (t :: r) 1) [47] = false ∨ (signP (t :: r) (skipN (t :: r) 1) [47] = true ∧ isP (t :: r) (skipN (t :: r) (skipN (t :: r) 1 + 1)) 7 = false)) ∧ overP r = none) := by
  obtain ⟨l, hl⟩ : ∃ l, t :: r = l := ⟨_, rfl⟩
  have hb := bs_drop1 t r
  rw [hl] at hb ⊢
  obtain ⟨k, hk⟩ : ∃ k, skipN l 1 = k := ⟨_, rfl⟩
  rw [hk] at hb ⊢
  have hm := skipN_drop l (k + 1)
  obtain ⟨m, hmm⟩ : ∃ m, skipN l (k + 1) = m := ⟨_, rfl⟩
  rw [hmm] at hm ⊢
  by_cases hkl : k < l.length
  · have hd := List.drop_eq_getElem_cons hkl
    by_cases hs : l[k].kind = 19 ∧ l[k].text = [47]
    · have hsg : signP l k [47] = true := by unfold signP; rw [isP_lt hkl, hd]; show (decide (l[k].kind = 19) && decide (l[k].text = [47])) = true; rw [decide_eq_true hs.1, decide_eq_true hs.2]; rfl
      have hp : passP 19 [47] (bs r) = some (l.drop (k + 1)) := by
        rw [← hb, hd]
        show (if l[k].text = [47] then (takeP 19 (l[k] :: l.drop (k + 1))).map Prod.snd else none) = _
        rw [if_pos hs.2]
        show (if l[k].kind = 19 then some (l[k], l.drop (k + 1)) else none).map Prod.snd = _
        rw [if_pos hs.1]; rfl
      have ho : overP r = takeP 7 (l.drop m) := by unfold overP; rw [hp, hm]; rfl
      by_cases hml : m < l.length
      · have hdm := List.drop_eq_getElem_cons hml
        by_cases h7 : l[m].kind = 7
        · left
          refine ⟨hsg, by rw [isP_lt hml, decide_eq_true h7], hml, ?_⟩
          rw [ho, hdm]
          show (if l[m].kind = 7 then some (l[m], l.drop (m + 1)) else none) = _
          rw [if_pos h7]
        · right
          refine ⟨Or.inr ⟨hsg, by rw [isP_lt hml, decide_eq_false h7]⟩, ?_⟩
          rw [ho, hdm]
          show (if l[m].kind = 7 then some (l[m], l.drop (m + 1)) else none) = _
          rw [if_neg h7]
      · right
        refine ⟨Or.inr ⟨hsg, isP_ge (by omega) 7⟩, ?_⟩
        rw [ho, List.drop_of_length_le (by omega)]; rfl
    · have hsg : signP l k [47] = false := by
        unfold signP; rw [isP_lt hkl, hd]
        show (decide (l[k].kind = 19) && decide (l[k].text = [47])) = false
        by_cases h1 : l[k].kind = 19
        · have h2 : ¬ l[k].text = [47] := fun h => hs ⟨h1, h⟩
          rw [decide_eq_false h2, Bool.and_false]
        · rw [decide_eq_false h1]; rfl
      right
      refine ⟨Or.inl hsg, ?_⟩
      have hp : passP 19 [47] (bs r) = none := by
        rw [← hb, hd]
        show (if l[k].text = [47] then (takeP 19 (l[k] :: l.drop (k + 1))).map Prod.snd else none) = _
        by_cases h2 : l[k].text = [47]
        · have h1 : ¬ l[k].kind = 19 := fun h => hs ⟨h, h2⟩
          rw [if_pos h2]
          show (if l[k].kind = 19 then some (l[k], l.drop (k + 1)) else none).map Prod.snd = _
          rw [if_neg h1]; rfl
        · rw [if_neg h2]
      unfold overP; rw [hp]; rfl
  · right
    have hd : l.drop k = [] := List.drop_of_length_le (by omega)
    refine ⟨Or.inl (by unfold signP; rw [isP_ge (by omega)]; rfl), ?_⟩
    have hp : passP 19 [47] (bs r) = none := by rw [← hb, hd]; rfl
    unfold overP; rw [hp]; rfl
theorem three_blocks (W w2 : World) (o z C : Obj) (hb : Below (((W.alloc o).alloc z).alloc C).drew.heap.size (((W.alloc o).alloc z).alloc C).drew w2) : w2.heap[W.heap.size]? = some o ∧ w2.heap[W.heap.size + 1]? = some z ∧ Below W.heap.size W w2 ∧ W.heap.size + 1 < w2.heap.size := by
  have e : (((W.alloc o).alloc z).alloc C).drew.heap = (((W.alloc o).alloc z).alloc C).heap := rfl
  have h : Below ((W.alloc o).alloc z).heap.size ((W.alloc o).alloc z) w2 := by
    have h1 : Below ((W.alloc o).alloc z).heap.size ((W.alloc o).alloc z) (((W.alloc o).alloc z).alloc C).drew := ((Below.refl _ _).alloc (Nat.le_refl _) _).drew
    exact h1.trans (hb.mono h1.size)
  exact two_blocks W w2 o z h

theorem put_one {w W : World} {cur : Array Value} {Z : Obj} {k : Nat} (v : Value) (k1 : W.heap[w.heap.size]? = some Z) (k2 : W.heap[w.heap.size + 1]? = some (.cells cur 30 (0, 0))) (k3 : Below w.heap.size w W) (hk : k < cur.size) :
    ∃ x1 v0, W.cell? ⟨w.heap.size + 1, k, none⟩ = some v0 ∧ W.frozen? ⟨w.heap.size + 1, k, none⟩ = false ∧ W.setCell ⟨w.heap.size + 1, k, none⟩ v = x1 ∧ w.heap.size + 1 < x1.heap.size ∧ x1.heap[w.heap.size + 1]? = some (.cells (cur.setIfInBounds k v) 30 (0, 0)) ∧ x1.heap[w.heap.size]? = some Z ∧ Below w.heap.size w x1 :=
  ⟨_, cur[k], cell_of k2 (by simp [hk]), unfrozen_of k2, rfl, by rw [setCell_size]; exact blk_lt9 k2, setCell_here _ k2, by rw [setCell_there _ (by omega)]; exact k1, k3.setCell (p := ⟨w.heap.size + 1, k, none⟩) (by show w.heap.size ≤ w.heap.size + 1; omega) _⟩
theorem after_drawn {w x w5 : World} {C Z : Obj} {cur : Array Value} (hb : Below (x.alloc C).drew.heap.size (x.alloc C).drew w5) (k2 : x.heap[w.heap.size + 1]? = some (.cells cur 30 (0, 0))) (k1 : x.heap[w.heap.size]? = some Z) (k3 : Below w.heap.size w x) :
    w5.heap[w.heap.size]? = some Z ∧ w5.heap[w.heap.size + 1]? = some (.cells cur 30 (0, 0)) ∧ Below w.heap.size w w5 ∧ True := by
  have h : Below x.heap.size x w5 := by
    have h1 : Below x.heap.size x (x.alloc C).drew := ((Below.refl _ _).alloc (Nat.le_refl _) _).drew
    exact h1.trans (hb.mono h1.size)
  exact ⟨(h.block _ (blk_lt9 k1)).trans k1, (h.block _ (blk_lt9 k2)).trans k2, k3.trans (h.mono k3.size), trivial⟩
end Go.Proofs.Ytppnpdjbmhbimaa
