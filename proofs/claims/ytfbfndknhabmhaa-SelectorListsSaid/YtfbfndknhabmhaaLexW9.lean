/- The walks of layer 5: Lex. -/
import Derived.Test.YtfbfndknhabmhaaLexT
namespace Go.Proofs.Ytfbfndknhabmhaa
open Go.RowKit TreN LexP FixP

/-- a list under way: variable V, what cut owns T -/
structure LexR (w0 : World) (V T : Nat) (toks : List Tok) (w : World) : Prop where
  ex : ∃ v, w.heap[V]? = some (.cells #[v] 24 (0, 0)) ∧ w.ownsRow (T + 1) 45 3 v toks.length (tkcs toks)
  below : Below w0.heap.size w0 w
  lt : T < w.heap.size
  base : w0.heap.size ≤ V
  vt : V < T

theorem LexR.setT {w0 : World} {V T : Nat} {toks : List Tok} {w : World} (h : LexR w0 V T toks w) (k : Nat) (u : Value) : LexR w0 V T toks (w.setCell ⟨T, k, none⟩ u) := by
  obtain ⟨⟨v, h1, h2⟩, h3, h4, h5, h6⟩ := h
  refine ⟨⟨v, ?_, ownsRow_setBelow h2 (by omega) u⟩, h3.setCell (p := ⟨T, k, none⟩) (by show w0.heap.size ≤ T; omega) u, by rw [setCell_size]; exact h4, h5, h6⟩
  rw [setCell_there _ (by omega)]; exact h1
theorem LexR.keep {w0 : World} {V T : Nat} {toks : List Tok} {w w' : World} (h : LexR w0 V T toks w) (hb : Below w.heap.size w w') : LexR w0 V T toks w' := by
  obtain ⟨⟨v, h1, h2⟩, h3, h4, h5, h6⟩ := h
  exact ⟨⟨v, (hb.block V (by omega)).trans h1, ownsRow_below h2 hb⟩, h3.trans (hb.mono h3.size), Nat.lt_of_lt_of_le h4 hb.size, h5, h6⟩

theorem ownsRow_setNe {w : World} {base : Nat} {e : TypeId} {size : Nat} {v : Value} {n : Nat} {xs : List Value} (h : w.ownsRow base e size v n xs) {b k : Nat} (hb : ∀ g, v.ownBlock = some g → g ≠ b) (u : Value) : (w.setCell ⟨b, k, none⟩ u).ownsRow base e size v n xs := by
  obtain ⟨h1, h2⟩ := h
  refine ⟨h1, ?_⟩
  rcases h2 with h2 | ⟨g, cap, cur, hv, hg, hh, r⟩
  · exact Or.inl h2
  · refine Or.inr ⟨g, cap, cur, hv, hg, ?_, r⟩
    rw [setCell_there _ (hb g (by rw [hv]; rfl))]; exact hh
theorem tkcs_news {W : World} {b : Nat} (l : List Tok) (cur : Array Value) (T : TypeId) (h : W.heap[b]? = some (.cells cur T (0, 0))) (hc : cur.toList = tkcs l) : ∀ (j : Nat) (u : Value), (tkcs l)[j]? = some u → W.cell? ((⟨b, 0, none⟩ : Addr).add j) = some u := by
  intro j u hu
  have ha : (⟨b, 0, none⟩ : Addr).add j = ⟨b, j, none⟩ := by simp [Addr.add]; exact fun h => h.symm
  rw [ha]
  refine cell_of h ?_
  rw [← hc] at hu
  rw [← Array.getElem?_toList]; exact hu

theorem runT_all (l m : List Tok) : runT (fun l t => l ++ [t]) (fun _ _ => true) l m = l ++ m := by
  induction m generalizing l with
  | nil => simp [runT]
  | cons t m ih =>
    show (if true = true then runT _ _ (l ++ [t]) m else l ++ [t]) = _
    rw [if_pos rfl, ih]; simp
theorem cut_texts : ∀ (n : Nat) (l : List UInt8), l.length ≤ n → (cut l).length ≤ l.length ∧ ∀ t ∈ cut l, t.text.length ≤ l.length
  | n, [], _ => by simp [cut_nil]
  | 0, c :: r, h => by simp at h
  | n + 1, c :: r, h => by
    have hb := one_bd c r
    obtain ⟨h1, h2⟩ := cut_texts n ((c :: r).drop (one (c :: r)).2) (by rw [List.length_drop]; omega)
    rw [List.length_drop] at h1 h2
    rw [cut_cons]
    cases ho : (one (c :: r)).1 with
    | none =>
      simp only [Option.toList, List.nil_append]
      exact ⟨by omega, fun t ht => by have := h2 t ht; omega⟩
    | some t0 =>
      simp only [Option.toList, List.singleton_append, List.length_cons]
      simp only [List.length_cons] at hb h1 h2
      refine ⟨by omega, fun t ht => ?_⟩
      rcases List.mem_cons.1 ht with rfl | ht
      · exact one_text c r _ ho
      · have := h2 t ht; omega
end Go.Proofs.Ytfbfndknhabmhaa
