/- Layer 18: the lines of a text. -/
import Derived.Test.YtekmgpbolbkiaaaWdsW5
import Derived.Laws.OwnMore
namespace Go.Proofs.Ytekmgpbolbkiaaa
open Go.RowKit FixM FixP TreN WdsP
set_option linter.unusedVariables false

theorem info_line18 : (Try.prog.info? 37).map (fun i => (i.zero, i.size, i.bytes)) = some (some (.agg #[.int .i64 0, .int .i64 0, .int .i64 0]), 3, 24) := by kernel_rfl
def lcs (l : List Ln) : List Value := l.flatMap fun x => [.int .i64 (x.1 : Int), .int .i64 (x.2.1 : Int), .int .i64 x.2.2]
theorem lcs_len (l : List Ln) : (lcs l).length = l.length * 3 := by
  induction l with
  | nil => rfl
  | cons a l ih => unfold lcs at ih ⊢; simp only [List.flatMap_cons, List.length_append, ih, List.length_cons, List.length_nil]; omega
theorem lcs_snoc (l : List Ln) (x : Ln) : lcs (l ++ [x]) = lcs l ++ [.int .i64 (x.1 : Int), .int .i64 (x.2.1 : Int), .int .i64 x.2.2] := by unfold lcs; simp
theorem lcs_at {l : List Ln} {i : Nat} (h : i < l.length) : (lcs l)[i * 3]? = some (.int .i64 (l[i].1 : Int)) ∧ (lcs l)[i * 3 + 1]? = some (.int .i64 (l[i].2.1 : Int)) ∧ (lcs l)[i * 3 + 2]? = some (.int .i64 l[i].2.2) := by
  induction l generalizing i with
  | nil => simp at h
  | cons a l ih =>
    cases i with
    | zero => simp [lcs]
    | succ i =>
      have := ih (i := i) (by simp at h; omega)
      have e : ∀ r, (lcs (a :: l))[(i + 1) * 3 + r]? = (lcs l)[i * 3 + r]? := fun r => by
        have e2 : (i + 1) * 3 + r = (i * 3 + r) + 1 + 1 + 1 := by omega
        rw [e2]; unfold lcs; simp only [List.flatMap_cons, List.cons_append, List.nil_append, List.getElem?_cons_succ]
      have e0 := e 0
      simp only [Nat.add_zero] at e0
      rw [e0, e 1, e 2]
      simpa using this
theorem lcs_set (l : List Ln) (f x t : Nat) (y v : Int) : ((lcs (l ++ [(f, x, y)])).set (l.length * 3 + 1) (.int .i64 (t : Int))).set (l.length * 3 + 2) (.int .i64 v) = lcs (l ++ [(f, t, v)]) := by
  rw [lcs_snoc, lcs_snoc, List.set_append_right _ _ (by rw [lcs_len]; omega), List.set_append_right _ _ (by rw [lcs_len]; omega), lcs_len]
  have e1 : l.length * 3 + 1 - l.length * 3 = 1 := by omega
  have e2 : l.length * 3 + 2 - l.length * 3 = 2 := by omega
  rw [e1, e2]; rfl

theorem RunB.grown {n q : Nat} {w W W' : World} {t A : Int} (h : RunB n w W t A) (hg : W.grownBy W' (some q)) (hne : q ≠ n) (hq : w.heap.size ≤ q) : RunB n w W' t A :=
  ⟨(hg.block n h.lt (fun e => hne (by injection e with e; exact e.symm))).trans h.here, h.base, h.bel.trans ((Below.refl _ _).grown hg h.bel.size (fun k hk => by injection hk with hk; omega))⟩
theorem RunB.grownV {n : Nat} {v : Value} {w W W' : World} {t A : Int} (h : RunB n w W t A) (hg : W.grownBy W' v.ownBlock) (hne : ∀ q, v.ownBlock = some q → q ≠ n ∧ w.heap.size ≤ q) : RunB n w W' t A :=
  ⟨(hg.block n h.lt (fun e => (hne n e.symm).1 rfl)).trans h.here, h.base, h.bel.trans ((Below.refl _ _).grown hg h.bel.size (fun k hk => (hne k hk).2))⟩
theorem RunB.new {w W : World} (h : Below w.heap.size w W) (t A : Int) : RunB W.heap.size w (W.alloc (.cells #[.int .i64 t, .int .i64 A] 45)) t A := ⟨heap_alloc_new W _, h.size, h.alloc h.size _⟩

theorem RunB.copy {m n : Nat} {w W : World} {t A t9 A9 : Int} (hm : RunB m w W t A) (h : RunB n w W t9 A9) : ∃ x1 x2,
    (W.cell? ⟨n, 0, none⟩ = some (.int .i64 t9) ∧ W.frozen? ⟨n, 0, none⟩ = false ∧ W.setCell ⟨n, 0, none⟩ (.int .i64 t) = x1) ∧
    (x1.cell? ⟨n, 1, none⟩ = some (.int .i64 A9) ∧ x1.frozen? ⟨n, 1, none⟩ = false ∧ x1.setCell ⟨n, 1, none⟩ (.int .i64 A) = x2) ∧ RunB n w x2 t A ∧ W.grownBy x2 (some n) := h.put t A

theorem own_ne18 {n G a b : Nat} (h : n + 1 ≤ G) : (Value.slice (some ⟨G, 0, none⟩) a b).ownBlock ≠ some n := by intro e; simp [Value.ownBlock] at e; omega

theorem ownsRow_baseW {w : World} {base base' : Nat} {e : TypeId} {size : Nat} {v : Value} {n : Nat} {xs : List Value} (h : w.ownsRow base e size v n xs) (hb : base' ≤ base) : w.ownsRow base' e size v n xs := by
  obtain ⟨h1, h2⟩ := h
  refine ⟨h1, ?_⟩
  rcases h2 with h2 | ⟨g, cap, cur, hv, hg, r⟩
  · exact Or.inl h2
  · exact Or.inr ⟨g, cap, cur, hv, by omega, r⟩
theorem put_last {n : Nat} {w W : World} {T : TypeId} {g cap : Nat} {d : List Ln} {f x k : Nat} {y u : Int} {t9 A9 : Int} (hr : W.ownsRow (n + 1) T 3 (.slice (some ⟨g, 0, none⟩) (d.length + 1) cap) (d.length + 1) (lcs (d ++ [(f, x, y)]))) (h9 : RunB n w W t9 A9) : ∃ x1 x2,
    (W.cell? ⟨g, d.length * 3 + 1, none⟩ = some (.int .i64 (x : Int)) ∧ W.frozen? ⟨g, d.length * 3 + 1, none⟩ = false ∧ W.setCell ⟨g, d.length * 3 + 1, none⟩ (.int .i64 ((k : Int) + 1)) = x1) ∧
    (x1.cell? ⟨g, d.length * 3 + 2, none⟩ = some (.int .i64 y) ∧ x1.frozen? ⟨g, d.length * 3 + 2, none⟩ = false ∧ x1.setCell ⟨g, d.length * 3 + 2, none⟩ (.int .i64 u) = x2) ∧
    x2.ownsRow (n + 1) T 3 (.slice (some ⟨g, 0, none⟩) (d.length + 1) cap) (d.length + 1) (lcs (d ++ [(f, k + 1, u)])) ∧ RunB n w x2 t9 A9 := by
  have hg := World.ownsRow.lt hr g rfl
  obtain ⟨s1, g1⟩ := hr.stored (d.length * 3 + 1) (.int .i64 ((k : Int) + 1))
  obtain ⟨s2, g2⟩ := s1.stored (d.length * 3 + 2) (.int .i64 u)
  have hl := lcs_at (l := d ++ [(f, x, y)]) (i := d.length) (by simp)
  rw [List.getElem_append_right (by omega)] at hl
  simp only [Nat.sub_self, List.getElem_cons_zero] at hl
  refine ⟨_, _, ⟨?_, hr.frozenAt _, rfl⟩, ⟨?_, s1.frozenAt _, rfl⟩, ?_, ?_⟩
  · rw [hr.cellAt _ (by omega)]; exact hl.2.1
  · rw [s1.cellAt _ (by omega), List.getElem?_set_ne (by omega)]; exact hl.2.2
  · have e := lcs_set d f x (k + 1) y u
    rw [← e]; exact s2
  · have hb := h9.base
    exact (h9.grown g1 (by omega) (by omega)).grown g2 (by omega) (by omega)
end Go.Proofs.Ytekmgpbolbkiaaa
