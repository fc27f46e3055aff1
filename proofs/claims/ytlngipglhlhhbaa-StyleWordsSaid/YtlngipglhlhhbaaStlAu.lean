/- Joined texts: StlA StlU. -/
import Derived.Test.YtlngipglhlhhbaaStlW3
import Derived.Test.YtlngipglhlhhbaaAppG
import Derived.Test.YtlngipglhlhhbaaStlLq
namespace Go.Proofs.Ytlngipglhlhhbaa
open Go.RowKit TreN LexP FixP SynP ValP PropP FixM
set_option linter.unusedVariables false

theorem below_grownA {B : Nat} {w w1 : World} {row : Option Nat} (hg : w.grownBy w1 row) (hr : ∀ g, row = some g → B ≤ g) (hB : B ≤ w.heap.size) : Below B w w1 :=
  ⟨hg.os, hg.tape, hg.output, hg.size, fun k hk => hg.block k (by omega) (fun e => by have := hr k e.symm; omega)⟩
def vr17 (v : Val) : List Value := [.int .i64 v.kind, .int .i64 v.n, .int .i64 v.d, .string ⟨v.name.toArray⟩]
def vrs17 (l : List Val) : List Value := l.flatMap vr17
theorem vrs17_length : ∀ l, (vrs17 l).length = l.length * 4
  | [] => rfl
  | v :: l => by
    have := vrs17_length l
    unfold vrs17 at this ⊢
    rw [List.flatMap_cons, List.length_append, this]
    simp only [vr17, List.length_cons, List.length_nil]; omega
theorem vrs17_one (l : List Val) : ∀ u ∈ vrs17 l, u.oneCell' = true := by
  intro u hu
  unfold vrs17 at hu
  obtain ⟨v, _, hv⟩ := List.mem_flatMap.1 hu
  simp only [vr17, List.mem_cons, List.not_mem_nil, or_false] at hv
  rcases hv with rfl | rfl | rfl | rfl <;> rfl
theorem info_valA : (Try.prog.info? 34).map (fun i => (i.zero, i.size, i.bytes)) = some (some (.agg #[.int .i64 0, .int .i64 0, .int .i64 0, .string ⟨#[]⟩]), 4, 40) := by kernel_rfl
theorem vrs17_get (l : List Val) (i : Nat) (h : i < l.length) : (vrs17 l)[i * 4]? = some (.int .i64 l[i].kind) ∧ (vrs17 l)[i * 4 + 1]? = some (.int .i64 l[i].n) ∧ (vrs17 l)[i * 4 + 2]? = some (.int .i64 l[i].d) ∧ (vrs17 l)[i * 4 + 3]? = some (.string ⟨l[i].name.toArray⟩) := by
  induction l generalizing i with
  | nil => simp at h
  | cons v l ih =>
    have e : vrs17 (v :: l) = vr17 v ++ vrs17 l := by unfold vrs17; rw [List.flatMap_cons]
    rw [e]
    cases i with
    | zero => exact ⟨rfl, rfl, rfl, rfl⟩
    | succ i =>
      have := ih i (by simpa using h)
      have e1 : (i + 1) * 4 = i * 4 + 4 := by omega
      rw [e1]
      exact this
theorem vrs17_news {w : World} {b o n : Nat} {L : List Val} (hT : Td w (some ⟨b, o, none⟩) n L) : ∀ j u, (vrs17 L)[j]? = some u → w.cell? ((⟨b, o, none⟩ : Addr).add j) = some u := fun j u hj => by
  have hlt := (List.getElem?_eq_some_iff.1 hj).1
  rw [vrs17_length, hT.len] at hlt
  have hi : j / 4 < n := by omega
  obtain ⟨b', o', v, ha, _, hv, _, c0, c1, c2, c3⟩ := hT.at_ (j / 4) hi
  injection ha with ha
  injection ha with e1 e2 e3
  subst e1; subst e2
  have hl : j / 4 < L.length := by rw [hT.len]; exact hi
  have hv' : L[j / 4] = v := by rw [List.getElem?_eq_getElem hl] at hv; injection hv
  obtain ⟨g0, g1, g2, g3⟩ := vrs17_get L (j / 4) hl
  rw [hv'] at g0 g1 g2 g3
  rw [Go.WideShapes.add_plain]
  have hj4 : j % 4 < 4 := by omega
  have ho : o + j = o + j / 4 * 4 + j % 4 := by omega
  have hq : j % 4 = 0 ∨ j % 4 = 1 ∨ j % 4 = 2 ∨ j % 4 = 3 := by omega
  rw [ho]
  rw [show j = j / 4 * 4 + j % 4 by omega] at hj
  rcases hq with q | q | q | q
  · rw [q] at hj ⊢
    rw [Nat.add_zero] at hj ⊢
    exact c0.trans (g0.symm.trans hj)
  · rw [q] at hj ⊢; exact c1.trans (g1.symm.trans hj)
  · rw [q] at hj ⊢; exact c2.trans (g2.symm.trans hj)
  · rw [q] at hj ⊢; exact c3.trans (g3.symm.trans hj)
theorem td_own {w : World} {B g n c : Nat} {L : List Val} (h : w.ownsRow B 34 4 (.slice (some ⟨g, 0, none⟩) n c) n (vrs17 L)) (hl : L.length = n) (hn : ∀ v, v ∈ L → v.name.length ≤ maxLen) : Td w (some ⟨g, 0, none⟩) n L := by
  have hg := World.ownsRow.lt h g rfl
  refine ⟨hl, Or.inr ⟨g, 0, rfl, hg.2, fun i hi => ?_⟩, hn⟩
  obtain ⟨g0, g1, g2, g3⟩ := vrs17_get L i hi
  rw [Nat.zero_add]
  exact ⟨(h.cellAt _ (by omega)).trans g0, (h.cellAt _ (by omega)).trans g1, (h.cellAt _ (by omega)).trans g2, (h.cellAt _ (by omega)).trans g3⟩
set_option maxRecDepth 100000 in
theorem app_told17 (ta : Option Addr) (n cap : Nat) (L : List Val) (W : World) (hT : Td W ta n L) (h0 : 0 < n) (hm : n ≤ maxLen) (hb : n * 40 ≤ 140737488355328) :
    ∃ g c w', (Builtin.append_ #[32, 32] 32 #[.slice none 0 0, .slice ta n cap]).run Try.prog W = .ok (.slice (some ⟨g, 0, none⟩) n c) w' ∧ Below W.heap.size W w' ∧ w'.ownsRow W.heap.size 34 4 (.slice (some ⟨g, 0, none⟩) n c) n (vrs17 L) := by
  obtain ⟨i, hi, hz0, hz1, hz2⟩ := info_parts info_valA
  have hown : W.ownsRow W.heap.size 34 4 (.slice none 0 0) 0 [] := ⟨rfl, Or.inl ⟨rfl, rfl⟩⟩
  obtain ⟨v', w', r1, r2, r3, r4⟩ := app_cellsA 32 34 i _ 4 40 Try.underlying32 hi hz0 hz1 hz2 rfl (by decide) W.heap.size (.slice none 0 0) 0 [] ta n cap (vrs17 L) W (Nat.le_refl _) hown (by rw [vrs17_length, hT.len])
    (by
      obtain ⟨b, o, _, ha, _⟩ := hT.at_ 0 h0
      subst ha
      exact Or.inr ⟨_, rfl, vrs17_news hT⟩)
    (vrs17_one L) (by omega) (by omega)
  rw [List.nil_append, Nat.zero_add] at r2
  obtain ⟨g, c, hv, _, _⟩ := r2.form (by omega)
  subst hv
  exact ⟨g, c, w', r1, r3, r2⟩
theorem four_store17 (w : World) (b : Nat) (T : TypeId) (cur : Array Value) (o : Nat) (n0 n1 n2 n3 : Value) (h : w.heap[b]? = some (.cells cur T (0, 0))) (hs : o + 3 < cur.size) :
    ∃ x1 x2 x3 x4 v0 v1 v2 v3, (w.cell? ⟨b, o, none⟩ = some v0 ∧ w.frozen? ⟨b, o, none⟩ = false ∧ w.setCell ⟨b, o, none⟩ n0 = x1) ∧
      (x1.cell? ⟨b, o + 1, none⟩ = some v1 ∧ x1.frozen? ⟨b, o + 1, none⟩ = false ∧ x1.setCell ⟨b, o + 1, none⟩ n1 = x2) ∧
      (x2.cell? ⟨b, o + 2, none⟩ = some v2 ∧ x2.frozen? ⟨b, o + 2, none⟩ = false ∧ x2.setCell ⟨b, o + 2, none⟩ n2 = x3) ∧
      (x3.cell? ⟨b, o + 3, none⟩ = some v3 ∧ x3.frozen? ⟨b, o + 3, none⟩ = false ∧ x3.setCell ⟨b, o + 3, none⟩ n3 = x4) ∧
      x4.heap[b]? = some (.cells ((((cur.setIfInBounds o n0).setIfInBounds (o + 1) n1).setIfInBounds (o + 2) n2).setIfInBounds (o + 3) n3) T (0, 0)) ∧ (∀ lo a, lo ≤ b → Below lo a w → Below lo a x4) := by
  have g1 := setCell_here (k := o) n0 h
  have g2 := setCell_here (k := o + 1) n1 g1
  have g3 := setCell_here (k := o + 2) n2 g2
  have g4 := setCell_here (k := o + 3) n3 g3
  refine ⟨_, _, _, _, cur[o]'(by omega), (cur.setIfInBounds o n0)[o + 1]'(by simp; omega), ((cur.setIfInBounds o n0).setIfInBounds (o + 1) n1)[o + 2]'(by simp; omega), (((cur.setIfInBounds o n0).setIfInBounds (o + 1) n1).setIfInBounds (o + 2) n2)[o + 3]'(by simp; omega),
    ⟨cell_of h (Array.getElem?_eq_getElem _), unfrozen_of h, rfl⟩, ⟨cell_of g1 (Array.getElem?_eq_getElem _), unfrozen_of g1, rfl⟩, ⟨cell_of g2 (Array.getElem?_eq_getElem _), unfrozen_of g2, rfl⟩, ⟨cell_of g3 (Array.getElem?_eq_getElem _), unfrozen_of g3, rfl⟩, g4, fun lo a hlo hb => ?_⟩
  exact (((hb.setCell (p := ⟨b, o, none⟩) hlo n0).setCell (p := ⟨b, o + 1, none⟩) hlo n1).setCell (p := ⟨b, o + 2, none⟩) hlo n2).setCell (p := ⟨b, o + 3, none⟩) hlo n3

/-- one cell of a value -/
def vcell (v : Val) (r : Nat) : Value := if r = 0 then .int .i64 v.kind else if r = 1 then .int .i64 v.n else if r = 2 then .int .i64 v.d else .string ⟨v.name.toArray⟩
/-- the list told, behind the store of one of its values -/
theorem td_set {x4 : World} {g n kk : Nat} {T : TypeId} {cur : Array Value} {L : List Val} {v : Val} (hk : kk < n) (hs : n * 4 ≤ cur.size) (hl : L.length = n) (ht : cur.toList.take (n * 4) = vrs17 L) (hn : ∀ u, u ∈ L → u.name.length ≤ maxLen) (hv : v.name.length ≤ maxLen)
    (h : x4.heap[g]? = some (.cells ((((cur.setIfInBounds (kk * 4) (vcell v 0)).setIfInBounds (kk * 4 + 1) (vcell v 1)).setIfInBounds (kk * 4 + 2) (vcell v 2)).setIfInBounds (kk * 4 + 3) (vcell v 3)) T (0, 0))) : Td x4 (some ⟨g, 0, none⟩) n (L.set kk v) := by
  have old : ∀ j r (hj : j < L.length), r < 4 → cur[j * 4 + r]? = some (vcell L[j] r) := fun j r hj hr => by
    obtain ⟨g0, g1, g2, g3⟩ := vrs17_get L j hj
    have key : cur[j * 4 + r]? = (vrs17 L)[j * 4 + r]? := by
      rw [← ht, List.getElem?_take_of_lt (by omega)]
      simp
    rw [key]
    have hr' : r = 0 ∨ r = 1 ∨ r = 2 ∨ r = 3 := by omega
    rcases hr' with rfl | rfl | rfl | rfl
    · exact g0
    · exact g1
    · exact g2
    · exact g3
  have all : ∀ j r (hj : j < (L.set kk v).length), r < 4 → x4.cell? ⟨g, j * 4 + r, none⟩ = some (vcell (L.set kk v)[j] r) := fun j r hj hr => by
    have hj' : j < L.length := by rwa [List.length_set] at hj
    refine cell_of h ?_
    rw [List.getElem_set]
    simp only [Array.getElem?_setIfInBounds, Array.size_setIfInBounds]
    by_cases e : kk = j
    · subst e
      rw [if_pos rfl]
      have hr' : r = 0 ∨ r = 1 ∨ r = 2 ∨ r = 3 := by omega
      rcases hr' with rfl | rfl | rfl | rfl <;> (repeat' split) <;> first | rfl | omega
    · rw [if_neg e]
      (repeat' split) <;> first | omega | exact old j r hj' hr
  refine ⟨by rw [List.length_set]; exact hl, Or.inr ⟨g, 0, rfl, (Array.getElem?_eq_some_iff.1 h).1, fun j hj => ?_⟩, fun u hu => ?_⟩
  · rw [Nat.zero_add]
    exact ⟨all j 0 hj (by omega), all j 1 hj (by omega), all j 2 hj (by omega), all j 3 hj (by omega)⟩
  · rcases List.mem_or_eq_of_mem_set hu with h | h
    · exact hn u h
    · rw [h]; exact hv
end Go.Proofs.Ytlngipglhlhhbaa

namespace Go.Proofs.Ytlngipglhlhhbaa
open Go.RowKit TreN LexP FixP SynP ValP PropP FixM
set_option linter.unusedVariables false

/-- from w0 on: two variables, either one made or not yet -/
structure Ps (w0 W : World) (x y : Option Nat) : Prop where
  bel : Below w0.heap.size w0 W
  hx : ∀ b, x = some b → w0.heap.size ≤ b ∧ b < W.heap.size ∧ W.there b 0 55
  hy : ∀ b, y = some b → w0.heap.size ≤ b ∧ b < W.heap.size ∧ W.there b 0 55
  ne : ∀ b c, x = some b → y = some c → b ≠ c
theorem Ps.start (w : World) : Ps w w none none := ⟨Below.refl _ _, fun _ h => (by cases h), fun _ h => (by cases h), fun _ _ h => (by cases h)⟩
theorem Ps.call {w0 W W' : World} {x y : Option Nat} (h : Ps w0 W x y) (hb : Below W.heap.size W W') : Ps w0 W' x y :=
  ⟨h.bel.trans (hb.mono h.bel.size), fun b e => ⟨(h.hx b e).1, Nat.lt_of_lt_of_le (h.hx b e).2.1 hb.size, there_below17 (h.hx b e).2.2 hb (h.hx b e).2.1⟩,
    fun b e => ⟨(h.hy b e).1, Nat.lt_of_lt_of_le (h.hy b e).2.1 hb.size, there_below17 (h.hy b e).2.2 hb (h.hy b e).2.1⟩, h.ne⟩
theorem new_there17 (W : World) : (W.alloc (.cells #[Value.int .i64 0, Value.bool false, Value.int .i64 0, Value.int .i64 0, Value.int .i64 0, Value.int .i64 0, Value.int .i64 0, Value.int .i64 0, Value.int .i64 0, Value.int .i64 0, Value.int .i64 0, Value.int .i64 0, Value.int .i64 0, Value.int .i64 0, Value.int .i64 0, Value.int .i64 0, Value.int .i64 0, Value.int .i64 0, Value.int .i64 0, Value.int .i64 0, Value.int .i64 0, Value.int .i64 0, Value.int .i64 0, Value.int .i64 0, Value.int .i64 0, Value.int .i64 0, Value.int .i64 0, Value.int .i64 0, Value.int .i64 0, Value.int .i64 0, Value.int .i64 0, Value.int .i64 0, Value.int .i64 0, Value.int .i64 0, Value.int .i64 0, Value.int .i64 0, Value.int .i64 0, Value.int .i64 0, Value.int .i64 0, Value.int .i64 0, Value.int .i64 0, Value.int .i64 0, Value.int .i64 0, Value.int .i64 0, Value.int .i64 0, Value.int .i64 0, Value.int .i64 0, Value.int .i64 0, Value.int .i64 0, Value.int .i64 0, Value.int .i64 0, Value.int .i64 0, Value.string ⟨#[]⟩, Value.int .i64 0, Value.int .i64 0] 27)).there W.heap.size 0 55 := there_of_block (heap_alloc_new W (.cells #[Value.int .i64 0, Value.bool false, Value.int .i64 0, Value.int .i64 0, Value.int .i64 0, Value.int .i64 0, Value.int .i64 0, Value.int .i64 0, Value.int .i64 0, Value.int .i64 0, Value.int .i64 0, Value.int .i64 0, Value.int .i64 0, Value.int .i64 0, Value.int .i64 0, Value.int .i64 0, Value.int .i64 0, Value.int .i64 0, Value.int .i64 0, Value.int .i64 0, Value.int .i64 0, Value.int .i64 0, Value.int .i64 0, Value.int .i64 0, Value.int .i64 0, Value.int .i64 0, Value.int .i64 0, Value.int .i64 0, Value.int .i64 0, Value.int .i64 0, Value.int .i64 0, Value.int .i64 0, Value.int .i64 0, Value.int .i64 0, Value.int .i64 0, Value.int .i64 0, Value.int .i64 0, Value.int .i64 0, Value.int .i64 0, Value.int .i64 0, Value.int .i64 0, Value.int .i64 0, Value.int .i64 0, Value.int .i64 0, Value.int .i64 0, Value.int .i64 0, Value.int .i64 0, Value.int .i64 0, Value.int .i64 0, Value.int .i64 0, Value.int .i64 0, Value.int .i64 0, Value.string ⟨#[]⟩, Value.int .i64 0, Value.int .i64 0] 27))
theorem Ps.ax {w0 W : World} {y : Option Nat} (h : Ps w0 W none y) : Ps w0 (W.alloc (.cells #[Value.int .i64 0, Value.bool false, Value.int .i64 0, Value.int .i64 0, Value.int .i64 0, Value.int .i64 0, Value.int .i64 0, Value.int .i64 0, Value.int .i64 0, Value.int .i64 0, Value.int .i64 0, Value.int .i64 0, Value.int .i64 0, Value.int .i64 0, Value.int .i64 0, Value.int .i64 0, Value.int .i64 0, Value.int .i64 0, Value.int .i64 0, Value.int .i64 0, Value.int .i64 0, Value.int .i64 0, Value.int .i64 0, Value.int .i64 0, Value.int .i64 0, Value.int .i64 0, Value.int .i64 0, Value.int .i64 0, Value.int .i64 0, Value.int .i64 0, Value.int .i64 0, Value.int .i64 0, Value.int .i64 0, Value.int .i64 0, Value.int .i64 0, Value.int .i64 0, Value.int .i64 0, Value.int .i64 0, Value.int .i64 0, Value.int .i64 0, Value.int .i64 0, Value.int .i64 0, Value.int .i64 0, Value.int .i64 0, Value.int .i64 0, Value.int .i64 0, Value.int .i64 0, Value.int .i64 0, Value.int .i64 0, Value.int .i64 0, Value.int .i64 0, Value.int .i64 0, Value.string ⟨#[]⟩, Value.int .i64 0, Value.int .i64 0] 27)) (some W.heap.size) y := by
  have hb := below_one7h W (.cells #[Value.int .i64 0, Value.bool false, Value.int .i64 0, Value.int .i64 0, Value.int .i64 0, Value.int .i64 0, Value.int .i64 0, Value.int .i64 0, Value.int .i64 0, Value.int .i64 0, Value.int .i64 0, Value.int .i64 0, Value.int .i64 0, Value.int .i64 0, Value.int .i64 0, Value.int .i64 0, Value.int .i64 0, Value.int .i64 0, Value.int .i64 0, Value.int .i64 0, Value.int .i64 0, Value.int .i64 0, Value.int .i64 0, Value.int .i64 0, Value.int .i64 0, Value.int .i64 0, Value.int .i64 0, Value.int .i64 0, Value.int .i64 0, Value.int .i64 0, Value.int .i64 0, Value.int .i64 0, Value.int .i64 0, Value.int .i64 0, Value.int .i64 0, Value.int .i64 0, Value.int .i64 0, Value.int .i64 0, Value.int .i64 0, Value.int .i64 0, Value.int .i64 0, Value.int .i64 0, Value.int .i64 0, Value.int .i64 0, Value.int .i64 0, Value.int .i64 0, Value.int .i64 0, Value.int .i64 0, Value.int .i64 0, Value.int .i64 0, Value.int .i64 0, Value.int .i64 0, Value.string ⟨#[]⟩, Value.int .i64 0, Value.int .i64 0] 27)
  have g := h.call hb
  refine ⟨g.bel, fun b e => ?_, g.hy, fun b c e1 e2 => ?_⟩
  · injection e with e
    subst e
    exact ⟨h.bel.size, by simp, new_there17 W⟩
  · injection e1 with e1
    subst e1
    have := (h.hy c e2).2.1
    omega
theorem Ps.ay {w0 W : World} {x : Option Nat} (h : Ps w0 W x none) : Ps w0 (W.alloc (.cells #[Value.int .i64 0, Value.bool false, Value.int .i64 0, Value.int .i64 0, Value.int .i64 0, Value.int .i64 0, Value.int .i64 0, Value.int .i64 0, Value.int .i64 0, Value.int .i64 0, Value.int .i64 0, Value.int .i64 0, Value.int .i64 0, Value.int .i64 0, Value.int .i64 0, Value.int .i64 0, Value.int .i64 0, Value.int .i64 0, Value.int .i64 0, Value.int .i64 0, Value.int .i64 0, Value.int .i64 0, Value.int .i64 0, Value.int .i64 0, Value.int .i64 0, Value.int .i64 0, Value.int .i64 0, Value.int .i64 0, Value.int .i64 0, Value.int .i64 0, Value.int .i64 0, Value.int .i64 0, Value.int .i64 0, Value.int .i64 0, Value.int .i64 0, Value.int .i64 0, Value.int .i64 0, Value.int .i64 0, Value.int .i64 0, Value.int .i64 0, Value.int .i64 0, Value.int .i64 0, Value.int .i64 0, Value.int .i64 0, Value.int .i64 0, Value.int .i64 0, Value.int .i64 0, Value.int .i64 0, Value.int .i64 0, Value.int .i64 0, Value.int .i64 0, Value.int .i64 0, Value.string ⟨#[]⟩, Value.int .i64 0, Value.int .i64 0] 27)) x (some W.heap.size) := by
  have hb := below_one7h W (.cells #[Value.int .i64 0, Value.bool false, Value.int .i64 0, Value.int .i64 0, Value.int .i64 0, Value.int .i64 0, Value.int .i64 0, Value.int .i64 0, Value.int .i64 0, Value.int .i64 0, Value.int .i64 0, Value.int .i64 0, Value.int .i64 0, Value.int .i64 0, Value.int .i64 0, Value.int .i64 0, Value.int .i64 0, Value.int .i64 0, Value.int .i64 0, Value.int .i64 0, Value.int .i64 0, Value.int .i64 0, Value.int .i64 0, Value.int .i64 0, Value.int .i64 0, Value.int .i64 0, Value.int .i64 0, Value.int .i64 0, Value.int .i64 0, Value.int .i64 0, Value.int .i64 0, Value.int .i64 0, Value.int .i64 0, Value.int .i64 0, Value.int .i64 0, Value.int .i64 0, Value.int .i64 0, Value.int .i64 0, Value.int .i64 0, Value.int .i64 0, Value.int .i64 0, Value.int .i64 0, Value.int .i64 0, Value.int .i64 0, Value.int .i64 0, Value.int .i64 0, Value.int .i64 0, Value.int .i64 0, Value.int .i64 0, Value.int .i64 0, Value.int .i64 0, Value.int .i64 0, Value.string ⟨#[]⟩, Value.int .i64 0, Value.int .i64 0] 27)
  have g := h.call hb
  refine ⟨g.bel, g.hx, fun b e => ?_, fun b c e1 e2 => ?_⟩
  · injection e with e
    subst e
    exact ⟨h.bel.size, by simp, new_there17 W⟩
  · injection e2 with e2
    subst e2
    have := (h.hx b e1).2.1
    omega
/-- two variables that hold two styles -/
structure Pw (w0 W : World) (x y : Nat) (Xs Ys : List Value) : Prop where
  bel : Below w0.heap.size w0 W
  x0 : w0.heap.size ≤ x
  y0 : w0.heap.size ≤ y
  xl : x < W.heap.size
  yl : y < W.heap.size
  xr : W.rangeAt x 0 Xs
  yr : W.rangeAt y 0 Ys
  yt : W.there y 0 55
  ne : x ≠ y
theorem Ps.two {w0 W : World} {x y : Nat} {Xs Ys : List Value} (h : Ps w0 W (some x) (some y)) (hX : Xs.length = 55) (hY : Ys.length = 55) : Pw w0 ((W.setCells x 0 Xs).setCells y 0 Ys) x y Xs Ys := by
  obtain ⟨x0, xl, xt⟩ := h.hx x rfl
  obtain ⟨y0, yl, yt⟩ := h.hy y rfl
  have ne := h.ne x y rfl rfl
  refine ⟨below_setCells (below_setCells h.bel x x0 Xs 0) y y0 Ys 0, x0, y0, ?_, ?_, ?_, ?_, ?_, ne⟩
  · exact Nat.lt_of_lt_of_le xl (Nat.le_trans (size_setCells W x Xs 0) (size_setCells _ y Ys 0))
  · exact Nat.lt_of_lt_of_le yl (Nat.le_trans (size_setCells W x Xs 0) (size_setCells _ y Ys 0))
  · exact World.rangeAt_setCells_apart (World.rangeAt_setCells_same W x 0 Xs (by rw [hX]; exact xt)) y 0 Ys (Or.inl ne)
  · exact World.rangeAt_setCells_same _ y 0 Ys (by rw [hY]; exact World.there_setCells yt x 0 Xs)
  · exact World.there_setCells (World.there_setCells yt x 0 Xs) y 0 Ys
theorem Pw.call {w0 W W' : World} {x y : Nat} {Xs Ys : List Value} (h : Pw w0 W x y Xs Ys) (hb : Below W.heap.size W W') : Pw w0 W' x y Xs Ys :=
  ⟨h.bel.trans (hb.mono h.bel.size), h.x0, h.y0, Nat.lt_of_lt_of_le h.xl hb.size, Nat.lt_of_lt_of_le h.yl hb.size, range_below17 h.xr hb h.xl, range_below17 h.yr hb h.yl, there_below17 h.yt hb h.yl, h.ne⟩
theorem Pw.drew {w0 W : World} {x y : Nat} {Xs Ys : List Value} (h : Pw w0 W x y Xs Ys) : Pw w0 W.drew x y Xs Ys := ⟨h.bel.drew, h.x0, h.y0, h.xl, h.yl, h.xr, h.yr, h.yt, h.ne⟩
theorem Ps.drew {w0 W : World} {x y : Option Nat} (h : Ps w0 W x y) : Ps w0 W.drew x y := ⟨h.bel.drew, h.hx, h.hy, h.ne⟩
theorem Pw.sety {w0 W : World} {x y : Nat} {Xs Ys : List Value} (h : Pw w0 W x y Xs Ys) (j : Nat) (v : Value) : Pw w0 (W.setCell ⟨y, j, none⟩ v) x y Xs (Ys.set j v) :=
  ⟨h.bel.setCell (p := ⟨y, j, none⟩) h.y0 v, h.x0, h.y0, by simpa using h.xl, by simpa using h.yl, range_other17 h.xr (fun e => h.ne e.symm) j v, range_set17 h.yr j v, fun i hi => by
    refine ⟨?_, by rw [World.frozen?_setCell]; exact (h.yt i hi).2⟩
    by_cases e : (⟨y, j, none⟩ : Addr) = ⟨y, 0 + i, none⟩
    · rw [e]
      obtain ⟨u, hu⟩ := Option.isSome_iff_exists.1 (h.yt i hi).1
      rw [World.cell?_setCell_same (h := hu)]; rfl
    · rw [World.cell?_setCell_other (h := e)]; exact (h.yt i hi).1, h.ne⟩
theorem Pw.x_at {w0 W : World} {x y : Nat} {Xs Ys : List Value} (h : Pw w0 W x y Xs Ys) (i : Nat) (v : Value) (hi : Xs[i]? = some v) : W.cell? ⟨x, i, none⟩ = some v := by
  have := h.xr i v hi
  rwa [Nat.zero_add] at this
theorem Pw.y_at {w0 W : World} {x y : Nat} {Xs Ys : List Value} (h : Pw w0 W x y Xs Ys) (i : Nat) (hi : i < 55) : ∃ v, W.cell? ⟨y, i, none⟩ = some v ∧ W.frozen? ⟨y, i, none⟩ = false := by
  have := h.yt i hi
  rw [Nat.zero_add] at this
  obtain ⟨v, hv⟩ := Option.isSome_iff_exists.1 this.1
  exact ⟨v, hv, this.2⟩
/-- one variable that holds a style, beside one made earlier -/
theorem Ps.one {w0 W0 W : World} {x y q : Nat} {Xs Ys Zs : List Value} (hp : Pw w0 W0 x y Xs Ys) (h : Ps W0 W (some q) none) (hZ : Zs.length = 55) : Pw w0 (W.setCells q 0 Zs) x q Xs Zs := by
  obtain ⟨q0, ql, qt⟩ := h.hx q rfl
  have g := hp.call h.bel
  have hne : x ≠ q := by have := hp.xl; omega
  refine ⟨below_setCells g.bel q (Nat.le_trans hp.bel.size q0) Zs 0, hp.x0, Nat.le_trans hp.bel.size q0, ?_, ?_, ?_, ?_, ?_, hne⟩
  · exact Nat.lt_of_lt_of_le g.xl (size_setCells W q Zs 0)
  · exact Nat.lt_of_lt_of_le ql (size_setCells W q Zs 0)
  · exact World.rangeAt_setCells_apart g.xr q 0 Zs (Or.inl hne)
  · exact World.rangeAt_setCells_same W q 0 Zs (by rw [hZ]; exact qt)
  · exact World.there_setCells qt q 0 Zs
theorem neq17 {A : Array Value} {W : World} (h : (binOp .eql 27 (.agg A) (.agg A)).run Try.prog W = .ok (.bool true) W) : (binOp .neq 27 (.agg A) (.agg A)).run Try.prog W = .ok (.bool false) W := by
  rw [run_eql_struct] at h
  rw [run_neq_struct]
  generalize (Op.equalIn 10000 27 (.agg A) (.agg A)).run Try.prog W = r at *
  cases r with
  | ok b w' =>
    simp only [Result.andThen_ok] at h ⊢
    injection h with h1 h2
    injection h1 with h1
    subst h1; subst h2
    rfl
  | halt x w' => cases h
theorem guardn17 (x y : Operand) (A B : Array Value) (W : World) : (eqGuard .neq 27 x y (.agg A) (.agg B)).run Try.prog W = .ok () W := run_eqGuard_agg W .neq 27 x y A B (by kernel_rfl)
end Go.Proofs.Ytlngipglhlhhbaa
