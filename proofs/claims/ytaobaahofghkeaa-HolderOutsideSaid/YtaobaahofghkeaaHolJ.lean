/- Layer 15: another list of extents, with one of them changed. -/
import Derived.Test.YtaobaahofghkeaaHolI
import Derived.Laws.AppendOwn
namespace Go.Proofs.Ytaobaahofghkeaa
open Go.RowKit TreP FixM Go.Sort
set_option linter.unusedVariables false

def updX (X : Nat → Ext) (kk : Nat) (E : Ext) : Nat → Ext := fun j => if j = kk then E else X j
theorem updX_kind (X : Nat → Ext) (kk : Nat) (E : Ext) (m j : Nat) (h : j ≠ kk) : kindN (updX X kk E) m j = kindN X m j := by unfold kindN updX; rw [if_neg h]
theorem find_same {P Q : Nat → Bool} : ∀ {U : List Nat}, (∀ j ∈ U, P j = Q j) → U.find? P = U.find? Q
  | [], _ => rfl
  | x :: U, h => by
    have e := h x List.mem_cons_self
    have i := find_same (P := P) (Q := Q) (U := U) fun j hj => h j (List.mem_cons_of_mem _ hj)
    cases hq : Q x with
    | true => rw [List.find?_cons_of_pos (by rw [e]; exact hq), List.find?_cons_of_pos hq]
    | false => rw [List.find?_cons_of_neg (by rw [e, hq]; simp), List.find?_cons_of_neg (by rw [hq]; simp), i]
theorem wide_upd (X : Nat → Ext) (kk : Nat) (E : Ext) (m : Nat) {U : List Nat} (h : kk ∉ U) : U.find? (wideB (updX X kk E) m) = U.find? (wideB X m) := find_same fun j hj => by unfold wideB; rw [updX_kind X kk E m j (fun e => h (e ▸ hj))]
theorem whole_upd (X : Nat → Ext) (kk : Nat) (E : Ext) (m : Nat) {U : List Nat} (h : kk ∉ U) : U.find? (wholeB (updX X kk E) m) = U.find? (wholeB X m) := find_same fun j hj => by unfold wholeB; rw [updX_kind X kk E m j (fun e => h (e ▸ hj))]
theorem baseW_upd (X : Nat → Ext) (kk : Nat) (E : Ext) (m : Nat) {U : List Nat} (h : kk ∉ U) (d : Int) : baseW (updX X kk E) m U d = baseW X m U d := by
  unfold baseW
  rw [wide_upd X kk E m h]
  cases hf : U.find? (wideB X m) with
  | none => rfl
  | some k =>
    have : k ≠ kk := fun e => h (e ▸ List.mem_of_find?_eq_some hf)
    show (updX X kk E k).wd = (X k).wd
    unfold updX; rw [if_neg this]
theorem baseH_upd (X : Nat → Ext) (kk : Nat) (E : Ext) (m : Nat) {U : List Nat} (h : kk ∉ U) (d : Int) : baseH (updX X kk E) m U d = baseH X m U d := by
  unfold baseH
  rw [whole_upd X kk E m h]
  cases hf : U.find? (wholeB X m) with
  | none => rfl
  | some k =>
    have : k ≠ kk := fun e => h (e ▸ List.mem_of_find?_eq_some hf)
    show (updX X kk E k).ht = (X k).ht
    unfold updX; rw [if_neg this]
theorem near_upd (X : Nat → Ext) (kk : Nat) (E : Ext) (m : Nat) {U : List Nat} (h : kk ∉ U) : nearS (updX X kk E) m [] U = nearS X m [] U := by
  unfold nearS firstN
  rw [find_same (P := nearP (updX X kk E) m []) (Q := nearP X m []) fun j hj => by unfold nearP wideB; rw [updX_kind X kk E m j (fun e => h (e ▸ hj))]; rfl]

/-- the cells of extents, one after another -/
def cellE (e : Ext) (r : Nat) : Value := if r = 0 then .int .i64 e.kind else if r = 1 then .string ⟨e.name.toArray⟩ else if r = 2 then .int .i64 e.wd else .int .i64 e.ht
def newsE (X : Nat → Ext) (m : Nat) : List Value := (List.range (m * 4)).map fun q => cellE (X (q / 4)) (q % 4)
theorem newsE_len (X : Nat → Ext) (m : Nat) : (newsE X m).length = m * 4 := by unfold newsE; simp
theorem newsE_at (X : Nat → Ext) (m j r : Nat) (hj : j < m) (hr : r < 4) : (newsE X m)[j * 4 + r]? = some (cellE (X j) r) := by
  unfold newsE
  rw [List.getElem?_map, List.getElem?_range (by omega)]
  simp only [Option.map_some]
  rw [show (j * 4 + r) / 4 = j by omega, show (j * 4 + r) % 4 = r by omega]
theorem newsE_one (X : Nat → Ext) (m : Nat) : ∀ u ∈ newsE X m, u.oneCell' = true := by
  intro u hu
  unfold newsE at hu
  rw [List.mem_map] at hu
  obtain ⟨q, _, rfl⟩ := hu
  unfold cellE
  split
  · rfl
  · split
    · rfl
    · split <;> rfl
theorem newsE_cells {w : World} {b off m : Nat} {X : Nat → Ext} (h : Exts w (some ⟨b, off, none⟩) m X) : ∀ j u, (newsE X m)[j]? = some u → w.cell? ((⟨b, off, none⟩ : Addr).add j) = some u := by
  intro q u hu
  have hq : q < m * 4 := by have := (List.getElem?_eq_some_iff.1 hu).1; rwa [newsE_len] at this
  obtain ⟨b', off', e, h0, h1, h2, h3⟩ := h.at_ (show q / 4 < m by omega)
  injection e with e; injection e with e1 e2; subst e1; subst e2
  have hq2 := newsE_at X m (q / 4) (q % 4) (by omega) (by omega)
  rw [show q / 4 * 4 + q % 4 = q by omega, hu] at hq2
  injection hq2 with hq2
  subst hq2
  rw [Go.WideShapes.add_plain]
  have hr : q % 4 = 0 ∨ q % 4 = 1 ∨ q % 4 = 2 ∨ q % 4 = 3 := by omega
  unfold cellE
  rcases hr with hr | hr | hr | hr
  · rw [if_pos hr, show off + q = off + q / 4 * 4 by omega]; exact h0
  · rw [if_neg (by omega), if_pos hr, show off + q = off + q / 4 * 4 + 1 by omega]; exact h1
  · rw [if_neg (by omega), if_neg (by omega), if_pos hr, show off + q = off + q / 4 * 4 + 2 by omega]; exact h2
  · rw [if_neg (by omega), if_neg (by omega), if_neg (by omega), show off + q = off + q / 4 * 4 + 3 by omega]; exact h3

/-- four cells stored in a block: what is so, step by step, and behind -/
theorem four_storeH (w : World) (b : Nat) (T : TypeId) (cur : Array Value) (o : Nat) (n0 n1 n2 n3 : Value) (h : w.heap[b]? = some (.cells cur T (0, 0))) (hs : o + 3 < cur.size) :
    ∃ x1 x2 x3 x4 v0 v1 v2 v3, (w.cell? ⟨b, o, none⟩ = some v0 ∧ w.frozen? ⟨b, o, none⟩ = false ∧ w.setCell ⟨b, o, none⟩ n0 = x1) ∧
      (x1.cell? ⟨b, o + 1, none⟩ = some v1 ∧ x1.frozen? ⟨b, o + 1, none⟩ = false ∧ x1.setCell ⟨b, o + 1, none⟩ n1 = x2) ∧
      (x2.cell? ⟨b, o + 2, none⟩ = some v2 ∧ x2.frozen? ⟨b, o + 2, none⟩ = false ∧ x2.setCell ⟨b, o + 2, none⟩ n2 = x3) ∧
      (x3.cell? ⟨b, o + 3, none⟩ = some v3 ∧ x3.frozen? ⟨b, o + 3, none⟩ = false ∧ x3.setCell ⟨b, o + 3, none⟩ n3 = x4) ∧
      x4.heap[b]? = some (.cells ((((cur.setIfInBounds o n0).setIfInBounds (o + 1) n1).setIfInBounds (o + 2) n2).setIfInBounds (o + 3) n3) T (0, 0)) ∧ (∀ lo a, lo ≤ b → Below lo a w → Below lo a x4) := by
  have g1 := setCell_here (k := o) n0 h
  have g2 := setCell_here (k := o + 1) n1 g1
  have g3 := setCell_here (k := o + 2) n2 g2
  have g4 := setCell_here (k := o + 3) n3 g3
  refine ⟨_, _, _, _, cur[o]'(by omega), (cur.setIfInBounds o n0)[o + 1]'(by simp; omega), ((cur.setIfInBounds o n0).setIfInBounds (o + 1) n1)[o + 2]'(by simp; omega), (((cur.setIfInBounds o n0).setIfInBounds (o + 1) n1).setIfInBounds (o + 2) n2)[o + 3]'(by simp; omega),
    ⟨cell_of h (Array.getElem?_eq_getElem _), unfrozen_of h, rfl⟩, ⟨cell_of g1 (Array.getElem?_eq_getElem _), unfrozen_of g1, rfl⟩, ⟨cell_of g2 (Array.getElem?_eq_getElem _), unfrozen_of g2, rfl⟩, ⟨cell_of g3 (Array.getElem?_eq_getElem _), unfrozen_of g3, rfl⟩, g4, fun lo a hlo hb => ?_⟩
  exact (((hb.setCell (p := ⟨b, o, none⟩) hlo n0).setCell (p := ⟨b, o + 1, none⟩) hlo n1).setCell (p := ⟨b, o + 2, none⟩) hlo n2).setCell (p := ⟨b, o + 3, none⟩) hlo n3

/-- the list behind the store -/
theorem exts_upd {x4 : World} {g m kk : Nat} {T : TypeId} {cur : Array Value} {X : Nat → Ext} {E : Ext} (hk : kk < m) (hs : m * 4 ≤ cur.size) (ht : cur.toList.take (m * 4) = newsE X m)
    (h : x4.heap[g]? = some (.cells ((((cur.setIfInBounds (kk * 4) (cellE E 0)).setIfInBounds (kk * 4 + 1) (cellE E 1)).setIfInBounds (kk * 4 + 2) (cellE E 2)).setIfInBounds (kk * 4 + 3) (cellE E 3)) T (0, 0))) : Exts x4 (some ⟨g, 0, none⟩) m (updX X kk E) := by
  have old : ∀ j r, j < m → r < 4 → cur[j * 4 + r]? = some (cellE (X j) r) := fun j r hj hr => by
    have := newsE_at X m j r hj hr
    rw [← ht, List.getElem?_take_of_lt (by omega)] at this
    simpa using this
  have all : ∀ j r, j < m → r < 4 → x4.cell? ⟨g, j * 4 + r, none⟩ = some (cellE (updX X kk E j) r) := fun j r hj hr => by
    refine cell_of h ?_
    simp only [Array.getElem?_setIfInBounds, Array.size_setIfInBounds]
    unfold updX
    by_cases e : j = kk
    · subst e
      rw [if_pos rfl]
      have hr' : r = 0 ∨ r = 1 ∨ r = 2 ∨ r = 3 := by omega
      rcases hr' with rfl | rfl | rfl | rfl <;> (repeat' split) <;> first | rfl | omega
    · rw [if_neg e]
      (repeat' split) <;> first | omega | exact old j r hj hr
  refine Or.inr ⟨g, 0, rfl, (Array.getElem?_eq_some_iff.1 h).1, fun j hj => ?_⟩
  rw [Nat.zero_add]
  exact ⟨all j 0 hj (by omega), all j 1 hj (by omega), all j 2 hj (by omega), all j 3 hj (by omega)⟩
end Go.Proofs.Ytaobaahofghkeaa
