/- A copy of a row: what append makes of nil and a row of texts, or of pairs. -/
import Derived.Test.YtlnglpjmfoigmaaTreW13
import Derived.Test.YtlnglpjmfoigmaaMem
import Derived.OwnWalk
import Derived.Deep.AppendLies
namespace Go.Proofs.Ytlnglpjmfoigmaa
open Go.RowKit TreN TreP

set_option maxRecDepth 100000 in
theorem info_string : (Try.prog.info? 9).map (fun i => (i.zero, i.size, i.bytes)) = some (some (.string ByteArray.empty), 1, 16) := by kernel_rfl
set_option maxRecDepth 100000 in
theorem info_attr : (Try.prog.info? 67).map (fun i => (i.zero, i.size, i.bytes)) = some (some (.agg #[.string ByteArray.empty, .string ByteArray.empty]), 2, 32) := by kernel_rfl
set_option maxRecDepth 100000 in
theorem und_strings : Try.prog.underlying 36 = some (.slice 9) := by kernel_rfl
set_option maxRecDepth 100000 in
theorem und_attrs : Try.prog.underlying 37 = some (.slice 67) := by kernel_rfl

set_option maxRecDepth 100000 in
theorem grown_below {w w' : World} (h : w.grownBy w' none) : Below w.heap.size w w' := by
  obtain ⟨h1, h2, h3, h4, h5⟩ := h
  exact ⟨h1, h2, h3, h4, fun k hk => h5 k hk (by simp)⟩

/-- a row begins a block at lo or above -/
def Up (lo : Nat) (a : Option Addr) (n : Nat) : Prop := n = 0 ∨ ∃ g off, a = some ⟨g, off, none⟩ ∧ lo ≤ g

set_option maxRecDepth 100000 in
theorem copy_strs (a : Option Addr) (n c : Nat) (f : Nat → ByteArray) (w : World) (hn : n ≤ 8) (h : Strs w a n f) :
    ∃ a' c' w', (Builtin.append_ #[36, 36] 36 #[.slice none 0 0, .slice a n c]).run Try.prog w = .ok (.slice a' n c') w' ∧ Strs w' a' n f ∧ Up w.heap.size a' n ∧ Below w.heap.size w w' := by
  obtain ⟨i, hi, hz0, hz1, hz2⟩ := info_parts info_string
  by_cases h0 : n = 0
  · subst h0
    refine ⟨none, 0, w, ?_, Or.inl rfl, Or.inl rfl, Below.refl _ _⟩
    cases a with
    | none => exact run_append_owned_none (P := Try.prog) w w.heap.size 36 36 9 i 1 und_strings hi _ 0 [] (World.ownsRow_nil w _ _ 1)
    | some ad => simp [Builtin.append_, run_underlying und_strings, sizeOf, typeInfo, hi, Builtin.lenOf, Builtin.firstCells, loadCells, loadCellsFrom]
  · rcases h with h | ⟨b, off, rfl, hb, hc⟩
    · exact absurd h h0
    · have hl : ((List.range n).map (fun i => Value.string (f i))).length = n * 1 := by simp
      have hnews : ∀ (j : Nat) (u : Value), ((List.range n).map (fun i => Value.string (f i)))[j]? = some u → w.cell? ((⟨b, off, none⟩ : Addr).add j) = some u := by
        intro j u hj
        rw [List.getElem?_map] at hj
        by_cases hjn : j < n
        · rw [List.getElem?_range hjn] at hj
          simp only [Option.map_some, Option.some.injEq] at hj
          subst hj
          rw [Addr.add_lit]
          exact hc j hjn
        · rw [List.getElem?_eq_none (by simp; omega)] at hj
          cases hj
      have h1 : ∀ u ∈ (List.range n).map (fun i => Value.string (f i)), u.oneCell' = true := by
        intro u hu
        obtain ⟨j, _, rfl⟩ := List.mem_map.mp hu
        rfl
      have hm : 0 + n ≤ maxLen := by unfold maxLen; omega
      obtain ⟨v', w', hr, h2, h3, h4⟩ := run_append_own (P := Try.prog) w w.heap.size 36 36 9 i _ 1 16 und_strings hi hz0 hz1 hz2 (by rfl) (by omega) _ 0 [] (World.ownsRow_nil w _ _ 1) ⟨b, off, none⟩ n c _ hl hnews h1 hm (by omega) (Nat.le_refl _)
      rw [Nat.zero_add, List.nil_append] at h2
      obtain ⟨g, cap, rfl, hg, hlt⟩ := h2.form (by omega)
      refine ⟨some ⟨g, 0, none⟩, cap, w', hr, Or.inr ⟨g, 0, rfl, hlt, fun j hj => ?_⟩, Or.inr ⟨g, 0, rfl, hg⟩, grown_below h3⟩
      rw [Nat.zero_add, h2.cellAt j (by omega), List.getElem?_map, List.getElem?_range hj]
      rfl

/-- the cells of a row of pairs -/
def flat2 (f g : Nat → ByteArray) (j : Nat) : Value := if j % 2 = 0 then .string (f (j / 2)) else .string (g (j / 2))

set_option maxRecDepth 100000 in
theorem copy_atts (a : Option Addr) (n c : Nat) (f g : Nat → ByteArray) (w : World) (hn : n ≤ 8) (h : Atts w a n f g) :
    ∃ a' c' w', (Builtin.append_ #[37, 37] 37 #[.slice none 0 0, .slice a n c]).run Try.prog w = .ok (.slice a' n c') w' ∧ Atts w' a' n f g ∧ Up w.heap.size a' n ∧ Below w.heap.size w w' := by
  obtain ⟨i, hi, hz0, hz1, hz2⟩ := info_parts info_attr
  by_cases h0 : n = 0
  · subst h0
    refine ⟨none, 0, w, ?_, Or.inl rfl, Or.inl rfl, Below.refl _ _⟩
    cases a with
    | none => exact run_append_owned_none (P := Try.prog) w w.heap.size 37 37 67 i 2 und_attrs hi _ 0 [] (World.ownsRow_nil w _ _ 2)
    | some ad => simp [Builtin.append_, run_underlying und_attrs, sizeOf, typeInfo, hi, Builtin.lenOf, Builtin.firstCells, loadCells, loadCellsFrom]
  · rcases h with h | ⟨b, off, rfl, hb, hc⟩
    · exact absurd h h0
    · have hl : ((List.range (n * 2)).map (flat2 f g)).length = n * 2 := by simp
      have hnews : ∀ (j : Nat) (u : Value), ((List.range (n * 2)).map (flat2 f g))[j]? = some u → w.cell? ((⟨b, off, none⟩ : Addr).add j) = some u := by
        intro j u hj
        rw [List.getElem?_map] at hj
        by_cases hjn : j < n * 2
        · rw [List.getElem?_range hjn] at hj
          simp only [Option.map_some, Option.some.injEq] at hj
          subst hj
          obtain ⟨k1, k2⟩ := hc (j / 2) (by omega)
          unfold flat2
          by_cases hp : j % 2 = 0
          · rw [if_pos hp]
            have e : off + j = off + j / 2 * 2 := by omega
            rw [Addr.add_lit, e]; exact k1
          · rw [if_neg hp]
            have e : off + j = off + j / 2 * 2 + 1 := by omega
            rw [Addr.add_lit, e]; exact k2
        · rw [List.getElem?_eq_none (by simp; omega)] at hj
          cases hj
      have h1 : ∀ u ∈ (List.range (n * 2)).map (flat2 f g), u.oneCell' = true := by
        intro u hu
        obtain ⟨j, _, rfl⟩ := List.mem_map.mp hu
        unfold flat2
        split <;> rfl
      have hm : 0 + n ≤ maxLen := by unfold maxLen; omega
      obtain ⟨v', w', hr, h2, h3, h4⟩ := run_append_own (P := Try.prog) w w.heap.size 37 37 67 i _ 2 32 und_attrs hi hz0 hz1 hz2 (by rfl) (by omega) _ 0 [] (World.ownsRow_nil w _ _ 2) ⟨b, off, none⟩ n c _ hl hnews h1 hm (by omega) (Nat.le_refl _)
      rw [Nat.zero_add, List.nil_append] at h2
      obtain ⟨q, cap, rfl, hg, hlt⟩ := h2.form (by omega)
      refine ⟨some ⟨q, 0, none⟩, cap, w', hr, Or.inr ⟨q, 0, rfl, hlt, fun j hj => ?_⟩, Or.inr ⟨q, 0, rfl, hg⟩, grown_below h3⟩
      have d1 : j * 2 % 2 = 0 := by omega
      have d2 : j * 2 / 2 = j := by omega
      have d3 : ¬ (j * 2 + 1) % 2 = 0 := by omega
      have d4 : (j * 2 + 1) / 2 = j := by omega
      refine ⟨?_, ?_⟩
      · rw [Nat.zero_add, h2.cellAt (j * 2) (by omega), List.getElem?_map, List.getElem?_range (by omega)]
        unfold flat2
        simp only [Option.map_some, d1, d2, if_true]
      · rw [Nat.zero_add, h2.cellAt (j * 2 + 1) (by omega), List.getElem?_map, List.getElem?_range (by omega)]
        unfold flat2
        simp only [Option.map_some, d3, d4, if_false]

set_option maxRecDepth 100000 in
/-- an append whose outcome is known -/
theorem wpList_append_run {P : Program} {ops : Array Oper} {rest : List Oper} {o : Oper} {a : Act} {Q : Exit → Act → World → Prop} {w : World} (hgd : o.guard = none) (s x : Operand) (t : TypeId)
    (ho : o.op = .call { callee := .builtin .append, args := #[s, x], argTypes := #[t, t] }) (vs vx v : Value) (w' : World) (hs : a.eval s = vs) (hx : a.eval x = vx)
    (hr : (Builtin.append_ #[t, t] o.type #[vs, vx]).run P w = .ok v w') (h : wpList P ops Q rest (a.put o.dst v) w') : wpList P ops Q (o :: rest) a w := by
  refine wpList_plain hgd fun K hK => ?_
  unfold Oper.wp execOp
  simp only [ho, resolve, invoke, builtin, Sem.run_bind, Sem.run_pure, Result.andThen_ok, List.map_toArray, List.map_cons, List.map_nil, hs, hx, hr]
  exact hK _ _ h
end Go.Proofs.Ytlnglpjmfoigmaa
