/- Layer 8: queries in memory; is there a bound? -/
import Derived.Test.YtoaenlbbochjhaaWalkA
import Derived.Test.YtoaenlbbochjhaaFixWa
import Derived.Test.YtoaenlbbochjhaaQryP
import Derived.Test.YtoaenlbbochjhaaMem
import Derived.Laws.StructEq
import Derived.Laws.Rows
namespace Go.Proofs.Ytoaenlbbochjhaa
open Go.RowKit FixM FixP TreN QryP
set_option linter.unusedVariables false

theorem below_oneQ (w : World) (o : Obj) : Below w.heap.size w (w.alloc o) := (Below.refl _ _).alloc (Nat.le_refl _) _
theorem blk_ltQ {w : World} {P : Nat} {o : Obj} (h : w.heap[P]? = some o) : P < w.heap.size := (Array.getElem?_eq_some_iff.1 h).1
@[reducible] def bdV (b : Bd) : Value := .agg #[.int .i64 b.op, .int .i64 b.n, .int .i64 b.d]
@[reducible] def qnC (x : QN) : Array Value := #[.int .i64 x.kind, .int .i64 x.count, .int .i64 x.feat, .int .i64 x.lo.op, .int .i64 x.lo.n, .int .i64 x.lo.d, .int .i64 x.hi.op, .int .i64 x.hi.n, .int .i64 x.hi.d]
@[reducible] def qnV (x : QN) : Value := .agg (qnC x)
/-- a node's cells -/
structure QnAt (w : World) (b o : Nat) (x : QN) : Prop where
  c0 : w.cell? ⟨b, o, none⟩ = some (.int .i64 x.kind)
  c1 : w.cell? ⟨b, o + 1, none⟩ = some (.int .i64 x.count)
  c2 : w.cell? ⟨b, o + 2, none⟩ = some (.int .i64 x.feat)
  c3 : w.cell? ⟨b, o + 3, none⟩ = some (.int .i64 x.lo.op)
  c4 : w.cell? ⟨b, o + 4, none⟩ = some (.int .i64 x.lo.n)
  c5 : w.cell? ⟨b, o + 5, none⟩ = some (.int .i64 x.lo.d)
  c6 : w.cell? ⟨b, o + 6, none⟩ = some (.int .i64 x.hi.op)
  c7 : w.cell? ⟨b, o + 7, none⟩ = some (.int .i64 x.hi.n)
  c8 : w.cell? ⟨b, o + 8, none⟩ = some (.int .i64 x.hi.d)
theorem QnAt.below {w w' : World} {b o : Nat} {x : QN} (h : QnAt w b o x) (hb : Below w.heap.size w w') (hlt : b < w.heap.size) : QnAt w' b o x :=
  ⟨(hb.cell (p := ⟨b, o, none⟩) hlt).trans h.c0, (hb.cell (p := ⟨b, o + 1, none⟩) hlt).trans h.c1, (hb.cell (p := ⟨b, o + 2, none⟩) hlt).trans h.c2, (hb.cell (p := ⟨b, o + 3, none⟩) hlt).trans h.c3, (hb.cell (p := ⟨b, o + 4, none⟩) hlt).trans h.c4, (hb.cell (p := ⟨b, o + 5, none⟩) hlt).trans h.c5, (hb.cell (p := ⟨b, o + 6, none⟩) hlt).trans h.c6, (hb.cell (p := ⟨b, o + 7, none⟩) hlt).trans h.c7, (hb.cell (p := ⟨b, o + 8, none⟩) hlt).trans h.c8⟩
/-- a boxed node's cells -/
theorem qn_cells {w : World} {b : Nat} {T : TypeId} {k c f a1 a2 a3 b1 b2 b3 : Int} (h : w.heap[b]? = some (.cells #[.int .i64 k, .int .i64 c, .int .i64 f, .int .i64 a1, .int .i64 a2, .int .i64 a3, .int .i64 b1, .int .i64 b2, .int .i64 b3] T (0, 0))) :
    w.cell? ⟨b, 0, none⟩ = some (.int .i64 k) ∧ w.cell? ⟨b, 1, none⟩ = some (.int .i64 c) ∧ w.cell? ⟨b, 2, none⟩ = some (.int .i64 f) ∧ w.cell? ⟨b, 3, none⟩ = some (.int .i64 a1) ∧ w.cell? ⟨b, 4, none⟩ = some (.int .i64 a2) ∧ w.cell? ⟨b, 5, none⟩ = some (.int .i64 a3) ∧ w.cell? ⟨b, 6, none⟩ = some (.int .i64 b1) ∧ w.cell? ⟨b, 7, none⟩ = some (.int .i64 b2) ∧ w.cell? ⟨b, 8, none⟩ = some (.int .i64 b3) :=
  ⟨cell_of h rfl, cell_of h rfl, cell_of h rfl, cell_of h rfl, cell_of h rfl, cell_of h rfl, cell_of h rfl, cell_of h rfl, cell_of h rfl⟩
/-- a list of nodes -/
def Qns (w : World) (a : Option Addr) (L : List QN) : Prop := L = [] ∨ ∃ b o, a = some ⟨b, o, none⟩ ∧ b < w.heap.size ∧ ∀ i (h : i < L.length), QnAt w b (o + i * 9) L[i]
theorem Qns.below {w w' : World} {a : Option Addr} {L : List QN} (h : Qns w a L) (hb : Below w.heap.size w w') : Qns w' a L := by
  rcases h with h | ⟨b, o, h1, h2, h3⟩
  · exact Or.inl h
  · exact Or.inr ⟨b, o, h1, Nat.lt_of_lt_of_le h2 hb.size, fun i hi => (h3 i hi).below hb h2⟩
theorem Qns.get {w : World} {a : Option Addr} {L : List QN} (h : Qns w a L) {i : Nat} (hi : i < L.length) : ∃ b o, a = some ⟨b, o, none⟩ ∧ b < w.heap.size ∧ QnAt w b (o + i * 9) L[i] := by
  rcases h with h | ⟨b, o, h1, h2, h3⟩
  · subst h; simp at hi
  · exact ⟨b, o, h1, h2, h3 i hi⟩

set_option maxRecDepth 100000 in
theorem bd_eqIn (n : Nat) (a1 a2 a3 b1 b2 b3 : Int) (w : World) : (Op.equalIn (n + 2) 37 (.agg #[.int .i64 a1, .int .i64 a2, .int .i64 a3]) (.agg #[.int .i64 b1, .int .i64 b2, .int .i64 b3])).run Try.prog w = .ok (decide (a1 = b1) && (decide (a2 = b2) && decide (a3 = b3))) w := by
  rw [run_equalIn_agg w (n + 1) 37 _ _ (by kernel_rfl) (by kernel_rfl)]
  have hf : Try.prog.fieldsOf 37 = (match Try.prog.underlying 37 with | some (.struct fs) => fs | _ => #[]) := rfl
  rw [hf, Try.underlying37]
  have p1 : ∀ (k n d : Int) (w : World), (part 3 #[.int .i64 k, .int .i64 n, .int .i64 d] 0).run Try.prog w = .ok (.int .i64 k) w := fun _ _ _ w => by kernel_rfl
  have p2 : ∀ (k n d : Int) (w : World), (part 3 #[.int .i64 k, .int .i64 n, .int .i64 d] 1).run Try.prog w = .ok (.int .i64 n) w := fun _ _ _ w => by kernel_rfl
  have p3 : ∀ (k n d : Int) (w : World), (part 3 #[.int .i64 k, .int .i64 n, .int .i64 d] 2).run Try.prog w = .ok (.int .i64 d) w := fun _ _ _ w => by kernel_rfl
  simp only [Op.eqFields, Sem.run_ite, Sem.run_bind, p1, p2, p3, Result.andThen_ok, run_equalIn_int w n 3 .i64 .i64 a1 b1 Try.underlying3, run_equalIn_int w n 3 .i64 .i64 a2 b2 Try.underlying3, run_equalIn_int w n 3 .i64 .i64 a3 b3 Try.underlying3]
  by_cases h1 : a1 = b1
  · subst h1
    by_cases h2 : a2 = b2
    · subst h2
      by_cases h3 : a3 = b3
      · subst h3; simp
      · have e3 : (a3 == b3) = false := by rw [beq_eq_false_iff_ne]; exact h3
        simp [h3, e3]
    · have e2 : (a2 == b2) = false := by rw [beq_eq_false_iff_ne]; exact h2
      simp [h2, e2]
  · have e1 : (a1 == b1) = false := by rw [beq_eq_false_iff_ne]; exact h1
    simp [h1, e1]
theorem bd_neq (a1 a2 a3 : Int) (w : World) : (binOp .neq 37 (.agg #[.int .i64 a1, .int .i64 a2, .int .i64 a3]) (.agg #[.int .i64 0, .int .i64 0, .int .i64 0])).run Try.prog w = .ok (.bool (thrB ⟨a1, a2, a3⟩)) w := by
  rw [run_neq_struct, bd_eqIn 9998]; rfl
theorem bd_eql (a1 a2 a3 : Int) (w : World) : (binOp .eql 37 (.agg #[.int .i64 a1, .int .i64 a2, .int .i64 a3]) (.agg #[.int .i64 0, .int .i64 0, .int .i64 0])).run Try.prog w = .ok (.bool (!thrB ⟨a1, a2, a3⟩)) w := by
  rw [run_eql_struct, bd_eqIn 9998]
  unfold thrB; rw [Bool.not_not]; rfl

set_option maxRecDepth 100000 in
set_option maxHeartbeats 1000000 in
theorem there8_any (a1 a2 a3 : Int) (w : World) : Calls Try.prog 50 #[.agg #[.int .i64 a1, .int .i64 a2, .int .i64 a3]] w fun e w' => e = .returned (.bool (thrB ⟨a1, a2, a3⟩)) ∧ Below w.heap.size w w' := by
  have HB := Lib.hid (below_oneQ w (.cells #[.int .i64 a1, .int .i64 a2, .int .i64 a3] 37))
  have EQ := fun W => bd_neq a1 a2 a3 W
  obtain ⟨t, ht⟩ : ∃ t, thrB ⟨a1, a2, a3⟩ = t := ⟨_, rfl⟩
  rw [ht] at EQ ⊢
  clear ht
  go_enter Try.func50, Try.ntmps50
  go_wp2_with fail
  go_ret
  exact ⟨rfl, HB.out⟩
end Go.Proofs.Ytoaenlbbochjhaa
