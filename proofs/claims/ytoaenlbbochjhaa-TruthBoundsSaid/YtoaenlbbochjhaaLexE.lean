/- Tokens held against each other. -/
import Derived.Test.YtoaenlbbochjhaaLexR6
import Derived.StillTailTactics
import Derived.Laws.StructEq
namespace Go.Proofs.Ytoaenlbbochjhaa
open Go.RowKit TreN LexP FixP

theorem str_beq (x y : List UInt8) : ((⟨x.toArray⟩ : ByteArray).toList == (⟨y.toArray⟩ : ByteArray).toList) = decide (x = y) := by
  rw [Lib.toList_data, Lib.toList_data, Bool.eq_iff_iff]
  simp
set_option maxRecDepth 100000 in
theorem tok_eqIn (k1 k2 n1 n2 : Int) (x1 x2 : List UInt8) (w : World) : (Op.equalIn 10000 61 (.agg #[.int .i64 k1, .string ⟨x1.toArray⟩, .int .i64 n1]) (.agg #[.int .i64 k2, .string ⟨x2.toArray⟩, .int .i64 n2])).run Try.prog w = .ok (decide ((⟨k1, x1, n1⟩ : Tok) = ⟨k2, x2, n2⟩)) w := by
  rw [run_equalIn_agg w 9999 61 _ _ (by kernel_rfl) (by kernel_rfl)]
  have hf : Try.prog.fieldsOf 61 = (match Try.prog.underlying 61 with | some (.struct fs) => fs | _ => #[]) := rfl
  rw [hf, Try.underlying61]
  have p1 : ∀ (k : Int) (x : List UInt8) (n : Int) (w : World), (part 3 #[.int .i64 k, .string ⟨x.toArray⟩, .int .i64 n] 0).run Try.prog w = .ok (.int .i64 k) w := fun _ _ _ w => by kernel_rfl
  have p2 : ∀ (k : Int) (x : List UInt8) (n : Int) (w : World), (part 9 #[.int .i64 k, .string ⟨x.toArray⟩, .int .i64 n] 1).run Try.prog w = .ok (.string ⟨x.toArray⟩) w := fun _ _ _ w => by kernel_rfl
  have p3 : ∀ (k : Int) (x : List UInt8) (n : Int) (w : World), (part 3 #[.int .i64 k, .string ⟨x.toArray⟩, .int .i64 n] 2).run Try.prog w = .ok (.int .i64 n) w := fun _ _ _ w => by kernel_rfl
  simp only [Op.eqFields, Sem.run_ite, Sem.run_bind, p1, p2, p3, Result.andThen_ok, run_equalIn_int w 9998 3 .i64 .i64 k1 k2 Try.underlying3, run_equalIn_int w 9998 3 .i64 .i64 n1 n2 Try.underlying3, run_equalIn_string w 9998 9 ⟨x1.toArray⟩ ⟨x2.toArray⟩ Try.underlying9, str_beq]
  by_cases h1 : k1 = k2
  · subst h1
    by_cases h2 : x1 = x2
    · subst h2
      by_cases h3 : n1 = n2
      · subst h3; simp
      · have e3 : (n1 == n2) = false := by rw [beq_eq_false_iff_ne]; exact h3
        simp [h3, e3]
    · simp [h2]
  · have e1 : (k1 == k2) = false := by rw [beq_eq_false_iff_ne]; exact h1
    simp [h1, e1]
theorem tok_eql (t u : Tok) (w : World) : (binOp .eql 61 t.val u.val).run Try.prog w = .ok (.bool (decide (t = u))) w := by
  obtain ⟨k1, x1, n1⟩ := t
  obtain ⟨k2, x2, n2⟩ := u
  unfold LexP.Tok.val
  rw [run_eql_struct, tok_eqIn]; rfl
theorem tok_neq (t u : Tok) (w : World) : (binOp .neq 61 t.val u.val).run Try.prog w = .ok (.bool (!decide (t = u))) w := by
  obtain ⟨k1, x1, n1⟩ := t
  obtain ⟨k2, x2, n2⟩ := u
  unfold LexP.Tok.val
  rw [run_neq_struct, tok_eqIn]; rfl

theorem Tks.get {w : World} {a : Option Addr} {l : List Tok} (h : Tks w a l) {i : Nat} (hi : i < l.length) : ∃ b o, a = some ⟨b, o, none⟩ ∧ b < w.heap.size ∧ TkAt w b (o + i * 3) l[i] := by
  rcases h with rfl | ⟨b, o, h1, h2, h3⟩
  · simp at hi
  · exact ⟨b, o, h1, h2, h3 i hi⟩
theorem below_drewN2 {B : Nat} {a w : World} (h : Below B a w) (q : Nat) : Below B a (w.drewN q) := h.trans ⟨rfl, rfl, rfl, Nat.le_refl _, fun _ _ => rfl⟩

end Go.Proofs.Ytoaenlbbochjhaa
