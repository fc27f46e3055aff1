/- Joined texts: SynW1 SynW2. -/
import Derived.Test.YthfabalnioggcaaLexE
import Derived.Test.YthfabalnioggcaaSynPP
import Derived.Handy
namespace Go.Proofs.Ythfabalnioggcaa
open Go.RowKit TreN LexP FixP SynP
set_option linter.unusedVariables false

def lenV : Value → Nat
  | .slice _ n _ => n
  | _ => 0
/-- a list of tokens, as a value -/
def Sl (w : World) (v : Value) (l : List Tok) : Prop := ∃ a cap, v = .slice a l.length cap ∧ l.length ≤ cap ∧ cap ≤ maxLen ∧ Tks w a l
theorem Sl.below {w w' : World} {v : Value} {l : List Tok} (h : Sl w v l) (hb : Below w.heap.size w w') : Sl w' v l := by
  obtain ⟨a, cap, h1, h2, h3, h4⟩ := h
  exact ⟨a, cap, h1, h2, h3, h4.below hb⟩
theorem Tks.part {w : World} {b o : Nat} {l : List Tok} (h : Tks w (some ⟨b, o, none⟩) l) (lo hi : Nat) : Tks w (some ⟨b, o + lo * 3, none⟩) ((l.take hi).drop lo) := by
  by_cases h0 : (l.take hi).drop lo = []
  · exact Or.inl h0
  · have hlen : lo < (l.take hi).length := by
      have := List.length_pos_iff.2 h0
      rw [List.length_drop] at this
      omega
    rw [List.length_take] at hlen
    rcases h with h | ⟨b2, o2, e, h1, h2⟩
    · subst h; simp at hlen
    · injection e with e; injection e with e1 e2; subst e1; subst e2
      refine Or.inr ⟨b, _, rfl, h1, fun i hi' => ?_⟩
      rw [List.length_drop, List.length_take] at hi'
      have := h2 (lo + i) (by omega)
      have e2 : o + (lo + i) * 3 = o + lo * 3 + i * 3 := by omega
      rw [e2] at this
      have e3 : ((l.take hi).drop lo)[i] = l[lo + i]'(by omega) := by
        rw [List.getElem_drop, List.getElem_take]
      rw [e3]; exact this
theorem sliced_tok (a : Option Addr) (l : List Tok) (cap lo hi : Nat) (h1 : lo ≤ hi) (h2 : hi ≤ l.length) (h3 : l.length ≤ cap) (h4 : cap ≤ maxLen) :
    ∃ a2, sliced a lo hi cap 3 = .slice a2 (hi - lo) (cap - lo) ∧ ∀ W : World, Tks W a l → Tks W a2 ((l.take hi).drop lo) := by
  obtain ⟨a2, ha⟩ : ∃ a2, sliced a lo hi cap 3 = .slice a2 (hi - lo) (cap - lo) := ⟨_, by unfold sliced; rfl⟩
  refine ⟨a2, ha, fun W hW => ?_⟩
  by_cases h0 : (l.take hi).drop lo = []
  · exact Or.inl h0
  · have hlen : lo < hi := by
      have := List.length_pos_iff.2 h0
      rw [List.length_drop, List.length_take] at this
      omega
    have hl0 : 0 < l.length := by omega
    rcases hW with h | ⟨b, o, e, hb, ht⟩
    · subst h; simp at hl0
    · subst e
      have : sliced (some ⟨b, o, none⟩) lo hi cap 3 = .slice (some ⟨b, o + lo * 3, none⟩) (hi - lo) (cap - lo) := by
        unfold sliced
        have hck : ¬ cap = lo := by omega
        by_cases hz : lo = 0
        · subst hz; simp [Addr.add_lit]
        · simp [hck, Addr.add_lit]
      rw [this] at ha
      injection ha with ha _ _
      rw [← ha]
      exact Tks.part (Or.inr ⟨b, o, rfl, hb, ht⟩) lo hi
end Go.Proofs.Ythfabalnioggcaa

namespace Go.Proofs.Ythfabalnioggcaa
open Go.RowKit TreN LexP FixP SynP
set_option linter.unusedVariables false

/-- what a call on a list of tokens answers: a list of them -/
def SlIs (w : World) (l : List Tok) (e : Ending) (w' : World) : Prop := ∃ a2 cap2, e = .returned (.slice a2 l.length cap2) ∧ l.length ≤ cap2 ∧ cap2 ≤ maxLen ∧ Tks w' a2 l

set_option maxRecDepth 100000 in
set_option maxHeartbeats 1000000 in
theorem wpList_append_runS {P : Program} {ops : Array Oper} {rest : List Oper} {o : Oper} {a : Act} {Q : Exit → Act → World → Prop} {w : World} (hgd : o.guard = none) (s x : Operand) (t : TypeId)
    (ho : o.op = .call { callee := .builtin .append, args := #[s, x], argTypes := #[t, t] }) (vs vx v : Value) (w' : World) (hs : a.eval s = vs) (hx : a.eval x = vx)
    (hr : (Builtin.append_ #[t, t] o.type #[vs, vx]).run P w = .ok v w') (h : wpList P ops Q rest (a.put o.dst v) w') : wpList P ops Q (o :: rest) a w := by
  refine wpList_plain hgd fun K hK => ?_
  unfold Oper.wp execOp
  simp only [ho, resolve, invoke, builtin, Sem.run_bind, Sem.run_pure, Result.andThen_ok, List.map_toArray, List.map_cons, List.map_nil, hs, hx, hr]
  exact hK _ _ h

end Go.Proofs.Ythfabalnioggcaa
