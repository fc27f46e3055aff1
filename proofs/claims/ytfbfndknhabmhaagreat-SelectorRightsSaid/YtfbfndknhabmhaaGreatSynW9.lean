/- Joined texts: SynW9 SynWA. -/
import Derived.Test.YtfbfndknhabmhaaGreatSynUa
import Derived.Outline
import Derived.BigRegion
import Derived.Laws.ResultCell
import Derived.Laws.Rows
import Derived.Laws.NewBlocks
namespace Go.Proofs.YtfbfndknhabmhaaGreat
open Go.RowKit TreN LexP FixP SynP
set_option linter.unusedVariables false

theorem run_imin {P : Program} (w : World) (ts : Array TypeId) (t : TypeId) (x y z : Int) (h : (if y < x then y else x) = z) :
    (Builtin.min_ ts t #[.int .i64 x, .int .i64 y]).run P w = .ok (.int .i64 z) w := by
  subst h; rfl
theorem blk_keepR {W w2 : World} {b : Nat} {o : Obj} (hb : Below W.heap.size W w2) (h : W.heap[b]? = some o) : w2.heap[b]? = some o := by
  obtain ⟨hlt, _⟩ := Array.getElem?_eq_some_iff.1 h
  exact (hb.block b hlt).trans h
/-- a slice of tokens that lies at lo or above -/
def FrT (lo : Nat) (w : World) (a : Option Addr) (c : Nat) (l : List Tok) : Prop := l.length ≤ c ∧ c ≤ maxLen ∧ (l = [] ∨ ∃ b o, a = some ⟨b, o, none⟩ ∧ lo ≤ b ∧ b < w.heap.size ∧ TksAt w b o l)
theorem FrT.tks {lo : Nat} {w : World} {a : Option Addr} {c : Nat} {l : List Tok} (h : FrT lo w a c l) : Tks w a l := by
  rcases h.2.2 with h | ⟨b, o, h1, _, h4, h5⟩
  · exact Or.inl h
  · exact Or.inr ⟨b, o, h1, h4, h5⟩
theorem FrT.nil (lo : Nat) (w : World) : FrT lo w none 0 [] := ⟨Nat.le_refl _, Nat.zero_le _, Or.inl rfl⟩
theorem FrT.made {lo : Nat} {w0 w : World} {a : Option Addr} {c n : Nat} {l : List Tok} (hn : l.length = n) (h1 : n ≤ c) (h2 : c ≤ maxLen) (hT : Tks w a l) (hf : l ≠ [] → ∃ b o, a = some ⟨b, o, none⟩ ∧ w0.heap.size ≤ b) (hlo : lo ≤ w0.heap.size) : FrT lo w a c l := by
  refine ⟨by omega, h2, ?_⟩
  rcases hT with h | ⟨b, o, h3, h4, h5⟩
  · exact Or.inl h
  · by_cases hn : l = []
    · exact Or.inl hn
    · obtain ⟨b2, o2, e, hle⟩ := hf hn
      rw [h3] at e
      injection e with e; injection e with e1 e2
      subst e1
      exact Or.inr ⟨b, o, h3, by omega, h4, h5⟩
theorem FrT.below {lo : Nat} {w w' : World} {a : Option Addr} {c : Nat} {l : List Tok} (h : FrT lo w a c l) (hb : Below w.heap.size w w') : FrT lo w' a c l := by
  obtain ⟨c1, c2, h⟩ := h
  refine ⟨c1, c2, ?_⟩
  rcases h with h | ⟨b, o, h1, h2, h4, h5⟩
  · exact Or.inl h
  · exact Or.inr ⟨b, o, h1, h2, Nat.lt_of_lt_of_le h4 hb.size, h5.below hb h4⟩
theorem FrT.set {lo : Nat} {w : World} {a : Option Addr} {c : Nat} {l : List Tok} (h : FrT lo w a c l) {P k : Nat} (hP : P < lo) (u : Value) : FrT lo (w.setCell ⟨P, k, none⟩ u) a c l := by
  obtain ⟨c1, c2, h⟩ := h
  refine ⟨c1, c2, ?_⟩
  rcases h with h | ⟨b, o, h1, h2, h4, h5⟩
  · exact Or.inl h
  · have hcell : ∀ j, (w.setCell ⟨P, k, none⟩ u).cell? ⟨b, j, none⟩ = w.cell? ⟨b, j, none⟩ := fun j => by
      simp only [World.cell?]
      rw [setCell_there _ (by show b ≠ P; omega)]
    refine Or.inr ⟨b, o, h1, h2, by rw [setCell_size]; exact h4, fun i hi => ?_⟩
    have h6 := h5 i hi
    exact ⟨(hcell _).trans h6.kind, (hcell _).trans h6.text, (hcell _).trans h6.n⟩
def RuIs (lo : Nat) (w : World) (a0 : Option Addr) (l : List Tok) (R : Rul × Nat) (e : Ending) (w' : World) : Prop :=
  (∃ ah ch ab cb a3 c3, e = .returned (.tuple #[.agg #[.string ⟨R.1.att.toArray⟩, .slice ah R.1.head.length ch, .slice ab R.1.body.length cb, .bool R.1.block], .slice a3 (l.drop R.2).length c3]) ∧
    FrT lo w' ah ch R.1.head ∧ FrT lo w' ab cb R.1.body ∧ (l.drop R.2).length ≤ c3 ∧ c3 ≤ maxLen ∧ ∀ W, Tks W a0 l → Tks W a3 (l.drop R.2)) ∧ Below w.heap.size w w'
theorem rulT_end {att : List UInt8} {ab : Bool} {l : List Tok} (h : fst (stopB ab) l = l.length) : rulT att ab l = (⟨att, trm (l.take l.length), [], false⟩, l.length) := by
  unfold rulT
  simp only [h, List.getElem?_eq_none (Nat.le_refl _)]
theorem rulT_open {att : List UInt8} {ab : Bool} {l : List Tok} {e : Nat} (h : fst (stopB ab) l = e) (he : e < l.length) (hk : l[e].kind = 17) : rulT att ab l = (⟨att, trm (l.take e), (l.take (mtc l e)).drop (e + 1), true⟩, min (mtc l e + 1) l.length) := by
  unfold rulT
  simp only [h, List.getElem?_eq_getElem he, hk, if_true]
theorem rulT_semi {att : List UInt8} {ab : Bool} {l : List Tok} {e : Nat} (h : fst (stopB ab) l = e) (he : e < l.length) (hk : ¬ l[e].kind = 17) : rulT att ab l = (⟨att, trm (l.take e), [], false⟩, e + 1) := by
  unfold rulT
  simp only [h, List.getElem?_eq_getElem he, hk, if_false]
theorem mtc_open {l : List Tok} {k : Nat} (h : k < l.length) (hk : l[k].kind = 17) : k + 1 ≤ mtc l k ∧ mtc l k ≤ l.length := by
  have hc : clo l[k].kind ≠ 0 := by rw [hk]; decide
  refine ⟨?_, (mtc_bd h).2⟩
  cases hm : mt (l.drop (k + 1)) [clo l[k].kind] with
  | some d => rw [mtc_some h hc hm]; omega
  | none => rw [mtc_end h hc hm]; omega

end Go.Proofs.YtfbfndknhabmhaaGreat

namespace Go.Proofs.YtfbfndknhabmhaaGreat
open Go.RowKit TreN LexP FixP SynP
set_option linter.unusedVariables false

end Go.Proofs.YtfbfndknhabmhaaGreat
