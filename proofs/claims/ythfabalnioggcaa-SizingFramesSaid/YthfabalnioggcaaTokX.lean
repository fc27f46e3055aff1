/- Joined texts: TokA TokB TokC. -/
import Derived.Test.YthfabalnioggcaaSynU1
import Derived.Test.YthfabalnioggcaaMem
import Derived.Test.YthfabalnioggcaaValP
import Derived.OwnWalk
import Derived.Test.YthfabalnioggcaaSynR2
import Derived.Outline
import Derived.Deep.LoopGhost
namespace Go.Proofs.Ythfabalnioggcaa
open Go.RowKit TreN LexP FixP SynP ValP
set_option linter.unusedVariables false

/-- a cursor at the head of block P: what lies behind it there is 'rest'; its tokens lie in what was there in w0 -/
structure Cur (w0 w : World) (P : Nat) (T : TypeId) (rest : List Value) (l : List Tok) : Prop where
  ex : ∃ a c, w.heap[P]? = some (.cells (.slice a l.length c :: rest).toArray T (0, 0)) ∧ l.length ≤ c ∧ c ≤ maxLen ∧ Tks w0 a l
  base : w0.heap.size ≤ P
  bel : Below w0.heap.size w0 w
theorem blk_lt {w : World} {P : Nat} {o : Obj} (h : w.heap[P]? = some o) : P < w.heap.size := (Array.getElem?_eq_some_iff.1 h).1
theorem Cur.lt {w0 w : World} {P : Nat} {T : TypeId} {rest : List Value} {l : List Tok} (h : Cur w0 w P T rest l) : P < w.heap.size := by
  obtain ⟨a, c, hb, _⟩ := h.ex
  exact blk_lt hb
theorem Cur.keep {w0 w w' : World} {P : Nat} {T : TypeId} {rest : List Value} {l : List Tok} (h : Cur w0 w P T rest l) (hb : Below w.heap.size w w') : Cur w0 w' P T rest l := by
  have hlt := h.lt
  obtain ⟨a, c, h1, h2⟩ := h.ex
  exact ⟨⟨a, c, (hb.block P hlt).trans h1, h2⟩, h.base, h.bel.trans (hb.mono h.bel.size)⟩
theorem grownBy_below {w w' : World} (row : Option Nat) (hb : Below w.heap.size w w') : w.grownBy w' row := ⟨hb.os, hb.tape, hb.output, hb.size, fun k hk _ => hb.block k hk⟩
theorem grownBy_trans {a b c : World} {P : Option Nat} (h : a.grownBy b P) (k : b.grownBy c P) : a.grownBy c P := ⟨k.os.trans h.os, k.tape.trans h.tape, k.output.trans h.output, Nat.le_trans h.size k.size, fun i hi hn => (k.block i (by have := h.size; omega) hn).trans (h.block i hi hn)⟩
theorem grownBy_set (w : World) (P k : Nat) (v : Value) : w.grownBy (w.setCell ⟨P, k, none⟩ v) (some P) := ⟨rfl, rfl, rfl, by simp [World.setCell], fun i _ hn => Below.heap_setCell _ _ _ _ (fun e => hn (by rw [e]))⟩
/-- what another cursor's step leaves of this one -/
theorem Cur.other {w0 w w' : World} {P Q : Nat} {T : TypeId} {rest : List Value} {l : List Tok} (h : Cur w0 w P T rest l) (hg : w.grownBy w' (some Q)) (hne : P ≠ Q) (hQ : w0.heap.size ≤ Q) : Cur w0 w' P T rest l := by
  have hlt := h.lt
  obtain ⟨a, c, h1, h2⟩ := h.ex
  exact ⟨⟨a, c, (hg.block P hlt (by simpa using hne)).trans h1, h2⟩, h.base, h.bel.grown hg h.bel.size (fun k hk => by injection hk with hk; omega)⟩

theorem grownBy_then {w wx x : World} {row : Option Nat} (h : w.grownBy wx row) (k : Below w.heap.size wx x) : w.grownBy x row := ⟨k.os.trans h.os, k.tape.trans h.tape, k.output.trans h.output, Nat.le_trans h.size k.size, fun i hi hn => (k.block i hi).trans (h.block i hi hn)⟩
/-- a store at the cursor, ahead of a store of what is answered -/
theorem cur_step {w0 w w1 : World} {P : Nat} {T : TypeId} {rest : List Value} {l r : List Tok} {a2 : Option Addr} {m c2 : Nat} {Z : Obj} (h : Cur w0 w P T rest l) (hb : Below (w.alloc Z).heap.size (w.alloc Z) w1) (hr : m = r.length) (h1 : m ≤ c2) (h2 : c2 ≤ maxLen) (hT : Tks w0 a2 r) :
    w.grownBy (w1.setCell ⟨P, 0, none⟩ (.slice a2 m c2)) (some P) ∧ Cur w0 (w1.setCell ⟨P, 0, none⟩ (.slice a2 m c2)) P T rest r ∧ (w1.setCell ⟨P, 0, none⟩ (.slice a2 m c2)).heap[w.heap.size]? = some Z := by
  subst hr
  have hlt := h.lt
  have h0 : w.heap.size < (w.alloc Z).heap.size := by simp
  have hs := hb.size
  have hB : Below w.heap.size w w1 := ((Below.refl _ _).alloc (Nat.le_refl _) _).trans (hb.mono (by omega))
  have hZ : w1.heap[w.heap.size]? = some Z := by rw [hb.block _ h0]; exact heap_alloc_new w _
  obtain ⟨a, c, hP, _⟩ := h.ex
  have hP1 : w1.heap[P]? = some (.cells (.slice a l.length c :: rest).toArray T (0, 0)) := by
    rw [hB.block P hlt]; exact hP
  have hg : w.grownBy (w1.setCell ⟨P, 0, none⟩ (.slice a2 r.length c2)) (some P) :=
    grownBy_trans (grownBy_below _ hB) (grownBy_set _ _ _ _)
  refine ⟨hg, ⟨⟨a2, c2, ?_, h1, h2, hT⟩, h.base, h.bel.grown hg h.bel.size (fun k hk => by injection hk with hk; have := h.base; omega)⟩, ?_⟩
  · rw [setCell_here _ hP1]; simp
  · rw [setCell_there _ (by omega)]; exact hZ
theorem Cur.three {w0 wx x : World} {P B : Nat} {T U : TypeId} {rest : List Value} {l : List Tok} {n0 n1 n2 : Value} (h : Cur w0 wx P T rest l) (h3 : Three wx x B U n0 n1 n2) (hne : P ≠ B) (hB : w0.heap.size ≤ B) : Cur w0 x P T rest l := by
  obtain ⟨a, c, h1, h2⟩ := h.ex
  exact ⟨⟨a, c, (h3.there P hne).trans h1, h2⟩, h.base, h3.below _ _ hB h.bel⟩

end Go.Proofs.Ythfabalnioggcaa

namespace Go.Proofs.Ythfabalnioggcaa
open Go.RowKit TreN LexP FixP SynP ValP
set_option linter.unusedVariables false

/-- where the loop of Spaces stands -/
def SpAt (l : List Tok) (m : List Tok) : Prop := bs m = bs l ∧ m.length ≤ l.length
end Go.Proofs.Ythfabalnioggcaa

namespace Go.Proofs.Ythfabalnioggcaa
open Go.RowKit TreN LexP FixP SynP ValP
set_option linter.unusedVariables false

end Go.Proofs.Ythfabalnioggcaa
