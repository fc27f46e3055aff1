/- Joined texts: PropW1 PropW2 PropW3. -/
import Derived.Test.YthfabalnioggcaaPropP
import Derived.Test.YthfabalnioggcaaValW1
import Derived.Test.YthfabalnioggcaaValW2
namespace Go.Proofs.Ythfabalnioggcaa
open Go.RowKit TreN LexP FixP SynP ValP PropP FixM
set_option linter.unusedVariables false

theorem plc_mem : ∀ (L : List (List UInt8)) (s : List UInt8) (k : Nat), 0 < plc L s (k + 1) ↔ s ∈ L
  | [], s, k => by simp [plc]
  | x :: r, s, k => by
    unfold plc
    by_cases h : x = s
    · rw [if_pos h]; simp [h]
    · rw [if_neg h, plc_mem r s (k + 1), List.mem_cons]
      constructor
      · exact Or.inr
      · rintro (e | e)
        · exact absurd e.symm h
        · exact e
theorem names_len : namesL.length = 37 := rfl
theorem below_oneP (w : World) (o : Obj) : Below w.heap.size w (w.alloc o) := (Below.refl _ _).alloc (Nat.le_refl _) _
def extB (v : Val) : Bool := decide (v.kind = 2 ∨ v.kind = 3)
def upB (v : Val) : Bool := decide (0 ≤ v.n)
def ratB (v : Val) : Bool := decide (0 < v.n ∧ (v.kind = 4 ∨ v.kind = 5 ∧ 0 < v.d))
end Go.Proofs.Ythfabalnioggcaa

namespace Go.Proofs.Ythfabalnioggcaa
open Go.RowKit TreN LexP FixP SynP ValP PropP FixM
set_option linter.unusedVariables false

theorem blk_ltP {w : World} {P : Nat} {o : Obj} (h : w.heap[P]? = some o) : P < w.heap.size := (Array.getElem?_eq_some_iff.1 h).1
end Go.Proofs.Ythfabalnioggcaa

namespace Go.Proofs.Ythfabalnioggcaa
open Go.RowKit TreN LexP FixP SynP ValP PropP FixM
set_option linter.unusedVariables false

theorem isB_nil (v : Val) : isB v [] = false := by unfold isB; simp
theorem oth1 (v : Val) : othB 1 v = (extB v && upB v) := Bool.decide_and _ _
theorem oth2 (v : Val) : othB 2 v = extB v := rfl
theorem oth3 (v : Val) : othB 3 v = (decide (v.kind = 2) && upB v) := Bool.decide_and _ _
theorem oth4 (v : Val) : othB 4 v = (decide (v.kind = 4) && upB v) := Bool.decide_and _ _
theorem oth6 (v : Val) : othB 6 v = ratB v := rfl
end Go.Proofs.Ythfabalnioggcaa
