/- Layer 15: what a Length is worth, by the other text. -/
import Derived.Test.YtlngipglhlhhbaaFixWa
import Derived.Below
import Derived.Deep.RegionWith
import Derived.Deep.QuietTactic
import Derived.BigQuiet
namespace Go.Proofs.Ytlngipglhlhhbaa
open Go.RowKit FixM
set_option linter.unusedVariables false

theorem below_one7h (w : World) (ob : Obj) : Below w.heap.size w (w.alloc ob) := (Below.refl _ w).alloc (Nat.le_refl _) _
/-- what a Length is worth -/
def measS (kind n d font a b : Int) : Int := if kind ≠ 2 then 0 else if d = 1 then PT n 64 1000 else if d = 2 then PT font n 1000 else if d = 3 ∨ d = 5 then PT a n 100000 else if d = 4 ∨ d = 6 then PT b n 100000 else if d = 7 then PT (min a b) n 100000 else if d = 8 then PT (max a b) n 100000 else 0
theorem H_mono {a b : Int} (h : a ≤ b) : H a ≤ H b := by unfold H; repeat' split
                                                         all_goals omega
theorem PT_H (a n d : Int) : PT (H a) n d = PT a n d := by unfold PT; rw [H_H]
theorem PT_min1 {a b : Int} (h : H b < H a) (n d : Int) : PT (H b) n d = PT (min a b) n d ∧ PT (H a) n d = PT (max a b) n d := by
  have hba : b ≤ a := by
    by_cases c : b ≤ a
    · exact c
    · have := H_mono (show a ≤ b by omega); omega
  rw [PT_H, PT_H, show min a b = b by omega, show max a b = a by omega]
  exact ⟨rfl, rfl⟩
theorem PT_min2 {a b : Int} (h : ¬ H b < H a) (n d : Int) : PT (H a) n d = PT (min a b) n d ∧ PT (H b) n d = PT (max a b) n d := by
  by_cases c : a ≤ b
  · rw [PT_H, PT_H, show min a b = a by omega, show max a b = b by omega]; exact ⟨rfl, rfl⟩
  · have h1 := H_mono (show b ≤ a by omega)
    have e : H a = H b := by omega
    have e1 : PT a n d = PT b n d := by unfold PT; rw [e]
    rw [PT_H, PT_H, show min a b = b by omega, show max a b = a by omega]
    exact ⟨e1, e1.symm⟩

end Go.Proofs.Ytlngipglhlhhbaa
