/- Layer 15: what lengths are measured by, by the reference; HolderBases. -/
import Derived.Test.YtjhhpilaaahicaaHolG
namespace Go.Proofs.Ytjhhpilaaahicaa
open Go.RowKit TreP FixM Go.Sort
set_option linter.unusedVariables false

theorem firstN_wide (X : Nat → Ext) (m : Nat) (U : List Nat) : firstN (refP X m [] 1) U = firstN (wideB X m) U := by rw [show refP X m [] 1 = wideB X m from funext (refP_wide X m)]
theorem firstN_whole (X : Nat → Ext) (m : Nat) (U : List Nat) : firstN (refP X m [] 2) U = firstN (wholeB X m) U := by rw [show refP X m [] 2 = wholeB X m from funext (refP_whole X m)]

theorem upsIs_any (f : Nat → Int) (len : Nat) (i : Int) : ∃ U, UpsIs f len i U := by
  by_cases h : i < 0 ∨ (len : Int) ≤ i
  · exact ⟨[], Or.inr ⟨h, rfl⟩⟩
  · obtain ⟨k, rfl⟩ := Int.eq_ofNat_of_zero_le (show 0 ≤ i by omega)
    exact ⟨_, Or.inl ⟨k, rfl, by omega, rfl⟩⟩

set_option maxRecDepth 100000 in
theorem few15_any (a : Option Addr) (len cap : Nat) (w : World) : Calls Try.prog 28 #[.slice a len cap] w fun e w' => e = .returned (.bool (decide ((len : Int) ≤ 100))) ∧ w = w' := by
  go_enter Try.func28, Try.ntmps28
  go_wp2_with fail
  go_ret
  exact ⟨rfl, rfl⟩

end Go.Proofs.Ytjhhpilaaahicaa
