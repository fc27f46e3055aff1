/- The walks of layer 4's builder: New and Close. -/
import Derived.Test.YtlnglpjmfoigmaaTreS
import Derived.StillTailTactics
namespace Go.Proofs.Ytlnglpjmfoigmaa
open Go.RowKit TreN TreP

/-- a builder's block -/
def newB (w : World) : World := w.alloc (.cells #[.slice none 0 0, .slice none 0 0] 65)

set_option maxRecDepth 100000 in
set_option maxHeartbeats 400000 in
theorem New_any (w : World) : Calls Try.prog 31 #[] w fun e w' => e = .returned (.pointer (some ⟨w.heap.size, 0, none⟩)) ∧ newB w = w' := by
  go_enter Try.func31, Try.ntmps31
  go_wp2_with fail
  go_ret
  exact ⟨rfl, rfl⟩

set_option maxRecDepth 100000 in
set_option maxHeartbeats 400000 in
theorem Close_none (P : Nat) (oa : Option Addr) (cap : Nat) (w : World) (h : w.cell? ⟨P, 1, none⟩ = some (.slice oa 0 cap)) : Calls Try.prog 36 #[.pointer (some ⟨P, 0, none⟩)] w fun e w' => e = .returned (.int .i64 34) ∧ w = w' := by
  go_enter Try.func36, Try.ntmps36
  go_wp2_with fail
  go_ret
  exact ⟨rfl, rfl⟩

set_option maxRecDepth 100000 in
set_option maxHeartbeats 1000000 in
theorem Close_some (P g K cap : Nat) (w : World) (h0 : 0 < K) (hK : K ≤ cap) (hm : K ≤ 1000) (h : w.cell? ⟨P, 1, none⟩ = some (.slice (some ⟨g, 0, none⟩) K cap)) (hf : w.frozen? ⟨P, 1, none⟩ = false) :
    Calls Try.prog 36 #[.pointer (some ⟨P, 0, none⟩)] w fun e w' => e = .returned (.int .i64 0) ∧ w.drew.setCell ⟨P, 1, none⟩ (.slice (some ⟨g, 0, none⟩) (K - 1) cap) = w' := by
  have hz : ((K : Int) == 0) = false := by rw [beq_eq_false_iff_ne]; omega
  have e1 : (K : Int) - 1 = ((K - 1 : Nat) : Int) := by omega
  have hs1 : ((K - 1 : Nat) : Int) ≤ (cap : Int) := by omega
  have hw : IntKind.i64.wrap ((K - 1 : Nat) : Int) = ((K - 1 : Nat) : Int) := IntWalk.i64_in _ (by omega)
  have hc0 : ¬ cap = 0 := by omega
  have hs0 : (0 : Int) ≤ ((K - 1 : Nat) : Int) := by omega
  have hd : w.drew.cell? ⟨P, 1, none⟩ = some (.slice (some ⟨g, 0, none⟩) K cap) := h
  have hfd : w.drew.frozen? ⟨P, 1, none⟩ = false := hf
  go_enter Try.func36, Try.ntmps36
  go_wp2_with fail
  refine wp_region_still_tail 14 (by kernel_rfl) (by kernel_rfl) ?_
  simp only [List.take_succ_cons, List.take_zero, List.drop_succ_cons, List.drop_zero]
  repeat still_step
  refine wpStill_nil ?_
  change wpList _ _ _ _ _ w.drew
  go_wp2_with fail
  go_ret
  exact ⟨rfl, rfl⟩
end Go.Proofs.Ytlnglpjmfoigmaa
