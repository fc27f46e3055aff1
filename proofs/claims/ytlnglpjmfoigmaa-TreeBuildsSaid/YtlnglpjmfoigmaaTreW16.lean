/- The walks of slices.Grow and slices.Concat at nodes. -/
import Derived.Test.YtlnglpjmfoigmaaTreG
import Derived.Lib.AppendZeros
namespace Go.Proofs.Ytlnglpjmfoigmaa
open Go.RowKit TreN TreP

set_option maxRecDepth 100000 in
theorem und_int3 : Try.prog.underlying 3 = some (.int .i64) := by kernel_rfl

set_option maxRecDepth 100000 in
/-- append(nil, make([]Node, n)...) -/
theorem grow_zeros (n : Nat) (w : World) (h0 : 0 < n) (hn : n ≤ 10000) :
    ∃ c w', (Builtin.append_ #[24, 3] 24 #[.slice none 0 0, .int .i64 (n : Int)]).run Try.prog w = .ok (.slice (some ⟨w.heap.size, 0, none⟩) n c) w' ∧
      w'.ownsRow w.heap.size 39 6 (.slice (some ⟨w.heap.size, 0, none⟩) 0 c) 0 [] ∧ Below w.heap.size w w' := by
  obtain ⟨i, hi, hz0, hz1, hz2⟩ := info_parts info_node
  have hr := Lib.run_append_nil_zeros (P := Try.prog) w 24 3 24 39 i _ .i64 .i64 und_nodes und_int3 hi hz0 n h0 (by omega) (by omega) (by rw [hz2]; omega)
  have hge := grownCap_ge w n 0 39
  have hcm : grownCap w n 0 39 ≤ maxLen := grownCap_le_maxLen w n 0 39 (by unfold maxLen; omega)
  refine ⟨_, _, hr, ⟨rfl, Or.inr ⟨w.heap.size, _, _, rfl, Nat.le_refl _, heap_alloc_new w.drew _, by omega, hcm, ?_, ?_⟩⟩, (Below.drew (Below.refl _ _)).alloc (Nat.le_refl _) _⟩
  · simp only [Array.size_append, size_zeroCells, Value.cells]
    have e : (#[Value.int .i64 0, .string ⟨#[]⟩, .string ⟨#[]⟩, .slice none 0 0, .slice none 0 0, .string ⟨#[]⟩] : Array Value).size = 6 := rfl
    rw [e]
    omega
  · rw [Nat.zero_mul]; rfl

set_option maxRecDepth 100000 in
set_option maxHeartbeats 1000000 in
theorem Grow_nil (n : Nat) (w : World) (h0 : 0 < n) (hn : n ≤ 10000) :
    Calls Try.prog 62 #[.slice none 0 0, .int .i64 (n : Int)] w fun e w' => ∃ c, e = .returned (.slice (some ⟨w.heap.size, 0, none⟩) 0 c) ∧ w'.ownsRow w.heap.size 39 6 (.slice (some ⟨w.heap.size, 0, none⟩) 0 c) 0 [] ∧ Below w.heap.size w w' := by
  obtain ⟨c, w1, hr, hown, hb⟩ := grow_zeros n w h0 hn
  have HR := Lib.hid hr
  have HO := Lib.hid hown
  have HB := Lib.hid hb
  have hz : ¬ ((n : Int) < 0) := by omega
  have hz2 : (0 : Int) < (n : Int) := by omega
  clear hr hown hb
  go_enter Try.func62, Try.ntmps62
  go_wp2_with (at_builtin; refine Lib.wpList_append_run _ rfl _ _ 24 3 rfl _ _ rfl rfl _ _ HR.out ?_)
  go_ret
  exact ⟨c, rfl, HO.out, HB.out⟩
end Go.Proofs.Ytlnglpjmfoigmaa
