/- The walks of slices.Grow and slices.Concat at nodes. -/
import Derived.Test.YtffelkillcboeaaTreG
import Derived.Lib.AppendZeros
namespace Go.Proofs.Ytffelkillcboeaa
open Go.RowKit TreN TreP

set_option maxRecDepth 100000 in
theorem und_int3 : Try.prog.underlying 3 = some (.int .i64) := by kernel_rfl

set_option maxRecDepth 100000 in
/-- append(nil, make([]Node, n)...) -/
theorem grow_zeros (n : Nat) (w : World) (h0 : 0 < n) (hn : n ≤ 10000) :
    ∃ c w', (Builtin.append_ #[25, 3] 25 #[.slice none 0 0, .int .i64 (n : Int)]).run Try.prog w = .ok (.slice (some ⟨w.heap.size, 0, none⟩) n c) w' ∧
      w'.ownsRow w.heap.size 30 6 (.slice (some ⟨w.heap.size, 0, none⟩) 0 c) 0 [] ∧ Below w.heap.size w w' := by
  obtain ⟨i, hi, hz0, hz1, hz2⟩ := info_parts info_node
  have hr := Lib.run_append_nil_zeros (P := Try.prog) w 25 3 25 30 i _ .i64 .i64 und_nodes und_int3 hi hz0 n h0 (by omega) (by omega) (by rw [hz2]; omega)
  have hge := grownCap_ge w n 0 30
  have hcm : grownCap w n 0 30 ≤ maxLen := grownCap_le_maxLen w n 0 30 (by unfold maxLen; omega)
  refine ⟨_, _, hr, ⟨rfl, Or.inr ⟨w.heap.size, _, _, rfl, Nat.le_refl _, heap_alloc_new w.drew _, by omega, hcm, ?_, ?_⟩⟩, (Below.drew (Below.refl _ _)).alloc (Nat.le_refl _) _⟩
  · simp only [Array.size_append, size_zeroCells, Value.cells]
    have e : (#[Value.int .i64 0, .string ⟨#[]⟩, .string ⟨#[]⟩, .slice none 0 0, .slice none 0 0, .string ⟨#[]⟩] : Array Value).size = 6 := rfl
    rw [e]
    omega
  · rw [Nat.zero_mul]; rfl

end Go.Proofs.Ytffelkillcboeaa
