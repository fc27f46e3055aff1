/- append(nil, list of nodes). -/
import Derived.Test.YtlnglpjmfoigmaaTreB2
import Derived.Test.YtlnglpjmfoigmaaTreU
namespace Go.Proofs.Ytlnglpjmfoigmaa
open Go.RowKit TreN TreP

set_option maxRecDepth 100000 in
theorem copy_nodes (H : Nat) (a : Option Addr) (n c : Nat) (L : Nat → Nd) (w : World) (hH : H ≤ w.heap.size) (hn : n ≤ 1100) (h : Nods w a n L) :
    ∃ v w', (Builtin.append_ #[24, 24] 24 #[.slice none 0 0, .slice a n c]).run Try.prog w = .ok v w' ∧ w'.ownsRow H 39 6 v n (ndcs L n) ∧ Below w.heap.size w w' := by
  obtain ⟨i, hi, hz0, hz1, hz2⟩ := info_parts info_node
  by_cases h0 : n = 0
  · subst h0
    refine ⟨.slice none 0 0, w, ?_, World.ownsRow_nil w _ _ 6, Below.refl _ _⟩
    cases a with
    | none => exact run_append_owned_none (P := Try.prog) w w.heap.size 24 24 39 i 6 und_nodes hi _ 0 [] (World.ownsRow_nil w _ _ 6)
    | some ad => simp [Builtin.append_, run_underlying und_nodes, sizeOf, typeInfo, hi, Builtin.lenOf, Builtin.firstCells, loadCells, loadCellsFrom]
  · obtain ⟨b, off, rfl, hb⟩ := h.lies (by omega)
    obtain ⟨v', w', hr, h2, h3, _⟩ := run_append_own (P := Try.prog) w H 24 24 39 i _ 6 104 und_nodes hi hz0 hz1 hz2 (by rfl) (by omega) _ 0 [] (World.ownsRow_nil w _ _ 6) ⟨b, off, none⟩ n c _ (ndcs_length L n) (ndcs_news hb.ndat) (ndcs_one L n) (by unfold maxLen; omega) (by omega) hH
    rw [Nat.zero_add, List.nil_append] at h2
    exact ⟨v', w', hr, h2, grown_below h3⟩
end Go.Proofs.Ytlnglpjmfoigmaa
