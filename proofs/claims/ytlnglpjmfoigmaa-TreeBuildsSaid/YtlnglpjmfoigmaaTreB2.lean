/- The walk of layer 4's builder: Done. -/
import Derived.Test.YtlnglpjmfoigmaaTreB
namespace Go.Proofs.Ytlnglpjmfoigmaa
open Go.RowKit TreN TreP

set_option maxRecDepth 100000 in
set_option maxHeartbeats 1000000 in
theorem Done_open (P : Nat) (na oa : Option Addr) (N nc K oc : Nat) (w : World) (hP : w.cell? ⟨P, 0, none⟩ = some (.slice na N nc)) (hO : w.cell? ⟨P, 1, none⟩ = some (.slice oa K oc)) (h : 0 < K ∨ (K = 0 ∧ N = 0)) :
    Calls Try.prog 37 #[.pointer (some ⟨P, 0, none⟩)] w fun e w' => e = .returned (.tuple #[.slice none 0 0, .int .i64 34]) ∧ w = w' := by
  rcases h with h | ⟨rfl, rfl⟩
  · have hz : (0 : Int) < (K : Int) := by omega
    go_enter Try.func37, Try.ntmps37
    go_wp2_with fail
    go_ret2
    exact ⟨rfl, rfl⟩
  · go_enter Try.func37, Try.ntmps37
    go_wp2_with fail
    go_ret2
    exact ⟨rfl, rfl⟩

set_option maxRecDepth 100000 in
set_option maxHeartbeats 1000000 in
theorem Done_some (P g N nc oc : Nat) (oa : Option Addr) (D : Nat → Nd) (w : World) (hN0 : 0 < N) (hN1 : N ≤ 1100) (hP : w.cell? ⟨P, 0, none⟩ = some (.slice (some ⟨g, 0, none⟩) N nc)) (hO : w.cell? ⟨P, 1, none⟩ = some (.slice oa 0 oc)) (hD : NAt w g 0 N D) (h8 : ∀ i, i < N → (D i).cl ≤ 8 ∧ (D i).al ≤ 8) :
    Calls Try.prog 37 #[.pointer (some ⟨P, 0, none⟩)] w fun e w' => ∃ b, e = .returned (.tuple #[.slice (some ⟨b, 0, none⟩) N N, .int .i64 0]) ∧ PartAt w' b N D ∧ Below w.heap.size w w' := by
  have hz : ((N : Int) == 0) = false := by rw [beq_eq_false_iff_ne]; omega
  have CM := Lib.hid (fun (W : World) (hW : Below w.heap.size w W) => moved_part 58 #[] (fun p => p) (enters_of Try.func58 (by kernel_rfl) rfl) (some ⟨g, 0, none⟩) N nc D D W (fun k _ W' _ => same_any (D k).par W') (by omega) (hD.nods.below hW) h8 (fun i _ => rfl))
  clear hD h8
  go_enter Try.func37, Try.ntmps37
  go_wp2_with fail
  refine (CM.out w (Below.refl _ _)).mono ?_
  rintro e w1 ⟨b, rfl, hp, hb⟩
  have HP := Lib.hid hp
  have HB := Lib.hid hb
  clear hp hb
  go_wp2_with fail
  go_ret2
  exact ⟨b, rfl, HP.out, HB.out⟩
end Go.Proofs.Ytlnglpjmfoigmaa
