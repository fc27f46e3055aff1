/- Layer 15: the law's known. -/
import Derived.Test.YtjhhpilaaahicaaHolD
namespace Go.Proofs.Ytjhhpilaaahicaa
open Go.RowKit TreP FixM Go.Sort
set_option linter.unusedVariables false

def knF : Nat → Int := fun k => if k = 0 then -1 else if k = 1 then 0 else 1
def knX : Nat → Ext := fun k => if k = 0 then ⟨2, [], 10, 20⟩ else if k = 1 then ⟨1, [], 30, 40⟩ else ⟨0, [], 0, 0⟩
def knN : Array Value := #[.int .i64 (-1), .string ⟨#[97]⟩, .string ⟨#[]⟩, .slice none 0 0, .slice none 0 0, .string ⟨#[]⟩, .int .i64 0, .string ⟨#[98]⟩, .string ⟨#[]⟩, .slice none 0 0, .slice none 0 0, .string ⟨#[]⟩, .int .i64 1, .string ⟨#[99]⟩, .string ⟨#[]⟩, .slice none 0 0, .slice none 0 0, .string ⟨#[]⟩]
def knE : Array Value := #[.int .i64 2, .string ⟨#[]⟩, .int .i64 10, .int .i64 20, .int .i64 1, .string ⟨#[]⟩, .int .i64 30, .int .i64 40, .int .i64 0, .string ⟨#[]⟩, .int .i64 0, .int .i64 0]
theorem kn_ups : ups knF 2 = [1, 0] := by decide +kernel
theorem kn_pars (w : World) : Pars ((w.alloc (.cells knN 85)).alloc (.cells knE 44)) (some ⟨w.heap.size, 0, none⟩) 3 knF := by
  have h : ((w.alloc (.cells knN 85)).alloc (.cells knE 44)).heap[w.heap.size]? = some (.cells knN 85 (0, 0)) := ((below_one7h _ _).block w.heap.size (by simp)).trans (heap_alloc_new w _)
  refine Or.inr ⟨w.heap.size, 0, rfl, by simp; omega, fun i hi => ?_⟩
  have hc : i = 0 ∨ i = 1 ∨ i = 2 := by omega
  rcases hc with rfl | rfl | rfl <;> exact cell_of h rfl
theorem kn_exts (w : World) : Exts ((w.alloc (.cells knN 85)).alloc (.cells knE 44)) (some ⟨w.heap.size + 1, 0, none⟩) 3 knX := by
  have h : ((w.alloc (.cells knN 85)).alloc (.cells knE 44)).heap[w.heap.size + 1]? = some (.cells knE 44 (0, 0)) := by
    have h := heap_alloc_new (w.alloc (.cells knN 85)) (.cells knE 44)
    rwa [show (w.alloc (.cells knN 85)).heap.size = w.heap.size + 1 by simp] at h
  refine Or.inr ⟨w.heap.size + 1, 0, rfl, by simp, fun i hi => ?_⟩
  have hc : i = 0 ∨ i = 1 ∨ i = 2 := by omega
  rcases hc with rfl | rfl | rfl <;> exact ⟨cell_of h rfl, cell_of h rfl, cell_of h rfl, cell_of h rfl⟩

set_option maxRecDepth 100000 in
set_option maxHeartbeats 4000000 in
theorem known15_any (w : World) : Calls Try.prog 29 #[] w fun e w' => e = .returned (.bool true) ∧ Below w.heap.size w w' := by
  have hu : UpsIs knF 3 2 [1, 0] := Or.inl ⟨2, rfl, by omega, kn_ups.symm⟩
  have hb : Below w.heap.size w ((w.alloc (.cells knN 85)).alloc (.cells knE 44)) := (below_one7h w _).alloc (by simp) _
  have hp := kn_pars w
  have hx := kn_exts w
  have e1 : H (baseW knX 3 [1, 0] 1) = 30 := by decide +kernel
  have e2 : H (baseH knX 3 [1, 0] 1) = 20 := by decide +kernel
  have e3 : nearS knX 3 [] [1, 0] = 1 := by decide +kernel
  have e4 : measS 2 1500 1 0 0 0 = 96 := by decide +kernel
  go_enter Try.func29, Try.ntmps29
  go_wp2_with fail
  change Calls _ _ _ ((w.alloc (.cells knN 85)).alloc (.cells knE 44)) _
  generalize (w.alloc (.cells knN 85)).alloc (.cells knE 44) = w2 at *
  have HB := Lib.hid hb
  have HP := Lib.hid hp
  have HX := Lib.hid hx
  have E3 := Lib.hid e3
  have E4 := Lib.hid e4
  have C1 := Bases_any (some ⟨w.heap.size, 0, none⟩) 3 3 knF 2 [1, 0] hu (by omega) (some ⟨w.heap.size + 1, 0, none⟩) 3 3 knX 1 1 w2 (by omega) hp hx
  rw [e1, e2] at C1
  refine C1.mono ?_
  clear C1 hb hp hx e1 e2 e3 e4
  rintro e w3 ⟨rfl, hb3⟩
  have HB3 := Lib.hid (HB.out.trans (hb3.mono HB.out.size))
  have C2 := Nearest_any (some ⟨w.heap.size, 0, none⟩) 3 3 knF 2 [1, 0] hu (by omega) (some ⟨w.heap.size + 1, 0, none⟩) 3 3 knX [] w3 (by omega) (HP.out.below hb3) (HX.out.below hb3)
  rw [E3.out] at C2
  have HC2 := Lib.hid C2
  clear hb3 C2
  go_wp2_with fail
  refine HC2.out.mono ?_
  rintro e w4 ⟨rfl, hb4⟩
  have HB4 := Lib.hid (HB3.out.trans (hb4.mono HB3.out.size))
  have C3 := Measure_any 2 1500 1 0 0 0 [] w4
  rw [E4.out] at C3
  have HC3 := Lib.hid C3
  clear hb4 C3
  go_wp2_with fail
  refine HC3.out.mono ?_
  rintro e w5 ⟨rfl, hb5⟩
  have HB5 := Lib.hid (HB4.out.trans (hb5.mono HB4.out.size))
  clear hb5
  go_wp2_with fail
  go_ret
  exact ⟨rfl, HB5.out⟩
end Go.Proofs.Ytjhhpilaaahicaa
