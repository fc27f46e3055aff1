/- slices.Collect of kin.Ups; tree.Ups. -/
import Derived.Test.YtjhhpilaaahicaaKinU
namespace Go.Proofs.Ytjhhpilaaahicaa
open Go.RowKit TreP Go.Shelf
attribute [local go_sem] Oper.semAt_some
set_option linter.unusedVariables false

theorem ints_snoc (l : List Nat) (x : Nat) : ints (l ++ [x]) = ints l ++ [.int .i64 (x : Int)] := by unfold ints; simp

set_option maxRecDepth 100000 in
set_option maxHeartbeats 2000000 in
theorem kUps_any (a : Option Addr) (len cap : Nat) (i : Int) (w : World) : Calls Try.prog 132 #[.slice a len cap, .int .i64 i] w fun e w' => e = .returned (.func (.func 158) #[] #[.pointer (some ⟨w.heap.size, 0, none⟩), .pointer (some ⟨w.heap.size + 1, 0, none⟩)]) ∧ w' = (w.alloc (.cells #[.slice a len cap] 54)).alloc (.cells #[.int .i64 i] 3) := by
  have hmf : ∀ (fn : Fn) (first cap : Array Value) (w : World), (Instr.makeFunc fn first cap).run Try.prog w = .ok (.func fn first cap) w := fun _ _ _ _ => rfl
  go_enter Try.func132, Try.ntmps132
  go_wp2_with fail
  go_ret
  exact ⟨rfl, rfl⟩

theorem UpsIs.len {f : Nat → Int} {len : Nat} {i : Int} {U : List Nat} (h : UpsIs f len i U) : U.length ≤ len := by
  rcases h with ⟨k, rfl, hk, rfl⟩ | ⟨_, rfl⟩
  · have := ups_length f k; omega
  · simp

end Go.Proofs.Ytjhhpilaaahicaa
