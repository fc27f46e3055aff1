/- The walks of the function literals of layer 4's Graft and Done. -/
import Derived.Test.YtlnglpjmfoigmaaTreQ
import Derived.Test.YtlnglpjmfoigmaaTreO
namespace Go.Proofs.Ytlnglpjmfoigmaa
open Go.RowKit TreN TreP

/-- where a parent of m goes -/
def mS (i p : Int) : Int := i + p
/-- where a parent of l goes -/
def lS (i E m : Nat) (p : Int) : Int := if p < (E : Int) then p else p - E + i + m

set_option maxRecDepth 100000 in
set_option maxHeartbeats 400000 in
theorem ofM_any (p : Int) (i b : Nat) (w : World) (hp : -1 ≤ p ∧ p ≤ 1024) (hi : i ≤ 1024) (hc : w.cell? ⟨b, 0, none⟩ = some (.int .i64 i)) :
    Calls Try.prog 52 (#[.int .i64 p] ++ #[.pointer (some ⟨b, 0, none⟩)]) w fun e w' => e = .returned (.int .i64 (mS i p)) ∧ w = w' := by
  obtain ⟨h1, h2⟩ := hp
  show Calls Try.prog 52 #[.int .i64 p, .pointer (some ⟨b, 0, none⟩)] w _
  unfold mS
  go_enter Try.func52, Try.ntmps52
  go_wp2_with fail
  go_ret
  exact ⟨rfl, rfl⟩

set_option maxRecDepth 100000 in
set_option maxHeartbeats 1000000 in
theorem ofL_any (p : Int) (i E m mc b1 b2 b3 : Nat) (ma : Option Addr) (w : World) (hp : -1 ≤ p ∧ p ≤ 1024) (hi : i ≤ 1024) (hE : E ≤ 1024) (hm : m ≤ 1024) (h1 : w.cell? ⟨b1, 0, none⟩ = some (.int .i64 E)) (h2 : w.cell? ⟨b2, 0, none⟩ = some (.int .i64 i)) (h3 : w.cell? ⟨b3, 0, none⟩ = some (.slice ma m mc)) :
    Calls Try.prog 53 (#[.int .i64 p] ++ #[.pointer (some ⟨b1, 0, none⟩), .pointer (some ⟨b2, 0, none⟩), .pointer (some ⟨b3, 0, none⟩)]) w fun e w' => e = .returned (.int .i64 (lS i E m p)) ∧ w = w' := by
  obtain ⟨p1, p2⟩ := hp
  show Calls Try.prog 53 #[.int .i64 p, .pointer (some ⟨b1, 0, none⟩), .pointer (some ⟨b2, 0, none⟩), .pointer (some ⟨b3, 0, none⟩)] w _
  unfold lS
  by_cases hlt : p < (E : Int)
  · rw [if_pos hlt]
    go_enter Try.func53, Try.ntmps53
    go_wp2_with fail
    go_ret
    exact ⟨rfl, rfl⟩
  · rw [if_neg hlt]
    go_enter Try.func53, Try.ntmps53
    go_wp2_with fail
    go_ret
    exact ⟨rfl, rfl⟩

set_option maxRecDepth 100000 in
set_option maxHeartbeats 400000 in
theorem same_any (p : Int) (w : World) : Calls Try.prog 58 (#[.int .i64 p] ++ #[]) w fun e w' => e = .returned (.int .i64 p) ∧ w = w' := by
  show Calls Try.prog 58 #[.int .i64 p] w _
  go_enter Try.func58, Try.ntmps58
  go_wp2_with fail
  go_ret
  exact ⟨rfl, rfl⟩
end Go.Proofs.Ytlnglpjmfoigmaa
