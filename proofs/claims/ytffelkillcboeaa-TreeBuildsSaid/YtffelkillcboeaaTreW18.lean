/- The walks of the function literals of layer 4's Graft and Done. -/
import Derived.Test.YtffelkillcboeaaTreQ
import Derived.Test.YtffelkillcboeaaTreO
namespace Go.Proofs.Ytffelkillcboeaa
open Go.RowKit TreN TreP

/-- where a parent of m goes -/
def mS (i p : Int) : Int := i + p
/-- where a parent of l goes -/
def lS (i E m : Nat) (p : Int) : Int := if p < (E : Int) then p else p - E + i + m

set_option maxRecDepth 100000 in
set_option maxHeartbeats 400000 in
theorem same_any (p : Int) (w : World) : Calls Try.prog 21 (#[.int .i64 p] ++ #[]) w fun e w' => e = .returned (.int .i64 p) ∧ w = w' := by
  show Calls Try.prog 21 #[.int .i64 p] w _
  go_enter Try.func21, Try.ntmps21
  go_wp2_with fail
  go_ret
  exact ⟨rfl, rfl⟩
end Go.Proofs.Ytffelkillcboeaa
