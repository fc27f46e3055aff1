/- The walks of layer 4's reference: what keeps a list from being a tree. -/
import Derived.Test.YtijhneadfagehaaTreC
import Derived.Test.YtijhneadfagehaaTreW8
namespace Go.Proofs.Ytijhneadfagehaa
open Go.RowKit TreN TreP

/-- what a Check comes to -/
def ToldC (L : Nat → Nd) (len : Nat) (w : World) (e : Ending) (w' : World) : Prop := e = .returned (.int .i64 (checkS L len)) ∧ Below w.heap.size w w'

end Go.Proofs.Ytijhneadfagehaa
