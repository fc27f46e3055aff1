/- The walks of layer 4, on: depths. -/
import Derived.Test.YtjhhpilaaahicaaKinV
namespace Go.Proofs.Ytjhhpilaaahicaa
open Go.RowKit TreP

/-- what a call that answers a number comes to -/
def ToldN (w : World) (n : Int) (e : Ending) (w' : World) : Prop := e = .returned (.int .i64 n) ∧ Below w.heap.size w w'

end Go.Proofs.Ytjhhpilaaahicaa
