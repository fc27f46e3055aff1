/- The walks of layer 4's reference: kids and ends; lists held against each other. -/
import Derived.Test.YtjhhpilaaahicaaTreW5
namespace Go.Proofs.Ytjhhpilaaahicaa
open Go.RowKit TreP

end Go.Proofs.Ytjhhpilaaahicaa
