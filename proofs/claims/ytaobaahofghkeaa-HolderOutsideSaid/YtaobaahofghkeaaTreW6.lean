/- The walks of layer 4's reference: kids and ends; lists held against each other. -/
import Derived.Test.YtaobaahofghkeaaTreW5
namespace Go.Proofs.Ytaobaahofghkeaa
open Go.RowKit TreP

end Go.Proofs.Ytaobaahofghkeaa
