/- How long a list of nodes that comes in may be. -/
import Derived.Test.YtlnglpjmfoigmaaTreO
namespace Go.Proofs.Ytlnglpjmfoigmaa
open Go.RowKit TreN TreP

set_option maxRecDepth 100000 in
theorem caps_nodes {H : Type} {enc : TypeId × Value → H} {w : World} {fuel : Nat} {a : Option Addr} {len cap : Nat} {x : DataW H × List MemPlace} (h : DataW.trod enc Try.prog w 0 (fun _ => true) true fuel 24 [.slice a len cap] = some x) : len ≤ cap ∧ cap ≤ maxLen := by
  rcases Go.Deep.open_slice Try.underlying24 h with ⟨hc, _⟩ | ⟨a', len', cap', m, n, D, Pl, hc, _, hl, hm, _, _, _⟩
  · injection hc with hc
    injection hc with _ h2 h3
    subst h2; subst h3
    simp
  · injection hc with hc
    injection hc with _ h2 h3
    subst h2; subst h3
    exact ⟨hl, hm⟩
end Go.Proofs.Ytlnglpjmfoigmaa
