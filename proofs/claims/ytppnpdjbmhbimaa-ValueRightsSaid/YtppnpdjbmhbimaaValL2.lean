/- Layer 9: the law ValueRights. -/
import Derived.Test.YtppnpdjbmhbimaaValR5
import Derived.Test.YtppnpdjbmhbimaaValK
namespace Go.Proofs.Ytppnpdjbmhbimaa
open Go.RowKit TreN LexP FixP SynP ValP FixM
set_option linter.unusedVariables false

theorem tokV_le (v : Val) : (tokV v).length ≤ 5 := by
  unfold tokV
  split
  · split
    · simp
    · split
      · simp
      · split
        · simp
        · split
          · simp
          · split
            · simp [ratT]
            · simp
  · simp
/-- two calls' tokens -/
def TkCell (B : Nat) (v : Val) (w : World) : Prop := w.heap[B]? = some (.cells #[.int .i64 v.kind, .int .i64 v.n, .int .i64 v.d, .string ⟨v.name.toArray⟩] 30 (0, 0))
end Go.Proofs.Ytppnpdjbmhbimaa
