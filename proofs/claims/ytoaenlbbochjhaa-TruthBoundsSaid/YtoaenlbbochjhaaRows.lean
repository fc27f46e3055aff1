/-
  No cell of these rows narrows 'for every input' (looked for: loops, veiled, ifaces, maps, wideKeys, modest, calm, conditions, laid).
  DERIVED. THE GIVEN ROWS OF THIS SEAT. 6 by the template 'for every input the law returns true; each argument reads behind the call as it read before'; 0 by the template 'total and deterministic' (their statements: YtoaenlbbochjhaaTotals.lean).
  GIVEN WITH THE SEED: the statements are not yours to turn. If you find one false, say at which input.
  Laid BY PROGRAM, IN A SANDBOX (cutbox-rows.mjs): the forced cells as the released guide's own fill.sh prints them over the translation ac425a8b597d673a… (all of the seat's roots in one cut). By AI agents, Wed Nov 11 2026. No macro, syntax, notation, axiom, sorry.
-/
import Derived.Test.YtoaenlbbochjhaaChecked
import GoSem.Claim
import GoSem.ClaimJoined
import GoSem.ClaimMapViews
import Derived.JoinedTies
import Derived.KernelRfl
namespace Go.Proofs.Ytoaenlbbochjhaa
/- THE CELL 'sum', in the pinned program and in every row, IS THE sha256 OF THE DUMP (.gsa) THAT YtoaenlbbochjhaaProg.lean LOADS. Nothing in Lean hashes anything: it is a label: what it is worth is what the hold of that sum in a sandbox is worth. -/
noncomputable def Try.pinned : Pinned := { name := "ytoaenlbbochjhaa", sum := "ac425a8b597d673a4ab7b37e9b524bedd425f789f0e4f0e1bac468c2ff67eaa8", checked := Try.checked }
namespace Rows
def none {H : Type} : Left H := { results := [], args := [] }

/-- 'wainscotlaw14.TruthTables': WHATEVER THE INPUT: true; the input reads as it did. -/
def truthTablesSpec : ChangeSpec := { name := "truthTables", fn := fun _ => fun
  | [d1, d2] => { results := [.lit (.bool true)], args := [d1, d2] }
  | _ => none }
def truthTablesRow : OpenClaim := { program := "ytoaenlbbochjhaa", sum := "ac425a8b597d673a4ab7b37e9b524bedd425f789f0e4f0e1bac468c2ff67eaa8", func := "wainscot/wainscotlaw14.TruthTables", spec := "truthTables", unfollowed := true, recurses := true, apart := false }
def TruthTablesSaid : Prop := truthTablesRow.holds Try.pinned (OpenSpec.ofChange truthTablesSpec)

/-- ITS FALSE NEIGHBOUR: 'it returns false'. Refute it at one input. -/
def truthTablesWrong : ChangeSpec := { name := "truthTables", fn := fun _ => fun
  | [d1, d2] => { results := [.lit (.bool false)], args := [d1, d2] }
  | _ => none }
def TruthTablesWrongFalsely : Prop := truthTablesRow.holds Try.pinned (OpenSpec.ofChange truthTablesWrong)

/-- 'wainscotlaw14.TruthMorgan': WHATEVER THE INPUT: true; the input reads as it did. -/
def truthMorganSpec : ChangeSpec := { name := "truthMorgan", fn := fun _ => fun
  | [d1, d2, d3] => { results := [.lit (.bool true)], args := [d1, d2, d3] }
  | _ => none }
def truthMorganRow : OpenClaim := { program := "ytoaenlbbochjhaa", sum := "ac425a8b597d673a4ab7b37e9b524bedd425f789f0e4f0e1bac468c2ff67eaa8", func := "wainscot/wainscotlaw14.TruthMorgan", spec := "truthMorgan", unfollowed := true, recurses := true, apart := false }
def TruthMorganSaid : Prop := truthMorganRow.holds Try.pinned (OpenSpec.ofChange truthMorganSpec)

/-- ITS FALSE NEIGHBOUR: 'it returns false'. Refute it at one input. -/
def truthMorganWrong : ChangeSpec := { name := "truthMorgan", fn := fun _ => fun
  | [d1, d2, d3] => { results := [.lit (.bool false)], args := [d1, d2, d3] }
  | _ => none }
def TruthMorganWrongFalsely : Prop := truthMorganRow.holds Try.pinned (OpenSpec.ofChange truthMorganWrong)

/-- 'wainscotlaw14.TruthSays': WHATEVER THE INPUT: true; the input reads as it did. -/
def truthSaysSpec : ChangeSpec := { name := "truthSays", fn := fun _ => fun
  | [d1, d2] => { results := [.lit (.bool true)], args := [d1, d2] }
  | _ => none }
def truthSaysRow : OpenClaim := { program := "ytoaenlbbochjhaa", sum := "ac425a8b597d673a4ab7b37e9b524bedd425f789f0e4f0e1bac468c2ff67eaa8", func := "wainscot/wainscotlaw14.TruthSays", spec := "truthSays", unfollowed := true, recurses := true, apart := false }
def TruthSaysSaid : Prop := truthSaysRow.holds Try.pinned (OpenSpec.ofChange truthSaysSpec)

/-- ITS FALSE NEIGHBOUR: 'it returns false'. Refute it at one input. -/
def truthSaysWrong : ChangeSpec := { name := "truthSays", fn := fun _ => fun
  | [d1, d2] => { results := [.lit (.bool false)], args := [d1, d2] }
  | _ => none }
def TruthSaysWrongFalsely : Prop := truthSaysRow.holds Try.pinned (OpenSpec.ofChange truthSaysWrong)

/-- 'wainscotlaw14.TruthMore': WHATEVER THE INPUT: true; the input reads as it did. -/
def truthMoreSpec : ChangeSpec := { name := "truthMore", fn := fun _ => fun
  | [d1, d2, d3] => { results := [.lit (.bool true)], args := [d1, d2, d3] }
  | _ => none }
def truthMoreRow : OpenClaim := { program := "ytoaenlbbochjhaa", sum := "ac425a8b597d673a4ab7b37e9b524bedd425f789f0e4f0e1bac468c2ff67eaa8", func := "wainscot/wainscotlaw14.TruthMore", spec := "truthMore", unfollowed := true, recurses := true, apart := false }
def TruthMoreSaid : Prop := truthMoreRow.holds Try.pinned (OpenSpec.ofChange truthMoreSpec)

/-- ITS FALSE NEIGHBOUR: 'it returns false'. Refute it at one input. -/
def truthMoreWrong : ChangeSpec := { name := "truthMore", fn := fun _ => fun
  | [d1, d2, d3] => { results := [.lit (.bool false)], args := [d1, d2, d3] }
  | _ => none }
def TruthMoreWrongFalsely : Prop := truthMoreRow.holds Try.pinned (OpenSpec.ofChange truthMoreWrong)

/-- 'wainscotlaw14.TruthBounds': WHATEVER THE INPUT: true; the input reads as it did. -/
def truthBoundsSpec : ChangeSpec := { name := "truthBounds", fn := fun _ => fun
  | [d1, d2] => { results := [.lit (.bool true)], args := [d1, d2] }
  | _ => none }
def truthBoundsRow : OpenClaim := { program := "ytoaenlbbochjhaa", sum := "ac425a8b597d673a4ab7b37e9b524bedd425f789f0e4f0e1bac468c2ff67eaa8", func := "wainscot/wainscotlaw14.TruthBounds", spec := "truthBounds", unfollowed := true, recurses := true, apart := false }
def TruthBoundsSaid : Prop := truthBoundsRow.holds Try.pinned (OpenSpec.ofChange truthBoundsSpec)

/-- ITS FALSE NEIGHBOUR: 'it returns false'. Refute it at one input. -/
def truthBoundsWrong : ChangeSpec := { name := "truthBounds", fn := fun _ => fun
  | [d1, d2] => { results := [.lit (.bool false)], args := [d1, d2] }
  | _ => none }
def TruthBoundsWrongFalsely : Prop := truthBoundsRow.holds Try.pinned (OpenSpec.ofChange truthBoundsWrong)

/-- 'wainscotlaw14.TruthTurned': WHATEVER THE INPUT: true; the input reads as it did. -/
def truthTurnedSpec : ChangeSpec := { name := "truthTurned", fn := fun _ => fun
  | [d1, d2] => { results := [.lit (.bool true)], args := [d1, d2] }
  | _ => none }
def truthTurnedRow : OpenClaim := { program := "ytoaenlbbochjhaa", sum := "ac425a8b597d673a4ab7b37e9b524bedd425f789f0e4f0e1bac468c2ff67eaa8", func := "wainscot/wainscotlaw14.TruthTurned", spec := "truthTurned", unfollowed := true, recurses := true, apart := false }
def TruthTurnedSaid : Prop := truthTurnedRow.holds Try.pinned (OpenSpec.ofChange truthTurnedSpec)

/-- ITS FALSE NEIGHBOUR: 'it returns false'. Refute it at one input. -/
def truthTurnedWrong : ChangeSpec := { name := "truthTurned", fn := fun _ => fun
  | [d1, d2] => { results := [.lit (.bool false)], args := [d1, d2] }
  | _ => none }
def TruthTurnedWrongFalsely : Prop := truthTurnedRow.holds Try.pinned (OpenSpec.ofChange truthTurnedWrong)

/- THE SECOND FORM. 'bulk': how many values and letters a reading holds, each counted each time it is reached (what is shared counts as often as it is met; a slice's spare places count too). A statement '..UptoSaid' is the law's where the arguments, and the package variables that the reading takes, are together of bulk at most 1048576: NARROWER than '..Said'. Prove '..Said' where nothing that the law and all that it calls make is longer than what came in: it says more and counts as full. Else prove '..UptoSaid'. A law counts once. -/
mutual
def uptoBulk {H : Type} : DataW H → Nat
  | .lit (.string bytes) => bytes.length + 1
  | .lit _ => 1
  | .nil => 1
  | .ptr d => uptoBulk d + 1
  | .slice elems spare => uptoBulkAll elems + uptoBulkAll spare + 1
  | .agg parts => uptoBulkAll parts + 1
  | .iface _ d => uptoBulk d + 1
  | .map entries => uptoBulkEntries entries + 1
  | .held _ => 1
def uptoBulkAll {H : Type} : List (DataW H) → Nat
  | [] => 0
  | d :: r => uptoBulk d + uptoBulkAll r
def uptoBulkEntries {H : Type} : List (Lit × DataW H) → Nat
  | [] => 0
  | x :: r => uptoBulkEntry x + uptoBulkEntries r
def uptoBulkEntry {H : Type} : Lit × DataW H → Nat
  | (.string bytes, d) => bytes.length + uptoBulk d + 1
  | (_, d) => uptoBulk d + 1
 end
def uptoSmall : (H : Type) → List (DataW H) → Bool := fun _ ds => decide (uptoBulkAll ds ≤ 1048576)
def OpenSpec.upto (s : _root_.Go.ChangeSpec) : _root_.Go.OpenSpec := { _root_.Go.OpenSpec.ofChange s with cond := some uptoSmall }

/-- 'wainscotlaw14.TruthTables', WHERE WHAT IT READS IS OF BULK AT MOST 1048576: true; the input reads as it did. -/
def truthTablesUptoRow : OpenClaim := { program := "ytoaenlbbochjhaa", sum := "ac425a8b597d673a4ab7b37e9b524bedd425f789f0e4f0e1bac468c2ff67eaa8", func := "wainscot/wainscotlaw14.TruthTables", spec := "truthTables", unfollowed := true, recurses := true, apart := false, narrowed := true }
def TruthTablesUptoSaid : Prop := truthTablesUptoRow.holds Try.pinned (OpenSpec.upto truthTablesSpec)

/-- 'wainscotlaw14.TruthMorgan', WHERE WHAT IT READS IS OF BULK AT MOST 1048576: true; the input reads as it did. -/
def truthMorganUptoRow : OpenClaim := { program := "ytoaenlbbochjhaa", sum := "ac425a8b597d673a4ab7b37e9b524bedd425f789f0e4f0e1bac468c2ff67eaa8", func := "wainscot/wainscotlaw14.TruthMorgan", spec := "truthMorgan", unfollowed := true, recurses := true, apart := false, narrowed := true }
def TruthMorganUptoSaid : Prop := truthMorganUptoRow.holds Try.pinned (OpenSpec.upto truthMorganSpec)

/-- 'wainscotlaw14.TruthSays', WHERE WHAT IT READS IS OF BULK AT MOST 1048576: true; the input reads as it did. -/
def truthSaysUptoRow : OpenClaim := { program := "ytoaenlbbochjhaa", sum := "ac425a8b597d673a4ab7b37e9b524bedd425f789f0e4f0e1bac468c2ff67eaa8", func := "wainscot/wainscotlaw14.TruthSays", spec := "truthSays", unfollowed := true, recurses := true, apart := false, narrowed := true }
def TruthSaysUptoSaid : Prop := truthSaysUptoRow.holds Try.pinned (OpenSpec.upto truthSaysSpec)

/-- 'wainscotlaw14.TruthMore', WHERE WHAT IT READS IS OF BULK AT MOST 1048576: true; the input reads as it did. -/
def truthMoreUptoRow : OpenClaim := { program := "ytoaenlbbochjhaa", sum := "ac425a8b597d673a4ab7b37e9b524bedd425f789f0e4f0e1bac468c2ff67eaa8", func := "wainscot/wainscotlaw14.TruthMore", spec := "truthMore", unfollowed := true, recurses := true, apart := false, narrowed := true }
def TruthMoreUptoSaid : Prop := truthMoreUptoRow.holds Try.pinned (OpenSpec.upto truthMoreSpec)

/-- 'wainscotlaw14.TruthBounds', WHERE WHAT IT READS IS OF BULK AT MOST 1048576: true; the input reads as it did. -/
def truthBoundsUptoRow : OpenClaim := { program := "ytoaenlbbochjhaa", sum := "ac425a8b597d673a4ab7b37e9b524bedd425f789f0e4f0e1bac468c2ff67eaa8", func := "wainscot/wainscotlaw14.TruthBounds", spec := "truthBounds", unfollowed := true, recurses := true, apart := false, narrowed := true }
def TruthBoundsUptoSaid : Prop := truthBoundsUptoRow.holds Try.pinned (OpenSpec.upto truthBoundsSpec)

/-- 'wainscotlaw14.TruthTurned', WHERE WHAT IT READS IS OF BULK AT MOST 1048576: true; the input reads as it did. -/
def truthTurnedUptoRow : OpenClaim := { program := "ytoaenlbbochjhaa", sum := "ac425a8b597d673a4ab7b37e9b524bedd425f789f0e4f0e1bac468c2ff67eaa8", func := "wainscot/wainscotlaw14.TruthTurned", spec := "truthTurned", unfollowed := true, recurses := true, apart := false, narrowed := true }
def TruthTurnedUptoSaid : Prop := truthTurnedUptoRow.holds Try.pinned (OpenSpec.upto truthTurnedSpec)

end Rows
end Go.Proofs.Ytoaenlbbochjhaa
