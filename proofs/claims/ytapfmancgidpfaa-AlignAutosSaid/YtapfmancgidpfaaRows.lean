/-
  No cell of these rows narrows 'for every input' (looked for: loops, veiled, ifaces, maps, wideKeys, modest, calm, conditions, laid).
  DERIVED. THE GIVEN ROWS OF THIS SEAT. 5 by the template 'for every input the law returns true; each argument reads behind the call as it read before'; 0 by the template 'total and deterministic' (their statements: YtapfmancgidpfaaTotals.lean).
  GIVEN WITH THE SEED: the statements are not yours to turn. If you find one false, say at which input.
  Laid BY PROGRAM, IN A SANDBOX (cutbox-rows.mjs): the forced cells as the released guide's own fill.sh prints them over the translation 420350854eb78897… (all of the seat's roots in one cut). By AI agents, Wed Nov 11 2026. No macro, syntax, notation, axiom, sorry.
-/
import Derived.Test.YtapfmancgidpfaaChecked
import GoSem.Claim
import GoSem.ClaimJoined
import GoSem.ClaimMapViews
import Derived.JoinedTies
import Derived.KernelRfl
namespace Go.Proofs.Ytapfmancgidpfaa
/- THE CELL 'sum', in the pinned program and in every row, IS THE sha256 OF THE DUMP (.gsa) THAT YtapfmancgidpfaaProg.lean LOADS. Nothing in Lean hashes anything: it is a label: what it is worth is what the hold of that sum in a sandbox is worth. -/
noncomputable def Try.pinned : Pinned := { name := "ytapfmancgidpfaa", sum := "420350854eb7889718b73b9cf74c0383063977867fe56378ff3c69aafe42b05d", checked := Try.checked }
namespace Rows
def none {H : Type} : Left H := { results := [], args := [] }

/-- 'wainscotlaw22.AlignSpaces': WHATEVER THE INPUT: true; the input reads as it did. -/
def alignSpacesSpec : ChangeSpec := { name := "alignSpaces", fn := fun _ => fun
  | [d1, d2, d3] => { results := [.lit (.bool true)], args := [d1, d2, d3] }
  | _ => none }
def alignSpacesRow : OpenClaim := { program := "ytapfmancgidpfaa", sum := "420350854eb7889718b73b9cf74c0383063977867fe56378ff3c69aafe42b05d", func := "wainscot/wainscotlaw22.AlignSpaces", spec := "alignSpaces", unfollowed := true, recurses := true, apart := false }
def AlignSpacesSaid : Prop := alignSpacesRow.holds Try.pinned (OpenSpec.ofChange alignSpacesSpec)

/-- ITS FALSE NEIGHBOUR: 'it returns false'. Refute it at one input. -/
def alignSpacesWrong : ChangeSpec := { name := "alignSpaces", fn := fun _ => fun
  | [d1, d2, d3] => { results := [.lit (.bool false)], args := [d1, d2, d3] }
  | _ => none }
def AlignSpacesWrongFalsely : Prop := alignSpacesRow.holds Try.pinned (OpenSpec.ofChange alignSpacesWrong)

/-- 'wainscotlaw22.AlignOffsets': WHATEVER THE INPUT: true; the input reads as it did. -/
def alignOffsetsSpec : ChangeSpec := { name := "alignOffsets", fn := fun _ => fun
  | [d1, d2, d3] => { results := [.lit (.bool true)], args := [d1, d2, d3] }
  | _ => none }
def alignOffsetsRow : OpenClaim := { program := "ytapfmancgidpfaa", sum := "420350854eb7889718b73b9cf74c0383063977867fe56378ff3c69aafe42b05d", func := "wainscot/wainscotlaw22.AlignOffsets", spec := "alignOffsets", unfollowed := true, recurses := true, apart := false }
def AlignOffsetsSaid : Prop := alignOffsetsRow.holds Try.pinned (OpenSpec.ofChange alignOffsetsSpec)

/-- ITS FALSE NEIGHBOUR: 'it returns false'. Refute it at one input. -/
def alignOffsetsWrong : ChangeSpec := { name := "alignOffsets", fn := fun _ => fun
  | [d1, d2, d3] => { results := [.lit (.bool false)], args := [d1, d2, d3] }
  | _ => none }
def AlignOffsetsWrongFalsely : Prop := alignOffsetsRow.holds Try.pinned (OpenSpec.ofChange alignOffsetsWrong)

/-- 'wainscotlaw22.AlignAutos': WHATEVER THE INPUT: true; the input reads as it did. -/
def alignAutosSpec : ChangeSpec := { name := "alignAutos", fn := fun _ => fun
  | [d1, d2] => { results := [.lit (.bool true)], args := [d1, d2] }
  | _ => none }
def alignAutosRow : OpenClaim := { program := "ytapfmancgidpfaa", sum := "420350854eb7889718b73b9cf74c0383063977867fe56378ff3c69aafe42b05d", func := "wainscot/wainscotlaw22.AlignAutos", spec := "alignAutos", unfollowed := true, recurses := true, apart := false }
def AlignAutosSaid : Prop := alignAutosRow.holds Try.pinned (OpenSpec.ofChange alignAutosSpec)

/-- ITS FALSE NEIGHBOUR: 'it returns false'. Refute it at one input. -/
def alignAutosWrong : ChangeSpec := { name := "alignAutos", fn := fun _ => fun
  | [d1, d2] => { results := [.lit (.bool false)], args := [d1, d2] }
  | _ => none }
def AlignAutosWrongFalsely : Prop := alignAutosRow.holds Try.pinned (OpenSpec.ofChange alignAutosWrong)

/-- 'wainscotlaw22.AlignWhole': WHATEVER THE INPUT: true; the input reads as it did. -/
def alignWholeSpec : ChangeSpec := { name := "alignWhole", fn := fun _ => fun
  | [d1, d2, d3] => { results := [.lit (.bool true)], args := [d1, d2, d3] }
  | _ => none }
def alignWholeRow : OpenClaim := { program := "ytapfmancgidpfaa", sum := "420350854eb7889718b73b9cf74c0383063977867fe56378ff3c69aafe42b05d", func := "wainscot/wainscotlaw22.AlignWhole", spec := "alignWhole", unfollowed := true, recurses := true, apart := false }
def AlignWholeSaid : Prop := alignWholeRow.holds Try.pinned (OpenSpec.ofChange alignWholeSpec)

/-- ITS FALSE NEIGHBOUR: 'it returns false'. Refute it at one input. -/
def alignWholeWrong : ChangeSpec := { name := "alignWhole", fn := fun _ => fun
  | [d1, d2, d3] => { results := [.lit (.bool false)], args := [d1, d2, d3] }
  | _ => none }
def AlignWholeWrongFalsely : Prop := alignWholeRow.holds Try.pinned (OpenSpec.ofChange alignWholeWrong)

/-- 'wainscotlaw22.AlignNothing': WHATEVER THE INPUT: true; the input reads as it did. -/
def alignNothingSpec : ChangeSpec := { name := "alignNothing", fn := fun _ => fun
  | [d1, d2, d3] => { results := [.lit (.bool true)], args := [d1, d2, d3] }
  | _ => none }
def alignNothingRow : OpenClaim := { program := "ytapfmancgidpfaa", sum := "420350854eb7889718b73b9cf74c0383063977867fe56378ff3c69aafe42b05d", func := "wainscot/wainscotlaw22.AlignNothing", spec := "alignNothing", unfollowed := true, recurses := true, apart := false }
def AlignNothingSaid : Prop := alignNothingRow.holds Try.pinned (OpenSpec.ofChange alignNothingSpec)

/-- ITS FALSE NEIGHBOUR: 'it returns false'. Refute it at one input. -/
def alignNothingWrong : ChangeSpec := { name := "alignNothing", fn := fun _ => fun
  | [d1, d2, d3] => { results := [.lit (.bool false)], args := [d1, d2, d3] }
  | _ => none }
def AlignNothingWrongFalsely : Prop := alignNothingRow.holds Try.pinned (OpenSpec.ofChange alignNothingWrong)

/- THE SECOND FORM. 'bulk': how many values and letters a reading holds, each counted each time it is reached (what is shared counts as often as it is met; a slice's spare places count too). A statement '..UptoSaid' is the law's where the arguments, and the package variables that the reading takes, are together of bulk at most 1048576: NARROWER than '..Said'. Prove '..Said' where nothing that the law and all that it calls make is longer than what came in: it says more and counts as full. Else prove '..UptoSaid'. A law counts once. -/
mutual
def uptoBulk {H : Type} : DataW H → Nat
  | .lit (.string bytes) => bytes.length + 1
  | .lit _ => 1
  | .nil => 1
  | .ptr d => uptoBulk d + 1
  | .slice elems spare => uptoBulkAll elems + uptoBulkAll spare + 1
  | .agg parts => uptoBulkAll parts + 1
  | .iface _ d => uptoBulk d + 1
  | .map entries => uptoBulkEntries entries + 1
  | .held _ => 1
def uptoBulkAll {H : Type} : List (DataW H) → Nat
  | [] => 0
  | d :: r => uptoBulk d + uptoBulkAll r
def uptoBulkEntries {H : Type} : List (Lit × DataW H) → Nat
  | [] => 0
  | x :: r => uptoBulkEntry x + uptoBulkEntries r
def uptoBulkEntry {H : Type} : Lit × DataW H → Nat
  | (.string bytes, d) => bytes.length + uptoBulk d + 1
  | (_, d) => uptoBulk d + 1
 end
def uptoSmall : (H : Type) → List (DataW H) → Bool := fun _ ds => decide (uptoBulkAll ds ≤ 1048576)
def OpenSpec.upto (s : _root_.Go.ChangeSpec) : _root_.Go.OpenSpec := { _root_.Go.OpenSpec.ofChange s with cond := some uptoSmall }

/-- 'wainscotlaw22.AlignSpaces', WHERE WHAT IT READS IS OF BULK AT MOST 1048576: true; the input reads as it did. -/
def alignSpacesUptoRow : OpenClaim := { program := "ytapfmancgidpfaa", sum := "420350854eb7889718b73b9cf74c0383063977867fe56378ff3c69aafe42b05d", func := "wainscot/wainscotlaw22.AlignSpaces", spec := "alignSpaces", unfollowed := true, recurses := true, apart := false, narrowed := true }
def AlignSpacesUptoSaid : Prop := alignSpacesUptoRow.holds Try.pinned (OpenSpec.upto alignSpacesSpec)

/-- 'wainscotlaw22.AlignOffsets', WHERE WHAT IT READS IS OF BULK AT MOST 1048576: true; the input reads as it did. -/
def alignOffsetsUptoRow : OpenClaim := { program := "ytapfmancgidpfaa", sum := "420350854eb7889718b73b9cf74c0383063977867fe56378ff3c69aafe42b05d", func := "wainscot/wainscotlaw22.AlignOffsets", spec := "alignOffsets", unfollowed := true, recurses := true, apart := false, narrowed := true }
def AlignOffsetsUptoSaid : Prop := alignOffsetsUptoRow.holds Try.pinned (OpenSpec.upto alignOffsetsSpec)

/-- 'wainscotlaw22.AlignAutos', WHERE WHAT IT READS IS OF BULK AT MOST 1048576: true; the input reads as it did. -/
def alignAutosUptoRow : OpenClaim := { program := "ytapfmancgidpfaa", sum := "420350854eb7889718b73b9cf74c0383063977867fe56378ff3c69aafe42b05d", func := "wainscot/wainscotlaw22.AlignAutos", spec := "alignAutos", unfollowed := true, recurses := true, apart := false, narrowed := true }
def AlignAutosUptoSaid : Prop := alignAutosUptoRow.holds Try.pinned (OpenSpec.upto alignAutosSpec)

/-- 'wainscotlaw22.AlignWhole', WHERE WHAT IT READS IS OF BULK AT MOST 1048576: true; the input reads as it did. -/
def alignWholeUptoRow : OpenClaim := { program := "ytapfmancgidpfaa", sum := "420350854eb7889718b73b9cf74c0383063977867fe56378ff3c69aafe42b05d", func := "wainscot/wainscotlaw22.AlignWhole", spec := "alignWhole", unfollowed := true, recurses := true, apart := false, narrowed := true }
def AlignWholeUptoSaid : Prop := alignWholeUptoRow.holds Try.pinned (OpenSpec.upto alignWholeSpec)

/-- 'wainscotlaw22.AlignNothing', WHERE WHAT IT READS IS OF BULK AT MOST 1048576: true; the input reads as it did. -/
def alignNothingUptoRow : OpenClaim := { program := "ytapfmancgidpfaa", sum := "420350854eb7889718b73b9cf74c0383063977867fe56378ff3c69aafe42b05d", func := "wainscot/wainscotlaw22.AlignNothing", spec := "alignNothing", unfollowed := true, recurses := true, apart := false, narrowed := true }
def AlignNothingUptoSaid : Prop := alignNothingUptoRow.holds Try.pinned (OpenSpec.upto alignNothingSpec)

end Rows
end Go.Proofs.Ytapfmancgidpfaa
