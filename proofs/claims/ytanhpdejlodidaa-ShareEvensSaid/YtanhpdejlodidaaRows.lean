/-
  No cell of these rows narrows 'for every input' (looked for: loops, veiled, ifaces, maps, wideKeys, modest, calm, conditions, laid).
  DERIVED. THE GIVEN ROWS OF THIS SEAT. 8 by the template 'for every input the law returns true; each argument reads behind the call as it read before'; 0 by the template 'total and deterministic' (their statements: YtanhpdejlodidaaTotals.lean).
  GIVEN WITH THE SEED: the statements are not yours to turn. If you find one false, say at which input.
  Laid BY PROGRAM, IN A SANDBOX (cutbox-rows.mjs): the forced cells as the released guide's own fill.sh prints them over the translation 9e797c807e6a3fed… (all of the seat's roots in one cut). By AI agents, Wed Nov 11 2026. No macro, syntax, notation, axiom, sorry.
-/
import Derived.Test.YtanhpdejlodidaaChecked
import GoSem.Claim
import GoSem.ClaimJoined
import GoSem.ClaimMapViews
import Derived.JoinedTies
import Derived.KernelRfl
namespace Go.Proofs.Ytanhpdejlodidaa
/- THE CELL 'sum', in the pinned program and in every row, IS THE sha256 OF THE DUMP (.gsa) THAT YtanhpdejlodidaaProg.lean LOADS. Nothing in Lean hashes anything: it is a label: what it is worth is what the hold of that sum in a sandbox is worth. -/
noncomputable def Try.pinned : Pinned := { name := "ytanhpdejlodidaa", sum := "9e797c807e6a3fed0b8b0199a8b0c20d4ef87b37e960dcb2053ff4f0dde0b7bf", checked := Try.checked }
namespace Rows
def none {H : Type} : Left H := { results := [], args := [] }

/-- 'wainscotlaw02.ShareDeals': WHATEVER THE INPUT: true; the input reads as it did. -/
def shareDealsSpec : ChangeSpec := { name := "shareDeals", fn := fun _ => fun
  | [d1, d2] => { results := [.lit (.bool true)], args := [d1, d2] }
  | _ => none }
def shareDealsRow : OpenClaim := { program := "ytanhpdejlodidaa", sum := "9e797c807e6a3fed0b8b0199a8b0c20d4ef87b37e960dcb2053ff4f0dde0b7bf", func := "wainscot/wainscotlaw02.ShareDeals", spec := "shareDeals", unfollowed := true, recurses := true, apart := false }
def ShareDealsSaid : Prop := shareDealsRow.holds Try.pinned (OpenSpec.ofChange shareDealsSpec)

/-- ITS FALSE NEIGHBOUR: 'it returns false'. Refute it at one input. -/
def shareDealsWrong : ChangeSpec := { name := "shareDeals", fn := fun _ => fun
  | [d1, d2] => { results := [.lit (.bool false)], args := [d1, d2] }
  | _ => none }
def ShareDealsWrongFalsely : Prop := shareDealsRow.holds Try.pinned (OpenSpec.ofChange shareDealsWrong)

/-- 'wainscotlaw02.ShareEvens': WHATEVER THE INPUT: true; the input reads as it did. -/
def shareEvensSpec : ChangeSpec := { name := "shareEvens", fn := fun _ => fun
  | [d1, d2, d3] => { results := [.lit (.bool true)], args := [d1, d2, d3] }
  | _ => none }
def shareEvensRow : OpenClaim := { program := "ytanhpdejlodidaa", sum := "9e797c807e6a3fed0b8b0199a8b0c20d4ef87b37e960dcb2053ff4f0dde0b7bf", func := "wainscot/wainscotlaw02.ShareEvens", spec := "shareEvens", unfollowed := true, recurses := true, apart := false }
def ShareEvensSaid : Prop := shareEvensRow.holds Try.pinned (OpenSpec.ofChange shareEvensSpec)

/-- ITS FALSE NEIGHBOUR: 'it returns false'. Refute it at one input. -/
def shareEvensWrong : ChangeSpec := { name := "shareEvens", fn := fun _ => fun
  | [d1, d2, d3] => { results := [.lit (.bool false)], args := [d1, d2, d3] }
  | _ => none }
def ShareEvensWrongFalsely : Prop := shareEvensRow.holds Try.pinned (OpenSpec.ofChange shareEvensWrong)

/-- 'wainscotlaw03.AxisBack': WHATEVER THE INPUT: true; the input reads as it did. -/
def axisBackSpec : ChangeSpec := { name := "axisBack", fn := fun _ => fun
  | [d1, d2] => { results := [.lit (.bool true)], args := [d1, d2] }
  | _ => none }
def axisBackRow : OpenClaim := { program := "ytanhpdejlodidaa", sum := "9e797c807e6a3fed0b8b0199a8b0c20d4ef87b37e960dcb2053ff4f0dde0b7bf", func := "wainscot/wainscotlaw03.AxisBack", spec := "axisBack", unfollowed := true, recurses := true, apart := false }
def AxisBackSaid : Prop := axisBackRow.holds Try.pinned (OpenSpec.ofChange axisBackSpec)

/-- ITS FALSE NEIGHBOUR: 'it returns false'. Refute it at one input. -/
def axisBackWrong : ChangeSpec := { name := "axisBack", fn := fun _ => fun
  | [d1, d2] => { results := [.lit (.bool false)], args := [d1, d2] }
  | _ => none }
def AxisBackWrongFalsely : Prop := axisBackRow.holds Try.pinned (OpenSpec.ofChange axisBackWrong)

/-- 'wainscotlaw03.AxisParts': WHATEVER THE INPUT: true; the input reads as it did. -/
def axisPartsSpec : ChangeSpec := { name := "axisParts", fn := fun _ => fun
  | [d1, d2] => { results := [.lit (.bool true)], args := [d1, d2] }
  | _ => none }
def axisPartsRow : OpenClaim := { program := "ytanhpdejlodidaa", sum := "9e797c807e6a3fed0b8b0199a8b0c20d4ef87b37e960dcb2053ff4f0dde0b7bf", func := "wainscot/wainscotlaw03.AxisParts", spec := "axisParts", unfollowed := true, recurses := true, apart := false }
def AxisPartsSaid : Prop := axisPartsRow.holds Try.pinned (OpenSpec.ofChange axisPartsSpec)

/-- ITS FALSE NEIGHBOUR: 'it returns false'. Refute it at one input. -/
def axisPartsWrong : ChangeSpec := { name := "axisParts", fn := fun _ => fun
  | [d1, d2] => { results := [.lit (.bool false)], args := [d1, d2] }
  | _ => none }
def AxisPartsWrongFalsely : Prop := axisPartsRow.holds Try.pinned (OpenSpec.ofChange axisPartsWrong)

/-- 'wainscotlaw03.AxisSums': WHATEVER THE INPUT: true; the input reads as it did. -/
def axisSumsSpec : ChangeSpec := { name := "axisSums", fn := fun _ => fun
  | [d1, d2, d3, d4] => { results := [.lit (.bool true)], args := [d1, d2, d3, d4] }
  | _ => none }
def axisSumsRow : OpenClaim := { program := "ytanhpdejlodidaa", sum := "9e797c807e6a3fed0b8b0199a8b0c20d4ef87b37e960dcb2053ff4f0dde0b7bf", func := "wainscot/wainscotlaw03.AxisSums", spec := "axisSums", unfollowed := true, recurses := true, apart := false }
def AxisSumsSaid : Prop := axisSumsRow.holds Try.pinned (OpenSpec.ofChange axisSumsSpec)

/-- ITS FALSE NEIGHBOUR: 'it returns false'. Refute it at one input. -/
def axisSumsWrong : ChangeSpec := { name := "axisSums", fn := fun _ => fun
  | [d1, d2, d3, d4] => { results := [.lit (.bool false)], args := [d1, d2, d3, d4] }
  | _ => none }
def AxisSumsWrongFalsely : Prop := axisSumsRow.holds Try.pinned (OpenSpec.ofChange axisSumsWrong)

/-- 'wainscotlaw03.AxisSwaps': WHATEVER THE INPUT: true; the input reads as it did. -/
def axisSwapsSpec : ChangeSpec := { name := "axisSwaps", fn := fun _ => fun
  | [d1, d2, d3] => { results := [.lit (.bool true)], args := [d1, d2, d3] }
  | _ => none }
def axisSwapsRow : OpenClaim := { program := "ytanhpdejlodidaa", sum := "9e797c807e6a3fed0b8b0199a8b0c20d4ef87b37e960dcb2053ff4f0dde0b7bf", func := "wainscot/wainscotlaw03.AxisSwaps", spec := "axisSwaps", unfollowed := true, recurses := true, apart := false }
def AxisSwapsSaid : Prop := axisSwapsRow.holds Try.pinned (OpenSpec.ofChange axisSwapsSpec)

/-- ITS FALSE NEIGHBOUR: 'it returns false'. Refute it at one input. -/
def axisSwapsWrong : ChangeSpec := { name := "axisSwaps", fn := fun _ => fun
  | [d1, d2, d3] => { results := [.lit (.bool false)], args := [d1, d2, d3] }
  | _ => none }
def AxisSwapsWrongFalsely : Prop := axisSwapsRow.holds Try.pinned (OpenSpec.ofChange axisSwapsWrong)

/-- 'wainscotlaw03.AxisPuts': WHATEVER THE INPUT: true; the input reads as it did. -/
def axisPutsSpec : ChangeSpec := { name := "axisPuts", fn := fun _ => fun
  | [d1, d2, d3, d4, d5] => { results := [.lit (.bool true)], args := [d1, d2, d3, d4, d5] }
  | _ => none }
def axisPutsRow : OpenClaim := { program := "ytanhpdejlodidaa", sum := "9e797c807e6a3fed0b8b0199a8b0c20d4ef87b37e960dcb2053ff4f0dde0b7bf", func := "wainscot/wainscotlaw03.AxisPuts", spec := "axisPuts", unfollowed := true, recurses := true, apart := false }
def AxisPutsSaid : Prop := axisPutsRow.holds Try.pinned (OpenSpec.ofChange axisPutsSpec)

/-- ITS FALSE NEIGHBOUR: 'it returns false'. Refute it at one input. -/
def axisPutsWrong : ChangeSpec := { name := "axisPuts", fn := fun _ => fun
  | [d1, d2, d3, d4, d5] => { results := [.lit (.bool false)], args := [d1, d2, d3, d4, d5] }
  | _ => none }
def AxisPutsWrongFalsely : Prop := axisPutsRow.holds Try.pinned (OpenSpec.ofChange axisPutsWrong)

/-- 'wainscotlaw03.AxisInside': WHATEVER THE INPUT: true; the input reads as it did. -/
def axisInsideSpec : ChangeSpec := { name := "axisInside", fn := fun _ => fun
  | [d1, d2, d3, d4, d5] => { results := [.lit (.bool true)], args := [d1, d2, d3, d4, d5] }
  | _ => none }
def axisInsideRow : OpenClaim := { program := "ytanhpdejlodidaa", sum := "9e797c807e6a3fed0b8b0199a8b0c20d4ef87b37e960dcb2053ff4f0dde0b7bf", func := "wainscot/wainscotlaw03.AxisInside", spec := "axisInside", unfollowed := true, recurses := true, apart := false }
def AxisInsideSaid : Prop := axisInsideRow.holds Try.pinned (OpenSpec.ofChange axisInsideSpec)

/-- ITS FALSE NEIGHBOUR: 'it returns false'. Refute it at one input. -/
def axisInsideWrong : ChangeSpec := { name := "axisInside", fn := fun _ => fun
  | [d1, d2, d3, d4, d5] => { results := [.lit (.bool false)], args := [d1, d2, d3, d4, d5] }
  | _ => none }
def AxisInsideWrongFalsely : Prop := axisInsideRow.holds Try.pinned (OpenSpec.ofChange axisInsideWrong)

/- THE SECOND FORM. 'bulk': how many values and letters a reading holds, each counted each time it is reached (what is shared counts as often as it is met; a slice's spare places count too). A statement '..UptoSaid' is the law's where the arguments, and the package variables that the reading takes, are together of bulk at most 1048576: NARROWER than '..Said'. Prove '..Said' where nothing that the law and all that it calls make is longer than what came in: it says more and counts as full. Else prove '..UptoSaid'. A law counts once. -/
mutual
def uptoBulk {H : Type} : DataW H → Nat
  | .lit (.string bytes) => bytes.length + 1
  | .lit _ => 1
  | .nil => 1
  | .ptr d => uptoBulk d + 1
  | .slice elems spare => uptoBulkAll elems + uptoBulkAll spare + 1
  | .agg parts => uptoBulkAll parts + 1
  | .iface _ d => uptoBulk d + 1
  | .map entries => uptoBulkEntries entries + 1
  | .held _ => 1
def uptoBulkAll {H : Type} : List (DataW H) → Nat
  | [] => 0
  | d :: r => uptoBulk d + uptoBulkAll r
def uptoBulkEntries {H : Type} : List (Lit × DataW H) → Nat
  | [] => 0
  | x :: r => uptoBulkEntry x + uptoBulkEntries r
def uptoBulkEntry {H : Type} : Lit × DataW H → Nat
  | (.string bytes, d) => bytes.length + uptoBulk d + 1
  | (_, d) => uptoBulk d + 1
 end
def uptoSmall : (H : Type) → List (DataW H) → Bool := fun _ ds => decide (uptoBulkAll ds ≤ 1048576)
def OpenSpec.upto (s : _root_.Go.ChangeSpec) : _root_.Go.OpenSpec := { _root_.Go.OpenSpec.ofChange s with cond := some uptoSmall }

/-- 'wainscotlaw02.ShareDeals', WHERE WHAT IT READS IS OF BULK AT MOST 1048576: true; the input reads as it did. -/
def shareDealsUptoRow : OpenClaim := { program := "ytanhpdejlodidaa", sum := "9e797c807e6a3fed0b8b0199a8b0c20d4ef87b37e960dcb2053ff4f0dde0b7bf", func := "wainscot/wainscotlaw02.ShareDeals", spec := "shareDeals", unfollowed := true, recurses := true, apart := false, narrowed := true }
def ShareDealsUptoSaid : Prop := shareDealsUptoRow.holds Try.pinned (OpenSpec.upto shareDealsSpec)

/-- 'wainscotlaw02.ShareEvens', WHERE WHAT IT READS IS OF BULK AT MOST 1048576: true; the input reads as it did. -/
def shareEvensUptoRow : OpenClaim := { program := "ytanhpdejlodidaa", sum := "9e797c807e6a3fed0b8b0199a8b0c20d4ef87b37e960dcb2053ff4f0dde0b7bf", func := "wainscot/wainscotlaw02.ShareEvens", spec := "shareEvens", unfollowed := true, recurses := true, apart := false, narrowed := true }
def ShareEvensUptoSaid : Prop := shareEvensUptoRow.holds Try.pinned (OpenSpec.upto shareEvensSpec)

/-- 'wainscotlaw03.AxisBack', WHERE WHAT IT READS IS OF BULK AT MOST 1048576: true; the input reads as it did. -/
def axisBackUptoRow : OpenClaim := { program := "ytanhpdejlodidaa", sum := "9e797c807e6a3fed0b8b0199a8b0c20d4ef87b37e960dcb2053ff4f0dde0b7bf", func := "wainscot/wainscotlaw03.AxisBack", spec := "axisBack", unfollowed := true, recurses := true, apart := false, narrowed := true }
def AxisBackUptoSaid : Prop := axisBackUptoRow.holds Try.pinned (OpenSpec.upto axisBackSpec)

/-- 'wainscotlaw03.AxisParts', WHERE WHAT IT READS IS OF BULK AT MOST 1048576: true; the input reads as it did. -/
def axisPartsUptoRow : OpenClaim := { program := "ytanhpdejlodidaa", sum := "9e797c807e6a3fed0b8b0199a8b0c20d4ef87b37e960dcb2053ff4f0dde0b7bf", func := "wainscot/wainscotlaw03.AxisParts", spec := "axisParts", unfollowed := true, recurses := true, apart := false, narrowed := true }
def AxisPartsUptoSaid : Prop := axisPartsUptoRow.holds Try.pinned (OpenSpec.upto axisPartsSpec)

/-- 'wainscotlaw03.AxisSums', WHERE WHAT IT READS IS OF BULK AT MOST 1048576: true; the input reads as it did. -/
def axisSumsUptoRow : OpenClaim := { program := "ytanhpdejlodidaa", sum := "9e797c807e6a3fed0b8b0199a8b0c20d4ef87b37e960dcb2053ff4f0dde0b7bf", func := "wainscot/wainscotlaw03.AxisSums", spec := "axisSums", unfollowed := true, recurses := true, apart := false, narrowed := true }
def AxisSumsUptoSaid : Prop := axisSumsUptoRow.holds Try.pinned (OpenSpec.upto axisSumsSpec)

/-- 'wainscotlaw03.AxisSwaps', WHERE WHAT IT READS IS OF BULK AT MOST 1048576: true; the input reads as it did. -/
def axisSwapsUptoRow : OpenClaim := { program := "ytanhpdejlodidaa", sum := "9e797c807e6a3fed0b8b0199a8b0c20d4ef87b37e960dcb2053ff4f0dde0b7bf", func := "wainscot/wainscotlaw03.AxisSwaps", spec := "axisSwaps", unfollowed := true, recurses := true, apart := false, narrowed := true }
def AxisSwapsUptoSaid : Prop := axisSwapsUptoRow.holds Try.pinned (OpenSpec.upto axisSwapsSpec)

/-- 'wainscotlaw03.AxisPuts', WHERE WHAT IT READS IS OF BULK AT MOST 1048576: true; the input reads as it did. -/
def axisPutsUptoRow : OpenClaim := { program := "ytanhpdejlodidaa", sum := "9e797c807e6a3fed0b8b0199a8b0c20d4ef87b37e960dcb2053ff4f0dde0b7bf", func := "wainscot/wainscotlaw03.AxisPuts", spec := "axisPuts", unfollowed := true, recurses := true, apart := false, narrowed := true }
def AxisPutsUptoSaid : Prop := axisPutsUptoRow.holds Try.pinned (OpenSpec.upto axisPutsSpec)

/-- 'wainscotlaw03.AxisInside', WHERE WHAT IT READS IS OF BULK AT MOST 1048576: true; the input reads as it did. -/
def axisInsideUptoRow : OpenClaim := { program := "ytanhpdejlodidaa", sum := "9e797c807e6a3fed0b8b0199a8b0c20d4ef87b37e960dcb2053ff4f0dde0b7bf", func := "wainscot/wainscotlaw03.AxisInside", spec := "axisInside", unfollowed := true, recurses := true, apart := false, narrowed := true }
def AxisInsideUptoSaid : Prop := axisInsideUptoRow.holds Try.pinned (OpenSpec.upto axisInsideSpec)

end Rows
end Go.Proofs.Ytanhpdejlodidaa
