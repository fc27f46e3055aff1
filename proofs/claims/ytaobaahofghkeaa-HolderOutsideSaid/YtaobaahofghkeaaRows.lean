/-
  No cell of these rows narrows 'for every input' (looked for: loops, veiled, ifaces, maps, wideKeys, modest, calm, conditions, laid).
  DERIVED. THE GIVEN ROWS OF THIS SEAT. 5 by the template 'for every input the law returns true; each argument reads behind the call as it read before'; 0 by the template 'total and deterministic' (their statements: YtaobaahofghkeaaTotals.lean).
  GIVEN WITH THE SEED: the statements are not yours to turn. If you find one false, say at which input.
  Laid BY PROGRAM, IN A SANDBOX (cutbox-rows.mjs): the forced cells as the released guide's own fill.sh prints them over the translation 83585b2adafcc960… (all of the seat's roots in one cut). By AI agents, Wed Nov 11 2026. No macro, syntax, notation, axiom, sorry.
-/
import Derived.Test.YtaobaahofghkeaaChecked
import GoSem.Claim
import GoSem.ClaimJoined
import GoSem.ClaimMapViews
import Derived.JoinedTies
import Derived.KernelRfl
namespace Go.Proofs.Ytaobaahofghkeaa
/- THE CELL 'sum', in the pinned program and in every row, IS THE sha256 OF THE DUMP (.gsa) THAT YtaobaahofghkeaaProg.lean LOADS. Nothing in Lean hashes anything: it is a label: what it is worth is what the hold of that sum in a sandbox is worth. -/
noncomputable def Try.pinned : Pinned := { name := "ytaobaahofghkeaa", sum := "83585b2adafcc96071d9a0804330faa2eee436f097fe6eb0c7f6c4283b54c559", checked := Try.checked }
namespace Rows
def none {H : Type} : Left H := { results := [], args := [] }

/-- 'wainscotlaw15.HolderTruths': WHATEVER THE INPUT: true; the input reads as it did. -/
def holderTruthsSpec : ChangeSpec := { name := "holderTruths", fn := fun _ => fun
  | [d1, d2, d3, d4] => { results := [.lit (.bool true)], args := [d1, d2, d3, d4] }
  | _ => none }
def holderTruthsRow : OpenClaim := { program := "ytaobaahofghkeaa", sum := "83585b2adafcc96071d9a0804330faa2eee436f097fe6eb0c7f6c4283b54c559", func := "wainscot/wainscotlaw15.HolderTruths", spec := "holderTruths", unfollowed := true, recurses := true, apart := false }
def HolderTruthsSaid : Prop := holderTruthsRow.holds Try.pinned (OpenSpec.ofChange holderTruthsSpec)

/-- ITS FALSE NEIGHBOUR: 'it returns false'. Refute it at one input. -/
def holderTruthsWrong : ChangeSpec := { name := "holderTruths", fn := fun _ => fun
  | [d1, d2, d3, d4] => { results := [.lit (.bool false)], args := [d1, d2, d3, d4] }
  | _ => none }
def HolderTruthsWrongFalsely : Prop := holderTruthsRow.holds Try.pinned (OpenSpec.ofChange holderTruthsWrong)

/-- 'wainscotlaw15.HolderBases': WHATEVER THE INPUT: true; the input reads as it did. -/
def holderBasesSpec : ChangeSpec := { name := "holderBases", fn := fun _ => fun
  | [d1, d2, d3, d4] => { results := [.lit (.bool true)], args := [d1, d2, d3, d4] }
  | _ => none }
def holderBasesRow : OpenClaim := { program := "ytaobaahofghkeaa", sum := "83585b2adafcc96071d9a0804330faa2eee436f097fe6eb0c7f6c4283b54c559", func := "wainscot/wainscotlaw15.HolderBases", spec := "holderBases", unfollowed := true, recurses := true, apart := false }
def HolderBasesSaid : Prop := holderBasesRow.holds Try.pinned (OpenSpec.ofChange holderBasesSpec)

/-- ITS FALSE NEIGHBOUR: 'it returns false'. Refute it at one input. -/
def holderBasesWrong : ChangeSpec := { name := "holderBases", fn := fun _ => fun
  | [d1, d2, d3, d4] => { results := [.lit (.bool false)], args := [d1, d2, d3, d4] }
  | _ => none }
def HolderBasesWrongFalsely : Prop := holderBasesRow.holds Try.pinned (OpenSpec.ofChange holderBasesWrong)

/-- 'wainscotlaw15.HolderLengths': WHATEVER THE INPUT: true; the input reads as it did. -/
def holderLengthsSpec : ChangeSpec := { name := "holderLengths", fn := fun _ => fun
  | [d1, d2, d3, d4] => { results := [.lit (.bool true)], args := [d1, d2, d3, d4] }
  | _ => none }
def holderLengthsRow : OpenClaim := { program := "ytaobaahofghkeaa", sum := "83585b2adafcc96071d9a0804330faa2eee436f097fe6eb0c7f6c4283b54c559", func := "wainscot/wainscotlaw15.HolderLengths", spec := "holderLengths", unfollowed := true, recurses := true, apart := false }
def HolderLengthsSaid : Prop := holderLengthsRow.holds Try.pinned (OpenSpec.ofChange holderLengthsSpec)

/-- ITS FALSE NEIGHBOUR: 'it returns false'. Refute it at one input. -/
def holderLengthsWrong : ChangeSpec := { name := "holderLengths", fn := fun _ => fun
  | [d1, d2, d3, d4] => { results := [.lit (.bool false)], args := [d1, d2, d3, d4] }
  | _ => none }
def HolderLengthsWrongFalsely : Prop := holderLengthsRow.holds Try.pinned (OpenSpec.ofChange holderLengthsWrong)

/-- 'wainscotlaw15.HolderOutside': WHATEVER THE INPUT: true; the input reads as it did. -/
def holderOutsideSpec : ChangeSpec := { name := "holderOutside", fn := fun _ => fun
  | [d1, d2, d3, d4, d5, d6] => { results := [.lit (.bool true)], args := [d1, d2, d3, d4, d5, d6] }
  | _ => none }
def holderOutsideRow : OpenClaim := { program := "ytaobaahofghkeaa", sum := "83585b2adafcc96071d9a0804330faa2eee436f097fe6eb0c7f6c4283b54c559", func := "wainscot/wainscotlaw15.HolderOutside", spec := "holderOutside", unfollowed := true, recurses := true, apart := false }
def HolderOutsideSaid : Prop := holderOutsideRow.holds Try.pinned (OpenSpec.ofChange holderOutsideSpec)

/-- ITS FALSE NEIGHBOUR: 'it returns false'. Refute it at one input. -/
def holderOutsideWrong : ChangeSpec := { name := "holderOutside", fn := fun _ => fun
  | [d1, d2, d3, d4, d5, d6] => { results := [.lit (.bool false)], args := [d1, d2, d3, d4, d5, d6] }
  | _ => none }
def HolderOutsideWrongFalsely : Prop := holderOutsideRow.holds Try.pinned (OpenSpec.ofChange holderOutsideWrong)

/-- 'wainscotlaw15.HolderNamed': WHATEVER THE INPUT: true; the input reads as it did. -/
def holderNamedSpec : ChangeSpec := { name := "holderNamed", fn := fun _ => fun
  | [d1, d2, d3, d4] => { results := [.lit (.bool true)], args := [d1, d2, d3, d4] }
  | _ => none }
def holderNamedRow : OpenClaim := { program := "ytaobaahofghkeaa", sum := "83585b2adafcc96071d9a0804330faa2eee436f097fe6eb0c7f6c4283b54c559", func := "wainscot/wainscotlaw15.HolderNamed", spec := "holderNamed", unfollowed := true, recurses := true, apart := false }
def HolderNamedSaid : Prop := holderNamedRow.holds Try.pinned (OpenSpec.ofChange holderNamedSpec)

/-- ITS FALSE NEIGHBOUR: 'it returns false'. Refute it at one input. -/
def holderNamedWrong : ChangeSpec := { name := "holderNamed", fn := fun _ => fun
  | [d1, d2, d3, d4] => { results := [.lit (.bool false)], args := [d1, d2, d3, d4] }
  | _ => none }
def HolderNamedWrongFalsely : Prop := holderNamedRow.holds Try.pinned (OpenSpec.ofChange holderNamedWrong)

/- THE SECOND FORM. 'bulk': how many values and letters a reading holds, each counted each time it is reached (what is shared counts as often as it is met; a slice's spare places count too). A statement '..UptoSaid' is the law's where the arguments, and the package variables that the reading takes, are together of bulk at most 1048576: NARROWER than '..Said'. Prove '..Said' where nothing that the law and all that it calls make is longer than what came in: it says more and counts as full. Else prove '..UptoSaid'. A law counts once. -/
mutual
def uptoBulk {H : Type} : DataW H → Nat
  | .lit (.string bytes) => bytes.length + 1
  | .lit _ => 1
  | .nil => 1
  | .ptr d => uptoBulk d + 1
  | .slice elems spare => uptoBulkAll elems + uptoBulkAll spare + 1
  | .agg parts => uptoBulkAll parts + 1
  | .iface _ d => uptoBulk d + 1
  | .map entries => uptoBulkEntries entries + 1
  | .held _ => 1
def uptoBulkAll {H : Type} : List (DataW H) → Nat
  | [] => 0
  | d :: r => uptoBulk d + uptoBulkAll r
def uptoBulkEntries {H : Type} : List (Lit × DataW H) → Nat
  | [] => 0
  | x :: r => uptoBulkEntry x + uptoBulkEntries r
def uptoBulkEntry {H : Type} : Lit × DataW H → Nat
  | (.string bytes, d) => bytes.length + uptoBulk d + 1
  | (_, d) => uptoBulk d + 1
 end
def uptoSmall : (H : Type) → List (DataW H) → Bool := fun _ ds => decide (uptoBulkAll ds ≤ 1048576)
def OpenSpec.upto (s : _root_.Go.ChangeSpec) : _root_.Go.OpenSpec := { _root_.Go.OpenSpec.ofChange s with cond := some uptoSmall }

/-- 'wainscotlaw15.HolderTruths', WHERE WHAT IT READS IS OF BULK AT MOST 1048576: true; the input reads as it did. -/
def holderTruthsUptoRow : OpenClaim := { program := "ytaobaahofghkeaa", sum := "83585b2adafcc96071d9a0804330faa2eee436f097fe6eb0c7f6c4283b54c559", func := "wainscot/wainscotlaw15.HolderTruths", spec := "holderTruths", unfollowed := true, recurses := true, apart := false, narrowed := true }
def HolderTruthsUptoSaid : Prop := holderTruthsUptoRow.holds Try.pinned (OpenSpec.upto holderTruthsSpec)

/-- 'wainscotlaw15.HolderBases', WHERE WHAT IT READS IS OF BULK AT MOST 1048576: true; the input reads as it did. -/
def holderBasesUptoRow : OpenClaim := { program := "ytaobaahofghkeaa", sum := "83585b2adafcc96071d9a0804330faa2eee436f097fe6eb0c7f6c4283b54c559", func := "wainscot/wainscotlaw15.HolderBases", spec := "holderBases", unfollowed := true, recurses := true, apart := false, narrowed := true }
def HolderBasesUptoSaid : Prop := holderBasesUptoRow.holds Try.pinned (OpenSpec.upto holderBasesSpec)

/-- 'wainscotlaw15.HolderLengths', WHERE WHAT IT READS IS OF BULK AT MOST 1048576: true; the input reads as it did. -/
def holderLengthsUptoRow : OpenClaim := { program := "ytaobaahofghkeaa", sum := "83585b2adafcc96071d9a0804330faa2eee436f097fe6eb0c7f6c4283b54c559", func := "wainscot/wainscotlaw15.HolderLengths", spec := "holderLengths", unfollowed := true, recurses := true, apart := false, narrowed := true }
def HolderLengthsUptoSaid : Prop := holderLengthsUptoRow.holds Try.pinned (OpenSpec.upto holderLengthsSpec)

/-- 'wainscotlaw15.HolderOutside', WHERE WHAT IT READS IS OF BULK AT MOST 1048576: true; the input reads as it did. -/
def holderOutsideUptoRow : OpenClaim := { program := "ytaobaahofghkeaa", sum := "83585b2adafcc96071d9a0804330faa2eee436f097fe6eb0c7f6c4283b54c559", func := "wainscot/wainscotlaw15.HolderOutside", spec := "holderOutside", unfollowed := true, recurses := true, apart := false, narrowed := true }
def HolderOutsideUptoSaid : Prop := holderOutsideUptoRow.holds Try.pinned (OpenSpec.upto holderOutsideSpec)

/-- 'wainscotlaw15.HolderNamed', WHERE WHAT IT READS IS OF BULK AT MOST 1048576: true; the input reads as it did. -/
def holderNamedUptoRow : OpenClaim := { program := "ytaobaahofghkeaa", sum := "83585b2adafcc96071d9a0804330faa2eee436f097fe6eb0c7f6c4283b54c559", func := "wainscot/wainscotlaw15.HolderNamed", spec := "holderNamed", unfollowed := true, recurses := true, apart := false, narrowed := true }
def HolderNamedUptoSaid : Prop := holderNamedUptoRow.holds Try.pinned (OpenSpec.upto holderNamedSpec)

end Rows
end Go.Proofs.Ytaobaahofghkeaa
