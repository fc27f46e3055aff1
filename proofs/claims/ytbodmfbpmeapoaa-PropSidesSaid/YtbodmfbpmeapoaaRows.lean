/-
  No cell of these rows narrows 'for every input' (looked for: loops, veiled, ifaces, maps, wideKeys, modest, calm, conditions, laid).
  DERIVED. THE GIVEN ROWS OF THIS SEAT. 4 by the template 'for every input the law returns true; each argument reads behind the call as it read before'; 0 by the template 'total and deterministic' (their statements: YtbodmfbpmeapoaaTotals.lean).
  GIVEN WITH THE SEED: the statements are not yours to turn. If you find one false, say at which input.
  Laid BY PROGRAM, IN A SANDBOX (cutbox-rows.mjs): the forced cells as the released guide's own fill.sh prints them over the translation cde65c7b7aaea90a… (all of the seat's roots in one cut). By AI agents, Wed Nov 11 2026. No macro, syntax, notation, axiom, sorry.
-/
import Derived.Test.YtbodmfbpmeapoaaChecked
import GoSem.Claim
import GoSem.ClaimJoined
import GoSem.ClaimMapViews
import Derived.JoinedTies
import Derived.KernelRfl
namespace Go.Proofs.Ytbodmfbpmeapoaa
/- THE CELL 'sum', in the pinned program and in every row, IS THE sha256 OF THE DUMP (.gsa) THAT YtbodmfbpmeapoaaProg.lean LOADS. Nothing in Lean hashes anything: it is a label: what it is worth is what the hold of that sum in a sandbox is worth. -/
noncomputable def Try.pinned : Pinned := { name := "ytbodmfbpmeapoaa", sum := "cde65c7b7aaea90a6f1d7c338049005e41ee55a1f064b158ec31df926a31804d", checked := Try.checked }
namespace Rows
def none {H : Type} : Left H := { results := [], args := [] }

/-- 'wainscotlaw10.PropNames': WHATEVER THE INPUT: true; the input reads as it did. -/
def propNamesSpec : ChangeSpec := { name := "propNames", fn := fun _ => fun
  | [d1, d2] => { results := [.lit (.bool true)], args := [d1, d2] }
  | _ => none }
def propNamesRow : OpenClaim := { program := "ytbodmfbpmeapoaa", sum := "cde65c7b7aaea90a6f1d7c338049005e41ee55a1f064b158ec31df926a31804d", func := "wainscot/wainscotlaw10.PropNames", spec := "propNames", unfollowed := true, recurses := true, apart := false }
def PropNamesSaid : Prop := propNamesRow.holds Try.pinned (OpenSpec.ofChange propNamesSpec)

/-- ITS FALSE NEIGHBOUR: 'it returns false'. Refute it at one input. -/
def propNamesWrong : ChangeSpec := { name := "propNames", fn := fun _ => fun
  | [d1, d2] => { results := [.lit (.bool false)], args := [d1, d2] }
  | _ => none }
def PropNamesWrongFalsely : Prop := propNamesRow.holds Try.pinned (OpenSpec.ofChange propNamesWrong)

/-- 'wainscotlaw10.PropTakes': WHATEVER THE INPUT: true; the input reads as it did. -/
def propTakesSpec : ChangeSpec := { name := "propTakes", fn := fun _ => fun
  | [d1, d2] => { results := [.lit (.bool true)], args := [d1, d2] }
  | _ => none }
def propTakesRow : OpenClaim := { program := "ytbodmfbpmeapoaa", sum := "cde65c7b7aaea90a6f1d7c338049005e41ee55a1f064b158ec31df926a31804d", func := "wainscot/wainscotlaw10.PropTakes", spec := "propTakes", unfollowed := true, recurses := true, apart := false }
def PropTakesSaid : Prop := propTakesRow.holds Try.pinned (OpenSpec.ofChange propTakesSpec)

/-- ITS FALSE NEIGHBOUR: 'it returns false'. Refute it at one input. -/
def propTakesWrong : ChangeSpec := { name := "propTakes", fn := fun _ => fun
  | [d1, d2] => { results := [.lit (.bool false)], args := [d1, d2] }
  | _ => none }
def PropTakesWrongFalsely : Prop := propTakesRow.holds Try.pinned (OpenSpec.ofChange propTakesWrong)

/-- 'wainscotlaw10.PropSides': WHATEVER THE INPUT: true; the input reads as it did. -/
def propSidesSpec : ChangeSpec := { name := "propSides", fn := fun _ => fun
  | [d1, d2] => { results := [.lit (.bool true)], args := [d1, d2] }
  | _ => none }
def propSidesRow : OpenClaim := { program := "ytbodmfbpmeapoaa", sum := "cde65c7b7aaea90a6f1d7c338049005e41ee55a1f064b158ec31df926a31804d", func := "wainscot/wainscotlaw10.PropSides", spec := "propSides", unfollowed := true, recurses := true, apart := false }
def PropSidesSaid : Prop := propSidesRow.holds Try.pinned (OpenSpec.ofChange propSidesSpec)

/-- ITS FALSE NEIGHBOUR: 'it returns false'. Refute it at one input. -/
def propSidesWrong : ChangeSpec := { name := "propSides", fn := fun _ => fun
  | [d1, d2] => { results := [.lit (.bool false)], args := [d1, d2] }
  | _ => none }
def PropSidesWrongFalsely : Prop := propSidesRow.holds Try.pinned (OpenSpec.ofChange propSidesWrong)

/-- 'wainscotlaw10.PropWords': WHATEVER THE INPUT: true; the input reads as it did. -/
def propWordsSpec : ChangeSpec := { name := "propWords", fn := fun _ => fun
  | [d1, d2, d3] => { results := [.lit (.bool true)], args := [d1, d2, d3] }
  | _ => none }
def propWordsRow : OpenClaim := { program := "ytbodmfbpmeapoaa", sum := "cde65c7b7aaea90a6f1d7c338049005e41ee55a1f064b158ec31df926a31804d", func := "wainscot/wainscotlaw10.PropWords", spec := "propWords", unfollowed := true, recurses := true, apart := false }
def PropWordsSaid : Prop := propWordsRow.holds Try.pinned (OpenSpec.ofChange propWordsSpec)

/-- ITS FALSE NEIGHBOUR: 'it returns false'. Refute it at one input. -/
def propWordsWrong : ChangeSpec := { name := "propWords", fn := fun _ => fun
  | [d1, d2, d3] => { results := [.lit (.bool false)], args := [d1, d2, d3] }
  | _ => none }
def PropWordsWrongFalsely : Prop := propWordsRow.holds Try.pinned (OpenSpec.ofChange propWordsWrong)

/- THE SECOND FORM. 'bulk': how many values and letters a reading holds, each counted each time it is reached (what is shared counts as often as it is met; a slice's spare places count too). A statement '..UptoSaid' is the law's where the arguments, and the package variables that the reading takes, are together of bulk at most 1048576: NARROWER than '..Said'. Prove '..Said' where nothing that the law and all that it calls make is longer than what came in: it says more and counts as full. Else prove '..UptoSaid'. A law counts once. -/
mutual
def uptoBulk {H : Type} : DataW H → Nat
  | .lit (.string bytes) => bytes.length + 1
  | .lit _ => 1
  | .nil => 1
  | .ptr d => uptoBulk d + 1
  | .slice elems spare => uptoBulkAll elems + uptoBulkAll spare + 1
  | .agg parts => uptoBulkAll parts + 1
  | .iface _ d => uptoBulk d + 1
  | .map entries => uptoBulkEntries entries + 1
  | .held _ => 1
def uptoBulkAll {H : Type} : List (DataW H) → Nat
  | [] => 0
  | d :: r => uptoBulk d + uptoBulkAll r
def uptoBulkEntries {H : Type} : List (Lit × DataW H) → Nat
  | [] => 0
  | x :: r => uptoBulkEntry x + uptoBulkEntries r
def uptoBulkEntry {H : Type} : Lit × DataW H → Nat
  | (.string bytes, d) => bytes.length + uptoBulk d + 1
  | (_, d) => uptoBulk d + 1
 end
def uptoSmall : (H : Type) → List (DataW H) → Bool := fun _ ds => decide (uptoBulkAll ds ≤ 1048576)
def OpenSpec.upto (s : _root_.Go.ChangeSpec) : _root_.Go.OpenSpec := { _root_.Go.OpenSpec.ofChange s with cond := some uptoSmall }

/-- 'wainscotlaw10.PropNames', WHERE WHAT IT READS IS OF BULK AT MOST 1048576: true; the input reads as it did. -/
def propNamesUptoRow : OpenClaim := { program := "ytbodmfbpmeapoaa", sum := "cde65c7b7aaea90a6f1d7c338049005e41ee55a1f064b158ec31df926a31804d", func := "wainscot/wainscotlaw10.PropNames", spec := "propNames", unfollowed := true, recurses := true, apart := false, narrowed := true }
def PropNamesUptoSaid : Prop := propNamesUptoRow.holds Try.pinned (OpenSpec.upto propNamesSpec)

/-- 'wainscotlaw10.PropTakes', WHERE WHAT IT READS IS OF BULK AT MOST 1048576: true; the input reads as it did. -/
def propTakesUptoRow : OpenClaim := { program := "ytbodmfbpmeapoaa", sum := "cde65c7b7aaea90a6f1d7c338049005e41ee55a1f064b158ec31df926a31804d", func := "wainscot/wainscotlaw10.PropTakes", spec := "propTakes", unfollowed := true, recurses := true, apart := false, narrowed := true }
def PropTakesUptoSaid : Prop := propTakesUptoRow.holds Try.pinned (OpenSpec.upto propTakesSpec)

/-- 'wainscotlaw10.PropSides', WHERE WHAT IT READS IS OF BULK AT MOST 1048576: true; the input reads as it did. -/
def propSidesUptoRow : OpenClaim := { program := "ytbodmfbpmeapoaa", sum := "cde65c7b7aaea90a6f1d7c338049005e41ee55a1f064b158ec31df926a31804d", func := "wainscot/wainscotlaw10.PropSides", spec := "propSides", unfollowed := true, recurses := true, apart := false, narrowed := true }
def PropSidesUptoSaid : Prop := propSidesUptoRow.holds Try.pinned (OpenSpec.upto propSidesSpec)

/-- 'wainscotlaw10.PropWords', WHERE WHAT IT READS IS OF BULK AT MOST 1048576: true; the input reads as it did. -/
def propWordsUptoRow : OpenClaim := { program := "ytbodmfbpmeapoaa", sum := "cde65c7b7aaea90a6f1d7c338049005e41ee55a1f064b158ec31df926a31804d", func := "wainscot/wainscotlaw10.PropWords", spec := "propWords", unfollowed := true, recurses := true, apart := false, narrowed := true }
def PropWordsUptoSaid : Prop := propWordsUptoRow.holds Try.pinned (OpenSpec.upto propWordsSpec)

end Rows
end Go.Proofs.Ytbodmfbpmeapoaa
