/-
  No cell of these rows narrows 'for every input' (looked for: loops, veiled, ifaces, maps, wideKeys, modest, calm, conditions, laid).
  DERIVED. THE GIVEN ROWS OF THIS SEAT. 5 by the template 'for every input the law returns true; each argument reads behind the call as it read before'; 0 by the template 'total and deterministic' (their statements: YtaiommmbbajgnaaTotals.lean).
  GIVEN WITH THE SEED: the statements are not yours to turn. If you find one false, say at which input.
  Laid BY PROGRAM, IN A SANDBOX (cutbox-rows.mjs): the forced cells as the released guide's own fill.sh prints them over the translation 26af5b209959a633… (all of the seat's roots in one cut). By AI agents, Wed Nov 11 2026. No macro, syntax, notation, axiom, sorry.
-/
import Derived.Test.YtaiommmbbajgnaaChecked
import GoSem.Claim
import GoSem.ClaimJoined
import GoSem.ClaimMapViews
import Derived.JoinedTies
import Derived.KernelRfl
namespace Go.Proofs.Ytaiommmbbajgnaa
/- THE CELL 'sum', in the pinned program and in every row, IS THE sha256 OF THE DUMP (.gsa) THAT YtaiommmbbajgnaaProg.lean LOADS. Nothing in Lean hashes anything: it is a label: what it is worth is what the hold of that sum in a sandbox is worth. -/
noncomputable def Try.pinned : Pinned := { name := "ytaiommmbbajgnaa", sum := "26af5b209959a63363b23d70fd17da19d685f95697f279b9975a1c02999e2bb6", checked := Try.checked }
namespace Rows
def none {H : Type} : Left H := { results := [], args := [] }

/-- 'wainscotlaw06.SyntaxMatches': WHATEVER THE INPUT: true; the input reads as it did. -/
def syntaxMatchesSpec : ChangeSpec := { name := "syntaxMatches", fn := fun _ => fun
  | [d1, d2] => { results := [.lit (.bool true)], args := [d1, d2] }
  | _ => none }
def syntaxMatchesRow : OpenClaim := { program := "ytaiommmbbajgnaa", sum := "26af5b209959a63363b23d70fd17da19d685f95697f279b9975a1c02999e2bb6", func := "wainscot/wainscotlaw06.SyntaxMatches", spec := "syntaxMatches", unfollowed := true, recurses := true, apart := false }
def SyntaxMatchesSaid : Prop := syntaxMatchesRow.holds Try.pinned (OpenSpec.ofChange syntaxMatchesSpec)

/-- ITS FALSE NEIGHBOUR: 'it returns false'. Refute it at one input. -/
def syntaxMatchesWrong : ChangeSpec := { name := "syntaxMatches", fn := fun _ => fun
  | [d1, d2] => { results := [.lit (.bool false)], args := [d1, d2] }
  | _ => none }
def SyntaxMatchesWrongFalsely : Prop := syntaxMatchesRow.holds Try.pinned (OpenSpec.ofChange syntaxMatchesWrong)

/-- 'wainscotlaw06.SyntaxInside': WHATEVER THE INPUT: true; the input reads as it did. -/
def syntaxInsideSpec : ChangeSpec := { name := "syntaxInside", fn := fun _ => fun
  | [d1, d2, d3] => { results := [.lit (.bool true)], args := [d1, d2, d3] }
  | _ => none }
def syntaxInsideRow : OpenClaim := { program := "ytaiommmbbajgnaa", sum := "26af5b209959a63363b23d70fd17da19d685f95697f279b9975a1c02999e2bb6", func := "wainscot/wainscotlaw06.SyntaxInside", spec := "syntaxInside", unfollowed := true, recurses := true, apart := false }
def SyntaxInsideSaid : Prop := syntaxInsideRow.holds Try.pinned (OpenSpec.ofChange syntaxInsideSpec)

/-- ITS FALSE NEIGHBOUR: 'it returns false'. Refute it at one input. -/
def syntaxInsideWrong : ChangeSpec := { name := "syntaxInside", fn := fun _ => fun
  | [d1, d2, d3] => { results := [.lit (.bool false)], args := [d1, d2, d3] }
  | _ => none }
def SyntaxInsideWrongFalsely : Prop := syntaxInsideRow.holds Try.pinned (OpenSpec.ofChange syntaxInsideWrong)

/-- 'wainscotlaw06.SyntaxDecls': WHATEVER THE INPUT: true; the input reads as it did. -/
def syntaxDeclsSpec : ChangeSpec := { name := "syntaxDecls", fn := fun _ => fun
  | [d] => { results := [.lit (.bool true)], args := [d] }
  | _ => none }
def syntaxDeclsRow : OpenClaim := { program := "ytaiommmbbajgnaa", sum := "26af5b209959a63363b23d70fd17da19d685f95697f279b9975a1c02999e2bb6", func := "wainscot/wainscotlaw06.SyntaxDecls", spec := "syntaxDecls", unfollowed := true, recurses := true, apart := false }
def SyntaxDeclsSaid : Prop := syntaxDeclsRow.holds Try.pinned (OpenSpec.ofChange syntaxDeclsSpec)

/-- ITS FALSE NEIGHBOUR: 'it returns false'. Refute it at one input. -/
def syntaxDeclsWrong : ChangeSpec := { name := "syntaxDecls", fn := fun _ => fun
  | [d] => { results := [.lit (.bool false)], args := [d] }
  | _ => none }
def SyntaxDeclsWrongFalsely : Prop := syntaxDeclsRow.holds Try.pinned (OpenSpec.ofChange syntaxDeclsWrong)

/-- 'wainscotlaw06.SyntaxGoesOn': WHATEVER THE INPUT: true; the input reads as it did. -/
def syntaxGoesOnSpec : ChangeSpec := { name := "syntaxGoesOn", fn := fun _ => fun
  | [d1, d2] => { results := [.lit (.bool true)], args := [d1, d2] }
  | _ => none }
def syntaxGoesOnRow : OpenClaim := { program := "ytaiommmbbajgnaa", sum := "26af5b209959a63363b23d70fd17da19d685f95697f279b9975a1c02999e2bb6", func := "wainscot/wainscotlaw06.SyntaxGoesOn", spec := "syntaxGoesOn", unfollowed := true, recurses := true, apart := false }
def SyntaxGoesOnSaid : Prop := syntaxGoesOnRow.holds Try.pinned (OpenSpec.ofChange syntaxGoesOnSpec)

/-- ITS FALSE NEIGHBOUR: 'it returns false'. Refute it at one input. -/
def syntaxGoesOnWrong : ChangeSpec := { name := "syntaxGoesOn", fn := fun _ => fun
  | [d1, d2] => { results := [.lit (.bool false)], args := [d1, d2] }
  | _ => none }
def SyntaxGoesOnWrongFalsely : Prop := syntaxGoesOnRow.holds Try.pinned (OpenSpec.ofChange syntaxGoesOnWrong)

/-- 'wainscotlaw06.SyntaxJoins': WHATEVER THE INPUT: true; the input reads as it did. -/
def syntaxJoinsSpec : ChangeSpec := { name := "syntaxJoins", fn := fun _ => fun
  | [d1, d2, d3] => { results := [.lit (.bool true)], args := [d1, d2, d3] }
  | _ => none }
def syntaxJoinsRow : OpenClaim := { program := "ytaiommmbbajgnaa", sum := "26af5b209959a63363b23d70fd17da19d685f95697f279b9975a1c02999e2bb6", func := "wainscot/wainscotlaw06.SyntaxJoins", spec := "syntaxJoins", unfollowed := true, recurses := true, apart := false }
def SyntaxJoinsSaid : Prop := syntaxJoinsRow.holds Try.pinned (OpenSpec.ofChange syntaxJoinsSpec)

/-- ITS FALSE NEIGHBOUR: 'it returns false'. Refute it at one input. -/
def syntaxJoinsWrong : ChangeSpec := { name := "syntaxJoins", fn := fun _ => fun
  | [d1, d2, d3] => { results := [.lit (.bool false)], args := [d1, d2, d3] }
  | _ => none }
def SyntaxJoinsWrongFalsely : Prop := syntaxJoinsRow.holds Try.pinned (OpenSpec.ofChange syntaxJoinsWrong)

/- THE SECOND FORM. 'bulk': how many values and letters a reading holds, each counted each time it is reached (what is shared counts as often as it is met; a slice's spare places count too). A statement '..UptoSaid' is the law's where the arguments, and the package variables that the reading takes, are together of bulk at most 1048576: NARROWER than '..Said'. Prove '..Said' where nothing that the law and all that it calls make is longer than what came in: it says more and counts as full. Else prove '..UptoSaid'. A law counts once. -/
mutual
def uptoBulk {H : Type} : DataW H → Nat
  | .lit (.string bytes) => bytes.length + 1
  | .lit _ => 1
  | .nil => 1
  | .ptr d => uptoBulk d + 1
  | .slice elems spare => uptoBulkAll elems + uptoBulkAll spare + 1
  | .agg parts => uptoBulkAll parts + 1
  | .iface _ d => uptoBulk d + 1
  | .map entries => uptoBulkEntries entries + 1
  | .held _ => 1
def uptoBulkAll {H : Type} : List (DataW H) → Nat
  | [] => 0
  | d :: r => uptoBulk d + uptoBulkAll r
def uptoBulkEntries {H : Type} : List (Lit × DataW H) → Nat
  | [] => 0
  | x :: r => uptoBulkEntry x + uptoBulkEntries r
def uptoBulkEntry {H : Type} : Lit × DataW H → Nat
  | (.string bytes, d) => bytes.length + uptoBulk d + 1
  | (_, d) => uptoBulk d + 1
 end
def uptoSmall : (H : Type) → List (DataW H) → Bool := fun _ ds => decide (uptoBulkAll ds ≤ 1048576)
def OpenSpec.upto (s : _root_.Go.ChangeSpec) : _root_.Go.OpenSpec := { _root_.Go.OpenSpec.ofChange s with cond := some uptoSmall }

/-- 'wainscotlaw06.SyntaxMatches', WHERE WHAT IT READS IS OF BULK AT MOST 1048576: true; the input reads as it did. -/
def syntaxMatchesUptoRow : OpenClaim := { program := "ytaiommmbbajgnaa", sum := "26af5b209959a63363b23d70fd17da19d685f95697f279b9975a1c02999e2bb6", func := "wainscot/wainscotlaw06.SyntaxMatches", spec := "syntaxMatches", unfollowed := true, recurses := true, apart := false, narrowed := true }
def SyntaxMatchesUptoSaid : Prop := syntaxMatchesUptoRow.holds Try.pinned (OpenSpec.upto syntaxMatchesSpec)

/-- 'wainscotlaw06.SyntaxInside', WHERE WHAT IT READS IS OF BULK AT MOST 1048576: true; the input reads as it did. -/
def syntaxInsideUptoRow : OpenClaim := { program := "ytaiommmbbajgnaa", sum := "26af5b209959a63363b23d70fd17da19d685f95697f279b9975a1c02999e2bb6", func := "wainscot/wainscotlaw06.SyntaxInside", spec := "syntaxInside", unfollowed := true, recurses := true, apart := false, narrowed := true }
def SyntaxInsideUptoSaid : Prop := syntaxInsideUptoRow.holds Try.pinned (OpenSpec.upto syntaxInsideSpec)

/-- 'wainscotlaw06.SyntaxDecls', WHERE WHAT IT READS IS OF BULK AT MOST 1048576: true; the input reads as it did. -/
def syntaxDeclsUptoRow : OpenClaim := { program := "ytaiommmbbajgnaa", sum := "26af5b209959a63363b23d70fd17da19d685f95697f279b9975a1c02999e2bb6", func := "wainscot/wainscotlaw06.SyntaxDecls", spec := "syntaxDecls", unfollowed := true, recurses := true, apart := false, narrowed := true }
def SyntaxDeclsUptoSaid : Prop := syntaxDeclsUptoRow.holds Try.pinned (OpenSpec.upto syntaxDeclsSpec)

/-- 'wainscotlaw06.SyntaxGoesOn', WHERE WHAT IT READS IS OF BULK AT MOST 1048576: true; the input reads as it did. -/
def syntaxGoesOnUptoRow : OpenClaim := { program := "ytaiommmbbajgnaa", sum := "26af5b209959a63363b23d70fd17da19d685f95697f279b9975a1c02999e2bb6", func := "wainscot/wainscotlaw06.SyntaxGoesOn", spec := "syntaxGoesOn", unfollowed := true, recurses := true, apart := false, narrowed := true }
def SyntaxGoesOnUptoSaid : Prop := syntaxGoesOnUptoRow.holds Try.pinned (OpenSpec.upto syntaxGoesOnSpec)

/-- 'wainscotlaw06.SyntaxJoins', WHERE WHAT IT READS IS OF BULK AT MOST 1048576: true; the input reads as it did. -/
def syntaxJoinsUptoRow : OpenClaim := { program := "ytaiommmbbajgnaa", sum := "26af5b209959a63363b23d70fd17da19d685f95697f279b9975a1c02999e2bb6", func := "wainscot/wainscotlaw06.SyntaxJoins", spec := "syntaxJoins", unfollowed := true, recurses := true, apart := false, narrowed := true }
def SyntaxJoinsUptoSaid : Prop := syntaxJoinsUptoRow.holds Try.pinned (OpenSpec.upto syntaxJoinsSpec)

end Rows
end Go.Proofs.Ytaiommmbbajgnaa
