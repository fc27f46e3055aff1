/-
  No cell of these rows narrows 'for every input' (looked for: loops, veiled, ifaces, maps, wideKeys, modest, calm, conditions, laid).
  DERIVED. THE GIVEN ROWS OF THIS SEAT. 4 by the template 'for every input the law returns true; each argument reads behind the call as it read before'; 0 by the template 'total and deterministic' (their statements: YtajmmnmagbnigaaTotals.lean).
  GIVEN WITH THE SEED: the statements are not yours to turn. If you find one false, say at which input.
  Laid BY PROGRAM, IN A SANDBOX (cutbox-rows.mjs): the forced cells as the released guide's own fill.sh prints them over the translation f40b2b3073c8031e… (all of the seat's roots in one cut). By AI agents, Wed Nov 11 2026. No macro, syntax, notation, axiom, sorry.
-/
import Derived.Test.YtajmmnmagbnigaaChecked
import GoSem.Claim
import GoSem.ClaimJoined
import GoSem.ClaimMapViews
import Derived.JoinedTies
import Derived.KernelRfl
namespace Go.Proofs.Ytajmmnmagbnigaa
/- THE CELL 'sum', in the pinned program and in every row, IS THE sha256 OF THE DUMP (.gsa) THAT YtajmmnmagbnigaaProg.lean LOADS. Nothing in Lean hashes anything: it is a label: what it is worth is what the hold of that sum in a sandbox is worth. -/
noncomputable def Try.pinned : Pinned := { name := "ytajmmnmagbnigaa", sum := "f40b2b3073c8031e1ef7352aba6fe09885ea1a36e8c43e69126e4eb2f652b645", checked := Try.checked }
namespace Rows
def none {H : Type} : Left H := { results := [], args := [] }

/-- 'wainscotlaw19.StrutJoins': WHATEVER THE INPUT: true; the input reads as it did. -/
def strutJoinsSpec : ChangeSpec := { name := "strutJoins", fn := fun _ => fun
  | [d1, d2, d3, d4] => { results := [.lit (.bool true)], args := [d1, d2, d3, d4] }
  | _ => none }
def strutJoinsRow : OpenClaim := { program := "ytajmmnmagbnigaa", sum := "f40b2b3073c8031e1ef7352aba6fe09885ea1a36e8c43e69126e4eb2f652b645", func := "wainscot/wainscotlaw19.StrutJoins", spec := "strutJoins", unfollowed := true, recurses := true, apart := false }
def StrutJoinsSaid : Prop := strutJoinsRow.holds Try.pinned (OpenSpec.ofChange strutJoinsSpec)

/-- ITS FALSE NEIGHBOUR: 'it returns false'. Refute it at one input. -/
def strutJoinsWrong : ChangeSpec := { name := "strutJoins", fn := fun _ => fun
  | [d1, d2, d3, d4] => { results := [.lit (.bool false)], args := [d1, d2, d3, d4] }
  | _ => none }
def StrutJoinsWrongFalsely : Prop := strutJoinsRow.holds Try.pinned (OpenSpec.ofChange strutJoinsWrong)

/-- 'wainscotlaw19.StrutBetween': WHATEVER THE INPUT: true; the input reads as it did. -/
def strutBetweenSpec : ChangeSpec := { name := "strutBetween", fn := fun _ => fun
  | [d1, d2, d3, d4] => { results := [.lit (.bool true)], args := [d1, d2, d3, d4] }
  | _ => none }
def strutBetweenRow : OpenClaim := { program := "ytajmmnmagbnigaa", sum := "f40b2b3073c8031e1ef7352aba6fe09885ea1a36e8c43e69126e4eb2f652b645", func := "wainscot/wainscotlaw19.StrutBetween", spec := "strutBetween", unfollowed := true, recurses := true, apart := false }
def StrutBetweenSaid : Prop := strutBetweenRow.holds Try.pinned (OpenSpec.ofChange strutBetweenSpec)

/-- ITS FALSE NEIGHBOUR: 'it returns false'. Refute it at one input. -/
def strutBetweenWrong : ChangeSpec := { name := "strutBetween", fn := fun _ => fun
  | [d1, d2, d3, d4] => { results := [.lit (.bool false)], args := [d1, d2, d3, d4] }
  | _ => none }
def StrutBetweenWrongFalsely : Prop := strutBetweenRow.holds Try.pinned (OpenSpec.ofChange strutBetweenWrong)

/-- 'wainscotlaw19.StrutClosed': WHATEVER THE INPUT: true; the input reads as it did. -/
def strutClosedSpec : ChangeSpec := { name := "strutClosed", fn := fun _ => fun
  | [d] => { results := [.lit (.bool true)], args := [d] }
  | _ => none }
def strutClosedRow : OpenClaim := { program := "ytajmmnmagbnigaa", sum := "f40b2b3073c8031e1ef7352aba6fe09885ea1a36e8c43e69126e4eb2f652b645", func := "wainscot/wainscotlaw19.StrutClosed", spec := "strutClosed", unfollowed := true, recurses := true, apart := false }
def StrutClosedSaid : Prop := strutClosedRow.holds Try.pinned (OpenSpec.ofChange strutClosedSpec)

/-- ITS FALSE NEIGHBOUR: 'it returns false'. Refute it at one input. -/
def strutClosedWrong : ChangeSpec := { name := "strutClosed", fn := fun _ => fun
  | [d] => { results := [.lit (.bool false)], args := [d] }
  | _ => none }
def StrutClosedWrongFalsely : Prop := strutClosedRow.holds Try.pinned (OpenSpec.ofChange strutClosedWrong)

/-- 'wainscotlaw19.StrutGreatest': WHATEVER THE INPUT: true; the input reads as it did. -/
def strutGreatestSpec : ChangeSpec := { name := "strutGreatest", fn := fun _ => fun
  | [d] => { results := [.lit (.bool true)], args := [d] }
  | _ => none }
def strutGreatestRow : OpenClaim := { program := "ytajmmnmagbnigaa", sum := "f40b2b3073c8031e1ef7352aba6fe09885ea1a36e8c43e69126e4eb2f652b645", func := "wainscot/wainscotlaw19.StrutGreatest", spec := "strutGreatest", unfollowed := true, recurses := true, apart := false }
def StrutGreatestSaid : Prop := strutGreatestRow.holds Try.pinned (OpenSpec.ofChange strutGreatestSpec)

/-- ITS FALSE NEIGHBOUR: 'it returns false'. Refute it at one input. -/
def strutGreatestWrong : ChangeSpec := { name := "strutGreatest", fn := fun _ => fun
  | [d] => { results := [.lit (.bool false)], args := [d] }
  | _ => none }
def StrutGreatestWrongFalsely : Prop := strutGreatestRow.holds Try.pinned (OpenSpec.ofChange strutGreatestWrong)

/- THE SECOND FORM. 'bulk': how many values and letters a reading holds, each counted each time it is reached (what is shared counts as often as it is met; a slice's spare places count too). A statement '..UptoSaid' is the law's where the arguments, and the package variables that the reading takes, are together of bulk at most 1048576: NARROWER than '..Said'. Prove '..Said' where nothing that the law and all that it calls make is longer than what came in: it says more and counts as full. Else prove '..UptoSaid'. A law counts once. -/
mutual
def uptoBulk {H : Type} : DataW H → Nat
  | .lit (.string bytes) => bytes.length + 1
  | .lit _ => 1
  | .nil => 1
  | .ptr d => uptoBulk d + 1
  | .slice elems spare => uptoBulkAll elems + uptoBulkAll spare + 1
  | .agg parts => uptoBulkAll parts + 1
  | .iface _ d => uptoBulk d + 1
  | .map entries => uptoBulkEntries entries + 1
  | .held _ => 1
def uptoBulkAll {H : Type} : List (DataW H) → Nat
  | [] => 0
  | d :: r => uptoBulk d + uptoBulkAll r
def uptoBulkEntries {H : Type} : List (Lit × DataW H) → Nat
  | [] => 0
  | x :: r => uptoBulkEntry x + uptoBulkEntries r
def uptoBulkEntry {H : Type} : Lit × DataW H → Nat
  | (.string bytes, d) => bytes.length + uptoBulk d + 1
  | (_, d) => uptoBulk d + 1
 end
def uptoSmall : (H : Type) → List (DataW H) → Bool := fun _ ds => decide (uptoBulkAll ds ≤ 1048576)
def OpenSpec.upto (s : _root_.Go.ChangeSpec) : _root_.Go.OpenSpec := { _root_.Go.OpenSpec.ofChange s with cond := some uptoSmall }

/-- 'wainscotlaw19.StrutJoins', WHERE WHAT IT READS IS OF BULK AT MOST 1048576: true; the input reads as it did. -/
def strutJoinsUptoRow : OpenClaim := { program := "ytajmmnmagbnigaa", sum := "f40b2b3073c8031e1ef7352aba6fe09885ea1a36e8c43e69126e4eb2f652b645", func := "wainscot/wainscotlaw19.StrutJoins", spec := "strutJoins", unfollowed := true, recurses := true, apart := false, narrowed := true }
def StrutJoinsUptoSaid : Prop := strutJoinsUptoRow.holds Try.pinned (OpenSpec.upto strutJoinsSpec)

/-- 'wainscotlaw19.StrutBetween', WHERE WHAT IT READS IS OF BULK AT MOST 1048576: true; the input reads as it did. -/
def strutBetweenUptoRow : OpenClaim := { program := "ytajmmnmagbnigaa", sum := "f40b2b3073c8031e1ef7352aba6fe09885ea1a36e8c43e69126e4eb2f652b645", func := "wainscot/wainscotlaw19.StrutBetween", spec := "strutBetween", unfollowed := true, recurses := true, apart := false, narrowed := true }
def StrutBetweenUptoSaid : Prop := strutBetweenUptoRow.holds Try.pinned (OpenSpec.upto strutBetweenSpec)

/-- 'wainscotlaw19.StrutClosed', WHERE WHAT IT READS IS OF BULK AT MOST 1048576: true; the input reads as it did. -/
def strutClosedUptoRow : OpenClaim := { program := "ytajmmnmagbnigaa", sum := "f40b2b3073c8031e1ef7352aba6fe09885ea1a36e8c43e69126e4eb2f652b645", func := "wainscot/wainscotlaw19.StrutClosed", spec := "strutClosed", unfollowed := true, recurses := true, apart := false, narrowed := true }
def StrutClosedUptoSaid : Prop := strutClosedUptoRow.holds Try.pinned (OpenSpec.upto strutClosedSpec)

/-- 'wainscotlaw19.StrutGreatest', WHERE WHAT IT READS IS OF BULK AT MOST 1048576: true; the input reads as it did. -/
def strutGreatestUptoRow : OpenClaim := { program := "ytajmmnmagbnigaa", sum := "f40b2b3073c8031e1ef7352aba6fe09885ea1a36e8c43e69126e4eb2f652b645", func := "wainscot/wainscotlaw19.StrutGreatest", spec := "strutGreatest", unfollowed := true, recurses := true, apart := false, narrowed := true }
def StrutGreatestUptoSaid : Prop := strutGreatestUptoRow.holds Try.pinned (OpenSpec.upto strutGreatestSpec)

end Rows
end Go.Proofs.Ytajmmnmagbnigaa
