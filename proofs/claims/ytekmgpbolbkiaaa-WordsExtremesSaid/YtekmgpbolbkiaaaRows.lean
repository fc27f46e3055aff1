/-
  No cell of these rows narrows 'for every input' (looked for: loops, veiled, ifaces, maps, wideKeys, modest, calm, conditions, laid).
  DERIVED. THE GIVEN ROWS OF THIS SEAT. 6 by the template 'for every input the law returns true; each argument reads behind the call as it read before'; 0 by the template 'total and deterministic' (their statements: YtekmgpbolbkiaaaTotals.lean).
  GIVEN WITH THE SEED: the statements are not yours to turn. If you find one false, say at which input.
  Laid BY PROGRAM, IN A SANDBOX (cutbox-rows.mjs): the forced cells as the released guide's own fill.sh prints them over the translation 6b5314a0874f0822… (all of the seat's roots in one cut). By AI agents, Wed Nov 11 2026. No macro, syntax, notation, axiom, sorry.
-/
import Derived.Test.YtekmgpbolbkiaaaChecked
import GoSem.Claim
import GoSem.ClaimJoined
import GoSem.ClaimMapViews
import Derived.JoinedTies
import Derived.KernelRfl
namespace Go.Proofs.Ytekmgpbolbkiaaa
/- THE CELL 'sum', in the pinned program and in every row, IS THE sha256 OF THE DUMP (.gsa) THAT YtekmgpbolbkiaaaProg.lean LOADS. Nothing in Lean hashes anything: it is a label: what it is worth is what the hold of that sum in a sandbox is worth. -/
noncomputable def Try.pinned : Pinned := { name := "ytekmgpbolbkiaaa", sum := "6b5314a0874f08228fdd91a6f34a224272593302043ab035a5dffa521e0c0ece", checked := Try.checked }
namespace Rows
def none {H : Type} : Left H := { results := [], args := [] }

/-- 'wainscotlaw18.WordsSplit': WHATEVER THE INPUT: true; the input reads as it did. -/
def wordsSplitSpec : ChangeSpec := { name := "wordsSplit", fn := fun _ => fun
  | [d1, d2] => { results := [.lit (.bool true)], args := [d1, d2] }
  | _ => none }
def wordsSplitRow : OpenClaim := { program := "ytekmgpbolbkiaaa", sum := "6b5314a0874f08228fdd91a6f34a224272593302043ab035a5dffa521e0c0ece", func := "wainscot/wainscotlaw18.WordsSplit", spec := "wordsSplit", recurses := true, apart := false }
def WordsSplitSaid : Prop := wordsSplitRow.holds Try.pinned (OpenSpec.ofChange wordsSplitSpec)

/-- ITS FALSE NEIGHBOUR: 'it returns false'. Refute it at one input. -/
def wordsSplitWrong : ChangeSpec := { name := "wordsSplit", fn := fun _ => fun
  | [d1, d2] => { results := [.lit (.bool false)], args := [d1, d2] }
  | _ => none }
def WordsSplitWrongFalsely : Prop := wordsSplitRow.holds Try.pinned (OpenSpec.ofChange wordsSplitWrong)

/-- 'wainscotlaw18.WordsAdvance': WHATEVER THE INPUT: true; the input reads as it did. -/
def wordsAdvanceSpec : ChangeSpec := { name := "wordsAdvance", fn := fun _ => fun
  | [d] => { results := [.lit (.bool true)], args := [d] }
  | _ => none }
def wordsAdvanceRow : OpenClaim := { program := "ytekmgpbolbkiaaa", sum := "6b5314a0874f08228fdd91a6f34a224272593302043ab035a5dffa521e0c0ece", func := "wainscot/wainscotlaw18.WordsAdvance", spec := "wordsAdvance", apart := false }
def WordsAdvanceSaid : Prop := wordsAdvanceRow.holds Try.pinned (OpenSpec.ofChange wordsAdvanceSpec)

/-- ITS FALSE NEIGHBOUR: 'it returns false'. Refute it at one input. -/
def wordsAdvanceWrong : ChangeSpec := { name := "wordsAdvance", fn := fun _ => fun
  | [d] => { results := [.lit (.bool false)], args := [d] }
  | _ => none }
def WordsAdvanceWrongFalsely : Prop := wordsAdvanceRow.holds Try.pinned (OpenSpec.ofChange wordsAdvanceWrong)

/-- 'wainscotlaw18.WordsBreak': WHATEVER THE INPUT: true; the input reads as it did. -/
def wordsBreakSpec : ChangeSpec := { name := "wordsBreak", fn := fun _ => fun
  | [d1, d2, d3] => { results := [.lit (.bool true)], args := [d1, d2, d3] }
  | _ => none }
def wordsBreakRow : OpenClaim := { program := "ytekmgpbolbkiaaa", sum := "6b5314a0874f08228fdd91a6f34a224272593302043ab035a5dffa521e0c0ece", func := "wainscot/wainscotlaw18.WordsBreak", spec := "wordsBreak", recurses := true, apart := false }
def WordsBreakSaid : Prop := wordsBreakRow.holds Try.pinned (OpenSpec.ofChange wordsBreakSpec)

/-- ITS FALSE NEIGHBOUR: 'it returns false'. Refute it at one input. -/
def wordsBreakWrong : ChangeSpec := { name := "wordsBreak", fn := fun _ => fun
  | [d1, d2, d3] => { results := [.lit (.bool false)], args := [d1, d2, d3] }
  | _ => none }
def WordsBreakWrongFalsely : Prop := wordsBreakRow.holds Try.pinned (OpenSpec.ofChange wordsBreakWrong)

/-- 'wainscotlaw18.WordsLies': WHATEVER THE INPUT: true; the input reads as it did. -/
def wordsLiesSpec : ChangeSpec := { name := "wordsLies", fn := fun _ => fun
  | [d1, d2, d3] => { results := [.lit (.bool true)], args := [d1, d2, d3] }
  | _ => none }
def wordsLiesRow : OpenClaim := { program := "ytekmgpbolbkiaaa", sum := "6b5314a0874f08228fdd91a6f34a224272593302043ab035a5dffa521e0c0ece", func := "wainscot/wainscotlaw18.WordsLies", spec := "wordsLies", apart := false }
def WordsLiesSaid : Prop := wordsLiesRow.holds Try.pinned (OpenSpec.ofChange wordsLiesSpec)

/-- ITS FALSE NEIGHBOUR: 'it returns false'. Refute it at one input. -/
def wordsLiesWrong : ChangeSpec := { name := "wordsLies", fn := fun _ => fun
  | [d1, d2, d3] => { results := [.lit (.bool false)], args := [d1, d2, d3] }
  | _ => none }
def WordsLiesWrongFalsely : Prop := wordsLiesRow.holds Try.pinned (OpenSpec.ofChange wordsLiesWrong)

/-- 'wainscotlaw18.WordsRoom': WHATEVER THE INPUT: true; the input reads as it did. -/
def wordsRoomSpec : ChangeSpec := { name := "wordsRoom", fn := fun _ => fun
  | [d1, d2, d3, d4] => { results := [.lit (.bool true)], args := [d1, d2, d3, d4] }
  | _ => none }
def wordsRoomRow : OpenClaim := { program := "ytekmgpbolbkiaaa", sum := "6b5314a0874f08228fdd91a6f34a224272593302043ab035a5dffa521e0c0ece", func := "wainscot/wainscotlaw18.WordsRoom", spec := "wordsRoom", apart := false }
def WordsRoomSaid : Prop := wordsRoomRow.holds Try.pinned (OpenSpec.ofChange wordsRoomSpec)

/-- ITS FALSE NEIGHBOUR: 'it returns false'. Refute it at one input. -/
def wordsRoomWrong : ChangeSpec := { name := "wordsRoom", fn := fun _ => fun
  | [d1, d2, d3, d4] => { results := [.lit (.bool false)], args := [d1, d2, d3, d4] }
  | _ => none }
def WordsRoomWrongFalsely : Prop := wordsRoomRow.holds Try.pinned (OpenSpec.ofChange wordsRoomWrong)

/-- 'wainscotlaw18.WordsExtremes': WHATEVER THE INPUT: true; the input reads as it did. -/
def wordsExtremesSpec : ChangeSpec := { name := "wordsExtremes", fn := fun _ => fun
  | [d1, d2, d3, d4] => { results := [.lit (.bool true)], args := [d1, d2, d3, d4] }
  | _ => none }
def wordsExtremesRow : OpenClaim := { program := "ytekmgpbolbkiaaa", sum := "6b5314a0874f08228fdd91a6f34a224272593302043ab035a5dffa521e0c0ece", func := "wainscot/wainscotlaw18.WordsExtremes", spec := "wordsExtremes", recurses := true, apart := false }
def WordsExtremesSaid : Prop := wordsExtremesRow.holds Try.pinned (OpenSpec.ofChange wordsExtremesSpec)

/-- ITS FALSE NEIGHBOUR: 'it returns false'. Refute it at one input. -/
def wordsExtremesWrong : ChangeSpec := { name := "wordsExtremes", fn := fun _ => fun
  | [d1, d2, d3, d4] => { results := [.lit (.bool false)], args := [d1, d2, d3, d4] }
  | _ => none }
def WordsExtremesWrongFalsely : Prop := wordsExtremesRow.holds Try.pinned (OpenSpec.ofChange wordsExtremesWrong)

/- THE SECOND FORM. 'bulk': how many values and letters a reading holds, each counted each time it is reached (what is shared counts as often as it is met; a slice's spare places count too). A statement '..UptoSaid' is the law's where the arguments, and the package variables that the reading takes, are together of bulk at most 1048576: NARROWER than '..Said'. Prove '..Said' where nothing that the law and all that it calls make is longer than what came in: it says more and counts as full. Else prove '..UptoSaid'. A law counts once. -/
mutual
def uptoBulk {H : Type} : DataW H → Nat
  | .lit (.string bytes) => bytes.length + 1
  | .lit _ => 1
  | .nil => 1
  | .ptr d => uptoBulk d + 1
  | .slice elems spare => uptoBulkAll elems + uptoBulkAll spare + 1
  | .agg parts => uptoBulkAll parts + 1
  | .iface _ d => uptoBulk d + 1
  | .map entries => uptoBulkEntries entries + 1
  | .held _ => 1
def uptoBulkAll {H : Type} : List (DataW H) → Nat
  | [] => 0
  | d :: r => uptoBulk d + uptoBulkAll r
def uptoBulkEntries {H : Type} : List (Lit × DataW H) → Nat
  | [] => 0
  | x :: r => uptoBulkEntry x + uptoBulkEntries r
def uptoBulkEntry {H : Type} : Lit × DataW H → Nat
  | (.string bytes, d) => bytes.length + uptoBulk d + 1
  | (_, d) => uptoBulk d + 1
 end
def uptoSmall : (H : Type) → List (DataW H) → Bool := fun _ ds => decide (uptoBulkAll ds ≤ 1048576)
def OpenSpec.upto (s : _root_.Go.ChangeSpec) : _root_.Go.OpenSpec := { _root_.Go.OpenSpec.ofChange s with cond := some uptoSmall }

/-- 'wainscotlaw18.WordsSplit', WHERE WHAT IT READS IS OF BULK AT MOST 1048576: true; the input reads as it did. -/
def wordsSplitUptoRow : OpenClaim := { program := "ytekmgpbolbkiaaa", sum := "6b5314a0874f08228fdd91a6f34a224272593302043ab035a5dffa521e0c0ece", func := "wainscot/wainscotlaw18.WordsSplit", spec := "wordsSplit", recurses := true, apart := false, narrowed := true }
def WordsSplitUptoSaid : Prop := wordsSplitUptoRow.holds Try.pinned (OpenSpec.upto wordsSplitSpec)

/-- 'wainscotlaw18.WordsAdvance', WHERE WHAT IT READS IS OF BULK AT MOST 1048576: true; the input reads as it did. -/
def wordsAdvanceUptoRow : OpenClaim := { program := "ytekmgpbolbkiaaa", sum := "6b5314a0874f08228fdd91a6f34a224272593302043ab035a5dffa521e0c0ece", func := "wainscot/wainscotlaw18.WordsAdvance", spec := "wordsAdvance", apart := false, narrowed := true }
def WordsAdvanceUptoSaid : Prop := wordsAdvanceUptoRow.holds Try.pinned (OpenSpec.upto wordsAdvanceSpec)

/-- 'wainscotlaw18.WordsBreak', WHERE WHAT IT READS IS OF BULK AT MOST 1048576: true; the input reads as it did. -/
def wordsBreakUptoRow : OpenClaim := { program := "ytekmgpbolbkiaaa", sum := "6b5314a0874f08228fdd91a6f34a224272593302043ab035a5dffa521e0c0ece", func := "wainscot/wainscotlaw18.WordsBreak", spec := "wordsBreak", recurses := true, apart := false, narrowed := true }
def WordsBreakUptoSaid : Prop := wordsBreakUptoRow.holds Try.pinned (OpenSpec.upto wordsBreakSpec)

/-- 'wainscotlaw18.WordsLies', WHERE WHAT IT READS IS OF BULK AT MOST 1048576: true; the input reads as it did. -/
def wordsLiesUptoRow : OpenClaim := { program := "ytekmgpbolbkiaaa", sum := "6b5314a0874f08228fdd91a6f34a224272593302043ab035a5dffa521e0c0ece", func := "wainscot/wainscotlaw18.WordsLies", spec := "wordsLies", apart := false, narrowed := true }
def WordsLiesUptoSaid : Prop := wordsLiesUptoRow.holds Try.pinned (OpenSpec.upto wordsLiesSpec)

/-- 'wainscotlaw18.WordsRoom', WHERE WHAT IT READS IS OF BULK AT MOST 1048576: true; the input reads as it did. -/
def wordsRoomUptoRow : OpenClaim := { program := "ytekmgpbolbkiaaa", sum := "6b5314a0874f08228fdd91a6f34a224272593302043ab035a5dffa521e0c0ece", func := "wainscot/wainscotlaw18.WordsRoom", spec := "wordsRoom", apart := false, narrowed := true }
def WordsRoomUptoSaid : Prop := wordsRoomUptoRow.holds Try.pinned (OpenSpec.upto wordsRoomSpec)

/-- 'wainscotlaw18.WordsExtremes', WHERE WHAT IT READS IS OF BULK AT MOST 1048576: true; the input reads as it did. -/
def wordsExtremesUptoRow : OpenClaim := { program := "ytekmgpbolbkiaaa", sum := "6b5314a0874f08228fdd91a6f34a224272593302043ab035a5dffa521e0c0ece", func := "wainscot/wainscotlaw18.WordsExtremes", spec := "wordsExtremes", recurses := true, apart := false, narrowed := true }
def WordsExtremesUptoSaid : Prop := wordsExtremesUptoRow.holds Try.pinned (OpenSpec.upto wordsExtremesSpec)

end Rows
end Go.Proofs.Ytekmgpbolbkiaaa
