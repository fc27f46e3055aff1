/-
  No cell of these rows narrows 'for every input' (looked for: loops, veiled, ifaces, maps, wideKeys, modest, calm, conditions, laid).
  DERIVED. THE GIVEN ROWS OF THIS SEAT. 6 by the template 'for every input the law returns true; each argument reads behind the call as it read before'; 0 by the template 'total and deterministic' (their statements: YthfabalnioggcaaTotals.lean).
  GIVEN WITH THE SEED: the statements are not yours to turn. If you find one false, say at which input.
  Laid BY PROGRAM, IN A SANDBOX (cutbox-rows.mjs): the forced cells as the released guide's own fill.sh prints them over the translation 1e3a5e5ad9c841f4… (all of the seat's roots in one cut). By AI agents, Wed Nov 11 2026. No macro, syntax, notation, axiom, sorry.
-/
import Derived.Test.YthfabalnioggcaaChecked
import GoSem.Claim
import GoSem.ClaimJoined
import GoSem.ClaimMapViews
import Derived.JoinedTies
import Derived.KernelRfl
namespace Go.Proofs.Ythfabalnioggcaa
/- THE CELL 'sum', in the pinned program and in every row, IS THE sha256 OF THE DUMP (.gsa) THAT YthfabalnioggcaaProg.lean LOADS. Nothing in Lean hashes anything: it is a label: what it is worth is what the hold of that sum in a sandbox is worth. -/
noncomputable def Try.pinned : Pinned := { name := "ythfabalnioggcaa", sum := "1e3a5e5ad9c841f4c2ce979af638292b24b6214255ed71a077f552e686618e0c", checked := Try.checked }
namespace Rows
def none {H : Type} : Left H := { results := [], args := [] }

/-- 'wainscotlaw20.SizingFrames': WHATEVER THE INPUT: true; the input reads as it did. -/
def sizingFramesSpec : ChangeSpec := { name := "sizingFrames", fn := fun _ => fun
  | [d] => { results := [.lit (.bool true)], args := [d] }
  | _ => none }
def sizingFramesRow : OpenClaim := { program := "ythfabalnioggcaa", sum := "1e3a5e5ad9c841f4c2ce979af638292b24b6214255ed71a077f552e686618e0c", func := "wainscot/wainscotlaw20.SizingFrames", spec := "sizingFrames", unfollowed := true, recurses := true, apart := false }
def SizingFramesSaid : Prop := sizingFramesRow.holds Try.pinned (OpenSpec.ofChange sizingFramesSpec)

/-- ITS FALSE NEIGHBOUR: 'it returns false'. Refute it at one input. -/
def sizingFramesWrong : ChangeSpec := { name := "sizingFrames", fn := fun _ => fun
  | [d] => { results := [.lit (.bool false)], args := [d] }
  | _ => none }
def SizingFramesWrongFalsely : Prop := sizingFramesRow.holds Try.pinned (OpenSpec.ofChange sizingFramesWrong)

/-- 'wainscotlaw20.SizingKeeps': WHATEVER THE INPUT: true; the input reads as it did. -/
def sizingKeepsSpec : ChangeSpec := { name := "sizingKeeps", fn := fun _ => fun
  | [d1, d2, d3] => { results := [.lit (.bool true)], args := [d1, d2, d3] }
  | _ => none }
def sizingKeepsRow : OpenClaim := { program := "ythfabalnioggcaa", sum := "1e3a5e5ad9c841f4c2ce979af638292b24b6214255ed71a077f552e686618e0c", func := "wainscot/wainscotlaw20.SizingKeeps", spec := "sizingKeeps", unfollowed := true, recurses := true, apart := false }
def SizingKeepsSaid : Prop := sizingKeepsRow.holds Try.pinned (OpenSpec.ofChange sizingKeepsSpec)

/-- ITS FALSE NEIGHBOUR: 'it returns false'. Refute it at one input. -/
def sizingKeepsWrong : ChangeSpec := { name := "sizingKeeps", fn := fun _ => fun
  | [d1, d2, d3] => { results := [.lit (.bool false)], args := [d1, d2, d3] }
  | _ => none }
def SizingKeepsWrongFalsely : Prop := sizingKeepsRow.holds Try.pinned (OpenSpec.ofChange sizingKeepsWrong)

/-- 'wainscotlaw20.SizingSays': WHATEVER THE INPUT: true; the input reads as it did. -/
def sizingSaysSpec : ChangeSpec := { name := "sizingSays", fn := fun _ => fun
  | [d1, d2] => { results := [.lit (.bool true)], args := [d1, d2] }
  | _ => none }
def sizingSaysRow : OpenClaim := { program := "ythfabalnioggcaa", sum := "1e3a5e5ad9c841f4c2ce979af638292b24b6214255ed71a077f552e686618e0c", func := "wainscot/wainscotlaw20.SizingSays", spec := "sizingSays", unfollowed := true, recurses := true, apart := false }
def SizingSaysSaid : Prop := sizingSaysRow.holds Try.pinned (OpenSpec.ofChange sizingSaysSpec)

/-- ITS FALSE NEIGHBOUR: 'it returns false'. Refute it at one input. -/
def sizingSaysWrong : ChangeSpec := { name := "sizingSays", fn := fun _ => fun
  | [d1, d2] => { results := [.lit (.bool false)], args := [d1, d2] }
  | _ => none }
def SizingSaysWrongFalsely : Prop := sizingSaysRow.holds Try.pinned (OpenSpec.ofChange sizingSaysWrong)

/-- 'wainscotlaw20.SizingHigh': WHATEVER THE INPUT: true; the input reads as it did. -/
def sizingHighSpec : ChangeSpec := { name := "sizingHigh", fn := fun _ => fun
  | [d1, d2, d3] => { results := [.lit (.bool true)], args := [d1, d2, d3] }
  | _ => none }
def sizingHighRow : OpenClaim := { program := "ythfabalnioggcaa", sum := "1e3a5e5ad9c841f4c2ce979af638292b24b6214255ed71a077f552e686618e0c", func := "wainscot/wainscotlaw20.SizingHigh", spec := "sizingHigh", unfollowed := true, recurses := true, apart := false }
def SizingHighSaid : Prop := sizingHighRow.holds Try.pinned (OpenSpec.ofChange sizingHighSpec)

/-- ITS FALSE NEIGHBOUR: 'it returns false'. Refute it at one input. -/
def sizingHighWrong : ChangeSpec := { name := "sizingHigh", fn := fun _ => fun
  | [d1, d2, d3] => { results := [.lit (.bool false)], args := [d1, d2, d3] }
  | _ => none }
def SizingHighWrongFalsely : Prop := sizingHighRow.holds Try.pinned (OpenSpec.ofChange sizingHighWrong)

/-- 'wainscotlaw20.SizingLeast': WHATEVER THE INPUT: true; the input reads as it did. -/
def sizingLeastSpec : ChangeSpec := { name := "sizingLeast", fn := fun _ => fun
  | [d1, d2, d3] => { results := [.lit (.bool true)], args := [d1, d2, d3] }
  | _ => none }
def sizingLeastRow : OpenClaim := { program := "ythfabalnioggcaa", sum := "1e3a5e5ad9c841f4c2ce979af638292b24b6214255ed71a077f552e686618e0c", func := "wainscot/wainscotlaw20.SizingLeast", spec := "sizingLeast", unfollowed := true, recurses := true, apart := false }
def SizingLeastSaid : Prop := sizingLeastRow.holds Try.pinned (OpenSpec.ofChange sizingLeastSpec)

/-- ITS FALSE NEIGHBOUR: 'it returns false'. Refute it at one input. -/
def sizingLeastWrong : ChangeSpec := { name := "sizingLeast", fn := fun _ => fun
  | [d1, d2, d3] => { results := [.lit (.bool false)], args := [d1, d2, d3] }
  | _ => none }
def SizingLeastWrongFalsely : Prop := sizingLeastRow.holds Try.pinned (OpenSpec.ofChange sizingLeastWrong)

/-- 'wainscotlaw20.SizingBorder': WHATEVER THE INPUT: true; the input reads as it did. -/
def sizingBorderSpec : ChangeSpec := { name := "sizingBorder", fn := fun _ => fun
  | [d1, d2] => { results := [.lit (.bool true)], args := [d1, d2] }
  | _ => none }
def sizingBorderRow : OpenClaim := { program := "ythfabalnioggcaa", sum := "1e3a5e5ad9c841f4c2ce979af638292b24b6214255ed71a077f552e686618e0c", func := "wainscot/wainscotlaw20.SizingBorder", spec := "sizingBorder", unfollowed := true, recurses := true, apart := false }
def SizingBorderSaid : Prop := sizingBorderRow.holds Try.pinned (OpenSpec.ofChange sizingBorderSpec)

/-- ITS FALSE NEIGHBOUR: 'it returns false'. Refute it at one input. -/
def sizingBorderWrong : ChangeSpec := { name := "sizingBorder", fn := fun _ => fun
  | [d1, d2] => { results := [.lit (.bool false)], args := [d1, d2] }
  | _ => none }
def SizingBorderWrongFalsely : Prop := sizingBorderRow.holds Try.pinned (OpenSpec.ofChange sizingBorderWrong)

/- THE SECOND FORM. 'bulk': how many values and letters a reading holds, each counted each time it is reached (what is shared counts as often as it is met; a slice's spare places count too). A statement '..UptoSaid' is the law's where the arguments, and the package variables that the reading takes, are together of bulk at most 1048576: NARROWER than '..Said'. Prove '..Said' where nothing that the law and all that it calls make is longer than what came in: it says more and counts as full. Else prove '..UptoSaid'. A law counts once. -/
mutual
def uptoBulk {H : Type} : DataW H → Nat
  | .lit (.string bytes) => bytes.length + 1
  | .lit _ => 1
  | .nil => 1
  | .ptr d => uptoBulk d + 1
  | .slice elems spare => uptoBulkAll elems + uptoBulkAll spare + 1
  | .agg parts => uptoBulkAll parts + 1
  | .iface _ d => uptoBulk d + 1
  | .map entries => uptoBulkEntries entries + 1
  | .held _ => 1
def uptoBulkAll {H : Type} : List (DataW H) → Nat
  | [] => 0
  | d :: r => uptoBulk d + uptoBulkAll r
def uptoBulkEntries {H : Type} : List (Lit × DataW H) → Nat
  | [] => 0
  | x :: r => uptoBulkEntry x + uptoBulkEntries r
def uptoBulkEntry {H : Type} : Lit × DataW H → Nat
  | (.string bytes, d) => bytes.length + uptoBulk d + 1
  | (_, d) => uptoBulk d + 1
 end
def uptoSmall : (H : Type) → List (DataW H) → Bool := fun _ ds => decide (uptoBulkAll ds ≤ 1048576)
def OpenSpec.upto (s : _root_.Go.ChangeSpec) : _root_.Go.OpenSpec := { _root_.Go.OpenSpec.ofChange s with cond := some uptoSmall }

/-- 'wainscotlaw20.SizingFrames', WHERE WHAT IT READS IS OF BULK AT MOST 1048576: true; the input reads as it did. -/
def sizingFramesUptoRow : OpenClaim := { program := "ythfabalnioggcaa", sum := "1e3a5e5ad9c841f4c2ce979af638292b24b6214255ed71a077f552e686618e0c", func := "wainscot/wainscotlaw20.SizingFrames", spec := "sizingFrames", unfollowed := true, recurses := true, apart := false, narrowed := true }
def SizingFramesUptoSaid : Prop := sizingFramesUptoRow.holds Try.pinned (OpenSpec.upto sizingFramesSpec)

/-- 'wainscotlaw20.SizingKeeps', WHERE WHAT IT READS IS OF BULK AT MOST 1048576: true; the input reads as it did. -/
def sizingKeepsUptoRow : OpenClaim := { program := "ythfabalnioggcaa", sum := "1e3a5e5ad9c841f4c2ce979af638292b24b6214255ed71a077f552e686618e0c", func := "wainscot/wainscotlaw20.SizingKeeps", spec := "sizingKeeps", unfollowed := true, recurses := true, apart := false, narrowed := true }
def SizingKeepsUptoSaid : Prop := sizingKeepsUptoRow.holds Try.pinned (OpenSpec.upto sizingKeepsSpec)

/-- 'wainscotlaw20.SizingSays', WHERE WHAT IT READS IS OF BULK AT MOST 1048576: true; the input reads as it did. -/
def sizingSaysUptoRow : OpenClaim := { program := "ythfabalnioggcaa", sum := "1e3a5e5ad9c841f4c2ce979af638292b24b6214255ed71a077f552e686618e0c", func := "wainscot/wainscotlaw20.SizingSays", spec := "sizingSays", unfollowed := true, recurses := true, apart := false, narrowed := true }
def SizingSaysUptoSaid : Prop := sizingSaysUptoRow.holds Try.pinned (OpenSpec.upto sizingSaysSpec)

/-- 'wainscotlaw20.SizingHigh', WHERE WHAT IT READS IS OF BULK AT MOST 1048576: true; the input reads as it did. -/
def sizingHighUptoRow : OpenClaim := { program := "ythfabalnioggcaa", sum := "1e3a5e5ad9c841f4c2ce979af638292b24b6214255ed71a077f552e686618e0c", func := "wainscot/wainscotlaw20.SizingHigh", spec := "sizingHigh", unfollowed := true, recurses := true, apart := false, narrowed := true }
def SizingHighUptoSaid : Prop := sizingHighUptoRow.holds Try.pinned (OpenSpec.upto sizingHighSpec)

/-- 'wainscotlaw20.SizingLeast', WHERE WHAT IT READS IS OF BULK AT MOST 1048576: true; the input reads as it did. -/
def sizingLeastUptoRow : OpenClaim := { program := "ythfabalnioggcaa", sum := "1e3a5e5ad9c841f4c2ce979af638292b24b6214255ed71a077f552e686618e0c", func := "wainscot/wainscotlaw20.SizingLeast", spec := "sizingLeast", unfollowed := true, recurses := true, apart := false, narrowed := true }
def SizingLeastUptoSaid : Prop := sizingLeastUptoRow.holds Try.pinned (OpenSpec.upto sizingLeastSpec)

/-- 'wainscotlaw20.SizingBorder', WHERE WHAT IT READS IS OF BULK AT MOST 1048576: true; the input reads as it did. -/
def sizingBorderUptoRow : OpenClaim := { program := "ythfabalnioggcaa", sum := "1e3a5e5ad9c841f4c2ce979af638292b24b6214255ed71a077f552e686618e0c", func := "wainscot/wainscotlaw20.SizingBorder", spec := "sizingBorder", unfollowed := true, recurses := true, apart := false, narrowed := true }
def SizingBorderUptoSaid : Prop := sizingBorderUptoRow.holds Try.pinned (OpenSpec.upto sizingBorderSpec)

end Rows
end Go.Proofs.Ythfabalnioggcaa
