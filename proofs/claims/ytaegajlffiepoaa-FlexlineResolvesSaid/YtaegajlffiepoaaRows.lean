/-
  No cell of these rows narrows 'for every input' (looked for: loops, veiled, ifaces, maps, wideKeys, modest, calm, conditions, laid).
  DERIVED. THE GIVEN ROWS OF THIS SEAT. 6 by the template 'for every input the law returns true; each argument reads behind the call as it read before'; 0 by the template 'total and deterministic' (their statements: YtaegajlffiepoaaTotals.lean).
  GIVEN WITH THE SEED: the statements are not yours to turn. If you find one false, say at which input.
  Laid BY PROGRAM, IN A SANDBOX (cutbox-rows.mjs): the forced cells as the released guide's own fill.sh prints them over the translation 3b4778f2f0039501… (all of the seat's roots in one cut). By AI agents, Wed Nov 11 2026. No macro, syntax, notation, axiom, sorry.
-/
import Derived.Test.YtaegajlffiepoaaChecked
import GoSem.Claim
import GoSem.ClaimJoined
import GoSem.ClaimMapViews
import Derived.JoinedTies
import Derived.KernelRfl
namespace Go.Proofs.Ytaegajlffiepoaa
/- THE CELL 'sum', in the pinned program and in every row, IS THE sha256 OF THE DUMP (.gsa) THAT YtaegajlffiepoaaProg.lean LOADS. Nothing in Lean hashes anything: it is a label: what it is worth is what the hold of that sum in a sandbox is worth. -/
noncomputable def Try.pinned : Pinned := { name := "ytaegajlffiepoaa", sum := "3b4778f2f00395015fa5bf5453d7cdd7954d5e05acd7b8e3a1a06897c9ba1687", checked := Try.checked }
namespace Rows
def none {H : Type} : Left H := { results := [], args := [] }

/-- 'wainscotlaw21.FlexlineResolves': WHATEVER THE INPUT: true; the input reads as it did. -/
def flexlineResolvesSpec : ChangeSpec := { name := "flexlineResolves", fn := fun _ => fun
  | [d1, d2] => { results := [.lit (.bool true)], args := [d1, d2] }
  | _ => none }
def flexlineResolvesRow : OpenClaim := { program := "ytaegajlffiepoaa", sum := "3b4778f2f00395015fa5bf5453d7cdd7954d5e05acd7b8e3a1a06897c9ba1687", func := "wainscot/wainscotlaw21.FlexlineResolves", spec := "flexlineResolves", unfollowed := true, recurses := true, apart := false }
def FlexlineResolvesSaid : Prop := flexlineResolvesRow.holds Try.pinned (OpenSpec.ofChange flexlineResolvesSpec)

/-- ITS FALSE NEIGHBOUR: 'it returns false'. Refute it at one input. -/
def flexlineResolvesWrong : ChangeSpec := { name := "flexlineResolves", fn := fun _ => fun
  | [d1, d2] => { results := [.lit (.bool false)], args := [d1, d2] }
  | _ => none }
def FlexlineResolvesWrongFalsely : Prop := flexlineResolvesRow.holds Try.pinned (OpenSpec.ofChange flexlineResolvesWrong)

/-- 'wainscotlaw21.FlexlineWishes': WHATEVER THE INPUT: true; the input reads as it did. -/
def flexlineWishesSpec : ChangeSpec := { name := "flexlineWishes", fn := fun _ => fun
  | [d1, d2] => { results := [.lit (.bool true)], args := [d1, d2] }
  | _ => none }
def flexlineWishesRow : OpenClaim := { program := "ytaegajlffiepoaa", sum := "3b4778f2f00395015fa5bf5453d7cdd7954d5e05acd7b8e3a1a06897c9ba1687", func := "wainscot/wainscotlaw21.FlexlineWishes", spec := "flexlineWishes", unfollowed := true, recurses := true, apart := false }
def FlexlineWishesSaid : Prop := flexlineWishesRow.holds Try.pinned (OpenSpec.ofChange flexlineWishesSpec)

/-- ITS FALSE NEIGHBOUR: 'it returns false'. Refute it at one input. -/
def flexlineWishesWrong : ChangeSpec := { name := "flexlineWishes", fn := fun _ => fun
  | [d1, d2] => { results := [.lit (.bool false)], args := [d1, d2] }
  | _ => none }
def FlexlineWishesWrongFalsely : Prop := flexlineWishesRow.holds Try.pinned (OpenSpec.ofChange flexlineWishesWrong)

/-- 'wainscotlaw21.FlexlineWithin': WHATEVER THE INPUT: true; the input reads as it did. -/
def flexlineWithinSpec : ChangeSpec := { name := "flexlineWithin", fn := fun _ => fun
  | [d1, d2] => { results := [.lit (.bool true)], args := [d1, d2] }
  | _ => none }
def flexlineWithinRow : OpenClaim := { program := "ytaegajlffiepoaa", sum := "3b4778f2f00395015fa5bf5453d7cdd7954d5e05acd7b8e3a1a06897c9ba1687", func := "wainscot/wainscotlaw21.FlexlineWithin", spec := "flexlineWithin", unfollowed := true, recurses := true, apart := false }
def FlexlineWithinSaid : Prop := flexlineWithinRow.holds Try.pinned (OpenSpec.ofChange flexlineWithinSpec)

/-- ITS FALSE NEIGHBOUR: 'it returns false'. Refute it at one input. -/
def flexlineWithinWrong : ChangeSpec := { name := "flexlineWithin", fn := fun _ => fun
  | [d1, d2] => { results := [.lit (.bool false)], args := [d1, d2] }
  | _ => none }
def FlexlineWithinWrongFalsely : Prop := flexlineWithinRow.holds Try.pinned (OpenSpec.ofChange flexlineWithinWrong)

/-- 'wainscotlaw21.FlexlineRounds': WHATEVER THE INPUT: true; the input reads as it did. -/
def flexlineRoundsSpec : ChangeSpec := { name := "flexlineRounds", fn := fun _ => fun
  | [d1, d2] => { results := [.lit (.bool true)], args := [d1, d2] }
  | _ => none }
def flexlineRoundsRow : OpenClaim := { program := "ytaegajlffiepoaa", sum := "3b4778f2f00395015fa5bf5453d7cdd7954d5e05acd7b8e3a1a06897c9ba1687", func := "wainscot/wainscotlaw21.FlexlineRounds", spec := "flexlineRounds", unfollowed := true, recurses := true, apart := false }
def FlexlineRoundsSaid : Prop := flexlineRoundsRow.holds Try.pinned (OpenSpec.ofChange flexlineRoundsSpec)

/-- ITS FALSE NEIGHBOUR: 'it returns false'. Refute it at one input. -/
def flexlineRoundsWrong : ChangeSpec := { name := "flexlineRounds", fn := fun _ => fun
  | [d1, d2] => { results := [.lit (.bool false)], args := [d1, d2] }
  | _ => none }
def FlexlineRoundsWrongFalsely : Prop := flexlineRoundsRow.holds Try.pinned (OpenSpec.ofChange flexlineRoundsWrong)

/-- 'wainscotlaw21.FlexlineFills': WHATEVER THE INPUT: true; the input reads as it did. -/
def flexlineFillsSpec : ChangeSpec := { name := "flexlineFills", fn := fun _ => fun
  | [d1, d2] => { results := [.lit (.bool true)], args := [d1, d2] }
  | _ => none }
def flexlineFillsRow : OpenClaim := { program := "ytaegajlffiepoaa", sum := "3b4778f2f00395015fa5bf5453d7cdd7954d5e05acd7b8e3a1a06897c9ba1687", func := "wainscot/wainscotlaw21.FlexlineFills", spec := "flexlineFills", unfollowed := true, recurses := true, apart := false }
def FlexlineFillsSaid : Prop := flexlineFillsRow.holds Try.pinned (OpenSpec.ofChange flexlineFillsSpec)

/-- ITS FALSE NEIGHBOUR: 'it returns false'. Refute it at one input. -/
def flexlineFillsWrong : ChangeSpec := { name := "flexlineFills", fn := fun _ => fun
  | [d1, d2] => { results := [.lit (.bool false)], args := [d1, d2] }
  | _ => none }
def FlexlineFillsWrongFalsely : Prop := flexlineFillsRow.holds Try.pinned (OpenSpec.ofChange flexlineFillsWrong)

/-- 'wainscotlaw21.FlexlineMore': WHATEVER THE INPUT: true; the input reads as it did. -/
def flexlineMoreSpec : ChangeSpec := { name := "flexlineMore", fn := fun _ => fun
  | [d1, d2, d3, d4] => { results := [.lit (.bool true)], args := [d1, d2, d3, d4] }
  | _ => none }
def flexlineMoreRow : OpenClaim := { program := "ytaegajlffiepoaa", sum := "3b4778f2f00395015fa5bf5453d7cdd7954d5e05acd7b8e3a1a06897c9ba1687", func := "wainscot/wainscotlaw21.FlexlineMore", spec := "flexlineMore", unfollowed := true, recurses := true, apart := false }
def FlexlineMoreSaid : Prop := flexlineMoreRow.holds Try.pinned (OpenSpec.ofChange flexlineMoreSpec)

/-- ITS FALSE NEIGHBOUR: 'it returns false'. Refute it at one input. -/
def flexlineMoreWrong : ChangeSpec := { name := "flexlineMore", fn := fun _ => fun
  | [d1, d2, d3, d4] => { results := [.lit (.bool false)], args := [d1, d2, d3, d4] }
  | _ => none }
def FlexlineMoreWrongFalsely : Prop := flexlineMoreRow.holds Try.pinned (OpenSpec.ofChange flexlineMoreWrong)

/- THE SECOND FORM. 'bulk': how many values and letters a reading holds, each counted each time it is reached (what is shared counts as often as it is met; a slice's spare places count too). A statement '..UptoSaid' is the law's where the arguments, and the package variables that the reading takes, are together of bulk at most 1048576: NARROWER than '..Said'. Prove '..Said' where nothing that the law and all that it calls make is longer than what came in: it says more and counts as full. Else prove '..UptoSaid'. A law counts once. -/
mutual
def uptoBulk {H : Type} : DataW H → Nat
  | .lit (.string bytes) => bytes.length + 1
  | .lit _ => 1
  | .nil => 1
  | .ptr d => uptoBulk d + 1
  | .slice elems spare => uptoBulkAll elems + uptoBulkAll spare + 1
  | .agg parts => uptoBulkAll parts + 1
  | .iface _ d => uptoBulk d + 1
  | .map entries => uptoBulkEntries entries + 1
  | .held _ => 1
def uptoBulkAll {H : Type} : List (DataW H) → Nat
  | [] => 0
  | d :: r => uptoBulk d + uptoBulkAll r
def uptoBulkEntries {H : Type} : List (Lit × DataW H) → Nat
  | [] => 0
  | x :: r => uptoBulkEntry x + uptoBulkEntries r
def uptoBulkEntry {H : Type} : Lit × DataW H → Nat
  | (.string bytes, d) => bytes.length + uptoBulk d + 1
  | (_, d) => uptoBulk d + 1
 end
def uptoSmall : (H : Type) → List (DataW H) → Bool := fun _ ds => decide (uptoBulkAll ds ≤ 1048576)
def OpenSpec.upto (s : _root_.Go.ChangeSpec) : _root_.Go.OpenSpec := { _root_.Go.OpenSpec.ofChange s with cond := some uptoSmall }

/-- 'wainscotlaw21.FlexlineResolves', WHERE WHAT IT READS IS OF BULK AT MOST 1048576: true; the input reads as it did. -/
def flexlineResolvesUptoRow : OpenClaim := { program := "ytaegajlffiepoaa", sum := "3b4778f2f00395015fa5bf5453d7cdd7954d5e05acd7b8e3a1a06897c9ba1687", func := "wainscot/wainscotlaw21.FlexlineResolves", spec := "flexlineResolves", unfollowed := true, recurses := true, apart := false, narrowed := true }
def FlexlineResolvesUptoSaid : Prop := flexlineResolvesUptoRow.holds Try.pinned (OpenSpec.upto flexlineResolvesSpec)

/-- 'wainscotlaw21.FlexlineWishes', WHERE WHAT IT READS IS OF BULK AT MOST 1048576: true; the input reads as it did. -/
def flexlineWishesUptoRow : OpenClaim := { program := "ytaegajlffiepoaa", sum := "3b4778f2f00395015fa5bf5453d7cdd7954d5e05acd7b8e3a1a06897c9ba1687", func := "wainscot/wainscotlaw21.FlexlineWishes", spec := "flexlineWishes", unfollowed := true, recurses := true, apart := false, narrowed := true }
def FlexlineWishesUptoSaid : Prop := flexlineWishesUptoRow.holds Try.pinned (OpenSpec.upto flexlineWishesSpec)

/-- 'wainscotlaw21.FlexlineWithin', WHERE WHAT IT READS IS OF BULK AT MOST 1048576: true; the input reads as it did. -/
def flexlineWithinUptoRow : OpenClaim := { program := "ytaegajlffiepoaa", sum := "3b4778f2f00395015fa5bf5453d7cdd7954d5e05acd7b8e3a1a06897c9ba1687", func := "wainscot/wainscotlaw21.FlexlineWithin", spec := "flexlineWithin", unfollowed := true, recurses := true, apart := false, narrowed := true }
def FlexlineWithinUptoSaid : Prop := flexlineWithinUptoRow.holds Try.pinned (OpenSpec.upto flexlineWithinSpec)

/-- 'wainscotlaw21.FlexlineRounds', WHERE WHAT IT READS IS OF BULK AT MOST 1048576: true; the input reads as it did. -/
def flexlineRoundsUptoRow : OpenClaim := { program := "ytaegajlffiepoaa", sum := "3b4778f2f00395015fa5bf5453d7cdd7954d5e05acd7b8e3a1a06897c9ba1687", func := "wainscot/wainscotlaw21.FlexlineRounds", spec := "flexlineRounds", unfollowed := true, recurses := true, apart := false, narrowed := true }
def FlexlineRoundsUptoSaid : Prop := flexlineRoundsUptoRow.holds Try.pinned (OpenSpec.upto flexlineRoundsSpec)

/-- 'wainscotlaw21.FlexlineFills', WHERE WHAT IT READS IS OF BULK AT MOST 1048576: true; the input reads as it did. -/
def flexlineFillsUptoRow : OpenClaim := { program := "ytaegajlffiepoaa", sum := "3b4778f2f00395015fa5bf5453d7cdd7954d5e05acd7b8e3a1a06897c9ba1687", func := "wainscot/wainscotlaw21.FlexlineFills", spec := "flexlineFills", unfollowed := true, recurses := true, apart := false, narrowed := true }
def FlexlineFillsUptoSaid : Prop := flexlineFillsUptoRow.holds Try.pinned (OpenSpec.upto flexlineFillsSpec)

/-- 'wainscotlaw21.FlexlineMore', WHERE WHAT IT READS IS OF BULK AT MOST 1048576: true; the input reads as it did. -/
def flexlineMoreUptoRow : OpenClaim := { program := "ytaegajlffiepoaa", sum := "3b4778f2f00395015fa5bf5453d7cdd7954d5e05acd7b8e3a1a06897c9ba1687", func := "wainscot/wainscotlaw21.FlexlineMore", spec := "flexlineMore", unfollowed := true, recurses := true, apart := false, narrowed := true }
def FlexlineMoreUptoSaid : Prop := flexlineMoreUptoRow.holds Try.pinned (OpenSpec.upto flexlineMoreSpec)

end Rows
end Go.Proofs.Ytaegajlffiepoaa
