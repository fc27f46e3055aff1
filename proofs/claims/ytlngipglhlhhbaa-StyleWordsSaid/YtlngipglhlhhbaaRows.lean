/-
  No cell of these rows narrows 'for every input' (looked for: loops, veiled, ifaces, maps, wideKeys, modest, calm, conditions, laid).
  DERIVED. THE GIVEN ROWS OF THIS SEAT. 5 by the template 'for every input the law returns true; each argument reads behind the call as it read before'; 0 by the template 'total and deterministic' (their statements: YtlngipglhlhhbaaTotals.lean).
  GIVEN WITH THE SEED: the statements are not yours to turn. If you find one false, say at which input.
  Laid BY PROGRAM, IN A SANDBOX (cutbox-rows.mjs): the forced cells as the released guide's own fill.sh prints them over the translation a45eae62924f5498… (all of the seat's roots in one cut). By AI agents, Wed Nov 11 2026. No macro, syntax, notation, axiom, sorry.
-/
import Derived.Test.YtlngipglhlhhbaaChecked
import GoSem.Claim
import GoSem.ClaimJoined
import GoSem.ClaimMapViews
import Derived.JoinedTies
import Derived.KernelRfl
namespace Go.Proofs.Ytlngipglhlhhbaa
/- THE CELL 'sum', in the pinned program and in every row, IS THE sha256 OF THE DUMP (.gsa) THAT YtlngipglhlhhbaaProg.lean LOADS. Nothing in Lean hashes anything: it is a label: what it is worth is what the hold of that sum in a sandbox is worth. -/
noncomputable def Try.pinned : Pinned := { name := "ytlngipglhlhhbaa", sum := "a45eae62924f54988ed2ec9cdf6c9f9005766065fc93840b23350376ed05023e", checked := Try.checked }
namespace Rows
def none {H : Type} : Left H := { results := [], args := [] }

/-- 'wainscotlaw17.StyleNothing': WHATEVER THE INPUT: true; the input reads as it did. -/
def styleNothingSpec : ChangeSpec := { name := "styleNothing", fn := fun _ => fun
  | [d1, d2, d3] => { results := [.lit (.bool true)], args := [d1, d2, d3] }
  | _ => none }
def styleNothingRow : OpenClaim := { program := "ytlngipglhlhhbaa", sum := "a45eae62924f54988ed2ec9cdf6c9f9005766065fc93840b23350376ed05023e", func := "wainscot/wainscotlaw17.StyleNothing", spec := "styleNothing", unfollowed := true, recurses := true, apart := false }
def StyleNothingSaid : Prop := styleNothingRow.holds Try.pinned (OpenSpec.ofChange styleNothingSpec)

/-- ITS FALSE NEIGHBOUR: 'it returns false'. Refute it at one input. -/
def styleNothingWrong : ChangeSpec := { name := "styleNothing", fn := fun _ => fun
  | [d1, d2, d3] => { results := [.lit (.bool false)], args := [d1, d2, d3] }
  | _ => none }
def StyleNothingWrongFalsely : Prop := styleNothingRow.holds Try.pinned (OpenSpec.ofChange styleNothingWrong)

/-- 'wainscotlaw17.StyleInherits': WHATEVER THE INPUT: true; the input reads as it did. -/
def styleInheritsSpec : ChangeSpec := { name := "styleInherits", fn := fun _ => fun
  | [d1, d2, d3] => { results := [.lit (.bool true)], args := [d1, d2, d3] }
  | _ => none }
def styleInheritsRow : OpenClaim := { program := "ytlngipglhlhhbaa", sum := "a45eae62924f54988ed2ec9cdf6c9f9005766065fc93840b23350376ed05023e", func := "wainscot/wainscotlaw17.StyleInherits", spec := "styleInherits", unfollowed := true, recurses := true, apart := false }
def StyleInheritsSaid : Prop := styleInheritsRow.holds Try.pinned (OpenSpec.ofChange styleInheritsSpec)

/-- ITS FALSE NEIGHBOUR: 'it returns false'. Refute it at one input. -/
def styleInheritsWrong : ChangeSpec := { name := "styleInherits", fn := fun _ => fun
  | [d1, d2, d3] => { results := [.lit (.bool false)], args := [d1, d2, d3] }
  | _ => none }
def StyleInheritsWrongFalsely : Prop := styleInheritsRow.holds Try.pinned (OpenSpec.ofChange styleInheritsWrong)

/-- 'wainscotlaw17.StyleBases': WHATEVER THE INPUT: true; the input reads as it did. -/
def styleBasesSpec : ChangeSpec := { name := "styleBases", fn := fun _ => fun
  | [d1, d2, d3, d4, d5, d6] => { results := [.lit (.bool true)], args := [d1, d2, d3, d4, d5, d6] }
  | _ => none }
def styleBasesRow : OpenClaim := { program := "ytlngipglhlhhbaa", sum := "a45eae62924f54988ed2ec9cdf6c9f9005766065fc93840b23350376ed05023e", func := "wainscot/wainscotlaw17.StyleBases", spec := "styleBases", unfollowed := true, recurses := true, apart := false }
def StyleBasesSaid : Prop := styleBasesRow.holds Try.pinned (OpenSpec.ofChange styleBasesSpec)

/-- ITS FALSE NEIGHBOUR: 'it returns false'. Refute it at one input. -/
def styleBasesWrong : ChangeSpec := { name := "styleBases", fn := fun _ => fun
  | [d1, d2, d3, d4, d5, d6] => { results := [.lit (.bool false)], args := [d1, d2, d3, d4, d5, d6] }
  | _ => none }
def StyleBasesWrongFalsely : Prop := styleBasesRow.holds Try.pinned (OpenSpec.ofChange styleBasesWrong)

/-- 'wainscotlaw17.StyleApart': WHATEVER THE INPUT: true; the input reads as it did. -/
def styleApartSpec : ChangeSpec := { name := "styleApart", fn := fun _ => fun
  | [d1, d2, d3, d4, d5] => { results := [.lit (.bool true)], args := [d1, d2, d3, d4, d5] }
  | _ => none }
def styleApartRow : OpenClaim := { program := "ytlngipglhlhhbaa", sum := "a45eae62924f54988ed2ec9cdf6c9f9005766065fc93840b23350376ed05023e", func := "wainscot/wainscotlaw17.StyleApart", spec := "styleApart", unfollowed := true, recurses := true, apart := false }
def StyleApartSaid : Prop := styleApartRow.holds Try.pinned (OpenSpec.ofChange styleApartSpec)

/-- ITS FALSE NEIGHBOUR: 'it returns false'. Refute it at one input. -/
def styleApartWrong : ChangeSpec := { name := "styleApart", fn := fun _ => fun
  | [d1, d2, d3, d4, d5] => { results := [.lit (.bool false)], args := [d1, d2, d3, d4, d5] }
  | _ => none }
def StyleApartWrongFalsely : Prop := styleApartRow.holds Try.pinned (OpenSpec.ofChange styleApartWrong)

/-- 'wainscotlaw17.StyleWords': WHATEVER THE INPUT: true; the input reads as it did. -/
def styleWordsSpec : ChangeSpec := { name := "styleWords", fn := fun _ => fun
  | [d1, d2, d3, d4, d5] => { results := [.lit (.bool true)], args := [d1, d2, d3, d4, d5] }
  | _ => none }
def styleWordsRow : OpenClaim := { program := "ytlngipglhlhhbaa", sum := "a45eae62924f54988ed2ec9cdf6c9f9005766065fc93840b23350376ed05023e", func := "wainscot/wainscotlaw17.StyleWords", spec := "styleWords", unfollowed := true, recurses := true, apart := false }
def StyleWordsSaid : Prop := styleWordsRow.holds Try.pinned (OpenSpec.ofChange styleWordsSpec)

/-- ITS FALSE NEIGHBOUR: 'it returns false'. Refute it at one input. -/
def styleWordsWrong : ChangeSpec := { name := "styleWords", fn := fun _ => fun
  | [d1, d2, d3, d4, d5] => { results := [.lit (.bool false)], args := [d1, d2, d3, d4, d5] }
  | _ => none }
def StyleWordsWrongFalsely : Prop := styleWordsRow.holds Try.pinned (OpenSpec.ofChange styleWordsWrong)

/- THE SECOND FORM. 'bulk': how many values and letters a reading holds, each counted each time it is reached (what is shared counts as often as it is met; a slice's spare places count too). A statement '..UptoSaid' is the law's where the arguments, and the package variables that the reading takes, are together of bulk at most 1048576: NARROWER than '..Said'. Prove '..Said' where nothing that the law and all that it calls make is longer than what came in: it says more and counts as full. Else prove '..UptoSaid'. A law counts once. -/
mutual
def uptoBulk {H : Type} : DataW H → Nat
  | .lit (.string bytes) => bytes.length + 1
  | .lit _ => 1
  | .nil => 1
  | .ptr d => uptoBulk d + 1
  | .slice elems spare => uptoBulkAll elems + uptoBulkAll spare + 1
  | .agg parts => uptoBulkAll parts + 1
  | .iface _ d => uptoBulk d + 1
  | .map entries => uptoBulkEntries entries + 1
  | .held _ => 1
def uptoBulkAll {H : Type} : List (DataW H) → Nat
  | [] => 0
  | d :: r => uptoBulk d + uptoBulkAll r
def uptoBulkEntries {H : Type} : List (Lit × DataW H) → Nat
  | [] => 0
  | x :: r => uptoBulkEntry x + uptoBulkEntries r
def uptoBulkEntry {H : Type} : Lit × DataW H → Nat
  | (.string bytes, d) => bytes.length + uptoBulk d + 1
  | (_, d) => uptoBulk d + 1
 end
def uptoSmall : (H : Type) → List (DataW H) → Bool := fun _ ds => decide (uptoBulkAll ds ≤ 1048576)
def OpenSpec.upto (s : _root_.Go.ChangeSpec) : _root_.Go.OpenSpec := { _root_.Go.OpenSpec.ofChange s with cond := some uptoSmall }

/-- 'wainscotlaw17.StyleNothing', WHERE WHAT IT READS IS OF BULK AT MOST 1048576: true; the input reads as it did. -/
def styleNothingUptoRow : OpenClaim := { program := "ytlngipglhlhhbaa", sum := "a45eae62924f54988ed2ec9cdf6c9f9005766065fc93840b23350376ed05023e", func := "wainscot/wainscotlaw17.StyleNothing", spec := "styleNothing", unfollowed := true, recurses := true, apart := false, narrowed := true }
def StyleNothingUptoSaid : Prop := styleNothingUptoRow.holds Try.pinned (OpenSpec.upto styleNothingSpec)

/-- 'wainscotlaw17.StyleInherits', WHERE WHAT IT READS IS OF BULK AT MOST 1048576: true; the input reads as it did. -/
def styleInheritsUptoRow : OpenClaim := { program := "ytlngipglhlhhbaa", sum := "a45eae62924f54988ed2ec9cdf6c9f9005766065fc93840b23350376ed05023e", func := "wainscot/wainscotlaw17.StyleInherits", spec := "styleInherits", unfollowed := true, recurses := true, apart := false, narrowed := true }
def StyleInheritsUptoSaid : Prop := styleInheritsUptoRow.holds Try.pinned (OpenSpec.upto styleInheritsSpec)

/-- 'wainscotlaw17.StyleBases', WHERE WHAT IT READS IS OF BULK AT MOST 1048576: true; the input reads as it did. -/
def styleBasesUptoRow : OpenClaim := { program := "ytlngipglhlhhbaa", sum := "a45eae62924f54988ed2ec9cdf6c9f9005766065fc93840b23350376ed05023e", func := "wainscot/wainscotlaw17.StyleBases", spec := "styleBases", unfollowed := true, recurses := true, apart := false, narrowed := true }
def StyleBasesUptoSaid : Prop := styleBasesUptoRow.holds Try.pinned (OpenSpec.upto styleBasesSpec)

/-- 'wainscotlaw17.StyleApart', WHERE WHAT IT READS IS OF BULK AT MOST 1048576: true; the input reads as it did. -/
def styleApartUptoRow : OpenClaim := { program := "ytlngipglhlhhbaa", sum := "a45eae62924f54988ed2ec9cdf6c9f9005766065fc93840b23350376ed05023e", func := "wainscot/wainscotlaw17.StyleApart", spec := "styleApart", unfollowed := true, recurses := true, apart := false, narrowed := true }
def StyleApartUptoSaid : Prop := styleApartUptoRow.holds Try.pinned (OpenSpec.upto styleApartSpec)

/-- 'wainscotlaw17.StyleWords', WHERE WHAT IT READS IS OF BULK AT MOST 1048576: true; the input reads as it did. -/
def styleWordsUptoRow : OpenClaim := { program := "ytlngipglhlhhbaa", sum := "a45eae62924f54988ed2ec9cdf6c9f9005766065fc93840b23350376ed05023e", func := "wainscot/wainscotlaw17.StyleWords", spec := "styleWords", unfollowed := true, recurses := true, apart := false, narrowed := true }
def StyleWordsUptoSaid : Prop := styleWordsUptoRow.holds Try.pinned (OpenSpec.upto styleWordsSpec)

end Rows
end Go.Proofs.Ytlngipglhlhhbaa
