/- The walk of layer 5's law: known. -/
import Derived.Test.YtjfheadgohehlaaLexD2
import Derived.Test.YtjfheadgohehlaaLexW10
namespace Go.Proofs.Ytjfheadgohehlaa
open Go.RowKit TreN LexP FixP
set_option linter.unusedVariables false

def five : List Tok := [⟨1, [97], 0⟩, ⟨10, [], 0⟩, ⟨9, [112, 120], 1500⟩, ⟨20, [], 0⟩, ⟨7, [], -5000⟩]
def two : List Tok := [⟨7, [], 1000⟩, ⟨9, [112, 120], 2000⟩]
theorem cut_five : cut [97, 58, 49, 46, 53, 112, 120, 32, 45, 53] = five := by decide +kernel
theorem print_two : printL two = [49, 47, 42, 42, 47, 50, 112, 120] := by decide +kernel
theorem right_two : ∀ t ∈ two, right t = true := by decide +kernel
theorem fits_two : Fits two := by unfold Fits; decide +kernel
theorem prT_two : ∀ j, j ≤ two.length → (prT two j).length ≤ 32768 := by
  intro j hj
  have hj : j ≤ 2 := hj
  rcases (by omega : j = 0 ∨ j = 1 ∨ j = 2) with rfl | rfl | rfl <;> decide +kernel

theorem lex_five (w : World) (h : Has0 w) : Calls Try.prog 26 #[.string ⟨#[97, 58, 49, 46, 53, 112, 120, 32, 45, 53]⟩] w fun e w' => ∃ b o cap, e = .returned (.tuple #[.slice (some ⟨b, o, none⟩) 5 cap, .int .i64 0]) ∧ b < w'.heap.size ∧ TksAt w' b o five ∧ Below w.heap.size w w' := by
  have := Lex_any ⟨#[97, 58, 49, 46, 53, 112, 120, 32, 45, 53]⟩ w h (by decide)
  rw [show (⟨#[97, 58, 49, 46, 53, 112, 120, 32, 45, 53]⟩ : ByteArray).data.toList = [97, 58, 49, 46, 53, 112, 120, 32, 45, 53] from rfl, cut_five] at this
  refine this.mono ?_
  rintro e w' ⟨a, cap, rfl, hT, hb⟩
  rcases hT with hT | ⟨b, o, rfl, h1, h2⟩
  · cases hT
  · exact ⟨b, o, cap, rfl, h1, h2, hb⟩
theorem print_two_any (w : World) (h : Has0 w) (b : Nat) (hx : w.heap[b]? = some (.cells #[.int .i64 7, .string ⟨#[]⟩, .int .i64 1000, .int .i64 9, .string ⟨#[112, 120]⟩, .int .i64 2000] 47 (0, 0))) :
    Calls Try.prog 24 #[.slice (some ⟨b, 0, none⟩) 2 2] w fun e w' => e = .returned (.tuple #[.string ⟨#[49, 47, 42, 42, 47, 50, 112, 120]⟩, .int .i64 0]) ∧ Below w.heap.size w w' := by
  have := Print_ok (some ⟨b, 0, none⟩) two 2 w h (tkB_two (k := 7) (n := 1000) (k' := 9) (n' := 2000) (x := []) (x' := [112, 120]) hx) (by decide) fits_two right_two prT_two
  rw [print_two] at this
  exact this

set_option maxRecDepth 100000 in
set_option maxHeartbeats 2000000 in
theorem known5_any (w : World) (h : Has0 w) : Calls Try.prog 20 #[] w fun e w' => e = .returned (.bool true) ∧ Below w.heap.size w w' := by
  have C := Lib.hid (lex_five w h)
  have D := Lib.hid print_two_any
  have HH := Lib.hid h
  have hi := info_token
  have hun := und_tokens
  clear h
  go_enter Try.func20, Try.ntmps20
  go_wp2_with fail
  refine (C.out).mono ?_
  rintro e w1 ⟨b1, o1, cap1, rfl, hb1, hT, hbl⟩
  have HT := Lib.hid hT
  have HB := Lib.hid hbl
  have HL := Lib.hid hb1
  clear hT hbl hb1
  go_wp2_with fail
  refine (D.out _ (HH.out.below (HB.out.alloc HB.out.size _)) _ (heap_alloc_new _ _)).mono ?_
  rintro e w2 ⟨rfl, hb2⟩
  have hb3 : Below w1.heap.size w1 w2 := ((Below.refl _ _).alloc (Nat.le_refl _) _).trans (hb2.mono (by simp))
  have HB2 := Lib.hid (HB.out.trans (hb3.mono HB.out.size))
  have t2 := (HT.out 2 (by decide)).below hb3 HL.out
  have t4 := (HT.out 4 (by decide)).below hb3 HL.out
  have e0 : w2.cell? ⟨b1, o1 + 6, none⟩ = some (.int .i64 9) := t2.kind
  have e1 : w2.cell? ⟨b1, o1 + 7, none⟩ = some (.string ⟨#[112, 120]⟩) := t2.text
  have e2 : w2.cell? ⟨b1, o1 + 8, none⟩ = some (.int .i64 1500) := t2.n
  have e3 : w2.cell? ⟨b1, o1 + 14, none⟩ = some (.int .i64 (-5000)) := t4.n
  clear hb2 hb3 t2 t4
  go_wp2_with fail
  go_ret
  exact ⟨rfl, HB2.out⟩
end Go.Proofs.Ytjfheadgohehlaa
