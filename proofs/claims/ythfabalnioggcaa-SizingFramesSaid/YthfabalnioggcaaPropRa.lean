/- Joined texts: PropR1 PropR2. -/
import Derived.Test.YthfabalnioggcaaPropTka
namespace Go.Proofs.Ythfabalnioggcaa
open Go.RowKit TreN LexP FixP SynP ValP PropP FixM
set_option linter.unusedVariables false

def othT : Nat → List UInt8
  | 1 => [117] | 2 => [101] | 3 => [108] | 4 => [110] | 5 => [119] | 6 => [114] | 7 => [105]
  | _ => []
/-- a list of texts that was made -/
def MadeTx (w : World) (l : List (List UInt8)) (e : Ending) (w' : World) : Prop :=
  (l = [] ∧ e = .returned (.slice none 0 0) ∧ w' = w) ∨ (l ≠ [] ∧ e = .returned (.slice (some ⟨w.heap.size, 0, none⟩) l.length l.length) ∧ w' = w.alloc (.cells (txcs l) 9))
theorem made_here (w : World) (l : List (List UInt8)) (n : Nat) (h : l.length = n) (h0 : l ≠ [] := by simp) : MadeTx w l (.returned (.slice (some ⟨w.heap.size, 0, none⟩) n n)) (w.alloc (.cells (txcs l) 9)) := by
  subst h
  exact Or.inr ⟨h0, rfl, rfl⟩
theorem made_none (w : World) : MadeTx w [] (.returned (.slice none 0 0)) w := Or.inl ⟨rfl, rfl, rfl⟩
set_option maxRecDepth 100000 in
theorem Other1_any (w : World) : Calls Try.prog 86 #[.int .i64 1] w fun e w' => e = .returned (.string ⟨#[]⟩) ∧ w' = w := by
  go_enter Try.func86, Try.ntmps86
  go_wp2_with fail
  go_ret
  exact ⟨rfl, rfl⟩
set_option maxRecDepth 100000 in
theorem WordsR1_any (w : World) : Calls Try.prog 82 #[.int .i64 1] w (MadeTx w [[98, 108, 111, 99, 107], [102, 108, 101, 120], [110, 111, 110, 101]]) := by
  go_enter Try.func82, Try.ntmps82
  go_wp2_with fail
  go_ret
  exact made_here w [[98, 108, 111, 99, 107], [102, 108, 101, 120], [110, 111, 110, 101]] 3 rfl
set_option maxRecDepth 100000 in
theorem Other2_any (w : World) : Calls Try.prog 86 #[.int .i64 2] w fun e w' => e = .returned (.string ⟨#[]⟩) ∧ w' = w := by
  go_enter Try.func86, Try.ntmps86
  go_wp2_with fail
  go_ret
  exact ⟨rfl, rfl⟩
set_option maxRecDepth 100000 in
theorem WordsR2_any (w : World) : Calls Try.prog 82 #[.int .i64 2] w (MadeTx w [[99, 111, 110, 116, 101, 110, 116, 45, 98, 111, 120], [98, 111, 114, 100, 101, 114, 45, 98, 111, 120]]) := by
  go_enter Try.func82, Try.ntmps82
  go_wp2_with fail
  go_ret
  exact made_here w [[99, 111, 110, 116, 101, 110, 116, 45, 98, 111, 120], [98, 111, 114, 100, 101, 114, 45, 98, 111, 120]] 2 rfl
set_option maxRecDepth 100000 in
theorem Other3_any (w : World) : Calls Try.prog 86 #[.int .i64 3] w fun e w' => e = .returned (.string ⟨#[117]⟩) ∧ w' = w := by
  go_enter Try.func86, Try.ntmps86
  go_wp2_with fail
  go_ret
  exact ⟨rfl, rfl⟩
set_option maxRecDepth 100000 in
theorem WordsR3_any (w : World) : Calls Try.prog 82 #[.int .i64 3] w (MadeTx w [[97, 117, 116, 111], [109, 105, 110, 45, 99, 111, 110, 116, 101, 110, 116], [109, 97, 120, 45, 99, 111, 110, 116, 101, 110, 116], [102, 105, 116, 45, 99, 111, 110, 116, 101, 110, 116]]) := by
  go_enter Try.func82, Try.ntmps82
  go_wp2_with fail
  go_ret
  exact made_here w [[97, 117, 116, 111], [109, 105, 110, 45, 99, 111, 110, 116, 101, 110, 116], [109, 97, 120, 45, 99, 111, 110, 116, 101, 110, 116], [102, 105, 116, 45, 99, 111, 110, 116, 101, 110, 116]] 4 rfl
set_option maxRecDepth 100000 in
theorem Other4_any (w : World) : Calls Try.prog 86 #[.int .i64 4] w fun e w' => e = .returned (.string ⟨#[117]⟩) ∧ w' = w := by
  go_enter Try.func86, Try.ntmps86
  go_wp2_with fail
  go_ret
  exact ⟨rfl, rfl⟩
set_option maxRecDepth 100000 in
theorem WordsR4_any (w : World) : Calls Try.prog 82 #[.int .i64 4] w (MadeTx w [[97, 117, 116, 111]]) := by
  go_enter Try.func82, Try.ntmps82
  go_wp2_with fail
  go_ret
  exact made_here w [[97, 117, 116, 111]] 1 rfl
set_option maxRecDepth 100000 in
theorem Other5_any (w : World) : Calls Try.prog 86 #[.int .i64 5] w fun e w' => e = .returned (.string ⟨#[117]⟩) ∧ w' = w := by
  go_enter Try.func86, Try.ntmps86
  go_wp2_with fail
  go_ret
  exact ⟨rfl, rfl⟩
set_option maxRecDepth 100000 in
theorem WordsR5_any (w : World) : Calls Try.prog 82 #[.int .i64 5] w (MadeTx w [[97, 117, 116, 111], [109, 105, 110, 45, 99, 111, 110, 116, 101, 110, 116], [109, 97, 120, 45, 99, 111, 110, 116, 101, 110, 116], [102, 105, 116, 45, 99, 111, 110, 116, 101, 110, 116]]) := by
  go_enter Try.func82, Try.ntmps82
  go_wp2_with fail
  go_ret
  exact made_here w [[97, 117, 116, 111], [109, 105, 110, 45, 99, 111, 110, 116, 101, 110, 116], [109, 97, 120, 45, 99, 111, 110, 116, 101, 110, 116], [102, 105, 116, 45, 99, 111, 110, 116, 101, 110, 116]] 4 rfl
set_option maxRecDepth 100000 in
theorem Other6_any (w : World) : Calls Try.prog 86 #[.int .i64 6] w fun e w' => e = .returned (.string ⟨#[117]⟩) ∧ w' = w := by
  go_enter Try.func86, Try.ntmps86
  go_wp2_with fail
  go_ret
  exact ⟨rfl, rfl⟩
set_option maxRecDepth 100000 in
theorem WordsR6_any (w : World) : Calls Try.prog 82 #[.int .i64 6] w (MadeTx w [[97, 117, 116, 111]]) := by
  go_enter Try.func82, Try.ntmps82
  go_wp2_with fail
  go_ret
  exact made_here w [[97, 117, 116, 111]] 1 rfl
set_option maxRecDepth 100000 in
theorem Other7_any (w : World) : Calls Try.prog 86 #[.int .i64 7] w fun e w' => e = .returned (.string ⟨#[117]⟩) ∧ w' = w := by
  go_enter Try.func86, Try.ntmps86
  go_wp2_with fail
  go_ret
  exact ⟨rfl, rfl⟩
set_option maxRecDepth 100000 in
theorem WordsR7_any (w : World) : Calls Try.prog 82 #[.int .i64 7] w (MadeTx w [[110, 111, 110, 101], [109, 105, 110, 45, 99, 111, 110, 116, 101, 110, 116], [109, 97, 120, 45, 99, 111, 110, 116, 101, 110, 116], [102, 105, 116, 45, 99, 111, 110, 116, 101, 110, 116]]) := by
  go_enter Try.func82, Try.ntmps82
  go_wp2_with fail
  go_ret
  exact made_here w [[110, 111, 110, 101], [109, 105, 110, 45, 99, 111, 110, 116, 101, 110, 116], [109, 97, 120, 45, 99, 111, 110, 116, 101, 110, 116], [102, 105, 116, 45, 99, 111, 110, 116, 101, 110, 116]] 4 rfl
set_option maxRecDepth 100000 in
theorem Other8_any (w : World) : Calls Try.prog 86 #[.int .i64 8] w fun e w' => e = .returned (.string ⟨#[117]⟩) ∧ w' = w := by
  go_enter Try.func86, Try.ntmps86
  go_wp2_with fail
  go_ret
  exact ⟨rfl, rfl⟩
set_option maxRecDepth 100000 in
theorem WordsR8_any (w : World) : Calls Try.prog 82 #[.int .i64 8] w (MadeTx w [[110, 111, 110, 101]]) := by
  go_enter Try.func82, Try.ntmps82
  go_wp2_with fail
  go_ret
  exact made_here w [[110, 111, 110, 101]] 1 rfl
set_option maxRecDepth 100000 in
theorem Other9_any (w : World) : Calls Try.prog 86 #[.int .i64 9] w fun e w' => e = .returned (.string ⟨#[101]⟩) ∧ w' = w := by
  go_enter Try.func86, Try.ntmps86
  go_wp2_with fail
  go_ret
  exact ⟨rfl, rfl⟩
set_option maxRecDepth 100000 in
theorem WordsR9_any (w : World) : Calls Try.prog 82 #[.int .i64 9] w (MadeTx w [[97, 117, 116, 111]]) := by
  go_enter Try.func82, Try.ntmps82
  go_wp2_with fail
  go_ret
  exact made_here w [[97, 117, 116, 111]] 1 rfl
set_option maxRecDepth 100000 in
theorem Other10_any (w : World) : Calls Try.prog 86 #[.int .i64 10] w fun e w' => e = .returned (.string ⟨#[101]⟩) ∧ w' = w := by
  go_enter Try.func86, Try.ntmps86
  go_wp2_with fail
  go_ret
  exact ⟨rfl, rfl⟩
set_option maxRecDepth 100000 in
theorem WordsR10_any (w : World) : Calls Try.prog 82 #[.int .i64 10] w (MadeTx w [[97, 117, 116, 111]]) := by
  go_enter Try.func82, Try.ntmps82
  go_wp2_with fail
  go_ret
  exact made_here w [[97, 117, 116, 111]] 1 rfl
set_option maxRecDepth 100000 in
theorem Other11_any (w : World) : Calls Try.prog 86 #[.int .i64 11] w fun e w' => e = .returned (.string ⟨#[101]⟩) ∧ w' = w := by
  go_enter Try.func86, Try.ntmps86
  go_wp2_with fail
  go_ret
  exact ⟨rfl, rfl⟩
set_option maxRecDepth 100000 in
theorem WordsR11_any (w : World) : Calls Try.prog 82 #[.int .i64 11] w (MadeTx w [[97, 117, 116, 111]]) := by
  go_enter Try.func82, Try.ntmps82
  go_wp2_with fail
  go_ret
  exact made_here w [[97, 117, 116, 111]] 1 rfl
set_option maxRecDepth 100000 in
theorem Other12_any (w : World) : Calls Try.prog 86 #[.int .i64 12] w fun e w' => e = .returned (.string ⟨#[101]⟩) ∧ w' = w := by
  go_enter Try.func86, Try.ntmps86
  go_wp2_with fail
  go_ret
  exact ⟨rfl, rfl⟩
set_option maxRecDepth 100000 in
theorem WordsR12_any (w : World) : Calls Try.prog 82 #[.int .i64 12] w (MadeTx w [[97, 117, 116, 111]]) := by
  go_enter Try.func82, Try.ntmps82
  go_wp2_with fail
  go_ret
  exact made_here w [[97, 117, 116, 111]] 1 rfl
set_option maxRecDepth 100000 in
theorem Other13_any (w : World) : Calls Try.prog 86 #[.int .i64 13] w fun e w' => e = .returned (.string ⟨#[117]⟩) ∧ w' = w := by
  go_enter Try.func86, Try.ntmps86
  go_wp2_with fail
  go_ret
  exact ⟨rfl, rfl⟩
set_option maxRecDepth 100000 in
theorem WordsR13_any (w : World) : Calls Try.prog 82 #[.int .i64 13] w (MadeTx w []) := by
  go_enter Try.func82, Try.ntmps82
  go_wp2_with fail
  go_ret
  exact made_none w
set_option maxRecDepth 100000 in
theorem Other14_any (w : World) : Calls Try.prog 86 #[.int .i64 14] w fun e w' => e = .returned (.string ⟨#[117]⟩) ∧ w' = w := by
  go_enter Try.func86, Try.ntmps86
  go_wp2_with fail
  go_ret
  exact ⟨rfl, rfl⟩
set_option maxRecDepth 100000 in
theorem WordsR14_any (w : World) : Calls Try.prog 82 #[.int .i64 14] w (MadeTx w []) := by
  go_enter Try.func82, Try.ntmps82
  go_wp2_with fail
  go_ret
  exact made_none w
set_option maxRecDepth 100000 in
theorem Other15_any (w : World) : Calls Try.prog 86 #[.int .i64 15] w fun e w' => e = .returned (.string ⟨#[117]⟩) ∧ w' = w := by
  go_enter Try.func86, Try.ntmps86
  go_wp2_with fail
  go_ret
  exact ⟨rfl, rfl⟩
set_option maxRecDepth 100000 in
theorem WordsR15_any (w : World) : Calls Try.prog 82 #[.int .i64 15] w (MadeTx w []) := by
  go_enter Try.func82, Try.ntmps82
  go_wp2_with fail
  go_ret
  exact made_none w
set_option maxRecDepth 100000 in
theorem Other16_any (w : World) : Calls Try.prog 86 #[.int .i64 16] w fun e w' => e = .returned (.string ⟨#[117]⟩) ∧ w' = w := by
  go_enter Try.func86, Try.ntmps86
  go_wp2_with fail
  go_ret
  exact ⟨rfl, rfl⟩
set_option maxRecDepth 100000 in
theorem WordsR16_any (w : World) : Calls Try.prog 82 #[.int .i64 16] w (MadeTx w []) := by
  go_enter Try.func82, Try.ntmps82
  go_wp2_with fail
  go_ret
  exact made_none w
set_option maxRecDepth 100000 in
theorem Other17_any (w : World) : Calls Try.prog 86 #[.int .i64 17] w fun e w' => e = .returned (.string ⟨#[108]⟩) ∧ w' = w := by
  go_enter Try.func86, Try.ntmps86
  go_wp2_with fail
  go_ret
  exact ⟨rfl, rfl⟩
set_option maxRecDepth 100000 in
theorem WordsR17_any (w : World) : Calls Try.prog 82 #[.int .i64 17] w (MadeTx w []) := by
  go_enter Try.func82, Try.ntmps82
  go_wp2_with fail
  go_ret
  exact made_none w
set_option maxRecDepth 100000 in
theorem Other18_any (w : World) : Calls Try.prog 86 #[.int .i64 18] w fun e w' => e = .returned (.string ⟨#[108]⟩) ∧ w' = w := by
  go_enter Try.func86, Try.ntmps86
  go_wp2_with fail
  go_ret
  exact ⟨rfl, rfl⟩
set_option maxRecDepth 100000 in
theorem WordsR18_any (w : World) : Calls Try.prog 82 #[.int .i64 18] w (MadeTx w []) := by
  go_enter Try.func82, Try.ntmps82
  go_wp2_with fail
  go_ret
  exact made_none w
set_option maxRecDepth 100000 in
theorem Other19_any (w : World) : Calls Try.prog 86 #[.int .i64 19] w fun e w' => e = .returned (.string ⟨#[108]⟩) ∧ w' = w := by
  go_enter Try.func86, Try.ntmps86
  go_wp2_with fail
  go_ret
  exact ⟨rfl, rfl⟩
set_option maxRecDepth 100000 in
theorem WordsR19_any (w : World) : Calls Try.prog 82 #[.int .i64 19] w (MadeTx w []) := by
  go_enter Try.func82, Try.ntmps82
  go_wp2_with fail
  go_ret
  exact made_none w
set_option maxRecDepth 100000 in
theorem Other20_any (w : World) : Calls Try.prog 86 #[.int .i64 20] w fun e w' => e = .returned (.string ⟨#[108]⟩) ∧ w' = w := by
  go_enter Try.func86, Try.ntmps86
  go_wp2_with fail
  go_ret
  exact ⟨rfl, rfl⟩
set_option maxRecDepth 100000 in
theorem WordsR20_any (w : World) : Calls Try.prog 82 #[.int .i64 20] w (MadeTx w []) := by
  go_enter Try.func82, Try.ntmps82
  go_wp2_with fail
  go_ret
  exact made_none w
set_option maxRecDepth 100000 in
theorem Other21_any (w : World) : Calls Try.prog 86 #[.int .i64 21] w fun e w' => e = .returned (.string ⟨#[114]⟩) ∧ w' = w := by
  go_enter Try.func86, Try.ntmps86
  go_wp2_with fail
  go_ret
  exact ⟨rfl, rfl⟩
set_option maxRecDepth 100000 in
theorem WordsR21_any (w : World) : Calls Try.prog 82 #[.int .i64 21] w (MadeTx w [[97, 117, 116, 111]]) := by
  go_enter Try.func82, Try.ntmps82
  go_wp2_with fail
  go_ret
  exact made_here w [[97, 117, 116, 111]] 1 rfl
set_option maxRecDepth 100000 in
theorem Other22_any (w : World) : Calls Try.prog 86 #[.int .i64 22] w fun e w' => e = .returned (.string ⟨#[]⟩) ∧ w' = w := by
  go_enter Try.func86, Try.ntmps86
  go_wp2_with fail
  go_ret
  exact ⟨rfl, rfl⟩
set_option maxRecDepth 100000 in
theorem WordsR22_any (w : World) : Calls Try.prog 82 #[.int .i64 22] w (MadeTx w [[114, 111, 119], [114, 111, 119, 45, 114, 101, 118, 101, 114, 115, 101], [99, 111, 108, 117, 109, 110], [99, 111, 108, 117, 109, 110, 45, 114, 101, 118, 101, 114, 115, 101]]) := by
  go_enter Try.func82, Try.ntmps82
  go_wp2_with fail
  go_ret
  exact made_here w [[114, 111, 119], [114, 111, 119, 45, 114, 101, 118, 101, 114, 115, 101], [99, 111, 108, 117, 109, 110], [99, 111, 108, 117, 109, 110, 45, 114, 101, 118, 101, 114, 115, 101]] 4 rfl
set_option maxRecDepth 100000 in
theorem Other23_any (w : World) : Calls Try.prog 86 #[.int .i64 23] w fun e w' => e = .returned (.string ⟨#[]⟩) ∧ w' = w := by
  go_enter Try.func86, Try.ntmps86
  go_wp2_with fail
  go_ret
  exact ⟨rfl, rfl⟩
set_option maxRecDepth 100000 in
theorem WordsR23_any (w : World) : Calls Try.prog 82 #[.int .i64 23] w (MadeTx w [[110, 111, 119, 114, 97, 112], [119, 114, 97, 112], [119, 114, 97, 112, 45, 114, 101, 118, 101, 114, 115, 101]]) := by
  go_enter Try.func82, Try.ntmps82
  go_wp2_with fail
  go_ret
  exact made_here w [[110, 111, 119, 114, 97, 112], [119, 114, 97, 112], [119, 114, 97, 112, 45, 114, 101, 118, 101, 114, 115, 101]] 3 rfl
set_option maxRecDepth 100000 in
theorem Other24_any (w : World) : Calls Try.prog 86 #[.int .i64 24] w fun e w' => e = .returned (.string ⟨#[110]⟩) ∧ w' = w := by
  go_enter Try.func86, Try.ntmps86
  go_wp2_with fail
  go_ret
  exact ⟨rfl, rfl⟩
set_option maxRecDepth 100000 in
theorem WordsR24_any (w : World) : Calls Try.prog 82 #[.int .i64 24] w (MadeTx w []) := by
  go_enter Try.func82, Try.ntmps82
  go_wp2_with fail
  go_ret
  exact made_none w
set_option maxRecDepth 100000 in
theorem Other25_any (w : World) : Calls Try.prog 86 #[.int .i64 25] w fun e w' => e = .returned (.string ⟨#[110]⟩) ∧ w' = w := by
  go_enter Try.func86, Try.ntmps86
  go_wp2_with fail
  go_ret
  exact ⟨rfl, rfl⟩
set_option maxRecDepth 100000 in
theorem WordsR25_any (w : World) : Calls Try.prog 82 #[.int .i64 25] w (MadeTx w []) := by
  go_enter Try.func82, Try.ntmps82
  go_wp2_with fail
  go_ret
  exact made_none w
set_option maxRecDepth 100000 in
theorem Other26_any (w : World) : Calls Try.prog 86 #[.int .i64 26] w fun e w' => e = .returned (.string ⟨#[117]⟩) ∧ w' = w := by
  go_enter Try.func86, Try.ntmps86
  go_wp2_with fail
  go_ret
  exact ⟨rfl, rfl⟩
set_option maxRecDepth 100000 in
theorem WordsR26_any (w : World) : Calls Try.prog 82 #[.int .i64 26] w (MadeTx w [[97, 117, 116, 111], [99, 111, 110, 116, 101, 110, 116]]) := by
  go_enter Try.func82, Try.ntmps82
  go_wp2_with fail
  go_ret
  exact made_here w [[97, 117, 116, 111], [99, 111, 110, 116, 101, 110, 116]] 2 rfl
set_option maxRecDepth 100000 in
theorem Other27_any (w : World) : Calls Try.prog 86 #[.int .i64 27] w fun e w' => e = .returned (.string ⟨#[119]⟩) ∧ w' = w := by
  go_enter Try.func86, Try.ntmps86
  go_wp2_with fail
  go_ret
  exact ⟨rfl, rfl⟩
set_option maxRecDepth 100000 in
theorem WordsR27_any (w : World) : Calls Try.prog 82 #[.int .i64 27] w (MadeTx w []) := by
  go_enter Try.func82, Try.ntmps82
  go_wp2_with fail
  go_ret
  exact made_none w
set_option maxRecDepth 100000 in
theorem Other28_any (w : World) : Calls Try.prog 86 #[.int .i64 28] w fun e w' => e = .returned (.string ⟨#[]⟩) ∧ w' = w := by
  go_enter Try.func86, Try.ntmps86
  go_wp2_with fail
  go_ret
  exact ⟨rfl, rfl⟩
set_option maxRecDepth 100000 in
theorem WordsR28_any (w : World) : Calls Try.prog 82 #[.int .i64 28] w (MadeTx w [[115, 116, 97, 114, 116], [101, 110, 100], [99, 101, 110, 116, 101, 114], [115, 112, 97, 99, 101, 45, 98, 101, 116, 119, 101, 101, 110], [115, 112, 97, 99, 101, 45, 97, 114, 111, 117, 110, 100], [115, 112, 97, 99, 101, 45, 101, 118, 101, 110, 108, 121]]) := by
  go_enter Try.func82, Try.ntmps82
  go_wp2_with fail
  go_ret
  exact made_here w [[115, 116, 97, 114, 116], [101, 110, 100], [99, 101, 110, 116, 101, 114], [115, 112, 97, 99, 101, 45, 98, 101, 116, 119, 101, 101, 110], [115, 112, 97, 99, 101, 45, 97, 114, 111, 117, 110, 100], [115, 112, 97, 99, 101, 45, 101, 118, 101, 110, 108, 121]] 6 rfl
set_option maxRecDepth 100000 in
theorem Other29_any (w : World) : Calls Try.prog 86 #[.int .i64 29] w fun e w' => e = .returned (.string ⟨#[]⟩) ∧ w' = w := by
  go_enter Try.func86, Try.ntmps86
  go_wp2_with fail
  go_ret
  exact ⟨rfl, rfl⟩
set_option maxRecDepth 100000 in
theorem WordsR29_any (w : World) : Calls Try.prog 82 #[.int .i64 29] w (MadeTx w [[115, 116, 114, 101, 116, 99, 104], [115, 116, 97, 114, 116], [101, 110, 100], [99, 101, 110, 116, 101, 114]]) := by
  go_enter Try.func82, Try.ntmps82
  go_wp2_with fail
  go_ret
  exact made_here w [[115, 116, 114, 101, 116, 99, 104], [115, 116, 97, 114, 116], [101, 110, 100], [99, 101, 110, 116, 101, 114]] 4 rfl
set_option maxRecDepth 100000 in
theorem Other30_any (w : World) : Calls Try.prog 86 #[.int .i64 30] w fun e w' => e = .returned (.string ⟨#[]⟩) ∧ w' = w := by
  go_enter Try.func86, Try.ntmps86
  go_wp2_with fail
  go_ret
  exact ⟨rfl, rfl⟩
set_option maxRecDepth 100000 in
theorem WordsR30_any (w : World) : Calls Try.prog 82 #[.int .i64 30] w (MadeTx w [[97, 117, 116, 111], [115, 116, 114, 101, 116, 99, 104], [115, 116, 97, 114, 116], [101, 110, 100], [99, 101, 110, 116, 101, 114]]) := by
  go_enter Try.func82, Try.ntmps82
  go_wp2_with fail
  go_ret
  exact made_here w [[97, 117, 116, 111], [115, 116, 114, 101, 116, 99, 104], [115, 116, 97, 114, 116], [101, 110, 100], [99, 101, 110, 116, 101, 114]] 5 rfl
set_option maxRecDepth 100000 in
theorem Other31_any (w : World) : Calls Try.prog 86 #[.int .i64 31] w fun e w' => e = .returned (.string ⟨#[]⟩) ∧ w' = w := by
  go_enter Try.func86, Try.ntmps86
  go_wp2_with fail
  go_ret
  exact ⟨rfl, rfl⟩
set_option maxRecDepth 100000 in
theorem WordsR31_any (w : World) : Calls Try.prog 82 #[.int .i64 31] w (MadeTx w [[115, 116, 114, 101, 116, 99, 104], [115, 116, 97, 114, 116], [101, 110, 100], [99, 101, 110, 116, 101, 114], [115, 112, 97, 99, 101, 45, 98, 101, 116, 119, 101, 101, 110], [115, 112, 97, 99, 101, 45, 97, 114, 111, 117, 110, 100], [115, 112, 97, 99, 101, 45, 101, 118, 101, 110, 108, 121]]) := by
  go_enter Try.func82, Try.ntmps82
  go_wp2_with fail
  go_ret
  exact made_here w [[115, 116, 114, 101, 116, 99, 104], [115, 116, 97, 114, 116], [101, 110, 100], [99, 101, 110, 116, 101, 114], [115, 112, 97, 99, 101, 45, 98, 101, 116, 119, 101, 101, 110], [115, 112, 97, 99, 101, 45, 97, 114, 111, 117, 110, 100], [115, 112, 97, 99, 101, 45, 101, 118, 101, 110, 108, 121]] 7 rfl
set_option maxRecDepth 100000 in
theorem Other32_any (w : World) : Calls Try.prog 86 #[.int .i64 32] w fun e w' => e = .returned (.string ⟨#[117]⟩) ∧ w' = w := by
  go_enter Try.func86, Try.ntmps86
  go_wp2_with fail
  go_ret
  exact ⟨rfl, rfl⟩
set_option maxRecDepth 100000 in
theorem WordsR32_any (w : World) : Calls Try.prog 82 #[.int .i64 32] w (MadeTx w [[110, 111, 114, 109, 97, 108]]) := by
  go_enter Try.func82, Try.ntmps82
  go_wp2_with fail
  go_ret
  exact made_here w [[110, 111, 114, 109, 97, 108]] 1 rfl
set_option maxRecDepth 100000 in
theorem Other33_any (w : World) : Calls Try.prog 86 #[.int .i64 33] w fun e w' => e = .returned (.string ⟨#[117]⟩) ∧ w' = w := by
  go_enter Try.func86, Try.ntmps86
  go_wp2_with fail
  go_ret
  exact ⟨rfl, rfl⟩
set_option maxRecDepth 100000 in
theorem WordsR33_any (w : World) : Calls Try.prog 82 #[.int .i64 33] w (MadeTx w [[110, 111, 114, 109, 97, 108]]) := by
  go_enter Try.func82, Try.ntmps82
  go_wp2_with fail
  go_ret
  exact made_here w [[110, 111, 114, 109, 97, 108]] 1 rfl
set_option maxRecDepth 100000 in
theorem Other34_any (w : World) : Calls Try.prog 86 #[.int .i64 34] w fun e w' => e = .returned (.string ⟨#[]⟩) ∧ w' = w := by
  go_enter Try.func86, Try.ntmps86
  go_wp2_with fail
  go_ret
  exact ⟨rfl, rfl⟩
set_option maxRecDepth 100000 in
theorem WordsR34_any (w : World) : Calls Try.prog 82 #[.int .i64 34] w (MadeTx w [[110, 111, 114, 109, 97, 108], [105, 110, 108, 105, 110, 101, 45, 115, 105, 122, 101], [115, 105, 122, 101]]) := by
  go_enter Try.func82, Try.ntmps82
  go_wp2_with fail
  go_ret
  exact made_here w [[110, 111, 114, 109, 97, 108], [105, 110, 108, 105, 110, 101, 45, 115, 105, 122, 101], [115, 105, 122, 101]] 3 rfl
set_option maxRecDepth 100000 in
theorem Other35_any (w : World) : Calls Try.prog 86 #[.int .i64 35] w fun e w' => e = .returned (.string ⟨#[105]⟩) ∧ w' = w := by
  go_enter Try.func86, Try.ntmps86
  go_wp2_with fail
  go_ret
  exact ⟨rfl, rfl⟩
set_option maxRecDepth 100000 in
theorem WordsR35_any (w : World) : Calls Try.prog 82 #[.int .i64 35] w (MadeTx w [[110, 111, 110, 101]]) := by
  go_enter Try.func82, Try.ntmps82
  go_wp2_with fail
  go_ret
  exact made_here w [[110, 111, 110, 101]] 1 rfl
set_option maxRecDepth 100000 in
theorem Other36_any (w : World) : Calls Try.prog 86 #[.int .i64 36] w fun e w' => e = .returned (.string ⟨#[117]⟩) ∧ w' = w := by
  go_enter Try.func86, Try.ntmps86
  go_wp2_with fail
  go_ret
  exact ⟨rfl, rfl⟩
set_option maxRecDepth 100000 in
theorem WordsR36_any (w : World) : Calls Try.prog 82 #[.int .i64 36] w (MadeTx w []) := by
  go_enter Try.func82, Try.ntmps82
  go_wp2_with fail
  go_ret
  exact made_none w
set_option maxRecDepth 100000 in
theorem Other37_any (w : World) : Calls Try.prog 86 #[.int .i64 37] w fun e w' => e = .returned (.string ⟨#[110]⟩) ∧ w' = w := by
  go_enter Try.func86, Try.ntmps86
  go_wp2_with fail
  go_ret
  exact ⟨rfl, rfl⟩
set_option maxRecDepth 100000 in
theorem WordsR37_any (w : World) : Calls Try.prog 82 #[.int .i64 37] w (MadeTx w [[110, 111, 114, 109, 97, 108]]) := by
  go_enter Try.func82, Try.ntmps82
  go_wp2_with fail
  go_ret
  exact made_here w [[110, 111, 114, 109, 97, 108]] 1 rfl
theorem OtherP_any (p : Int) (h1 : 1 ≤ p) (h2 : p ≤ 37) (w : World) : Calls Try.prog 86 #[.int .i64 p] w fun e w' => e = .returned (.string ⟨(othT (othP p.toNat)).toArray⟩) ∧ w' = w := by
  have h : p = 1 ∨ p = 2 ∨ p = 3 ∨ p = 4 ∨ p = 5 ∨ p = 6 ∨ p = 7 ∨ p = 8 ∨ p = 9 ∨ p = 10 ∨ p = 11 ∨ p = 12 ∨ p = 13 ∨ p = 14 ∨ p = 15 ∨ p = 16 ∨ p = 17 ∨ p = 18 ∨ p = 19 ∨ p = 20 ∨ p = 21 ∨ p = 22 ∨ p = 23 ∨ p = 24 ∨ p = 25 ∨ p = 26 ∨ p = 27 ∨ p = 28 ∨ p = 29 ∨ p = 30 ∨ p = 31 ∨ p = 32 ∨ p = 33 ∨ p = 34 ∨ p = 35 ∨ p = 36 ∨ p = 37 := by omega
  rcases h with rfl | rfl | rfl | rfl | rfl | rfl | rfl | rfl | rfl | rfl | rfl | rfl | rfl | rfl | rfl | rfl | rfl | rfl | rfl | rfl | rfl | rfl | rfl | rfl | rfl | rfl | rfl | rfl | rfl | rfl | rfl | rfl | rfl | rfl | rfl | rfl | rfl
  · exact Other1_any w
  · exact Other2_any w
  · exact Other3_any w
  · exact Other4_any w
  · exact Other5_any w
  · exact Other6_any w
  · exact Other7_any w
  · exact Other8_any w
  · exact Other9_any w
  · exact Other10_any w
  · exact Other11_any w
  · exact Other12_any w
  · exact Other13_any w
  · exact Other14_any w
  · exact Other15_any w
  · exact Other16_any w
  · exact Other17_any w
  · exact Other18_any w
  · exact Other19_any w
  · exact Other20_any w
  · exact Other21_any w
  · exact Other22_any w
  · exact Other23_any w
  · exact Other24_any w
  · exact Other25_any w
  · exact Other26_any w
  · exact Other27_any w
  · exact Other28_any w
  · exact Other29_any w
  · exact Other30_any w
  · exact Other31_any w
  · exact Other32_any w
  · exact Other33_any w
  · exact Other34_any w
  · exact Other35_any w
  · exact Other36_any w
  · exact Other37_any w
theorem WordsRP_any (p : Int) (h1 : 1 ≤ p) (h2 : p ≤ 37) (w : World) : Calls Try.prog 82 #[.int .i64 p] w (MadeTx w (wrdsP p.toNat)) := by
  have h : p = 1 ∨ p = 2 ∨ p = 3 ∨ p = 4 ∨ p = 5 ∨ p = 6 ∨ p = 7 ∨ p = 8 ∨ p = 9 ∨ p = 10 ∨ p = 11 ∨ p = 12 ∨ p = 13 ∨ p = 14 ∨ p = 15 ∨ p = 16 ∨ p = 17 ∨ p = 18 ∨ p = 19 ∨ p = 20 ∨ p = 21 ∨ p = 22 ∨ p = 23 ∨ p = 24 ∨ p = 25 ∨ p = 26 ∨ p = 27 ∨ p = 28 ∨ p = 29 ∨ p = 30 ∨ p = 31 ∨ p = 32 ∨ p = 33 ∨ p = 34 ∨ p = 35 ∨ p = 36 ∨ p = 37 := by omega
  rcases h with rfl | rfl | rfl | rfl | rfl | rfl | rfl | rfl | rfl | rfl | rfl | rfl | rfl | rfl | rfl | rfl | rfl | rfl | rfl | rfl | rfl | rfl | rfl | rfl | rfl | rfl | rfl | rfl | rfl | rfl | rfl | rfl | rfl | rfl | rfl | rfl | rfl
  · exact WordsR1_any w
  · exact WordsR2_any w
  · exact WordsR3_any w
  · exact WordsR4_any w
  · exact WordsR5_any w
  · exact WordsR6_any w
  · exact WordsR7_any w
  · exact WordsR8_any w
  · exact WordsR9_any w
  · exact WordsR10_any w
  · exact WordsR11_any w
  · exact WordsR12_any w
  · exact WordsR13_any w
  · exact WordsR14_any w
  · exact WordsR15_any w
  · exact WordsR16_any w
  · exact WordsR17_any w
  · exact WordsR18_any w
  · exact WordsR19_any w
  · exact WordsR20_any w
  · exact WordsR21_any w
  · exact WordsR22_any w
  · exact WordsR23_any w
  · exact WordsR24_any w
  · exact WordsR25_any w
  · exact WordsR26_any w
  · exact WordsR27_any w
  · exact WordsR28_any w
  · exact WordsR29_any w
  · exact WordsR30_any w
  · exact WordsR31_any w
  · exact WordsR32_any w
  · exact WordsR33_any w
  · exact WordsR34_any w
  · exact WordsR35_any w
  · exact WordsR36_any w
  · exact WordsR37_any w
set_option maxRecDepth 100000 in
theorem Global10_any (k n d : Int) (nm : List UInt8) (w : World) : Calls Try.prog 84 #[.agg #[.int .i64 k, .int .i64 n, .int .i64 d, .string ⟨nm.toArray⟩]] w fun e w' => e = .returned (.bool (genB ⟨k, n, d, nm⟩)) ∧ Below w.heap.size w w' := by
  have HB := Lib.hid (below_oneP w (.cells #[.int .i64 k, .int .i64 n, .int .i64 d, .string ⟨nm.toArray⟩] 80))
  obtain ⟨R, hR⟩ : ∃ R, genB ⟨k, n, d, nm⟩ = R := ⟨_, rfl⟩
  rw [hR]
  have hR : decide (k = 1 ∧ 28 ≤ n) = R := hR
  by_cases h : k = 1
  · subst h
    have HF : Hid (decide (28 ≤ n) = R) := Lib.hid (by rw [← hR]; simp)
    clear hR
    go_enter Try.func84, Try.ntmps84
    go_wp2_with fail
    go_ret
    exact ⟨ret_bool HF.out, HB.out⟩
  · have z2 : (k == 1) = false := by rw [beq_eq_false_iff_ne]; exact h
    have HF : Hid (false = R) := Lib.hid (by rw [← hR, decide_eq_false (fun c => h c.1)])
    clear h hR
    go_enter Try.func84, Try.ntmps84
    go_wp2_with fail
    go_ret
    exact ⟨ret_bool HF.out, HB.out⟩
end Go.Proofs.Ythfabalnioggcaa

namespace Go.Proofs.Ythfabalnioggcaa
open Go.RowKit TreN LexP FixP SynP ValP PropP FixM
set_option linter.unusedVariables false

set_option maxRecDepth 100000 in
theorem In10_none (s : List UInt8) (w : World) : Calls Try.prog 85 #[.slice none 0 0, .string ⟨s.toArray⟩] w fun e w' => e = .returned (.bool false) ∧ w' = w := by
  go_enter Try.func85, Try.ntmps85
  go_wp2_with fail
  go_loop [5] (fun vi => vi = .int .i64 0) (fun _ => 0)
  case atStart => rfl
  case round =>
    subst hrel
    go_wp2_with fail
    go_ret
    exact ⟨rfl, rfl⟩
set_option maxRecDepth 100000 in
set_option maxHeartbeats 1000000 in
theorem In10_any (b : Nat) (L : List (List UInt8)) (n cap : Nat) (s : List UInt8) (w : World) (hl : L.length = n) (hn : n ≤ 10000) (hT : TxAt w b L) :
    Calls Try.prog 85 #[.slice (some ⟨b, 0, none⟩) n cap, .string ⟨s.toArray⟩] w fun e w' => e = .returned (.bool (decide (s ∈ L))) ∧ w' = w := by
  have HT := Lib.hid hT
  have HL := Lib.hid hl
  clear hT hl
  go_enter Try.func85, Try.ntmps85
  go_wp2_with fail
  go_loop [5] (fun vi => ∃ k : Nat, vi = .int .i64 (k : Int) ∧ k ≤ n ∧ Hid (decide (s ∈ L) = decide (s ∈ L.drop k))) (fun vi => n - (intOf vi).toNat)
  case atStart => exact ⟨0, rfl, by omega, Lib.hid rfl⟩
  case round =>
    obtain ⟨k, rfl, hk, HP⟩ := hrel
    by_cases hlt : k < n
    · have hltz : (k : Int) < (n : Int) := by omega
      have hkl : k < L.length := by have := HL.out; omega
      have d1 := HT.out k hkl
      have hkn : (0 : Int) ≤ (k : Int) := by omega
      have hd := List.drop_eq_getElem_cons hkl
      obtain ⟨x, hx⟩ : ∃ x, L[k] = x := ⟨_, rfl⟩
      rw [hx] at d1 hd
      by_cases he : x = s
      · have HF : Hid (true = decide (s ∈ L)) := Lib.hid (by rw [HP.out, hd, he]; simp)
        subst he
        clear hd hx hkl
        go_wp2_with fail
        go_ret
        exact ⟨ret_bool HF.out, rfl⟩
      · have heb : (x == s) = false := by rw [beq_eq_false_iff_ne]; exact he
        have HF : Hid (decide (s ∈ L) = decide (s ∈ L.drop (k + 1))) := Lib.hid (by
          have h2 : ¬ s = x := fun e => he e.symm
          rw [HP.out, hd]; simp only [List.mem_cons, h2, false_or])
        clear hd hx hkl he
        go_wp2_with fail
        go_round
        case rel => exact ⟨k + 1, by go_num, by omega, HF⟩
        case measure => simp [intOf]; omega
    · have hltz : ¬ (k : Int) < (n : Int) := by omega
      have HF : Hid (false = decide (s ∈ L)) := Lib.hid (by rw [HP.out, List.drop_of_length_le (by have := HL.out; omega)]; simp)
      go_wp2_with fail
      go_ret
      exact ⟨ret_bool HF.out, rfl⟩
end Go.Proofs.Ythfabalnioggcaa
