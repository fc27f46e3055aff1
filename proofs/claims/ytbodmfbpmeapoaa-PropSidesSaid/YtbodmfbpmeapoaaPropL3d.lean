/- Layer 10's law PropSides, whole. -/
import Derived.Test.YtbodmfbpmeapoaaPropL3a
import Derived.Test.YtbodmfbpmeapoaaPropL3b
import Derived.Test.YtbodmfbpmeapoaaPropL3c
namespace Go.Proofs.Ytbodmfbpmeapoaa
open Go.RowKit TreN LexP FixP SynP ValP PropP FixM
set_option linter.unusedVariables false

set_option maxRecDepth 100000 in
set_option maxHeartbeats 2000000 in
theorem PropSides_walk (q : Int) (a : Option Addr) (l : List Val) (cap : Nat) (w : World) (hc : l.length ≤ cap) (hm : cap ≤ maxLen) (hT : Vs w a l) (hx : ∀ v ∈ l, v.name.length ≤ maxLen) :
    Calls Try.prog 5 #[.int .i64 q, .slice a l.length cap] w fun e w' => e = .returned (.bool true) ∧ Below w.heap.size w w' := by
  obtain ⟨n, hn⟩ : ∃ n, l.length = n := ⟨_, rfl⟩
  rw [hn] at hc ⊢
  by_cases h : 0 ≤ q ∧ q ≤ 2 ∧ 1 ≤ n ∧ n ≤ 5
  · obtain ⟨h1, h2, h3, h4⟩ := h
    have hq : q = 0 ∨ q = 1 ∨ q = 2 := by omega
    rcases hq with rfl | rfl | rfl
    · exact PropSides_0 a l n cap w hn h3 h4 hT hx
    · exact PropSides_1 a l n cap w hn h3 h4 hT hx
    · exact PropSides_2 a l n cap w hn h3 h4 hT hx
  · have KN := Lib.hid (fun W => known10_any W)
    obtain ⟨w1, hw1⟩ : ∃ w1, w.alloc (.cells #[.string ⟨#[109, 97, 114, 103, 105, 110]⟩, .string ⟨#[112, 97, 100, 100, 105, 110, 103]⟩, .string ⟨#[98, 111, 114, 100, 101, 114, 45, 119, 105, 100, 116, 104]⟩] 9) = w1 := ⟨_, rfl⟩
    have HB1 : Hid (Below w.heap.size w w1) := Lib.hid (by rw [← hw1]; exact below_oneP _ _)
    have HW1 := Lib.hid hw1
    have hcz : n ≤ 9223372036854775807 := by unfold maxLen at hm; omega
    have hcc : q < 0 ∨ (0 ≤ q ∧ 2 < q) ∨ (0 ≤ q ∧ q ≤ 2 ∧ n = 0) ∨ (0 ≤ q ∧ q ≤ 2 ∧ 1 ≤ n ∧ 5 < n) := by omega
    clear h hw1 hT hx hn hc hm
    rcases hcc with h1 | ⟨h1, h2⟩ | ⟨h1, h2, rfl⟩ | ⟨h1, h2, h3, h4⟩
    case inr.inr.inr =>
      have z0 : ((n : Int) == 0) = false := by rw [beq_eq_false_iff_ne]; omega
      have h4z : (5 : Int) < (n : Int) := by omega
      go_enter Try.func5, Try.ntmps5
      go_upto_region 2 with (fail)
      rw [HW1.out]
      go_wp2_with fail
      refine (KN.out _).mono ?_
      rintro e w9 ⟨rfl, hb9⟩
      have HB9 := Lib.hid (HB1.out.trans (hb9.mono HB1.out.size))
      clear hb9
      go_wp2_with fail
      go_ret
      exact ⟨rfl, HB9.out⟩
    all_goals
      go_enter Try.func5, Try.ntmps5
      go_upto_region 2 with (fail)
      rw [HW1.out]
      go_wp2_with fail
      refine (KN.out _).mono ?_
      rintro e w9 ⟨rfl, hb9⟩
      have HB9 := Lib.hid (HB1.out.trans (hb9.mono HB1.out.size))
      clear hb9
      go_wp2_with fail
      go_ret
      exact ⟨rfl, HB9.out⟩
end Go.Proofs.Ytbodmfbpmeapoaa
