/- The laws of layer 1: their walks. -/
import Derived.Test.YtpkhmagjdlpbjaaFixW8
import Derived.Test.YtpkhmagjdlpbjaaFixM2
namespace Go.Proofs.Ytpkhmagjdlpbjaa
open Go.RowKit FixM FixP

set_option maxHeartbeats 400000 in
theorem FixOrder_walk (a b n d : Int) (w : World) : Calls Try.prog 8 #[.int .i64 a, .int .i64 b, .int .i64 n, .int .i64 d] w fun e w' => e = .returned (.bool true) ∧ Grown w w' := by
  by_cases h : b < a ∨ n < 0 ∨ d ≤ 0
  · by_cases h1 : b < a
    · clear h
      go_enter Try.func8, Try.ntmps8
      go_wp2_with (go_at_call 19; refine (known_any _).mono ?_; rintro e w' ⟨rfl, hg⟩)
      go_ret
      exact ⟨rfl, hg⟩
    · by_cases h2 : n < 0
      · clear h
        go_enter Try.func8, Try.ntmps8
        go_wp2_with (go_at_call 19; refine (known_any _).mono ?_; rintro e w' ⟨rfl, hg⟩)
        go_ret
        exact ⟨rfl, hg⟩
      · have h3 : d ≤ 0 := by omega
        clear h
        go_enter Try.func8, Try.ntmps8
        go_wp2_with (go_at_call 19; refine (known_any _).mono ?_; rintro e w' ⟨rfl, hg⟩)
        go_ret
        exact ⟨rfl, hg⟩
  · have h1 : a ≤ b := by omega
    have h2 : 0 ≤ n := by omega
    have h3 : 0 < d := by omega
    have hm := PT_mono h1 h2 h3
    clear h
    go_enter Try.func8, Try.ntmps8
    go_wp2_with (first
      | (go_at_call 20; refine (Part_any _ _ _ _).mono ?_; rintro e w' ⟨rfl, rfl⟩)
      | (go_at_call 19; refine (known_any _).mono ?_; rintro e w' ⟨rfl, hg⟩))
    go_ret
    exact ⟨rfl, hg⟩

set_option maxHeartbeats 400000 in
theorem FixRest_walk (b n : Int) (w : World) : Calls Try.prog 9 #[.int .i64 b, .int .i64 n] w fun e w' => e = .returned (.bool true) ∧ Grown w w' := by
  by_cases h1 : n < 0
  · go_enter Try.func9, Try.ntmps9
    go_wp2_with (go_at_call 19; refine (known_any _).mono ?_; rintro e w' ⟨rfl, hg⟩)
    go_ret
    exact ⟨rfl, hg⟩
  · by_cases h2 : 100000 < n
    · go_enter Try.func9, Try.ntmps9
      go_wp2_with (go_at_call 19; refine (known_any _).mono ?_; rintro e w' ⟨rfl, hg⟩)
      go_ret
      exact ⟨rfl, hg⟩
    · have g1 : 0 ≤ n := by omega
      have g2 : n ≤ 100000 := by omega
      have hr := PT_rest b n g1 g2
      have p1 := PT_bd b n 100000
      have p2 := PT_bd b (100000 - n) 100000
      have hr1 := hr.1
      have hr2 := hr.2
      have p11 := p1.1
      have p12 := p1.2
      have p21 := p2.1
      have p22 := p2.2
      clear hr p1 p2 h1 h2
      go_enter Try.func9, Try.ntmps9
      go_wp2_with (first
        | (go_at_call 23; refine (Percent_any _ _ _).mono ?_; rintro e w' ⟨rfl, rfl⟩)
        | (go_at_call 15; refine (refHold_any _ _).mono ?_; rintro e w' ⟨rfl, rfl⟩)
        | (go_at_call 19; refine (known_any _).mono ?_; rintro e w' ⟨rfl, hg⟩))
      go_ret
      exact ⟨rfl, hg⟩
end Go.Proofs.Ytpkhmagjdlpbjaa
