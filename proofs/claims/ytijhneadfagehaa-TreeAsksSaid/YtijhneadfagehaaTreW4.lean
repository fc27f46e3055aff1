/- The walks of layer 4, on: depths. -/
import Derived.Test.YtijhneadfagehaaKinV
namespace Go.Proofs.Ytijhneadfagehaa
open Go.RowKit TreP

/-- what a call that answers a number comes to -/
def ToldN (w : World) (n : Int) (e : Ending) (w' : World) : Prop := e = .returned (.int .i64 n) ∧ Below w.heap.size w w'

set_option maxRecDepth 100000 in
set_option maxHeartbeats 1000000 in
theorem Depth_any (a : Option Addr) (len cap : Nat) (f : Nat → Int) (i : Nat) (w : World) (hl : len ≤ 100000) (h : i < len) (hP : Pars w a len f) :
    Calls Try.prog 5 #[.slice a len cap, .int .i64 (i : Int)] w (ToldN w (1 + (ups f i).length)) := by
  have C := Lib.hid (Ups_any a len cap f i w hl h hP)
  have hle := ups_length f i
  obtain ⟨xs, hxs⟩ : ∃ xs, ups f i = xs := ⟨_, rfl⟩
  rw [hxs] at C hle ⊢
  clear hP hxs
  go_enter Try.func5, Try.ntmps5
  go_wp2_with fail
  refine (has_yes a len cap i w h).mono ?_
  rintro e w' ⟨rfl, rfl⟩
  go_wp2_with fail
  refine C.out.mono ?_
  rintro e w1 ⟨ad, c, rfl, hb, _⟩
  have HB := Lib.hid hb
  clear hb
  go_wp2_with fail
  go_ret
  exact ⟨rfl, HB.out⟩

set_option maxRecDepth 100000 in
set_option maxHeartbeats 400000 in
theorem Depth_no (a : Option Addr) (len cap : Nat) (i : Int) (w : World) (h : i < 0 ∨ (len : Int) ≤ i) :
    Calls Try.prog 5 #[.slice a len cap, .int .i64 i] w fun e w' => e = .returned (.int .i64 0) ∧ w = w' := by
  have C := Lib.hid (has_no a len cap i w h)
  clear h
  go_enter Try.func5, Try.ntmps5
  go_wp2_with fail
  refine C.out.mono ?_
  rintro e w' ⟨rfl, rfl⟩
  go_wp2_with fail
  go_ret
  exact ⟨rfl, rfl⟩
end Go.Proofs.Ytijhneadfagehaa
