/- The walk of layer 4's law: a builder that is not there. -/
import Derived.Test.YtlnglpjmfoigmaaTreL1
namespace Go.Proofs.Ytlnglpjmfoigmaa
open Go.RowKit TreN TreP

set_option maxRecDepth 100000 in
set_option maxHeartbeats 400000 in
theorem Open_nil (n : Nd) (w : World) : Calls Try.prog 32 #[.pointer none, .agg n.val] w fun e w' => e = .returned (.int .i64 3) ∧ boxed w n = w' := by
  rw [Nd.val_eq]
  have hbx : (w.alloc (.cells #[.int .i64 n.par, .string n.tag, .string n.id, .slice n.ca n.cl n.cc, .slice n.aa n.al n.ac, .string n.tx] 39)) = boxed w n := rfl
  go_enter Try.func32, Try.ntmps32
  go_wp2_with fail
  go_ret
  exact ⟨rfl, rfl⟩
set_option maxRecDepth 100000 in
set_option maxHeartbeats 400000 in
theorem Words_nil (s : ByteArray) (w : World) : Calls Try.prog 35 #[.pointer none, .string s] w fun e w' => e = .returned (.int .i64 3) ∧ w = w' := by
  go_enter Try.func35, Try.ntmps35
  go_wp2_with fail
  go_ret
  exact ⟨rfl, rfl⟩
set_option maxRecDepth 100000 in
set_option maxHeartbeats 400000 in
theorem Close_nil (w : World) : Calls Try.prog 36 #[.pointer none] w fun e w' => e = .returned (.int .i64 3) ∧ w = w' := by
  go_enter Try.func36, Try.ntmps36
  go_wp2_with fail
  go_ret
  exact ⟨rfl, rfl⟩
set_option maxRecDepth 100000 in
set_option maxHeartbeats 400000 in
theorem Done_nil (w : World) : Calls Try.prog 37 #[.pointer none] w fun e w' => e = .returned (.tuple #[.slice none 0 0, .int .i64 3]) ∧ w = w' := by
  go_enter Try.func37, Try.ntmps37
  go_wp2_with fail
  go_ret2
  exact ⟨rfl, rfl⟩

set_option maxRecDepth 100000 in
set_option maxHeartbeats 1000000 in
theorem TreeNil_walk (n : Nd) (w : World) : Calls Try.prog 9 #[.agg n.val] w fun e w' => e = .returned (.bool true) ∧ Below w.heap.size w w' := by
  have hO := fun W => Open_nil n W
  rw [Nd.val_eq] at hO ⊢
  have HO := Lib.hid hO
  clear hO
  have hbx : (w.alloc (.cells #[.int .i64 n.par, .string n.tag, .string n.id, .slice n.ca n.cl n.cc, .slice n.aa n.al n.ac, .string n.tx] 39)) = boxed w n := rfl
  obtain ⟨c0, c1, c2, c3, c4, c5⟩ := boxed_box w n
  have HX := Lib.hid (boxed_box w n)
  have HB := Lib.hid (boxed_below w n)
  have HS := Lib.hid (boxed_size w n)
  go_enter Try.func9, Try.ntmps9
  go_wp2_with fail
  clear hbx
  refine (Done_nil _).mono ?_
  rintro e w' ⟨rfl, rfl⟩
  go_wp2_with fail
  clear c0 c1 c2 c3 c4 c5
  refine (HO.out _).mono ?_
  rintro e w' ⟨rfl, rfl⟩
  have hb2 := boxed_below (boxed w n) n
  have c5 := (HX.out.below hb2 HS.out).2.2.2.2.2
  have H2 := Lib.hid (HB.out.trans (hb2.mono HB.out.size))
  generalize boxed (boxed w n) n = w2 at c5 H2 ⊢
  clear hb2
  go_wp2_with fail
  refine (Words_nil _ _).mono ?_
  rintro e w' ⟨rfl, rfl⟩
  go_wp2_with fail
  refine (Close_nil _).mono ?_
  rintro e w' ⟨rfl, rfl⟩
  go_wp2_with fail
  refine (known4_any _).mono ?_
  rintro e w8 ⟨rfl, hb8⟩
  have H8 := Lib.hid (H2.out.trans (hb8.mono H2.out.size))
  clear hb8
  go_wp2_with fail
  go_ret
  exact ⟨rfl, H8.out⟩

set_option maxRecDepth 100000 in
theorem agg_node {cs : Array Value} {n : Nd} (h : cs.toList = n.val.toList) : cs = n.val := Array.ext' h
end Go.Proofs.Ytlnglpjmfoigmaa
