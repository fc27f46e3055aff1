/- Layer 17: what a property has of its own. (Written by gen_stl4.py.) -/
import Derived.Test.YtlngipglhlhhbaaStlW3
namespace Go.Proofs.Ytlngipglhlhhbaa
open Go.RowKit TreN LexP FixP SynP ValP PropP FixM
set_option linter.unusedVariables false

theorem has_fin {w W : World} {R : Nat} {v : Val} {s : Bool} (h : Vz w W R v) (f : Act) (hf : f.tmps[4]? = some (.pointer (some ⟨R, 0, none⟩))) (hs : f.tmps[5]? = some (.bool s)) (hd : f.defers = []) :
    bodyPost Try.prog Try.f14 (fun e w' => e = .returned (.tuple #[vlV v, .bool s]) ∧ Below w.heap.size w w') .ret f W := by
  obtain ⟨y0, y1, y2, y3, _⟩ := h.cells
  exact bodyPost_ret (v := .tuple #[vlV v, .bool s]) (by unfold vlV; simp [results, Try.results14, go_sem, hf, hs, y0, y1, y2, y3]) hd ⟨rfl, h.bel⟩
theorem hasO_none_up (p : Nat) (h : p = 36 ∨ p = 37) : hasO none p = none := by unfold hasO unsB; rw [if_pos (Or.inr ⟨rfl, h⟩)]
theorem hasO_none (p : Nat) (h : ¬ (p = 36 ∨ p = 37)) : hasO none p = some (firstZ p) := by
  unfold hasO unsB
  simp only [Option.getD_none, Option.isNone_none, Bool.true_or]
  rw [if_neg (fun c => c.elim (fun e => by revert e; decide) (fun e => h e.2)), if_pos (Or.inr trivial)]
theorem unsB_some (v : Val) : unsB (some v) = decide (wordS v = unsT) := by simp [unsB]
theorem hasO_uns_up (v : Val) (p : Nat) (hw : wordS v = unsT) (h : p = 36 ∨ p = 37) : hasO (some v) p = none := by
  unfold hasO
  rw [unsB_some, if_pos (Or.inr ⟨decide_eq_true hw, h⟩)]
theorem hasO_uns (v : Val) (p : Nat) (hw : wordS v = unsT) (h : ¬ (p = 36 ∨ p = 37)) : hasO (some v) p = some (firstZ p) := by
  unfold hasO
  rw [unsB_some, if_neg (fun c => c.elim (fun e => by rw [Option.getD_some, hw] at e; revert e; decide) (fun e => h e.2)), if_pos (Or.inr (decide_eq_true hw))]
theorem hasO_inh (v : Val) (p : Nat) (hw : wordS v = inhT) : hasO (some v) p = none := by
  unfold hasO
  simp only [Option.getD_some]
  rw [if_pos (Or.inl hw)]
theorem hasO_ini (v : Val) (p : Nat) (hw : wordS v = iniT) : hasO (some v) p = some (firstZ p) := by
  have hu : unsB (some v) = false := by rw [unsB_some, hw]; decide
  unfold hasO
  simp only [Option.getD_some]
  rw [if_neg (fun c => c.elim (fun e => by rw [hw] at e; revert e; decide) (fun e => by rw [hu] at e; cases e.1)), if_pos (Or.inl hw)]
theorem hasO_own (v : Val) (p : Nat) (h1 : wordS v ≠ inhT) (h2 : wordS v ≠ iniT) (h3 : wordS v ≠ unsT) : hasO (some v) p = some v := by
  have hu : unsB (some v) = false := by rw [unsB_some]; exact decide_eq_false h3
  unfold hasO
  rw [if_neg (fun c => c.elim h1 (fun e => by rw [hu] at e; cases e.1)), if_neg (fun c => c.elim h2 (fun e => by rw [hu] at e; cases e))]

set_option maxRecDepth 100000 in
set_option maxHeartbeats 4000000 in
theorem has_a (a : Option Addr) (n cap : Nat) (P : Int) (tk tn td : Int) (tnm s : List UInt8) (fv : Val) (w : World)
    (CT : Hid (Calls Try.prog 20 #[.slice a n cap, .int .i64 P] (w.alloc (.cells #[.int .i64 0, .int .i64 0, .int .i64 0, .string ⟨#[]⟩] 34)) fun e w' => e = .returned (.tuple #[.agg #[.int .i64 tk, .int .i64 tn, .int .i64 td, .string ⟨tnm.toArray⟩], .bool false]) ∧ Below (w.alloc (.cells #[.int .i64 0, .int .i64 0, .int .i64 0, .string ⟨#[]⟩] 34)).heap.size (w.alloc (.cells #[.int .i64 0, .int .i64 0, .int .i64 0, .string ⟨#[]⟩] 34)) w'))
    (CS : Hid (∀ W, Calls Try.prog 21 #[.agg #[.int .i64 tk, .int .i64 tn, .int .i64 td, .string ⟨tnm.toArray⟩]] W fun e w' => e = .returned (.string ⟨#[]⟩) ∧ Below W.heap.size W w'))
    (CN : Hid (∀ W, Calls Try.prog 22 #[.int .i64 P] W fun e w' => e = .returned (.bool true) ∧ w' = W))
    (CF : Hid (∀ W, Calls Try.prog 23 #[.int .i64 P] W fun e w' => e = .returned (.agg #[.int .i64 fv.kind, .int .i64 fv.n, .int .i64 fv.d, .string ⟨fv.name.toArray⟩]) ∧ Below W.heap.size W w')) :
    Calls Try.prog 14 #[.slice a n cap, .int .i64 P] w fun e w' => e = .returned (.tuple #[vlV zeroV, .bool false]) ∧ Below w.heap.size w w' := by
  have HA := Lib.hid (Vz.new w)
  go_enter Try.func14, Try.ntmps14
  go_wp2_with fail
  refine CT.out.mono ?_
  rintro e w1 ⟨rfl, hb⟩
  have HA1 := Lib.hid (HA.out.below hb)
  have HV2 : Hid (Vz w (w1.alloc (.cells #[.int .i64 tk, .int .i64 tn, .int .i64 td, .string ⟨tnm.toArray⟩] 34)) w1.heap.size ⟨tk, tn, td, tnm⟩) := ⟨heap_alloc_new w1 _, HA1.out.bel.size, HA1.out.bel.alloc HA1.out.bel.size _⟩
  have HA2 := Lib.hid (HA1.out.below (below_one7h w1 (.cells #[.int .i64 tk, .int .i64 tn, .int .i64 td, .string ⟨tnm.toArray⟩] 34)))
  clear hb
  go_wp2_with fail
  refine (CS.out _).mono ?_
  rintro e w3 ⟨rfl, hb⟩
  have HA3 := Lib.hid (HA2.out.below hb)
  have HV3 := Lib.hid (HV2.out.below hb)
  clear hb
  obtain ⟨r0, r1, r2, r3, g0, g1, g2, g3, l1⟩ := HA3.out.cells
  obtain ⟨x0, x1, x2, x3, j0, j1, j2, j3, l2⟩ := HV3.out.cells
  go_wp2_with fail
  refine (CN.out _).mono ?_
  rintro e wn ⟨rfl, rfl⟩
  go_wp2_with fail
  exact has_fin (HA3.out.set zeroV) _ rfl rfl rfl

set_option maxRecDepth 100000 in
set_option maxHeartbeats 4000000 in
theorem has_b (a : Option Addr) (n cap : Nat) (P : Int) (tk tn td : Int) (tnm s : List UInt8) (fv : Val) (w : World)
    (CT : Hid (Calls Try.prog 20 #[.slice a n cap, .int .i64 P] (w.alloc (.cells #[.int .i64 0, .int .i64 0, .int .i64 0, .string ⟨#[]⟩] 34)) fun e w' => e = .returned (.tuple #[.agg #[.int .i64 tk, .int .i64 tn, .int .i64 td, .string ⟨tnm.toArray⟩], .bool false]) ∧ Below (w.alloc (.cells #[.int .i64 0, .int .i64 0, .int .i64 0, .string ⟨#[]⟩] 34)).heap.size (w.alloc (.cells #[.int .i64 0, .int .i64 0, .int .i64 0, .string ⟨#[]⟩] 34)) w'))
    (CS : Hid (∀ W, Calls Try.prog 21 #[.agg #[.int .i64 tk, .int .i64 tn, .int .i64 td, .string ⟨tnm.toArray⟩]] W fun e w' => e = .returned (.string ⟨#[]⟩) ∧ Below W.heap.size W w'))
    (CN : Hid (∀ W, Calls Try.prog 22 #[.int .i64 P] W fun e w' => e = .returned (.bool false) ∧ w' = W))
    (CF : Hid (∀ W, Calls Try.prog 23 #[.int .i64 P] W fun e w' => e = .returned (.agg #[.int .i64 fv.kind, .int .i64 fv.n, .int .i64 fv.d, .string ⟨fv.name.toArray⟩]) ∧ Below W.heap.size W w')) :
    Calls Try.prog 14 #[.slice a n cap, .int .i64 P] w fun e w' => e = .returned (.tuple #[vlV fv, .bool true]) ∧ Below w.heap.size w w' := by
  have HA := Lib.hid (Vz.new w)
  go_enter Try.func14, Try.ntmps14
  go_wp2_with fail
  refine CT.out.mono ?_
  rintro e w1 ⟨rfl, hb⟩
  have HA1 := Lib.hid (HA.out.below hb)
  have HV2 : Hid (Vz w (w1.alloc (.cells #[.int .i64 tk, .int .i64 tn, .int .i64 td, .string ⟨tnm.toArray⟩] 34)) w1.heap.size ⟨tk, tn, td, tnm⟩) := ⟨heap_alloc_new w1 _, HA1.out.bel.size, HA1.out.bel.alloc HA1.out.bel.size _⟩
  have HA2 := Lib.hid (HA1.out.below (below_one7h w1 (.cells #[.int .i64 tk, .int .i64 tn, .int .i64 td, .string ⟨tnm.toArray⟩] 34)))
  clear hb
  go_wp2_with fail
  refine (CS.out _).mono ?_
  rintro e w3 ⟨rfl, hb⟩
  have HA3 := Lib.hid (HA2.out.below hb)
  have HV3 := Lib.hid (HV2.out.below hb)
  clear hb
  obtain ⟨r0, r1, r2, r3, g0, g1, g2, g3, l1⟩ := HA3.out.cells
  obtain ⟨x0, x1, x2, x3, j0, j1, j2, j3, l2⟩ := HV3.out.cells
  go_wp2_with fail
  refine (CN.out _).mono ?_
  rintro e wn ⟨rfl, rfl⟩
  go_wp2_with fail
  refine (CS.out _).mono ?_
  rintro e w4 ⟨rfl, hb⟩
  have HA4 := Lib.hid (HA3.out.below hb)
  have HV4 := Lib.hid (HV3.out.below hb)
  clear r0 r1 r2 r3 g0 g1 g2 g3 l1 x0 x1 x2 x3 j0 j1 j2 j3 l2
  clear hb
  obtain ⟨r0, r1, r2, r3, g0, g1, g2, g3, l1⟩ := HA4.out.cells
  obtain ⟨x0, x1, x2, x3, j0, j1, j2, j3, l2⟩ := HV4.out.cells
  go_wp2_with fail
  refine (CF.out _).mono ?_
  rintro e w5 ⟨rfl, hb⟩
  have HA5 := Lib.hid (HA4.out.below hb)
  have HV5 := Lib.hid (HV4.out.below hb)
  clear r0 r1 r2 r3 g0 g1 g2 g3 l1 x0 x1 x2 x3 j0 j1 j2 j3 l2
  clear hb
  obtain ⟨r0, r1, r2, r3, g0, g1, g2, g3, l1⟩ := HA5.out.cells
  obtain ⟨x0, x1, x2, x3, j0, j1, j2, j3, l2⟩ := HV5.out.cells
  go_wp2_with fail
  exact has_fin (HA5.out.set fv) _ rfl rfl rfl

set_option maxRecDepth 100000 in
set_option maxHeartbeats 4000000 in
theorem has_c (a : Option Addr) (n cap : Nat) (P : Int) (tk tn td : Int) (tnm s : List UInt8) (fv : Val) (w : World)
    (CT : Hid (Calls Try.prog 20 #[.slice a n cap, .int .i64 P] (w.alloc (.cells #[.int .i64 0, .int .i64 0, .int .i64 0, .string ⟨#[]⟩] 34)) fun e w' => e = .returned (.tuple #[.agg #[.int .i64 tk, .int .i64 tn, .int .i64 td, .string ⟨tnm.toArray⟩], .bool true]) ∧ Below (w.alloc (.cells #[.int .i64 0, .int .i64 0, .int .i64 0, .string ⟨#[]⟩] 34)).heap.size (w.alloc (.cells #[.int .i64 0, .int .i64 0, .int .i64 0, .string ⟨#[]⟩] 34)) w'))
    (CS : Hid (∀ W, Calls Try.prog 21 #[.agg #[.int .i64 tk, .int .i64 tn, .int .i64 td, .string ⟨tnm.toArray⟩]] W fun e w' => e = .returned (.string ⟨#[117, 110, 115, 101, 116]⟩) ∧ Below W.heap.size W w'))
    (CN : Hid (∀ W, Calls Try.prog 22 #[.int .i64 P] W fun e w' => e = .returned (.bool true) ∧ w' = W))
    (CF : Hid (∀ W, Calls Try.prog 23 #[.int .i64 P] W fun e w' => e = .returned (.agg #[.int .i64 fv.kind, .int .i64 fv.n, .int .i64 fv.d, .string ⟨fv.name.toArray⟩]) ∧ Below W.heap.size W w')) :
    Calls Try.prog 14 #[.slice a n cap, .int .i64 P] w fun e w' => e = .returned (.tuple #[vlV zeroV, .bool false]) ∧ Below w.heap.size w w' := by
  have HA := Lib.hid (Vz.new w)
  go_enter Try.func14, Try.ntmps14
  go_wp2_with fail
  refine CT.out.mono ?_
  rintro e w1 ⟨rfl, hb⟩
  have HA1 := Lib.hid (HA.out.below hb)
  have HV2 : Hid (Vz w (w1.alloc (.cells #[.int .i64 tk, .int .i64 tn, .int .i64 td, .string ⟨tnm.toArray⟩] 34)) w1.heap.size ⟨tk, tn, td, tnm⟩) := ⟨heap_alloc_new w1 _, HA1.out.bel.size, HA1.out.bel.alloc HA1.out.bel.size _⟩
  have HA2 := Lib.hid (HA1.out.below (below_one7h w1 (.cells #[.int .i64 tk, .int .i64 tn, .int .i64 td, .string ⟨tnm.toArray⟩] 34)))
  clear hb
  go_wp2_with fail
  refine (CS.out _).mono ?_
  rintro e w3 ⟨rfl, hb⟩
  have HA3 := Lib.hid (HA2.out.below hb)
  have HV3 := Lib.hid (HV2.out.below hb)
  clear hb
  obtain ⟨r0, r1, r2, r3, g0, g1, g2, g3, l1⟩ := HA3.out.cells
  obtain ⟨x0, x1, x2, x3, j0, j1, j2, j3, l2⟩ := HV3.out.cells
  go_wp2_with fail
  refine (CS.out _).mono ?_
  rintro e w4 ⟨rfl, hb⟩
  have HA4 := Lib.hid (HA3.out.below hb)
  have HV4 := Lib.hid (HV3.out.below hb)
  clear r0 r1 r2 r3 g0 g1 g2 g3 l1 x0 x1 x2 x3 j0 j1 j2 j3 l2
  clear hb
  obtain ⟨r0, r1, r2, r3, g0, g1, g2, g3, l1⟩ := HA4.out.cells
  obtain ⟨x0, x1, x2, x3, j0, j1, j2, j3, l2⟩ := HV4.out.cells
  go_wp2_with fail
  refine (CN.out _).mono ?_
  rintro e wn ⟨rfl, rfl⟩
  go_wp2_with fail
  exact has_fin (HA4.out.set zeroV) _ rfl rfl rfl

set_option maxRecDepth 100000 in
set_option maxHeartbeats 4000000 in
theorem has_d (a : Option Addr) (n cap : Nat) (P : Int) (tk tn td : Int) (tnm s : List UInt8) (fv : Val) (w : World)
    (CT : Hid (Calls Try.prog 20 #[.slice a n cap, .int .i64 P] (w.alloc (.cells #[.int .i64 0, .int .i64 0, .int .i64 0, .string ⟨#[]⟩] 34)) fun e w' => e = .returned (.tuple #[.agg #[.int .i64 tk, .int .i64 tn, .int .i64 td, .string ⟨tnm.toArray⟩], .bool true]) ∧ Below (w.alloc (.cells #[.int .i64 0, .int .i64 0, .int .i64 0, .string ⟨#[]⟩] 34)).heap.size (w.alloc (.cells #[.int .i64 0, .int .i64 0, .int .i64 0, .string ⟨#[]⟩] 34)) w'))
    (CS : Hid (∀ W, Calls Try.prog 21 #[.agg #[.int .i64 tk, .int .i64 tn, .int .i64 td, .string ⟨tnm.toArray⟩]] W fun e w' => e = .returned (.string ⟨#[117, 110, 115, 101, 116]⟩) ∧ Below W.heap.size W w'))
    (CN : Hid (∀ W, Calls Try.prog 22 #[.int .i64 P] W fun e w' => e = .returned (.bool false) ∧ w' = W))
    (CF : Hid (∀ W, Calls Try.prog 23 #[.int .i64 P] W fun e w' => e = .returned (.agg #[.int .i64 fv.kind, .int .i64 fv.n, .int .i64 fv.d, .string ⟨fv.name.toArray⟩]) ∧ Below W.heap.size W w')) :
    Calls Try.prog 14 #[.slice a n cap, .int .i64 P] w fun e w' => e = .returned (.tuple #[vlV fv, .bool true]) ∧ Below w.heap.size w w' := by
  have HA := Lib.hid (Vz.new w)
  go_enter Try.func14, Try.ntmps14
  go_wp2_with fail
  refine CT.out.mono ?_
  rintro e w1 ⟨rfl, hb⟩
  have HA1 := Lib.hid (HA.out.below hb)
  have HV2 : Hid (Vz w (w1.alloc (.cells #[.int .i64 tk, .int .i64 tn, .int .i64 td, .string ⟨tnm.toArray⟩] 34)) w1.heap.size ⟨tk, tn, td, tnm⟩) := ⟨heap_alloc_new w1 _, HA1.out.bel.size, HA1.out.bel.alloc HA1.out.bel.size _⟩
  have HA2 := Lib.hid (HA1.out.below (below_one7h w1 (.cells #[.int .i64 tk, .int .i64 tn, .int .i64 td, .string ⟨tnm.toArray⟩] 34)))
  clear hb
  go_wp2_with fail
  refine (CS.out _).mono ?_
  rintro e w3 ⟨rfl, hb⟩
  have HA3 := Lib.hid (HA2.out.below hb)
  have HV3 := Lib.hid (HV2.out.below hb)
  clear hb
  obtain ⟨r0, r1, r2, r3, g0, g1, g2, g3, l1⟩ := HA3.out.cells
  obtain ⟨x0, x1, x2, x3, j0, j1, j2, j3, l2⟩ := HV3.out.cells
  go_wp2_with fail
  refine (CS.out _).mono ?_
  rintro e w4 ⟨rfl, hb⟩
  have HA4 := Lib.hid (HA3.out.below hb)
  have HV4 := Lib.hid (HV3.out.below hb)
  clear r0 r1 r2 r3 g0 g1 g2 g3 l1 x0 x1 x2 x3 j0 j1 j2 j3 l2
  clear hb
  obtain ⟨r0, r1, r2, r3, g0, g1, g2, g3, l1⟩ := HA4.out.cells
  obtain ⟨x0, x1, x2, x3, j0, j1, j2, j3, l2⟩ := HV4.out.cells
  go_wp2_with fail
  refine (CN.out _).mono ?_
  rintro e wn ⟨rfl, rfl⟩
  go_wp2_with fail
  refine (CS.out _).mono ?_
  rintro e w5 ⟨rfl, hb⟩
  have HA5 := Lib.hid (HA4.out.below hb)
  have HV5 := Lib.hid (HV4.out.below hb)
  clear r0 r1 r2 r3 g0 g1 g2 g3 l1 x0 x1 x2 x3 j0 j1 j2 j3 l2
  clear hb
  obtain ⟨r0, r1, r2, r3, g0, g1, g2, g3, l1⟩ := HA5.out.cells
  obtain ⟨x0, x1, x2, x3, j0, j1, j2, j3, l2⟩ := HV5.out.cells
  go_wp2_with fail
  refine (CF.out _).mono ?_
  rintro e w6 ⟨rfl, hb⟩
  have HA6 := Lib.hid (HA5.out.below hb)
  have HV6 := Lib.hid (HV5.out.below hb)
  clear r0 r1 r2 r3 g0 g1 g2 g3 l1 x0 x1 x2 x3 j0 j1 j2 j3 l2
  clear hb
  obtain ⟨r0, r1, r2, r3, g0, g1, g2, g3, l1⟩ := HA6.out.cells
  obtain ⟨x0, x1, x2, x3, j0, j1, j2, j3, l2⟩ := HV6.out.cells
  go_wp2_with fail
  exact has_fin (HA6.out.set fv) _ rfl rfl rfl

set_option maxRecDepth 100000 in
set_option maxHeartbeats 4000000 in
theorem has_e (a : Option Addr) (n cap : Nat) (P : Int) (tk tn td : Int) (tnm s : List UInt8) (fv : Val) (w : World)
    (CT : Hid (Calls Try.prog 20 #[.slice a n cap, .int .i64 P] (w.alloc (.cells #[.int .i64 0, .int .i64 0, .int .i64 0, .string ⟨#[]⟩] 34)) fun e w' => e = .returned (.tuple #[.agg #[.int .i64 tk, .int .i64 tn, .int .i64 td, .string ⟨tnm.toArray⟩], .bool true]) ∧ Below (w.alloc (.cells #[.int .i64 0, .int .i64 0, .int .i64 0, .string ⟨#[]⟩] 34)).heap.size (w.alloc (.cells #[.int .i64 0, .int .i64 0, .int .i64 0, .string ⟨#[]⟩] 34)) w'))
    (CS : Hid (∀ W, Calls Try.prog 21 #[.agg #[.int .i64 tk, .int .i64 tn, .int .i64 td, .string ⟨tnm.toArray⟩]] W fun e w' => e = .returned (.string ⟨#[105, 110, 104, 101, 114, 105, 116]⟩) ∧ Below W.heap.size W w'))
    (CF : Hid (∀ W, Calls Try.prog 23 #[.int .i64 P] W fun e w' => e = .returned (.agg #[.int .i64 fv.kind, .int .i64 fv.n, .int .i64 fv.d, .string ⟨fv.name.toArray⟩]) ∧ Below W.heap.size W w')) :
    Calls Try.prog 14 #[.slice a n cap, .int .i64 P] w fun e w' => e = .returned (.tuple #[vlV zeroV, .bool false]) ∧ Below w.heap.size w w' := by
  have HA := Lib.hid (Vz.new w)
  go_enter Try.func14, Try.ntmps14
  go_wp2_with fail
  refine CT.out.mono ?_
  rintro e w1 ⟨rfl, hb⟩
  have HA1 := Lib.hid (HA.out.below hb)
  have HV2 : Hid (Vz w (w1.alloc (.cells #[.int .i64 tk, .int .i64 tn, .int .i64 td, .string ⟨tnm.toArray⟩] 34)) w1.heap.size ⟨tk, tn, td, tnm⟩) := ⟨heap_alloc_new w1 _, HA1.out.bel.size, HA1.out.bel.alloc HA1.out.bel.size _⟩
  have HA2 := Lib.hid (HA1.out.below (below_one7h w1 (.cells #[.int .i64 tk, .int .i64 tn, .int .i64 td, .string ⟨tnm.toArray⟩] 34)))
  clear hb
  go_wp2_with fail
  refine (CS.out _).mono ?_
  rintro e w3 ⟨rfl, hb⟩
  have HA3 := Lib.hid (HA2.out.below hb)
  have HV3 := Lib.hid (HV2.out.below hb)
  clear hb
  obtain ⟨r0, r1, r2, r3, g0, g1, g2, g3, l1⟩ := HA3.out.cells
  obtain ⟨x0, x1, x2, x3, j0, j1, j2, j3, l2⟩ := HV3.out.cells
  go_wp2_with fail
  refine (CS.out _).mono ?_
  rintro e w4 ⟨rfl, hb⟩
  have HA4 := Lib.hid (HA3.out.below hb)
  have HV4 := Lib.hid (HV3.out.below hb)
  clear r0 r1 r2 r3 g0 g1 g2 g3 l1 x0 x1 x2 x3 j0 j1 j2 j3 l2
  clear hb
  obtain ⟨r0, r1, r2, r3, g0, g1, g2, g3, l1⟩ := HA4.out.cells
  obtain ⟨x0, x1, x2, x3, j0, j1, j2, j3, l2⟩ := HV4.out.cells
  go_wp2_with fail
  exact has_fin (HA4.out.set zeroV) _ rfl rfl rfl

set_option maxRecDepth 100000 in
set_option maxHeartbeats 4000000 in
theorem has_f (a : Option Addr) (n cap : Nat) (P : Int) (tk tn td : Int) (tnm s : List UInt8) (fv : Val) (w : World)
    (CT : Hid (Calls Try.prog 20 #[.slice a n cap, .int .i64 P] (w.alloc (.cells #[.int .i64 0, .int .i64 0, .int .i64 0, .string ⟨#[]⟩] 34)) fun e w' => e = .returned (.tuple #[.agg #[.int .i64 tk, .int .i64 tn, .int .i64 td, .string ⟨tnm.toArray⟩], .bool true]) ∧ Below (w.alloc (.cells #[.int .i64 0, .int .i64 0, .int .i64 0, .string ⟨#[]⟩] 34)).heap.size (w.alloc (.cells #[.int .i64 0, .int .i64 0, .int .i64 0, .string ⟨#[]⟩] 34)) w'))
    (CS : Hid (∀ W, Calls Try.prog 21 #[.agg #[.int .i64 tk, .int .i64 tn, .int .i64 td, .string ⟨tnm.toArray⟩]] W fun e w' => e = .returned (.string ⟨#[105, 110, 105, 116, 105, 97, 108]⟩) ∧ Below W.heap.size W w'))
    (CF : Hid (∀ W, Calls Try.prog 23 #[.int .i64 P] W fun e w' => e = .returned (.agg #[.int .i64 fv.kind, .int .i64 fv.n, .int .i64 fv.d, .string ⟨fv.name.toArray⟩]) ∧ Below W.heap.size W w')) :
    Calls Try.prog 14 #[.slice a n cap, .int .i64 P] w fun e w' => e = .returned (.tuple #[vlV fv, .bool true]) ∧ Below w.heap.size w w' := by
  have HA := Lib.hid (Vz.new w)
  go_enter Try.func14, Try.ntmps14
  go_wp2_with fail
  refine CT.out.mono ?_
  rintro e w1 ⟨rfl, hb⟩
  have HA1 := Lib.hid (HA.out.below hb)
  have HV2 : Hid (Vz w (w1.alloc (.cells #[.int .i64 tk, .int .i64 tn, .int .i64 td, .string ⟨tnm.toArray⟩] 34)) w1.heap.size ⟨tk, tn, td, tnm⟩) := ⟨heap_alloc_new w1 _, HA1.out.bel.size, HA1.out.bel.alloc HA1.out.bel.size _⟩
  have HA2 := Lib.hid (HA1.out.below (below_one7h w1 (.cells #[.int .i64 tk, .int .i64 tn, .int .i64 td, .string ⟨tnm.toArray⟩] 34)))
  clear hb
  go_wp2_with fail
  refine (CS.out _).mono ?_
  rintro e w3 ⟨rfl, hb⟩
  have HA3 := Lib.hid (HA2.out.below hb)
  have HV3 := Lib.hid (HV2.out.below hb)
  clear hb
  obtain ⟨r0, r1, r2, r3, g0, g1, g2, g3, l1⟩ := HA3.out.cells
  obtain ⟨x0, x1, x2, x3, j0, j1, j2, j3, l2⟩ := HV3.out.cells
  go_wp2_with fail
  refine (CS.out _).mono ?_
  rintro e w4 ⟨rfl, hb⟩
  have HA4 := Lib.hid (HA3.out.below hb)
  have HV4 := Lib.hid (HV3.out.below hb)
  clear r0 r1 r2 r3 g0 g1 g2 g3 l1 x0 x1 x2 x3 j0 j1 j2 j3 l2
  clear hb
  obtain ⟨r0, r1, r2, r3, g0, g1, g2, g3, l1⟩ := HA4.out.cells
  obtain ⟨x0, x1, x2, x3, j0, j1, j2, j3, l2⟩ := HV4.out.cells
  go_wp2_with fail
  refine (CS.out _).mono ?_
  rintro e w5 ⟨rfl, hb⟩
  have HA5 := Lib.hid (HA4.out.below hb)
  have HV5 := Lib.hid (HV4.out.below hb)
  clear r0 r1 r2 r3 g0 g1 g2 g3 l1 x0 x1 x2 x3 j0 j1 j2 j3 l2
  clear hb
  obtain ⟨r0, r1, r2, r3, g0, g1, g2, g3, l1⟩ := HA5.out.cells
  obtain ⟨x0, x1, x2, x3, j0, j1, j2, j3, l2⟩ := HV5.out.cells
  go_wp2_with fail
  refine (CF.out _).mono ?_
  rintro e w6 ⟨rfl, hb⟩
  have HA6 := Lib.hid (HA5.out.below hb)
  have HV6 := Lib.hid (HV5.out.below hb)
  clear r0 r1 r2 r3 g0 g1 g2 g3 l1 x0 x1 x2 x3 j0 j1 j2 j3 l2
  clear hb
  obtain ⟨r0, r1, r2, r3, g0, g1, g2, g3, l1⟩ := HA6.out.cells
  obtain ⟨x0, x1, x2, x3, j0, j1, j2, j3, l2⟩ := HV6.out.cells
  go_wp2_with fail
  exact has_fin (HA6.out.set fv) _ rfl rfl rfl

set_option maxRecDepth 100000 in
set_option maxHeartbeats 4000000 in
theorem has_g (a : Option Addr) (n cap : Nat) (P : Int) (tk tn td : Int) (tnm s : List UInt8) (fv : Val) (w : World)
    (CT : Hid (Calls Try.prog 20 #[.slice a n cap, .int .i64 P] (w.alloc (.cells #[.int .i64 0, .int .i64 0, .int .i64 0, .string ⟨#[]⟩] 34)) fun e w' => e = .returned (.tuple #[.agg #[.int .i64 tk, .int .i64 tn, .int .i64 td, .string ⟨tnm.toArray⟩], .bool true]) ∧ Below (w.alloc (.cells #[.int .i64 0, .int .i64 0, .int .i64 0, .string ⟨#[]⟩] 34)).heap.size (w.alloc (.cells #[.int .i64 0, .int .i64 0, .int .i64 0, .string ⟨#[]⟩] 34)) w'))
    (CS : Hid (∀ W, Calls Try.prog 21 #[.agg #[.int .i64 tk, .int .i64 tn, .int .i64 td, .string ⟨tnm.toArray⟩]] W fun e w' => e = .returned (.string ⟨s.toArray⟩) ∧ Below W.heap.size W w'))
    (CF : Hid (∀ W, Calls Try.prog 23 #[.int .i64 P] W fun e w' => e = .returned (.agg #[.int .i64 fv.kind, .int .i64 fv.n, .int .i64 fv.d, .string ⟨fv.name.toArray⟩]) ∧ Below W.heap.size W w'))
    (z1 : (s == [105, 110, 104, 101, 114, 105, 116]) = false) (z2 : (s == [105, 110, 105, 116, 105, 97, 108]) = false) (z3 : (s == [117, 110, 115, 101, 116]) = false) :
    Calls Try.prog 14 #[.slice a n cap, .int .i64 P] w fun e w' => e = .returned (.tuple #[vlV ⟨tk, tn, td, tnm⟩, .bool true]) ∧ Below w.heap.size w w' := by
  have HA := Lib.hid (Vz.new w)
  go_enter Try.func14, Try.ntmps14
  go_wp2_with fail
  refine CT.out.mono ?_
  rintro e w1 ⟨rfl, hb⟩
  have HA1 := Lib.hid (HA.out.below hb)
  have HV2 : Hid (Vz w (w1.alloc (.cells #[.int .i64 tk, .int .i64 tn, .int .i64 td, .string ⟨tnm.toArray⟩] 34)) w1.heap.size ⟨tk, tn, td, tnm⟩) := ⟨heap_alloc_new w1 _, HA1.out.bel.size, HA1.out.bel.alloc HA1.out.bel.size _⟩
  have HA2 := Lib.hid (HA1.out.below (below_one7h w1 (.cells #[.int .i64 tk, .int .i64 tn, .int .i64 td, .string ⟨tnm.toArray⟩] 34)))
  clear hb
  go_wp2_with fail
  refine (CS.out _).mono ?_
  rintro e w3 ⟨rfl, hb⟩
  have HA3 := Lib.hid (HA2.out.below hb)
  have HV3 := Lib.hid (HV2.out.below hb)
  clear hb
  obtain ⟨r0, r1, r2, r3, g0, g1, g2, g3, l1⟩ := HA3.out.cells
  obtain ⟨x0, x1, x2, x3, j0, j1, j2, j3, l2⟩ := HV3.out.cells
  go_wp2_with fail
  refine (CS.out _).mono ?_
  rintro e w4 ⟨rfl, hb⟩
  have HA4 := Lib.hid (HA3.out.below hb)
  have HV4 := Lib.hid (HV3.out.below hb)
  clear r0 r1 r2 r3 g0 g1 g2 g3 l1 x0 x1 x2 x3 j0 j1 j2 j3 l2
  clear hb
  obtain ⟨r0, r1, r2, r3, g0, g1, g2, g3, l1⟩ := HA4.out.cells
  obtain ⟨x0, x1, x2, x3, j0, j1, j2, j3, l2⟩ := HV4.out.cells
  go_wp2_with fail
  refine (CS.out _).mono ?_
  rintro e w5 ⟨rfl, hb⟩
  have HA5 := Lib.hid (HA4.out.below hb)
  have HV5 := Lib.hid (HV4.out.below hb)
  clear r0 r1 r2 r3 g0 g1 g2 g3 l1 x0 x1 x2 x3 j0 j1 j2 j3 l2
  clear hb
  obtain ⟨r0, r1, r2, r3, g0, g1, g2, g3, l1⟩ := HA5.out.cells
  obtain ⟨x0, x1, x2, x3, j0, j1, j2, j3, l2⟩ := HV5.out.cells
  go_wp2_with fail
  exact has_fin (HA5.out.set ⟨tk, tn, td, tnm⟩) _ rfl rfl rfl

theorem has17_any (a : Option Addr) (n cap : Nat) (L : List Val) (k : Nat) (P : Int) (w : World) (hP : P = (k : Int) + 1) (hk : k < 37) (hT : Td w a n L) : Calls Try.prog 14 #[.slice a n cap, .int .i64 P] w fun e w' => e = .returned (retO (hasS L (k + 1))) ∧ Below w.heap.size w w' := by
  have T := tells17_any a n cap L k P _ hP hk (hT.below (Vz.new w).bel)
  have hi0 : ∀ W, Calls Try.prog 22 #[.int .i64 P] W fun e w' => e = .returned (.bool (decide (P = 36 ∨ P = 37))) ∧ w' = W := fun W => Inherits10_any P W
  have hf0 : ∀ W, Calls Try.prog 23 #[.int .i64 P] W fun e w' => e = .returned (.agg #[.int .i64 (firstZ ((k + 1 : Nat) : Int)).kind, .int .i64 (firstZ ((k + 1 : Nat) : Int)).n, .int .i64 (firstZ ((k + 1 : Nat) : Int)).d, .string ⟨(firstZ ((k + 1 : Nat) : Int)).name.toArray⟩]) ∧ Below W.heap.size W w' := fun W => by
    have e : ((k + 1 : Nat) : Int) = P := by omega
    rw [e]
    exact FirstP_any P W
  have hpi : (decide (P = 36 ∨ P = 37)) = decide (k + 1 = 36 ∨ k + 1 = 37) := by
    by_cases h : k + 1 = 36 ∨ k + 1 = 37
    · rw [decide_eq_true h, decide_eq_true (by omega)]
    · rw [decide_eq_false h, decide_eq_false (by omega)]
  rw [hpi] at hi0
  unfold hasS
  cases ho : tellS L (k + 1) with
  | none =>
    rw [ho] at T
    have CS : ∀ W, Calls Try.prog 21 #[.agg #[.int .i64 0, .int .i64 0, .int .i64 0, .string ⟨([] : List UInt8).toArray⟩]] W fun e w' => e = .returned (.string ⟨#[]⟩) ∧ Below W.heap.size W w' := fun W => wordS_any zeroV W
    by_cases h : k + 1 = 36 ∨ k + 1 = 37
    · rw [decide_eq_true h] at hi0
      rw [hasO_none_up _ h]
      exact has_a a n cap P 0 0 0 [] [] _ w T CS hi0 hf0
    · rw [decide_eq_false h] at hi0
      rw [hasO_none _ h]
      exact has_b a n cap P 0 0 0 [] [] _ w T CS hi0 hf0
  | some v =>
    rw [ho] at T
    obtain ⟨tk, tn, td, tnm⟩ := v
    have CS0 : ∀ W, Calls Try.prog 21 #[.agg #[.int .i64 tk, .int .i64 tn, .int .i64 td, .string ⟨tnm.toArray⟩]] W fun e w' => e = .returned (.string ⟨(wordS ⟨tk, tn, td, tnm⟩).toArray⟩) ∧ Below W.heap.size W w' := fun W => wordS_any ⟨tk, tn, td, tnm⟩ W
    by_cases h1 : wordS ⟨tk, tn, td, tnm⟩ = unsT
    · rw [h1] at CS0
      by_cases h : k + 1 = 36 ∨ k + 1 = 37
      · rw [decide_eq_true h] at hi0
        rw [hasO_uns_up _ _ h1 h]
        exact has_c a n cap P tk tn td tnm [] _ w T CS0 hi0 hf0
      · rw [decide_eq_false h] at hi0
        rw [hasO_uns _ _ h1 h]
        exact has_d a n cap P tk tn td tnm [] _ w T CS0 hi0 hf0
    · by_cases h2 : wordS ⟨tk, tn, td, tnm⟩ = inhT
      · rw [h2] at CS0
        rw [hasO_inh _ _ h2]
        exact has_e a n cap P tk tn td tnm [] _ w T CS0 hf0
      · by_cases h3 : wordS ⟨tk, tn, td, tnm⟩ = iniT
        · rw [h3] at CS0
          rw [hasO_ini _ _ h3]
          exact has_f a n cap P tk tn td tnm [] _ w T CS0 hf0
        · rw [hasO_own _ _ h2 h3 h1]
          exact has_g a n cap P tk tn td tnm _ _ w T CS0 hf0 (beq_eq_false_iff_ne.2 h2) (beq_eq_false_iff_ne.2 h3) (beq_eq_false_iff_ne.2 h1)
end Go.Proofs.Ytlngipglhlhhbaa
