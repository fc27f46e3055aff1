/- Layer 20: how a case that comes in is opened. (Written by gen_sizo.py; its first part stands in StlO too.) -/
import Derived.Test.YthfabalnioggcaaSizKq
import Derived.ProofKit
import Derived.OpenShut
import Derived.Deep.Slices
import Derived.Deep.Fields
namespace Go.Proofs.Ythfabalnioggcaa
open Go.ChangeShapes Go.WideShapes Go.ChangeAt Go.RowKit TreN LexP FixP SynP ValP PropP FixM
set_option linter.unusedVariables false

theorem len_succ17 {As : List Value} {n : Nat} (h : As.length = n + 1) : ∃ a B, As = a :: B ∧ B.length = n := by
  cases As with
  | nil => simp at h
  | cons a B => exact ⟨a, B, rfl, by simpa using h⟩
/-- a style -/
def tyL (z : Nat → Int) (b : Bool) (nm : ByteArray) : List Value := [Value.int .i64 (z 0), Value.bool b, Value.int .i64 (z 2), Value.int .i64 (z 3), Value.int .i64 (z 4), Value.int .i64 (z 5), Value.int .i64 (z 6), Value.int .i64 (z 7), Value.int .i64 (z 8), Value.int .i64 (z 9), Value.int .i64 (z 10), Value.int .i64 (z 11), Value.int .i64 (z 12), Value.int .i64 (z 13), Value.int .i64 (z 14), Value.int .i64 (z 15), Value.int .i64 (z 16), Value.int .i64 (z 17), Value.int .i64 (z 18), Value.int .i64 (z 19), Value.int .i64 (z 20), Value.int .i64 (z 21), Value.int .i64 (z 22), Value.int .i64 (z 23), Value.int .i64 (z 24), Value.int .i64 (z 25), Value.int .i64 (z 26), Value.int .i64 (z 27), Value.int .i64 (z 28), Value.int .i64 (z 29), Value.int .i64 (z 30), Value.int .i64 (z 31), Value.int .i64 (z 32), Value.int .i64 (z 33), Value.int .i64 (z 34), Value.int .i64 (z 35), Value.int .i64 (z 36), Value.int .i64 (z 37), Value.int .i64 (z 38), Value.int .i64 (z 39), Value.int .i64 (z 40), Value.int .i64 (z 41), Value.int .i64 (z 42), Value.int .i64 (z 43), Value.int .i64 (z 44), Value.int .i64 (z 45), Value.int .i64 (z 46), Value.int .i64 (z 47), Value.int .i64 (z 48), Value.int .i64 (z 49), Value.int .i64 (z 50), Value.int .i64 (z 51), Value.string nm, Value.int .i64 (z 53), Value.int .i64 (z 54)]
def WfI (n : Int) : Prop := (Lit.int .i64 n).wf = true
theorem WfI.getD {l : List Int} (h : ∀ x, x ∈ l → WfI x) (i : Nat) : WfI (l.getD i 0) := by
  rw [List.getD_eq_getElem?_getD]
  cases hi : l[i]? with
  | none => exact (by decide : (Lit.int .i64 0).wf = true)
  | some v => exact h v (List.mem_of_getElem? hi)
section
variable {H : Type} {enc : TypeId × Value → H} {w : World}
theorem cells_int17 : Try.prog.cellsOf 3 = 1 := by kernel_rfl
theorem cells_bool17 : Try.prog.cellsOf 4 = 1 := by kernel_rfl
theorem cells_str17 : Try.prog.cellsOf 9 = 1 := by kernel_rfl
theorem cells_size17 : Try.prog.cellsOf 23 = 2 := by kernel_rfl
theorem cells_arrS17 : Try.prog.cellsOf 24 = 8 := by kernel_rfl
theorem cells_arrI17 : Try.prog.cellsOf 25 = 4 := by kernel_rfl
theorem cells_style17 : Try.prog.cellsOf 27 = 55 := by kernel_rfl
theorem open_size17 {fuel : Nat} {c0 c1 : Value} {x : DataW H × List MemPlace} (h : DataW.trod enc Try.prog w 0 (fun _ => true) true fuel 23 [c0, c1] = some x) : ∃ a b : Int, (c0 = .int .i64 a ∧ c1 = .int .i64 b) ∧ (WfI a ∧ WfI b) := by
  obtain ⟨xs, n', _, _, _, hx, hf⟩ := DataW.trod_struct Try.underlying23 h
  have hx2 : xs.length = 2 := hx
  have g0 : DataW.trod enc Try.prog w 0 (fun _ => true) true n' 3 [c0] = some xs[0] := by
    have g := hf 0 _ rfl
    have g2 : DataW.trod enc Try.prog w 0 (fun _ => true) true n' 3 [c0] = xs[0]? := by simpa [cells_int17] using g
    exact g2.trans (List.getElem?_eq_getElem _)
  have g1 : DataW.trod enc Try.prog w 0 (fun _ => true) true n' 3 [c1] = some xs[1] := by
    have g := hf 1 _ rfl
    have g2 : DataW.trod enc Try.prog w 0 (fun _ => true) true n' 3 [c1] = xs[1]? := by simpa [cells_int17] using g
    exact g2.trans (List.getElem?_eq_getElem _)
  obtain ⟨k0, h0, _, w0⟩ := DataW.trod_int Try.underlying3 g0
  obtain ⟨k1, h1, _, w1⟩ := DataW.trod_int Try.underlying3 g1
  injection h0 with h0
  injection h1 with h1
  exact ⟨k0, k1, ⟨h0, h1⟩, w0, w1⟩
theorem open_arrS17 {fuel : Nat} {c0 c1 c2 c3 c4 c5 c6 c7 : Value} {x : DataW H × List MemPlace} (h : DataW.trod enc Try.prog w 0 (fun _ => true) true fuel 24 [c0, c1, c2, c3, c4, c5, c6, c7] = some x) :
    ∃ a b c d e f g i : Int, (c0 = .int .i64 a ∧ c1 = .int .i64 b ∧ c2 = .int .i64 c ∧ c3 = .int .i64 d ∧ c4 = .int .i64 e ∧ c5 = .int .i64 f ∧ c6 = .int .i64 g ∧ c7 = .int .i64 i) ∧ (WfI a ∧ WfI b ∧ WfI c ∧ WfI d ∧ WfI e ∧ WfI f ∧ WfI g ∧ WfI i) := by
  obtain ⟨xs, n', _, _, _, hx, hf⟩ := DataW.trod_array Try.underlying24 h
  rw [cells_size17] at hf
  have g0 := (hf 0 (by decide)).trans (List.getElem?_eq_getElem (by omega))
  have g1 := (hf 1 (by decide)).trans (List.getElem?_eq_getElem (by omega))
  have g2 := (hf 2 (by decide)).trans (List.getElem?_eq_getElem (by omega))
  have g3 := (hf 3 (by decide)).trans (List.getElem?_eq_getElem (by omega))
  obtain ⟨a, b, ⟨h0, h1⟩, w0, w1⟩ := open_size17 g0
  obtain ⟨c, d, ⟨h2, h3⟩, w2, w3⟩ := open_size17 g1
  obtain ⟨e, f, ⟨h4, h5⟩, w4, w5⟩ := open_size17 g2
  obtain ⟨g, i, ⟨h6, h7⟩, w6, w7⟩ := open_size17 g3
  exact ⟨a, b, c, d, e, f, g, i, ⟨h0, h1, h2, h3, h4, h5, h6, h7⟩, w0, w1, w2, w3, w4, w5, w6, w7⟩
theorem open_arrI17 {fuel : Nat} {c0 c1 c2 c3 : Value} {x : DataW H × List MemPlace} (h : DataW.trod enc Try.prog w 0 (fun _ => true) true fuel 25 [c0, c1, c2, c3] = some x) :
    ∃ a b c d : Int, (c0 = .int .i64 a ∧ c1 = .int .i64 b ∧ c2 = .int .i64 c ∧ c3 = .int .i64 d) ∧ (WfI a ∧ WfI b ∧ WfI c ∧ WfI d) := by
  obtain ⟨xs, n', _, _, _, hx, hf⟩ := DataW.trod_array Try.underlying25 h
  rw [cells_int17] at hf
  have g0 := (hf 0 (by decide)).trans (List.getElem?_eq_getElem (by omega))
  have g1 := (hf 1 (by decide)).trans (List.getElem?_eq_getElem (by omega))
  have g2 := (hf 2 (by decide)).trans (List.getElem?_eq_getElem (by omega))
  have g3 := (hf 3 (by decide)).trans (List.getElem?_eq_getElem (by omega))
  obtain ⟨a, h0, _, w0⟩ := DataW.trod_int Try.underlying3 g0
  obtain ⟨b, h1, _, w1⟩ := DataW.trod_int Try.underlying3 g1
  obtain ⟨c, h2, _, w2⟩ := DataW.trod_int Try.underlying3 g2
  obtain ⟨d, h3, _, w3⟩ := DataW.trod_int Try.underlying3 g3
  injection h0 with h0
  injection h1 with h1
  injection h2 with h2
  injection h3 with h3
  exact ⟨a, b, c, d, ⟨h0, h1, h2, h3⟩, w0, w1, w2, w3⟩
set_option maxRecDepth 100000 in
set_option maxHeartbeats 4000000 in
theorem open_style17 {fuel : Nat} {cs : List Value} {x : DataW H × List MemPlace} (h : DataW.trod enc Try.prog w 0 (fun _ => true) true fuel 27 cs = some x) : ∃ z b nm, cs = tyL z b nm ∧ (∀ i, WfI (z i)) ∧ nm.size ≤ maxLen := by
  obtain ⟨xs, n', _, _, hcl, hx, hf⟩ := DataW.trod_struct Try.underlying27 h
  rw [cells_style17] at hcl
  have hx2 : xs.length = 29 := hx
  obtain ⟨c0, cs, rfl, q0⟩ := len_succ17 hcl
  obtain ⟨c1, cs, rfl, q1⟩ := len_succ17 q0
  obtain ⟨c2, cs, rfl, q2⟩ := len_succ17 q1
  obtain ⟨c3, cs, rfl, q3⟩ := len_succ17 q2
  obtain ⟨c4, cs, rfl, q4⟩ := len_succ17 q3
  obtain ⟨c5, cs, rfl, q5⟩ := len_succ17 q4
  obtain ⟨c6, cs, rfl, q6⟩ := len_succ17 q5
  obtain ⟨c7, cs, rfl, q7⟩ := len_succ17 q6
  obtain ⟨c8, cs, rfl, q8⟩ := len_succ17 q7
  obtain ⟨c9, cs, rfl, q9⟩ := len_succ17 q8
  obtain ⟨c10, cs, rfl, q10⟩ := len_succ17 q9
  obtain ⟨c11, cs, rfl, q11⟩ := len_succ17 q10
  obtain ⟨c12, cs, rfl, q12⟩ := len_succ17 q11
  obtain ⟨c13, cs, rfl, q13⟩ := len_succ17 q12
  obtain ⟨c14, cs, rfl, q14⟩ := len_succ17 q13
  obtain ⟨c15, cs, rfl, q15⟩ := len_succ17 q14
  obtain ⟨c16, cs, rfl, q16⟩ := len_succ17 q15
  obtain ⟨c17, cs, rfl, q17⟩ := len_succ17 q16
  obtain ⟨c18, cs, rfl, q18⟩ := len_succ17 q17
  obtain ⟨c19, cs, rfl, q19⟩ := len_succ17 q18
  obtain ⟨c20, cs, rfl, q20⟩ := len_succ17 q19
  obtain ⟨c21, cs, rfl, q21⟩ := len_succ17 q20
  obtain ⟨c22, cs, rfl, q22⟩ := len_succ17 q21
  obtain ⟨c23, cs, rfl, q23⟩ := len_succ17 q22
  obtain ⟨c24, cs, rfl, q24⟩ := len_succ17 q23
  obtain ⟨c25, cs, rfl, q25⟩ := len_succ17 q24
  obtain ⟨c26, cs, rfl, q26⟩ := len_succ17 q25
  obtain ⟨c27, cs, rfl, q27⟩ := len_succ17 q26
  obtain ⟨c28, cs, rfl, q28⟩ := len_succ17 q27
  obtain ⟨c29, cs, rfl, q29⟩ := len_succ17 q28
  obtain ⟨c30, cs, rfl, q30⟩ := len_succ17 q29
  obtain ⟨c31, cs, rfl, q31⟩ := len_succ17 q30
  obtain ⟨c32, cs, rfl, q32⟩ := len_succ17 q31
  obtain ⟨c33, cs, rfl, q33⟩ := len_succ17 q32
  obtain ⟨c34, cs, rfl, q34⟩ := len_succ17 q33
  obtain ⟨c35, cs, rfl, q35⟩ := len_succ17 q34
  obtain ⟨c36, cs, rfl, q36⟩ := len_succ17 q35
  obtain ⟨c37, cs, rfl, q37⟩ := len_succ17 q36
  obtain ⟨c38, cs, rfl, q38⟩ := len_succ17 q37
  obtain ⟨c39, cs, rfl, q39⟩ := len_succ17 q38
  obtain ⟨c40, cs, rfl, q40⟩ := len_succ17 q39
  obtain ⟨c41, cs, rfl, q41⟩ := len_succ17 q40
  obtain ⟨c42, cs, rfl, q42⟩ := len_succ17 q41
  obtain ⟨c43, cs, rfl, q43⟩ := len_succ17 q42
  obtain ⟨c44, cs, rfl, q44⟩ := len_succ17 q43
  obtain ⟨c45, cs, rfl, q45⟩ := len_succ17 q44
  obtain ⟨c46, cs, rfl, q46⟩ := len_succ17 q45
  obtain ⟨c47, cs, rfl, q47⟩ := len_succ17 q46
  obtain ⟨c48, cs, rfl, q48⟩ := len_succ17 q47
  obtain ⟨c49, cs, rfl, q49⟩ := len_succ17 q48
  obtain ⟨c50, cs, rfl, q50⟩ := len_succ17 q49
  obtain ⟨c51, cs, rfl, q51⟩ := len_succ17 q50
  obtain ⟨c52, cs, rfl, q52⟩ := len_succ17 q51
  obtain ⟨c53, cs, rfl, q53⟩ := len_succ17 q52
  obtain ⟨c54, cs, rfl, q54⟩ := len_succ17 q53
  obtain rfl := List.eq_nil_of_length_eq_zero q54
  clear h q0 q1 q2 q3 q4 q5 q6 q7 q8 q9 q10 q11 q12 q13 q14 q15 q16 q17 q18 q19 q20 q21 q22 q23 q24 q25 q26 q27 q28 q29 q30 q31 q32 q33 q34 q35 q36 q37 q38 q39 q40 q41 q42 q43 q44 q45 q46 q47 q48 q49 q50 q51 q52 q53
  have g0 : DataW.trod enc Try.prog w 0 (fun _ => true) true n' 3 [c0] = some xs[0] := by
    have g := hf 0 _ rfl
    have g2 : DataW.trod enc Try.prog w 0 (fun _ => true) true n' 3 [c0] = xs[0]? := by simpa [cells_int17] using g
    exact g2.trans (List.getElem?_eq_getElem _)
  obtain ⟨k0, e0, _, w0⟩ := DataW.trod_int Try.underlying3 g0
  injection e0 with e0
  subst e0
  clear g0
  have g1 : DataW.trod enc Try.prog w 0 (fun _ => true) true n' 4 [c1] = some xs[1] := by
    have g := hf 1 _ rfl
    have g2 : DataW.trod enc Try.prog w 0 (fun _ => true) true n' 4 [c1] = xs[1]? := by simpa [cells_bool17] using g
    exact g2.trans (List.getElem?_eq_getElem _)
  obtain ⟨bb, e1, _⟩ := DataW.trod_bool Try.underlying4 g1
  injection e1 with e1
  subst e1
  clear g1
  have g2 : DataW.trod enc Try.prog w 0 (fun _ => true) true n' 23 [c2, c3] = some xs[2] := by
    have g := hf 2 _ rfl
    have g2 : DataW.trod enc Try.prog w 0 (fun _ => true) true n' 23 [c2, c3] = xs[2]? := by simpa [cells_size17] using g
    exact g2.trans (List.getElem?_eq_getElem _)
  obtain ⟨k2, k3, ⟨rfl, rfl⟩, w2, w3⟩ := open_size17 g2
  clear g2
  have g3 : DataW.trod enc Try.prog w 0 (fun _ => true) true n' 23 [c4, c5] = some xs[3] := by
    have g := hf 3 _ rfl
    have g2 : DataW.trod enc Try.prog w 0 (fun _ => true) true n' 23 [c4, c5] = xs[3]? := by simpa [cells_size17] using g
    exact g2.trans (List.getElem?_eq_getElem _)
  obtain ⟨k4, k5, ⟨rfl, rfl⟩, w4, w5⟩ := open_size17 g3
  clear g3
  have g4 : DataW.trod enc Try.prog w 0 (fun _ => true) true n' 23 [c6, c7] = some xs[4] := by
    have g := hf 4 _ rfl
    have g2 : DataW.trod enc Try.prog w 0 (fun _ => true) true n' 23 [c6, c7] = xs[4]? := by simpa [cells_size17] using g
    exact g2.trans (List.getElem?_eq_getElem _)
  obtain ⟨k6, k7, ⟨rfl, rfl⟩, w6, w7⟩ := open_size17 g4
  clear g4
  have g5 : DataW.trod enc Try.prog w 0 (fun _ => true) true n' 23 [c8, c9] = some xs[5] := by
    have g := hf 5 _ rfl
    have g2 : DataW.trod enc Try.prog w 0 (fun _ => true) true n' 23 [c8, c9] = xs[5]? := by simpa [cells_size17] using g
    exact g2.trans (List.getElem?_eq_getElem _)
  obtain ⟨k8, k9, ⟨rfl, rfl⟩, w8, w9⟩ := open_size17 g5
  clear g5
  have g6 : DataW.trod enc Try.prog w 0 (fun _ => true) true n' 23 [c10, c11] = some xs[6] := by
    have g := hf 6 _ rfl
    have g2 : DataW.trod enc Try.prog w 0 (fun _ => true) true n' 23 [c10, c11] = xs[6]? := by simpa [cells_size17] using g
    exact g2.trans (List.getElem?_eq_getElem _)
  obtain ⟨k10, k11, ⟨rfl, rfl⟩, w10, w11⟩ := open_size17 g6
  clear g6
  have g7 : DataW.trod enc Try.prog w 0 (fun _ => true) true n' 23 [c12, c13] = some xs[7] := by
    have g := hf 7 _ rfl
    have g2 : DataW.trod enc Try.prog w 0 (fun _ => true) true n' 23 [c12, c13] = xs[7]? := by simpa [cells_size17] using g
    exact g2.trans (List.getElem?_eq_getElem _)
  obtain ⟨k12, k13, ⟨rfl, rfl⟩, w12, w13⟩ := open_size17 g7
  clear g7
  have g8 : DataW.trod enc Try.prog w 0 (fun _ => true) true n' 24 [c14, c15, c16, c17, c18, c19, c20, c21] = some xs[8] := by
    have g := hf 8 _ rfl
    have g2 : DataW.trod enc Try.prog w 0 (fun _ => true) true n' 24 [c14, c15, c16, c17, c18, c19, c20, c21] = xs[8]? := by simpa [cells_arrS17] using g
    exact g2.trans (List.getElem?_eq_getElem _)
  obtain ⟨k14, k15, k16, k17, k18, k19, k20, k21, ⟨rfl, rfl, rfl, rfl, rfl, rfl, rfl, rfl⟩, w14, w15, w16, w17, w18, w19, w20, w21⟩ := open_arrS17 g8
  clear g8
  have g9 : DataW.trod enc Try.prog w 0 (fun _ => true) true n' 24 [c22, c23, c24, c25, c26, c27, c28, c29] = some xs[9] := by
    have g := hf 9 _ rfl
    have g2 : DataW.trod enc Try.prog w 0 (fun _ => true) true n' 24 [c22, c23, c24, c25, c26, c27, c28, c29] = xs[9]? := by simpa [cells_arrS17] using g
    exact g2.trans (List.getElem?_eq_getElem _)
  obtain ⟨k22, k23, k24, k25, k26, k27, k28, k29, ⟨rfl, rfl, rfl, rfl, rfl, rfl, rfl, rfl⟩, w22, w23, w24, w25, w26, w27, w28, w29⟩ := open_arrS17 g9
  clear g9
  have g10 : DataW.trod enc Try.prog w 0 (fun _ => true) true n' 25 [c30, c31, c32, c33] = some xs[10] := by
    have g := hf 10 _ rfl
    have g2 : DataW.trod enc Try.prog w 0 (fun _ => true) true n' 25 [c30, c31, c32, c33] = xs[10]? := by simpa [cells_arrI17] using g
    exact g2.trans (List.getElem?_eq_getElem _)
  obtain ⟨k30, k31, k32, k33, ⟨rfl, rfl, rfl, rfl⟩, w30, w31, w32, w33⟩ := open_arrI17 g10
  clear g10
  have g11 : DataW.trod enc Try.prog w 0 (fun _ => true) true n' 3 [c34] = some xs[11] := by
    have g := hf 11 _ rfl
    have g2 : DataW.trod enc Try.prog w 0 (fun _ => true) true n' 3 [c34] = xs[11]? := by simpa [cells_int17] using g
    exact g2.trans (List.getElem?_eq_getElem _)
  obtain ⟨k34, e34, _, w34⟩ := DataW.trod_int Try.underlying3 g11
  injection e34 with e34
  subst e34
  clear g11
  have g12 : DataW.trod enc Try.prog w 0 (fun _ => true) true n' 3 [c35] = some xs[12] := by
    have g := hf 12 _ rfl
    have g2 : DataW.trod enc Try.prog w 0 (fun _ => true) true n' 3 [c35] = xs[12]? := by simpa [cells_int17] using g
    exact g2.trans (List.getElem?_eq_getElem _)
  obtain ⟨k35, e35, _, w35⟩ := DataW.trod_int Try.underlying3 g12
  injection e35 with e35
  subst e35
  clear g12
  have g13 : DataW.trod enc Try.prog w 0 (fun _ => true) true n' 3 [c36] = some xs[13] := by
    have g := hf 13 _ rfl
    have g2 : DataW.trod enc Try.prog w 0 (fun _ => true) true n' 3 [c36] = xs[13]? := by simpa [cells_int17] using g
    exact g2.trans (List.getElem?_eq_getElem _)
  obtain ⟨k36, e36, _, w36⟩ := DataW.trod_int Try.underlying3 g13
  injection e36 with e36
  subst e36
  clear g13
  have g14 : DataW.trod enc Try.prog w 0 (fun _ => true) true n' 3 [c37] = some xs[14] := by
    have g := hf 14 _ rfl
    have g2 : DataW.trod enc Try.prog w 0 (fun _ => true) true n' 3 [c37] = xs[14]? := by simpa [cells_int17] using g
    exact g2.trans (List.getElem?_eq_getElem _)
  obtain ⟨k37, e37, _, w37⟩ := DataW.trod_int Try.underlying3 g14
  injection e37 with e37
  subst e37
  clear g14
  have g15 : DataW.trod enc Try.prog w 0 (fun _ => true) true n' 3 [c38] = some xs[15] := by
    have g := hf 15 _ rfl
    have g2 : DataW.trod enc Try.prog w 0 (fun _ => true) true n' 3 [c38] = xs[15]? := by simpa [cells_int17] using g
    exact g2.trans (List.getElem?_eq_getElem _)
  obtain ⟨k38, e38, _, w38⟩ := DataW.trod_int Try.underlying3 g15
  injection e38 with e38
  subst e38
  clear g15
  have g16 : DataW.trod enc Try.prog w 0 (fun _ => true) true n' 3 [c39] = some xs[16] := by
    have g := hf 16 _ rfl
    have g2 : DataW.trod enc Try.prog w 0 (fun _ => true) true n' 3 [c39] = xs[16]? := by simpa [cells_int17] using g
    exact g2.trans (List.getElem?_eq_getElem _)
  obtain ⟨k39, e39, _, w39⟩ := DataW.trod_int Try.underlying3 g16
  injection e39 with e39
  subst e39
  clear g16
  have g17 : DataW.trod enc Try.prog w 0 (fun _ => true) true n' 23 [c40, c41] = some xs[17] := by
    have g := hf 17 _ rfl
    have g2 : DataW.trod enc Try.prog w 0 (fun _ => true) true n' 23 [c40, c41] = xs[17]? := by simpa [cells_size17] using g
    exact g2.trans (List.getElem?_eq_getElem _)
  obtain ⟨k40, k41, ⟨rfl, rfl⟩, w40, w41⟩ := open_size17 g17
  clear g17
  have g18 : DataW.trod enc Try.prog w 0 (fun _ => true) true n' 3 [c42] = some xs[18] := by
    have g := hf 18 _ rfl
    have g2 : DataW.trod enc Try.prog w 0 (fun _ => true) true n' 3 [c42] = xs[18]? := by simpa [cells_int17] using g
    exact g2.trans (List.getElem?_eq_getElem _)
  obtain ⟨k42, e42, _, w42⟩ := DataW.trod_int Try.underlying3 g18
  injection e42 with e42
  subst e42
  clear g18
  have g19 : DataW.trod enc Try.prog w 0 (fun _ => true) true n' 3 [c43] = some xs[19] := by
    have g := hf 19 _ rfl
    have g2 : DataW.trod enc Try.prog w 0 (fun _ => true) true n' 3 [c43] = xs[19]? := by simpa [cells_int17] using g
    exact g2.trans (List.getElem?_eq_getElem _)
  obtain ⟨k43, e43, _, w43⟩ := DataW.trod_int Try.underlying3 g19
  injection e43 with e43
  subst e43
  clear g19
  have g20 : DataW.trod enc Try.prog w 0 (fun _ => true) true n' 3 [c44] = some xs[20] := by
    have g := hf 20 _ rfl
    have g2 : DataW.trod enc Try.prog w 0 (fun _ => true) true n' 3 [c44] = xs[20]? := by simpa [cells_int17] using g
    exact g2.trans (List.getElem?_eq_getElem _)
  obtain ⟨k44, e44, _, w44⟩ := DataW.trod_int Try.underlying3 g20
  injection e44 with e44
  subst e44
  clear g20
  have g21 : DataW.trod enc Try.prog w 0 (fun _ => true) true n' 3 [c45] = some xs[21] := by
    have g := hf 21 _ rfl
    have g2 : DataW.trod enc Try.prog w 0 (fun _ => true) true n' 3 [c45] = xs[21]? := by simpa [cells_int17] using g
    exact g2.trans (List.getElem?_eq_getElem _)
  obtain ⟨k45, e45, _, w45⟩ := DataW.trod_int Try.underlying3 g21
  injection e45 with e45
  subst e45
  clear g21
  have g22 : DataW.trod enc Try.prog w 0 (fun _ => true) true n' 3 [c46] = some xs[22] := by
    have g := hf 22 _ rfl
    have g2 : DataW.trod enc Try.prog w 0 (fun _ => true) true n' 3 [c46] = xs[22]? := by simpa [cells_int17] using g
    exact g2.trans (List.getElem?_eq_getElem _)
  obtain ⟨k46, e46, _, w46⟩ := DataW.trod_int Try.underlying3 g22
  injection e46 with e46
  subst e46
  clear g22
  have g23 : DataW.trod enc Try.prog w 0 (fun _ => true) true n' 23 [c47, c48] = some xs[23] := by
    have g := hf 23 _ rfl
    have g2 : DataW.trod enc Try.prog w 0 (fun _ => true) true n' 23 [c47, c48] = xs[23]? := by simpa [cells_size17] using g
    exact g2.trans (List.getElem?_eq_getElem _)
  obtain ⟨k47, k48, ⟨rfl, rfl⟩, w47, w48⟩ := open_size17 g23
  clear g23
  have g24 : DataW.trod enc Try.prog w 0 (fun _ => true) true n' 23 [c49, c50] = some xs[24] := by
    have g := hf 24 _ rfl
    have g2 : DataW.trod enc Try.prog w 0 (fun _ => true) true n' 23 [c49, c50] = xs[24]? := by simpa [cells_size17] using g
    exact g2.trans (List.getElem?_eq_getElem _)
  obtain ⟨k49, k50, ⟨rfl, rfl⟩, w49, w50⟩ := open_size17 g24
  clear g24
  have g25 : DataW.trod enc Try.prog w 0 (fun _ => true) true n' 3 [c51] = some xs[25] := by
    have g := hf 25 _ rfl
    have g2 : DataW.trod enc Try.prog w 0 (fun _ => true) true n' 3 [c51] = xs[25]? := by simpa [cells_int17] using g
    exact g2.trans (List.getElem?_eq_getElem _)
  obtain ⟨k51, e51, _, w51⟩ := DataW.trod_int Try.underlying3 g25
  injection e51 with e51
  subst e51
  clear g25
  have g26 : DataW.trod enc Try.prog w 0 (fun _ => true) true n' 9 [c52] = some xs[26] := by
    have g := hf 26 _ rfl
    have g2 : DataW.trod enc Try.prog w 0 (fun _ => true) true n' 9 [c52] = xs[26]? := by simpa [cells_str17] using g
    exact g2.trans (List.getElem?_eq_getElem _)
  obtain ⟨nm, e52, _, hnm⟩ := DataW.trod_string Try.underlying9 g26
  injection e52 with e52
  subst e52
  clear g26
  have g27 : DataW.trod enc Try.prog w 0 (fun _ => true) true n' 3 [c53] = some xs[27] := by
    have g := hf 27 _ rfl
    have g2 : DataW.trod enc Try.prog w 0 (fun _ => true) true n' 3 [c53] = xs[27]? := by simpa [cells_int17] using g
    exact g2.trans (List.getElem?_eq_getElem _)
  obtain ⟨k53, e53, _, w53⟩ := DataW.trod_int Try.underlying3 g27
  injection e53 with e53
  subst e53
  clear g27
  have g28 : DataW.trod enc Try.prog w 0 (fun _ => true) true n' 3 [c54] = some xs[28] := by
    have g := hf 28 _ rfl
    have g2 : DataW.trod enc Try.prog w 0 (fun _ => true) true n' 3 [c54] = xs[28]? := by simpa [cells_int17] using g
    exact g2.trans (List.getElem?_eq_getElem _)
  obtain ⟨k54, e54, _, w54⟩ := DataW.trod_int Try.underlying3 g28
  injection e54 with e54
  subst e54
  clear g28
  exact ⟨fun i => [k0, 0, k2, k3, k4, k5, k6, k7, k8, k9, k10, k11, k12, k13, k14, k15, k16, k17, k18, k19, k20, k21, k22, k23, k24, k25, k26, k27, k28, k29, k30, k31, k32, k33, k34, k35, k36, k37, k38, k39, k40, k41, k42, k43, k44, k45, k46, k47, k48, k49, k50, k51, 0, k53, k54].getD i 0, bb, nm, rfl, fun i => WfI.getD (by
    simp only [List.forall_mem_cons]
    exact ⟨w0, (by decide : (Lit.int .i64 0).wf = true), w2, w3, w4, w5, w6, w7, w8, w9, w10, w11, w12, w13, w14, w15, w16, w17, w18, w19, w20, w21, w22, w23, w24, w25, w26, w27, w28, w29, w30, w31, w32, w33, w34, w35, w36, w37, w38, w39, w40, w41, w42, w43, w44, w45, w46, w47, w48, w49, w50, w51, (by decide : (Lit.int .i64 0).wf = true), w53, w54, fun x hx => by cases hx⟩) i, hnm⟩
theorem cells_case20 : Try.prog.cellsOf 29 = 59 := by kernel_rfl
theorem open_case20 {fuel : Nat} {cs : List Value} {x : DataW H × List MemPlace} (h : DataW.trod enc Try.prog w 0 (fun _ => true) true fuel 29 cs = some x) : ∃ c : Cz, cs = caseL c := by
  obtain ⟨xs, n', _, _, hcl, hx, hf⟩ := DataW.trod_struct Try.underlying29 h
  rw [cells_case20] at hcl
  have hx2 : xs.length = 5 := hx
  have hsplit : cs = cs.take 55 ++ cs.drop 55 := (List.take_append_drop 55 cs).symm
  have hl1 : (cs.take 55).length = 55 := by simp; omega
  have hl2 : (cs.drop 55).length = 4 := by simp; omega
  generalize cs.take 55 = st at *
  generalize cs.drop 55 = re at *
  subst hsplit
  obtain ⟨a0, re, rfl, q0⟩ := len_succ17 hl2
  obtain ⟨a1, re, rfl, q1⟩ := len_succ17 q0
  obtain ⟨a2, re, rfl, q2⟩ := len_succ17 q1
  obtain ⟨a3, re, rfl, q3⟩ := len_succ17 q2
  obtain rfl := List.eq_nil_of_length_eq_zero q3
  have g0 : DataW.trod enc Try.prog w 0 (fun _ => true) true n' 27 st = some xs[0] := by
    have g := hf 0 _ rfl
    have g2 : DataW.trod enc Try.prog w 0 (fun _ => true) true n' 27 st = xs[0]? := by simpa [cells_style17, hl1] using g
    exact g2.trans (List.getElem?_eq_getElem _)
  obtain ⟨z, b, nm, rfl, _, _⟩ := open_style17 g0
  have g1 : DataW.trod enc Try.prog w 0 (fun _ => true) true n' 3 [a0] = some xs[1] := by
    have g := hf 1 _ rfl
    have g2 : DataW.trod enc Try.prog w 0 (fun _ => true) true n' 3 [a0] = xs[1]? := by simpa [cells_int17, cells_style17, tyL] using g
    exact g2.trans (List.getElem?_eq_getElem _)
  obtain ⟨k1, e1, _, w1⟩ := DataW.trod_int Try.underlying3 g1
  injection e1 with e1
  subst e1
  have g2 : DataW.trod enc Try.prog w 0 (fun _ => true) true n' 3 [a1] = some xs[2] := by
    have g := hf 2 _ rfl
    have g2 : DataW.trod enc Try.prog w 0 (fun _ => true) true n' 3 [a1] = xs[2]? := by simpa [cells_int17, cells_style17, tyL] using g
    exact g2.trans (List.getElem?_eq_getElem _)
  obtain ⟨k2, e2, _, w2⟩ := DataW.trod_int Try.underlying3 g2
  injection e2 with e2
  subst e2
  have g3 : DataW.trod enc Try.prog w 0 (fun _ => true) true n' 3 [a2] = some xs[3] := by
    have g := hf 3 _ rfl
    have g2 : DataW.trod enc Try.prog w 0 (fun _ => true) true n' 3 [a2] = xs[3]? := by simpa [cells_int17, cells_style17, tyL] using g
    exact g2.trans (List.getElem?_eq_getElem _)
  obtain ⟨k3, e3, _, w3⟩ := DataW.trod_int Try.underlying3 g3
  injection e3 with e3
  subst e3
  have g4 : DataW.trod enc Try.prog w 0 (fun _ => true) true n' 3 [a3] = some xs[4] := by
    have g := hf 4 _ rfl
    have g2 : DataW.trod enc Try.prog w 0 (fun _ => true) true n' 3 [a3] = xs[4]? := by simpa [cells_int17, cells_style17, tyL] using g
    exact g2.trans (List.getElem?_eq_getElem _)
  obtain ⟨k4, e4, _, w4⟩ := DataW.trod_int Try.underlying3 g4
  injection e4 with e4
  subst e4
  exact ⟨⟨z, b, nm, k1, k2, k3, k4⟩, rfl⟩
theorem open_caseV {r : Reach} {b0 : Nat} {v : Value} {d : DataW H} {ps : List MemPlace} (hv : Value.okWide Try.prog w r b0 29 v) (h : DataW.Trod enc Try.prog w 0 (fun _ => true) true 29 v d ps) : ∃ c : Cz, v = .agg (caseL c).toArray := by
  simp only [Value.okWide, Try.underlying29] at hv
  obtain ⟨cs, rfl, _, _⟩ := hv
  obtain ⟨fuel, hf⟩ := h
  obtain ⟨l⟩ := cs
  simp only [Value.cells] at hf
  obtain ⟨c, rfl⟩ := open_case20 hf
  exact ⟨c, rfl⟩
theorem open_sizeV {r : Reach} {b0 : Nat} {v : Value} {d : DataW H} {ps : List MemPlace} (hv : Value.okWide Try.prog w r b0 23 v) (h : DataW.Trod enc Try.prog w 0 (fun _ => true) true 23 v d ps) : ∃ k n : Int, v = .agg #[.int .i64 k, .int .i64 n] := by
  simp only [Value.okWide, Try.underlying23] at hv
  obtain ⟨cs, rfl, _, _⟩ := hv
  obtain ⟨fuel, hf⟩ := h
  obtain ⟨l⟩ := cs
  simp only [Value.cells] at hf
  have hl : l.length = 2 := by
    obtain ⟨xs, n', _, _, hcl, hx, hff⟩ := DataW.trod_struct Try.underlying23 hf
    rw [cells_size17] at hcl
    exact hcl
  obtain ⟨c0, l, rfl, q0⟩ := len_succ17 hl
  obtain ⟨c1, l, rfl, q1⟩ := len_succ17 q0
  obtain rfl := List.eq_nil_of_length_eq_zero q1
  obtain ⟨a, b, ⟨rfl, rfl⟩, _, _⟩ := open_size17 hf
  exact ⟨a, b, rfl⟩
end
end Go.Proofs.Ythfabalnioggcaa
