/- Layer 7's reference: what a part and a selector weigh. -/
import Derived.Test.YtfbfndknhabmhaaGreatSelZe
namespace Go.Proofs.YtfbfndknhabmhaaGreat
open Go.RowKit TreN LexP FixP SynP ValP SelP FixM
set_option linter.unusedVariables false

def b01 (b : Bool) : Nat := if b = true then 1 else 0
theorem bitsN_sum (n : Int) : bitsN n = b01 (hasB n 1) + b01 (hasB n 2) + b01 (hasB n 4) := by
  unfold bitsN hasB b01
  have e1 : (1 : Int).toNat = 1 := rfl
  have e2 : (2 : Int).toNat = 2 := rfl
  have e4 : (4 : Int).toNat = 4 := rfl
  rw [e1, e2, e4]
  by_cases h : n < 0
  · rw [if_pos h, decide_eq_false (by omega : ¬ 0 ≤ n)]; rfl
  · rw [if_neg h, decide_eq_true (by omega : 0 ≤ n)]
    simp only [Bool.true_and, decide_eq_true_eq]
    generalize n.toNat = m
    have h1 : (if m / 1 % 2 = 1 then 1 else 0) = m % 2 := by split <;> omega
    have h2 : (if m / 2 % 2 = 1 then 1 else 0) = m / 2 % 2 := by split <;> omega
    have h4 : (if m / 4 % 2 = 1 then 1 else 0) = m / 4 % 2 := by split <;> omega
    rw [h1, h2, h4]
/-- a number of things, as an int holds it -/
def yN (b : Nat) : Int := IntKind.i64.wrap (b : Int)
theorem yN_inc (b : Nat) : wrap64 (yN b + 1) = yN (b + 1) := by
  unfold yN
  rw [← wrapEq7, wrap7]
  rfl
/-- while a part is weighed -/
structure PwSt (w wx : World) (A : Array Value) (x : Int) (b : Nat) (z : Int) : Prop where
  sum : SumAt wx (w.heap.size + 1 + 1) x (yN b) z
  res : SumAt wx (w.heap.size + 1) 0 0 0
  box : wx.heap[w.heap.size]? = some (.cells A 36 (0, 0))
  bel : Below w.heap.size w wx
theorem PwSt.set0 {w wx : World} {A : Array Value} {x z : Int} {b : Nat} (h : PwSt w wx A x b z) (v : Int) : PwSt w (wx.setCell ⟨w.heap.size + 1 + 1, 0, none⟩ (.int .i64 v)) A v b z :=
  ⟨h.sum.set0 v, h.res.other (by omega), (setCell_there _ (by omega)).trans h.box, h.bel.setCell (p := ⟨w.heap.size + 1 + 1, 0, none⟩) (by show w.heap.size ≤ w.heap.size + 1 + 1; omega) _⟩
theorem PwSt.set2 {w wx : World} {A : Array Value} {x z : Int} {b : Nat} (h : PwSt w wx A x b z) (v : Int) : PwSt w (wx.setCell ⟨w.heap.size + 1 + 1, 2, none⟩ (.int .i64 v)) A x b v :=
  ⟨h.sum.set2 v, h.res.other (by omega), (setCell_there _ (by omega)).trans h.box, h.bel.setCell (p := ⟨w.heap.size + 1 + 1, 2, none⟩) (by show w.heap.size ≤ w.heap.size + 1 + 1; omega) _⟩
theorem PwSt.inc {w wx : World} {A : Array Value} {x z : Int} {b : Nat} (h : PwSt w wx A x b z) : PwSt w (wx.setCell ⟨w.heap.size + 1 + 1, 1, none⟩ (.int .i64 (wrap64 (yN b + 1)))) A x (b + b01 true) z := by
  rw [yN_inc]
  exact ⟨h.sum.set1 _, h.res.other (by omega), (setCell_there _ (by omega)).trans h.box, h.bel.setCell (p := ⟨w.heap.size + 1 + 1, 1, none⟩) (by show w.heap.size ≤ w.heap.size + 1 + 1; omega) _⟩
theorem pw_start (w : World) (A : Array Value) (b : Nat) : PwSt w (((w.alloc (.cells A 36)).alloc (.cells #[.int .i64 0, .int .i64 0, .int .i64 0] 25)).alloc (.cells #[.int .i64 0, .int .i64 (yN b), .int .i64 0] 25)) A 0 b 0 := by
  have e1 : (w.alloc (.cells A 36)).heap.size = w.heap.size + 1 := by simp
  have e2 : ((w.alloc (.cells A 36)).alloc (.cells #[.int .i64 0, .int .i64 0, .int .i64 0] 25)).heap.size = w.heap.size + 1 + 1 := by simp
  refine ⟨?_, ?_, ?_, ((below_one7 w _).alloc (by simp) _).alloc (by simp; omega) _⟩
  · have := heap_alloc_new ((w.alloc (.cells A 36)).alloc (.cells #[.int .i64 0, .int .i64 0, .int .i64 0] 25)) (.cells #[.int .i64 0, .int .i64 (yN b), .int .i64 0] 25)
    rwa [e2] at this
  · have := heap_alloc_new (w.alloc (.cells A 36)) (.cells #[.int .i64 0, .int .i64 0, .int .i64 0] 25)
    rw [e1] at this
    exact ((below_one7 _ _).block (w.heap.size + 1) (by simp)).trans this
  · exact ((below_one7 _ _).block w.heap.size (by simp; omega)).trans (((below_one7 _ _).block w.heap.size (by simp)).trans (heap_alloc_new w _))
theorem toldN_cases (x : List UInt8) : (x = [] ∧ toldN x = 0) ∨ (∃ c r, x = c :: r ∧ toldN x = 1) := by
  cases x with
  | nil => exact Or.inl ⟨rfl, rfl⟩
  | cons c r => exact Or.inr ⟨c, r, rfl, by unfold toldN; simp⟩

set_option maxRecDepth 100000 in
set_option maxHeartbeats 4000000 in
theorem refPartWeight7 (co st : Int) (tg id : List UInt8) (ca ta : Option Addr) (cc tc n m : Nat) (cl : List (List UInt8)) (ts : List Tst) (w : World) (hn : cl.length = n) (hm : ts.length = m) (h : PtOk w ⟨⟨co, tg, id, cl, ts, st⟩, ca, cc, ta, tc⟩) :
    Calls Tryz.prog 20 #[.agg #[.int .i64 co, .string ⟨tg.toArray⟩, .string ⟨id.toArray⟩, .slice ca n cc, .slice ta m tc, .int .i64 st]] w fun e w' => e = .returned (.agg #[.int .i64 ((wP ⟨co, tg, id, cl, ts, st⟩).1 : Nat), .int .i64 (yN (wP ⟨co, tg, id, cl, ts, st⟩).2.1), .int .i64 ((wP ⟨co, tg, id, cl, ts, st⟩).2.2 : Nat)]) ∧ Below w.heap.size w w' := by
  have hwp : wP ⟨co, tg, id, cl, ts, st⟩ = (toldN id, n + m + bitsN st, toldN tg) := by unfold wP; rw [← hn, ← hm]
  rw [hwp, bitsN_sum]
  simp only
  have z1 : (n : Int) ≤ 9223372036854775807 := by have := h.hcc; have := h.hcm; unfold maxLen at this; simp only at *; omega
  have z2 : (m : Int) ≤ 9223372036854775807 := by have := h.htc; have := h.htm; unfold maxLen at this; simp only at *; omega
  have HAS := Lib.hid (fun k hk W => has7_gen st k h.st hk W)
  have hyy : IntKind.i64.wrap ((n : Int) + (m : Int)) = yN (n + m) := by unfold yN; rw [Int.natCast_add]
  have hyz : wrap64 ((n : Int) + (m : Int)) = yN (n + m) := by rw [← hyy, wrapEq7]
  obtain ⟨N, hN⟩ : ∃ N, n + m = N := ⟨_, rfl⟩
  rw [hN] at hyy hyz ⊢
  have S0 := pw_start w #[.int .i64 co, .string ⟨tg.toArray⟩, .string ⟨id.toArray⟩, .slice ca n cc, .slice ta m tc, .int .i64 st] N
  obtain ⟨wb, hwb⟩ : ∃ wb, (((w.alloc (.cells #[.int .i64 co, .string ⟨tg.toArray⟩, .string ⟨id.toArray⟩, .slice ca n cc, .slice ta m tc, .int .i64 st] 36)).alloc (.cells #[.int .i64 0, .int .i64 0, .int .i64 0] 25)).alloc (.cells #[.int .i64 0, .int .i64 (yN N), .int .i64 0] 25)) = wb := ⟨_, rfl⟩
  rw [hwb] at S0
  have HS0 := Lib.hid S0
  have HWB := Lib.hid hwb
  clear h hn hm hwp hN S0 hwb
  go_enter Tryz.func20, Tryz.ntmps20
  go_upto_region 2 with (fail)
  rw [HWB.out]
  clear hyy hyz HWB
  have c2 : wb.cell? ⟨w.heap.size, 2, none⟩ = some (.string ⟨id.toArray⟩) := cell_of HS0.out.box rfl
  go_upto_if 15 with (fail)
  clear c2
  go_cut [] (fun wx => Hid (PwSt w wx #[.int .i64 co, .string ⟨tg.toArray⟩, .string ⟨id.toArray⟩, .slice ca n cc, .slice ta m tc, .int .i64 st] (toldN id : Nat) N 0))
  case first =>
    rcases toldN_cases id with ⟨h0, ht⟩ | ⟨x, r, h0, ht⟩
    · have HT := Lib.hid ht
      subst h0
      clear ht
      go_wp2_with fail
      go_meet
      exact Lib.hid (by rw [HT.out]; exact HS0.out)
    · have HT := Lib.hid ht
      subst h0
      have k0 := cell_of (k := 0) HS0.out.sum rfl
      have f0 : _ = false := unfrozen_of (k := 0) HS0.out.sum
      clear ht
      go_wp2_with fail
      go_meet
      exact Lib.hid (by rw [HT.out]; exact HS0.out.set0 1)
  case rest =>
    have HS1 := hcut
    have c1 : wc.cell? ⟨w.heap.size, 1, none⟩ = some (.string ⟨tg.toArray⟩) := cell_of HS1.out.box rfl
    go_upto_if 19 with (fail)
    clear c1 HS0
    obtain ⟨X, hX⟩ : ∃ X : Int, ((toldN id : Nat) : Int) = X := ⟨_, rfl⟩
    rw [hX] at HS1
    have HX := Lib.hid hX
    clear hcut hX
    go_cut [] (fun wx => Hid (PwSt w wx #[.int .i64 co, .string ⟨tg.toArray⟩, .string ⟨id.toArray⟩, .slice ca n cc, .slice ta m tc, .int .i64 st] X N (toldN tg : Nat)))
    case first =>
      rcases toldN_cases tg with ⟨h0, ht⟩ | ⟨x, r, h0, ht⟩
      · have HT := Lib.hid ht
        subst h0
        clear ht
        go_wp2_with fail
        go_meet
        exact Lib.hid (by rw [HT.out]; exact HS1.out)
      · have HT := Lib.hid ht
        subst h0
        have k0 := cell_of (k := 2) HS1.out.sum rfl
        have f0 : _ = false := unfrozen_of (k := 2) HS1.out.sum
        clear ht
        go_wp2_with fail
        go_meet
        exact Lib.hid (by rw [HT.out]; exact HS1.out.set2 1)
    case rest =>
    obtain ⟨Z, hZ⟩ : ∃ Z : Int, ((toldN tg : Nat) : Int) = Z := ⟨_, rfl⟩
    rw [hZ] at hcut
    have HS2 := hcut
    have HZ := Lib.hid hZ
    clear hcut hZ HS1
    go_wp2_with fail
    go_loopw [4] (fun bi wx => (bi = .int .i64 1 ∧ Hid (PwSt w wx #[.int .i64 co, .string ⟨tg.toArray⟩, .string ⟨id.toArray⟩, .slice ca n cc, .slice ta m tc, .int .i64 st] X N Z)) ∨ (bi = .int .i64 2 ∧ Hid (PwSt w wx #[.int .i64 co, .string ⟨tg.toArray⟩, .string ⟨id.toArray⟩, .slice ca n cc, .slice ta m tc, .int .i64 st] X (N + b01 (hasB st 1)) Z)) ∨ (bi = .int .i64 4 ∧ Hid (PwSt w wx #[.int .i64 co, .string ⟨tg.toArray⟩, .string ⟨id.toArray⟩, .slice ca n cc, .slice ta m tc, .int .i64 st] X (N + b01 (hasB st 1) + b01 (hasB st 2)) Z)) ∨ (bi = .int .i64 8 ∧ Hid (PwSt w wx #[.int .i64 co, .string ⟨tg.toArray⟩, .string ⟨id.toArray⟩, .slice ca n cc, .slice ta m tc, .int .i64 st] X (N + b01 (hasB st 1) + b01 (hasB st 2) + b01 (hasB st 4)) Z))) (fun bi _ => 8 - (intOf bi).toNat)
    case atStart => exact Or.inl ⟨rfl, HS2⟩
    case round =>
      obtain ⟨rfl, HP⟩ | ⟨rfl, HP⟩ | ⟨rfl, HP⟩ | ⟨rfl, HP⟩ := hrel
      · have c5 : wr.cell? ⟨w.heap.size, 5, none⟩ = some (.int .i64 st) := cell_of HP.out.box rfl
        have HH := Lib.hid (HAS.out 1 (Or.inl rfl) wr)
        cases hh : hasB st 1 with
        | true =>
          rw [hh] at HH
          have HBB := Lib.hid hh
          clear hh
          go_wp2_with fail
          refine HH.out.mono ?_
          rintro e w2 ⟨rfl, rfl⟩
          have k1 := cell_of (k := 1) HP.out.sum rfl
          have f1 : _ = false := unfrozen_of (k := 1) HP.out.sum
          go_wp2_with fail
          go_roundw
          case rel => exact Or.inr (Or.inl ⟨rfl, Lib.hid (by first | exact HP.out.inc | (rw [HBB.out]; exact HP.out.inc))⟩)
          case measure => simp [intOf]
        | false =>
          rw [hh] at HH
          have HBB := Lib.hid hh
          clear hh
          go_wp2_with fail
          refine HH.out.mono ?_
          rintro e w2 ⟨rfl, rfl⟩
          go_wp2_with fail
          go_roundw
          case rel => exact Or.inr (Or.inl ⟨rfl, Lib.hid (by first | exact HP.out | (rw [HBB.out]; exact HP.out))⟩)
          case measure => simp [intOf]
      · have c5 : wr.cell? ⟨w.heap.size, 5, none⟩ = some (.int .i64 st) := cell_of HP.out.box rfl
        have HH := Lib.hid (HAS.out 2 (Or.inr (Or.inl rfl)) wr)
        cases hh : hasB st 2 with
        | true =>
          rw [hh] at HH
          have HBB := Lib.hid hh
          clear hh
          go_wp2_with fail
          refine HH.out.mono ?_
          rintro e w2 ⟨rfl, rfl⟩
          have k1 := cell_of (k := 1) HP.out.sum rfl
          have f1 : _ = false := unfrozen_of (k := 1) HP.out.sum
          go_wp2_with fail
          go_roundw
          case rel => exact Or.inr (Or.inr (Or.inl ⟨rfl, Lib.hid (by first | exact HP.out.inc | (rw [HBB.out]; exact HP.out.inc))⟩))
          case measure => simp [intOf]
        | false =>
          rw [hh] at HH
          have HBB := Lib.hid hh
          clear hh
          go_wp2_with fail
          refine HH.out.mono ?_
          rintro e w2 ⟨rfl, rfl⟩
          go_wp2_with fail
          go_roundw
          case rel => exact Or.inr (Or.inr (Or.inl ⟨rfl, Lib.hid (by first | exact HP.out | (rw [HBB.out]; exact HP.out))⟩))
          case measure => simp [intOf]
      · have c5 : wr.cell? ⟨w.heap.size, 5, none⟩ = some (.int .i64 st) := cell_of HP.out.box rfl
        have HH := Lib.hid (HAS.out 4 (Or.inr (Or.inr rfl)) wr)
        cases hh : hasB st 4 with
        | true =>
          rw [hh] at HH
          have HBB := Lib.hid hh
          clear hh
          go_wp2_with fail
          refine HH.out.mono ?_
          rintro e w2 ⟨rfl, rfl⟩
          have k1 := cell_of (k := 1) HP.out.sum rfl
          have f1 : _ = false := unfrozen_of (k := 1) HP.out.sum
          go_wp2_with fail
          go_roundw
          case rel => exact Or.inr (Or.inr (Or.inr ⟨rfl, Lib.hid (by first | exact HP.out.inc | (rw [HBB.out]; exact HP.out.inc))⟩))
          case measure => simp [intOf]
        | false =>
          rw [hh] at HH
          have HBB := Lib.hid hh
          clear hh
          go_wp2_with fail
          refine HH.out.mono ?_
          rintro e w2 ⟨rfl, rfl⟩
          go_wp2_with fail
          go_roundw
          case rel => exact Or.inr (Or.inr (Or.inr ⟨rfl, Lib.hid (by first | exact HP.out | (rw [HBB.out]; exact HP.out))⟩))
          case measure => simp [intOf]
      · have k0 := cell_of (k := 0) HP.out.sum rfl
        have k1 := cell_of (k := 1) HP.out.sum rfl
        have k2 := cell_of (k := 2) HP.out.sum rfl
        have hyv : yN (N + (b01 (hasB st 1) + b01 (hasB st 2) + b01 (hasB st 4))) = yN (N + b01 (hasB st 1) + b01 (hasB st 2) + b01 (hasB st 4)) := by congr 1; omega
        obtain ⟨Y, hY⟩ : ∃ Y, yN (N + b01 (hasB st 1) + b01 (hasB st 2) + b01 (hasB st 4)) = Y := ⟨_, rfl⟩
        rw [hY] at k1 hyv
        have HYV := Lib.hid hyv
        obtain ⟨x1, x2, x3, ⟨p0, q0, r0⟩, ⟨p1, q1, r1⟩, ⟨p2, q2, r2⟩, h3⟩ := three_store wr (w.heap.size + 1) 25 _ _ _ (.int .i64 X) (.int .i64 Y) (.int .i64 Z) HP.out.res
        have HB3 := Lib.hid (h3.below w.heap.size w (by omega) HP.out.bel)
        have j0 := cell_of (k := 0) h3.here rfl
        have j1 := cell_of (k := 1) h3.here rfl
        have j2 := cell_of (k := 2) h3.here rfl
        clear h3 hY hyv
        go_wp2_with fail
        exact bodyPost_ret (v := .agg #[.int .i64 X, .int .i64 Y, .int .i64 Z]) (by simp [results, Tryz.results20, go_sem, j0, j1, j2]) rfl ⟨by rw [HX.out, HYV.out, HZ.out], HB3.out⟩
/-- while a selector is weighed -/
structure WtSt (w wx : World) (A : Array Value) (a0 a1 a2 : Int) : Prop where
  sum : SumAt wx (w.heap.size + 1 + 1) a0 a1 a2
  res : SumAt wx (w.heap.size + 1) 0 0 0
  box : wx.heap[w.heap.size]? = some (.cells A 24 (0, 0))
  bel : Below w.heap.size w wx
theorem WtSt.keep {w wx wy : World} {A : Array Value} {a0 a1 a2 : Int} (h : WtSt w wx A a0 a1 a2) (hb : Below wx.heap.size wx wy) : WtSt w wy A a0 a1 a2 :=
  ⟨h.sum.keep hb, h.res.keep hb, (hb.block _ (Array.getElem?_eq_some_iff.1 h.box).1).trans h.box, h.bel.trans (hb.mono h.bel.size)⟩
theorem wt_start (w : World) (A : Array Value) : WtSt w (((w.alloc (.cells A 24)).alloc (.cells #[.int .i64 0, .int .i64 0, .int .i64 0] 25)).alloc (.cells #[.int .i64 0, .int .i64 0, .int .i64 0] 25)) A 0 0 0 := by
  have e1 : (w.alloc (.cells A 24)).heap.size = w.heap.size + 1 := by simp
  have e2 : ((w.alloc (.cells A 24)).alloc (.cells #[.int .i64 0, .int .i64 0, .int .i64 0] 25)).heap.size = w.heap.size + 1 + 1 := by simp
  refine ⟨?_, ?_, ?_, ((below_one7 w _).alloc (by simp) _).alloc (by simp; omega) _⟩
  · have := heap_alloc_new ((w.alloc (.cells A 24)).alloc (.cells #[.int .i64 0, .int .i64 0, .int .i64 0] 25)) (.cells #[.int .i64 0, .int .i64 0, .int .i64 0] 25)
    rwa [e2] at this
  · have := heap_alloc_new (w.alloc (.cells A 24)) (.cells #[.int .i64 0, .int .i64 0, .int .i64 0] 25)
    rw [e1] at this
    exact ((below_one7 _ _).block (w.heap.size + 1) (by simp)).trans this
  · exact ((below_one7 _ _).block w.heap.size (by simp; omega)).trans (((below_one7 _ _).block w.heap.size (by simp)).trans (heap_alloc_new w _))
set_option maxRecDepth 100000 in
set_option maxHeartbeats 4000000 in
theorem refWeight7 (a : Option Addr) (ps : List PtV) (n c : Nat) (w : World) (hn : ps.length = n) (hl : n ≤ maxLen) (hp : Pts w a ps) :
    Calls Tryz.prog 8 #[.agg #[.slice a n c]] w fun e w' => e = .returned (.agg #[.int .i64 (wI (wS (ps.map PtV.p))).1, .int .i64 (wI (wS (ps.map PtV.p))).2.1, .int .i64 (wI (wS (ps.map PtV.p))).2.2]) ∧ Below w.heap.size w w' := by
  obtain ⟨P, hP⟩ : ∃ P, ps.map PtV.p = P := ⟨_, rfl⟩
  rw [hP]
  have hPl : P.length = n := by rw [← hP, List.length_map, hn]
  obtain ⟨⟨X0, X1, X2⟩, hX⟩ : ∃ X, wI (wS P) = X := ⟨_, rfl⟩
  rw [hX]
  simp only
  unfold maxLen at hl
  have hz : (n : Int) ≤ 9223372036854775807 := by omega
  have S0 := wt_start w #[.slice a n c]
  obtain ⟨wb, hwb⟩ : ∃ wb, (((w.alloc (.cells #[.slice a n c] 24)).alloc (.cells #[.int .i64 0, .int .i64 0, .int .i64 0] 25)).alloc (.cells #[.int .i64 0, .int .i64 0, .int .i64 0] 25)) = wb := ⟨_, rfl⟩
  rw [hwb] at S0
  have HS0 := Lib.hid S0
  have HWB := Lib.hid hwb
  have HPS := Lib.hid hp
  have HPP := Lib.hid hP
  have HN := Lib.hid hn
  have HPL := Lib.hid hPl
  have HX := Lib.hid hX
  clear hP hp hn hPl hX S0 hwb
  go_enter Tryz.func8, Tryz.ntmps8
  go_wp2_with fail
  rw [HWB.out]
  clear HWB
  go_loopw [4] (fun vi wr => ∃ (k : Nat) (a0 a1 a2 : Int), vi = .int .i64 (k : Int) ∧ k ≤ n ∧ Hid (WtSt w wr #[.slice a n c] a0 a1 a2) ∧ Hid (wI (wS (P.take k)) = (a0, a1, a2))) (fun vi _ => n - (intOf vi).toNat)
  case atStart => exact ⟨0, 0, 0, 0, rfl, by omega, HS0, Lib.hid rfl⟩
  case round =>
    obtain ⟨k, a0, a1, a2, rfl, hk, HSr, HJ⟩ := hrel
    have t0 : wr.cell? ⟨w.heap.size, 0, none⟩ = some (.slice a n c) := cell_of HSr.out.box rfl
    by_cases hlt : k < n
    · have hltz : (k : Int) < (n : Int) := by omega
      have hkl : k < ps.length := by have := HN.out; omega
      obtain ⟨b, o, ha, g1, hat, hok⟩ := HPS.out.get hkl
      have hkP : k < P.length := by have := HPL.out; omega
      have hpk : P[k] = (ps[k]).p := by have := HPP.out; subst this; rw [List.getElem_map]
      have hj := wS_take hkP
      rw [hpk] at hj
      have hj2 := wI_add (wS (P.take k)) (wP (ps[k]).p)
      rw [← hj, HJ.out] at hj2
      obtain ⟨d0, d1, d2, d3, d4, d5⟩ := hat.below HSr.out.bel g1
      have hok2 := fun W (hW : Below w.heap.size w W) => hok.below hW
      generalize ps[k] = x at *
      obtain ⟨⟨co, tg, id, cl, ts, st⟩, ca, cc, ta, tc⟩ := x
      simp only at d0 d1 d2 d3 d4 d5 hj2
      obtain ⟨ln, hln⟩ : ∃ n, cl.length = n := ⟨_, rfl⟩
      obtain ⟨lm, hlm⟩ : ∃ n, ts.length = n := ⟨_, rfl⟩
      have CR := refPartWeight7 co st tg id ca ta cc tc ln lm cl ts wr hln hlm (hok2 wr HSr.out.bel)
      obtain ⟨⟨q0, q1, q2⟩, hq⟩ : ∃ q, wP ⟨co, tg, id, cl, ts, st⟩ = q := ⟨_, rfl⟩
      rw [hq] at hj2 CR
      simp only at CR hj2
      unfold yN at CR
      obtain ⟨z1, hz1⟩ : ∃ z, IntKind.i64.wrap (q1 : Int) = z := ⟨_, rfl⟩
      rw [hz1] at hj2 CR
      have CRR := Lib.hid CR
      rw [hln] at d3
      rw [hlm] at d4
      rw [wrapEq7, wrapEq7, wrapEq7] at hj2
      have HJ2 := Lib.hid hj2
      rw [ha] at t0
      clear hat hok hok2 hpk hj hj2 hln hlm hq CR hz1 HJ ha
      go_wp2_with fail
      refine CRR.out.mono ?_
      rintro e w2 ⟨rfl, hb2⟩
      have HS2 := Lib.hid ((HSr.out.keep hb2).keep (below_one7 w2 (.cells #[.int .i64 (q0 : Int), .int .i64 z1, .int .i64 (q2 : Int)] 25)))
      have HP2 : Hid (SumAt (w2.alloc (.cells #[.int .i64 (q0 : Int), .int .i64 z1, .int .i64 (q2 : Int)] 25)) w2.heap.size (q0 : Int) z1 (q2 : Int)) := Lib.hid (heap_alloc_new w2 _)
      have hne : w.heap.size + 1 + 1 < w2.heap.size := by have := (Array.getElem?_eq_some_iff.1 (HSr.out.keep hb2).sum).1; exact this
      have HNE := Lib.hid hne
      clear hb2 d0 d1 d2 d3 d4 d5 t0 hne
      go_upto_region 6 with (fail)
      obtain ⟨B5, hB5⟩ : ∃ B, w2.heap.size = B := ⟨_, rfl⟩
      rw [hB5] at HP2 HNE ⊢
      generalize w2.alloc (.cells #[.int .i64 (q0 : Int), .int .i64 z1, .int .i64 (q2 : Int)] 25) = W4 at *
      clear hB5
      have k0 := cell_of (k := 0) HS2.out.sum rfl
      have k1 := cell_of (k := 1) HS2.out.sum rfl
      have k2 := cell_of (k := 2) HS2.out.sum rfl
      have j0 := cell_of (k := 0) HP2.out rfl
      have j1 := cell_of (k := 1) HP2.out rfl
      have j2 := cell_of (k := 2) HP2.out rfl
      obtain ⟨x1, x2, x3, ⟨p0, r0, s0⟩, ⟨p1, r1, s1⟩, ⟨p2, r2, s2⟩, h3⟩ := three_store W4 (w.heap.size + 1 + 1) 25 _ _ _ (.int .i64 (wrap64 (a0 + (q0 : Int)))) (.int .i64 (wrap64 (a1 + z1))) (.int .i64 (wrap64 (a2 + (q2 : Int)))) HS2.out.sum
      have HS3 : Hid (WtSt w x3 #[.slice a n c] (wrap64 (a0 + (q0 : Int))) (wrap64 (a1 + z1)) (wrap64 (a2 + (q2 : Int)))) := Lib.hid ⟨h3.here, (h3.there _ (by omega)).trans HS2.out.res, (h3.there _ (by omega)).trans HS2.out.box, h3.below w.heap.size w (by omega) HS2.out.bel⟩
      clear h3
      go_wp2_with fail
      go_roundw
      case rel => exact ⟨k + 1, _, _, _, by go_num, by omega, HS3, HJ2⟩
      case measure => simp [intOf]; omega
    · have hltz : ¬ (k : Int) < (n : Int) := by omega
      have hXX := HX.out
      have hJ := HJ.out
      rw [List.take_of_length_le (by have := HPL.out; omega), hXX] at hJ
      injection hJ with e0 hJ
      injection hJ with e1 e2
      subst e0; subst e1; subst e2
      have k0 := cell_of (k := 0) HSr.out.sum rfl
      have k1 := cell_of (k := 1) HSr.out.sum rfl
      have k2 := cell_of (k := 2) HSr.out.sum rfl
      obtain ⟨x1, x2, x3, ⟨p0, q0, r0⟩, ⟨p1, q1, r1⟩, ⟨p2, q2, r2⟩, h3⟩ := three_store wr (w.heap.size + 1) 25 _ _ _ (.int .i64 X0) (.int .i64 X1) (.int .i64 X2) HSr.out.res
      have HB3 := Lib.hid (h3.below w.heap.size w (by omega) HSr.out.bel)
      have j0 := cell_of (k := 0) h3.here rfl
      have j1 := cell_of (k := 1) h3.here rfl
      have j2 := cell_of (k := 2) h3.here rfl
      clear h3 hXX
      go_wp2_with fail
      exact bodyPost_ret (v := .agg #[.int .i64 X0, .int .i64 X1, .int .i64 X2]) (by simp [results, Tryz.results8, go_sem, j0, j1, j2]) rfl ⟨rfl, HB3.out⟩
end Go.Proofs.YtfbfndknhabmhaaGreat
