/- Joined texts: QryK8 QryK9. -/
import Derived.Test.YtoaenlbbochjhaaQryKb
import Derived.Test.YtoaenlbbochjhaaAppG
import Derived.Test.YtoaenlbbochjhaaLexSb
import Derived.Test.YtoaenlbbochjhaaSynR2
import Derived.Test.YtoaenlbbochjhaaQryRa
namespace Go.Proofs.Ytoaenlbbochjhaa
open Go.RowKit TreN LexP FixP SynP ValP FixM QryP
set_option linter.unusedVariables false

/-- a term of one node was read -/
def TermIs (w : World) (x : QN) (z : Nat) (e : Ending) (w' : World) : Prop := ∃ g, e = .returned (.tuple #[.slice (some ⟨g, 0, none⟩) 1 1, .int .i64 (z : Int), .bool true]) ∧ w.heap.size ≤ g ∧ w'.heap[g]? = some (.cells (qnC x) 39 (0, 0)) ∧ Below w.heap.size w w'
/-- the nodes of a condition -/
def qncs (L : List QN) : List Value := L.flatMap fun x => (qnC x).toList
theorem qncs_one : ∀ (L : List QN), ∀ u ∈ qncs L, u.oneCell' = true := by
  intro L u hu
  obtain ⟨x, _, h⟩ := List.mem_flatMap.1 hu
  simp only [List.mem_cons, List.not_mem_nil, or_false] at h
  rcases h with rfl | rfl | rfl | rfl | rfl | rfl | rfl | rfl | rfl <;> rfl
theorem qncs_len (L : List QN) : (qncs L).length = L.length * 9 := by
  unfold qncs
  induction L with
  | nil => rfl
  | cons x L ih => rw [List.flatMap_cons, List.length_append, ih]; simp; omega
theorem qncs_get : ∀ (L : List QN) (i : Nat) (h : i < L.length) (j : Nat), j < 9 → (qncs L)[i * 9 + j]? = (qnC L[i])[j]?
  | [], i, h, j, hj => absurd h (Nat.not_lt_zero _)
  | x :: L, 0, h, j, hj => by
    unfold qncs
    rw [List.flatMap_cons, List.getElem?_append_left (by simp; omega)]
    simp
  | x :: L, i + 1, h, j, hj => by
    have ih := qncs_get L i (by simpa using h) j hj
    unfold qncs at ih ⊢
    rw [List.flatMap_cons, List.getElem?_append_right (by simp; omega)]
    have e : (i + 1) * 9 + j - (qnC x).toList.length = i * 9 + j := by simp; omega
    rw [e, ih]
    rfl
def CondIs (w : World) (L : List QN) (e : Ending) (w' : World) : Prop := ∃ v, e = .returned (.tuple #[v, .bool true]) ∧ w'.ownsRow w.heap.size 39 9 v L.length (qncs L) ∧ Below w.heap.size w w'
theorem row_of_blk {W : World} {g B : Nat} {x : QN} (h : W.heap[g]? = some (.cells (qnC x) 39 (0, 0))) (hB : B ≤ g) : W.ownsRow B 39 9 (.slice (some ⟨g, 0, none⟩) 1 1) 1 (qncs [x]) :=
  ⟨by rw [qncs_len]; rfl, Or.inr ⟨g, 1, qnC x, rfl, hB, h, Nat.le_refl _, by unfold maxLen; omega, rfl, by rfl⟩⟩
theorem qns_of_row {W : World} {B : Nat} {v : Value} {L : List QN} {n : Nat} (h : W.ownsRow B 39 9 v n (qncs L)) (hn : L.length = n) (h0 : 0 < n) : ∃ g c, v = .slice (some ⟨g, 0, none⟩) n c ∧ n ≤ c ∧ c ≤ maxLen ∧ Qns W (some ⟨g, 0, none⟩) L := by
  subst hn
  rcases h.2 with ⟨_, h1⟩ | ⟨g, c, cur, hv, _, hh, hc, hm, _⟩
  · omega
  · subst hv
    refine ⟨g, c, rfl, hc, hm, Or.inr ⟨g, 0, rfl, (Array.getElem?_eq_some_iff.1 hh).1, fun i hi => ?_⟩⟩
    have k : ∀ j, j < 9 → W.cell? ⟨g, i * 9 + j, none⟩ = (qnC L[i])[j]? := fun j hj => (h.cellAt (i * 9 + j) (by omega)).trans (qncs_get L i hi j hj)
    simp only [Nat.zero_add]
    exact ⟨k 0 (by omega), k 1 (by omega), k 2 (by omega), k 3 (by omega), k 4 (by omega), k 5 (by omega), k 6 (by omega), k 7 (by omega), k 8 (by omega)⟩
theorem info_qnode : (Try.prog.info? 39).map (fun i => (i.zero, i.size, i.bytes)) = some (some (.agg #[.int .i64 0, .int .i64 0, .int .i64 0, .int .i64 0, .int .i64 0, .int .i64 0, .int .i64 0, .int .i64 0, .int .i64 0]), 9, 72) := by kernel_rfl
/-- nodes put behind nodes -/
theorem app_qns (B : Nat) (v : Value) (L : List QN) (n : Nat) (g m c : Nat) (M : List QN) (W : World) (hn : L.length = n) (hm : M.length = m) (hb : n ≤ 100) (hb2 : m ≤ 100) (hm0 : 0 < m) (hB : B ≤ W.heap.size) (h : W.ownsRow B 39 9 v n (qncs L)) (h2 : W.ownsRow B 39 9 (.slice (some ⟨g, 0, none⟩) m c) m (qncs M)) :
    ∃ v' w', (Builtin.append_ #[27, 27] 27 #[v, .slice (some ⟨g, 0, none⟩) m c]).run Try.prog W = .ok v' w' ∧ w'.ownsRow B 39 9 v' (n + m) (qncs (L ++ M)) ∧ Below B W w' := by
  obtain ⟨i, hi, hz0, hz1, hz2⟩ := info_parts info_qnode
  obtain ⟨v', w', r1, r2, r3, r4⟩ := app_cellsA 27 39 i _ 9 72 Try.underlying27 hi hz0 hz1 hz2 rfl (by decide) B v n (qncs L) (some ⟨g, 0, none⟩) m c (qncs M) W hB h (by rw [qncs_len, hm]) (Or.inr ⟨_, rfl, fun j u hj => by
    have hjl : j < (qncs M).length := by
      by_cases q : j < (qncs M).length
      · exact q
      · rw [List.getElem?_eq_none (by omega)] at hj; cases hj
    rw [qncs_len, hm] at hjl
    rw [Addr.add_lit, Nat.zero_add, h2.cellAt j hjl, hj]⟩) (qncs_one M) (by unfold maxLen; omega) (by omega)
  refine ⟨v', w', r1, ?_, r3⟩
  unfold qncs at r2 ⊢
  rw [List.flatMap_append]
  exact r2

set_option maxRecDepth 100000 in
set_option maxHeartbeats 8000000 in
theorem refCond8_one (a : Option Addr) (l : List Tok) (n cap m : Nat) (x : QN) (w : World) (hn : l.length = n) (hm : n ≤ 100000) (hT : Tks w a l) (h0 : wordS l 0 [110, 111, 116] = false) (hmn : m ≤ n) (hend : skipN l m = n)
    (hterm : Calls Try.prog 61 #[.slice a n cap, .int .i64 0] w (TermIs w x m)) :
    Calls Try.prog 45 #[.slice a n cap] w (CondIs w [x]) := by
  have W0 := refWord8_any a l n cap 0 [110, 111, 116] w hn (by omega) (by omega) hT
  rw [h0] at W0
  have HW0 := Lib.hid W0
  have E0 := fun W (hW : Below w.heap.size w W) => refEnds8_any a l n cap m W hn (by omega) (by omega) (hT.below hW)
  rw [decide_eq_true hend] at E0
  have HE0 := Lib.hid E0
  have HTM := Lib.hid hterm
  clear W0 E0 hterm hT hn h0 hend
  go_enter Try.func45, Try.ntmps45
  go_wp2_with fail
  refine HW0.out.mono ?_
  rintro e w' ⟨rfl, hw⟩
  have hw := hw.symm
  subst hw
  go_wp2_with fail
  refine HTM.out.mono ?_
  rintro e w1 ⟨g, rfl, hg, hx, hb⟩
  have HX := Lib.hid (And.intro hg (And.intro hx hb))
  have HB := Lib.hid hb
  clear hg hx hb HTM
  go_wp2_with fail
  refine (HE0.out _ HB.out).mono ?_
  rintro e w' ⟨rfl, hw⟩
  have hw := hw.symm
  subst hw
  go_wp2_with fail
  go_ret2
  exact ⟨_, rfl, row_of_blk HX.out.2.1 HX.out.1, HX.out.2.2⟩

/-- what is read so far -/
def CSt (w wr : World) (m m2 : Nat) (x y : QN) (j z : Nat) (L : List QN) (v : Value) : Prop := wr.ownsRow w.heap.size 39 9 v j (qncs L) ∧ Below w.heap.size w wr ∧ (j = 1 ∧ z = m ∧ L = [x] ∨ j = 2 ∧ z = m2 ∧ L = [x, y])
set_option maxRecDepth 100000 in
set_option maxHeartbeats 8000000 in
theorem refCond8_or (a : Option Addr) (l : List Tok) (n cap m k m2 : Nat) (x y : QN) (w : World) (hn : l.length = n) (hm : n ≤ 100000) (hT : Tks w a l) (h0 : wordS l 0 [110, 111, 116] = false) (hmn : m ≤ n) (hend : ¬ skipN l m = n) (hand : wordS l m [97, 110, 100] = false) (hor : wordS l m [111, 114] = true) (hk : skipN l m = k) (hkn : k < n) (hm2 : m2 ≤ n) (hor2 : wordS l m2 [111, 114] = false) (hend2 : skipN l m2 = n)
    (hterm : Calls Try.prog 61 #[.slice a n cap, .int .i64 0] w (TermIs w x m))
    (hterm2 : ∀ W, Below w.heap.size w W → Calls Try.prog 61 #[.slice a n cap, .int .i64 ((k : Int) + 1)] W (TermIs W y m2)) :
    Calls Try.prog 45 #[.slice a n cap] w (CondIs w [⟨2, 2, 0, ⟨0, 0, 0⟩, ⟨0, 0, 0⟩⟩, x, y]) := by
  have W0 := refWord8_any a l n cap 0 [110, 111, 116] w hn (by omega) (by omega) hT
  rw [h0] at W0
  have HW0 := Lib.hid W0
  have E0 := fun W (hW : Below w.heap.size w W) => refEnds8_any a l n cap m W hn (by omega) (by omega) (hT.below hW)
  rw [decide_eq_false hend] at E0
  have HE0 := Lib.hid E0
  have E1 := fun W (hW : Below w.heap.size w W) => refEnds8_any a l n cap m2 W hn (by omega) (by omega) (hT.below hW)
  rw [decide_eq_true hend2] at E1
  have HE1 := Lib.hid E1
  have A0 := fun W (hW : Below w.heap.size w W) => refWord8_any a l n cap m [97, 110, 100] W hn (by omega) (by omega) (hT.below hW)
  rw [hand] at A0
  have HA0 := Lib.hid A0
  have O0 := fun W (hW : Below w.heap.size w W) => refWord8_any a l n cap m [111, 114] W hn (by omega) (by omega) (hT.below hW)
  rw [hor] at O0
  have HO0 := Lib.hid O0
  have O1 := fun W (hW : Below w.heap.size w W) => refWord8_any a l n cap m2 [111, 114] W hn (by omega) (by omega) (hT.below hW)
  rw [hor2] at O1
  have HO1 := Lib.hid O1
  have S := fun W (hW : Below w.heap.size w W) => refSyn8_any a l n cap m W hn (by omega) (by omega) (hT.below hW)
  rw [hk] at S
  have HS := Lib.hid S
  have HTM := Lib.hid hterm
  have HTN := Lib.hid hterm2
  clear W0 E0 E1 A0 O0 O1 S hterm hterm2 hT hn h0 hend hand hor hor2 hend2 hk
  go_enter Try.func45, Try.ntmps45
  go_wp2_with fail
  refine HW0.out.mono ?_
  rintro e w' ⟨rfl, hw⟩
  have hw := hw.symm
  subst hw
  go_wp2_with fail
  refine HTM.out.mono ?_
  rintro e w1 ⟨g, rfl, hg, hx, hb⟩
  have HX := Lib.hid (And.intro hg (And.intro hx hb))
  have HB := Lib.hid hb
  clear hg hx hb HTM
  go_wp2_with fail
  refine (HE0.out _ HB.out).mono ?_
  rintro e w' ⟨rfl, hw⟩
  have hw := hw.symm
  subst hw
  go_wp2_with fail
  refine (HA0.out _ HB.out).mono ?_
  rintro e w' ⟨rfl, hw⟩
  have hw := hw.symm
  subst hw
  go_wp2_with fail
  refine (HO0.out _ HB.out).mono ?_
  rintro e w' ⟨rfl, hw⟩
  have hw := hw.symm
  subst hw
  go_wp2_with fail
  have HR0 : Hid (CSt w w1 m m2 x y 1 m [x] (.slice (some ⟨g, 0, none⟩) 1 1)) := Lib.hid ⟨row_of_blk HX.out.2.1 HX.out.1, HX.out.2.2, Or.inl ⟨rfl, rfl, rfl⟩⟩
  go_loopw [7, 8, 12] (fun v7 v8 v12 wr => ∃ (j z : Nat) (L : List QN) (y7 : Value), y7 = v7 ∧ v8 = .int .i64 (z : Int) ∧ v12 = .int .i64 (j : Int) ∧ Hid (CSt w wr m m2 x y j z L y7)) (fun _ _ v12 _ => 2 - (intOf v12).toNat)
  case atStart => exact ⟨1, m, [x], _, rfl, rfl, rfl, HR0⟩
  case round =>
    obtain ⟨j, z, L, y7, h7, rfl, rfl, HR⟩ := hrel
    subst h7
    clear HR0 HX HB
    have HBR : Hid (Below w.heap.size w wr) := Lib.hid HR.out.2.1
    rcases HR.out.2.2 with ⟨hj, hz, hL⟩ | ⟨hj, hz, hL⟩
    · subst hj; subst hL
      obtain rfl : m = z := hz.symm
      go_wp2_with fail
      refine (HO0.out _ HBR.out).mono ?_
      rintro e w' ⟨rfl, hw⟩
      have hw := hw.symm
      subst hw
      go_wp2_with fail
      refine (HS.out _ HBR.out).mono ?_
      rintro e w' ⟨rfl, hw⟩
      have hw := hw.symm
      subst hw
      go_wp2_with fail
      refine (HTN.out _ HBR.out).mono ?_
      rintro e w2 ⟨g2, rfl, hg2, hx2, hb2⟩
      have hown := rowA_below HR.out.1 hb2
      have hrow2 := row_of_blk (B := w.heap.size) hx2 (Nat.le_trans HBR.out.size hg2)
      have hB2 := HBR.out.trans (hb2.mono HBR.out.size)
      obtain ⟨v3, w3, hr3, ho3, hb3⟩ := app_qns w.heap.size y7 [x] 1 g2 1 1 [y] w2 rfl rfl (by omega) (by omega) (by omega) hB2.size hown hrow2
      have HR3 := Lib.hid hr3
      have HF : Hid (CSt w w3 m m2 x y 2 m2 [x, y] v3) := Lib.hid ⟨ho3, hB2.trans hb3, Or.inr ⟨rfl, rfl, rfl⟩⟩
      clear hg2 hx2 hb2 hown hrow2 hB2 hr3 ho3 hb3
      go_wp2_with (at_builtin; refine wpList_append_runL rfl _ _ 27 rfl _ _ _ _ rfl rfl HR3.out ?_)
      go_roundw
      case rel => exact ⟨2, m2, [x, y], _, rfl, rfl, by go_num, HF⟩
      case measure => simp [intOf]
    · subst hj; subst hL
      obtain rfl : m2 = z := hz.symm
      go_wp2_with fail
      refine (HO1.out _ HBR.out).mono ?_
      rintro e w' ⟨rfl, hw⟩
      have hw := hw.symm
      subst hw
      go_upto_region 24 with (fail)
      have hz0 := heap_alloc_new wr (.cells (qnC ⟨2, 2, 0, ⟨0, 0, 0⟩, ⟨0, 0, 0⟩⟩) 39)
      have hb0 : Below wr.heap.size wr (wr.alloc (.cells (qnC ⟨2, 2, 0, ⟨0, 0, 0⟩, ⟨0, 0, 0⟩⟩) 39)) := below_oneQ _ _
      have hown := rowA_below HR.out.1 hb0
      have hrow0 := row_of_blk (B := w.heap.size) hz0 HBR.out.size
      obtain ⟨g7, c7, hv7, hc7, hc8, _⟩ := qns_of_row hown rfl (by omega)
      subst hv7
      have hB0 := HBR.out.trans (hb0.mono HBR.out.size)
      obtain ⟨v3, w3, hr3, ho3, hb3⟩ := app_qns w.heap.size _ [⟨2, 2, 0, ⟨0, 0, 0⟩, ⟨0, 0, 0⟩⟩] 1 g7 2 c7 [x, y] _ rfl rfl (by omega) (by omega) (by omega) hB0.size hrow0 hown
      have HR3 := Lib.hid hr3
      have HB3 := Lib.hid (hB0.trans hb3)
      have HF := Lib.hid ho3
      clear hz0 hb0 hown hrow0 hB0 hr3 ho3 hb3
      go_wp2_with (at_builtin; refine wpList_append_runL rfl _ _ 27 rfl _ _ _ _ rfl rfl HR3.out ?_)
      refine (HE1.out _ HB3.out).mono ?_
      rintro e w' ⟨rfl, hw⟩
      have hw := hw.symm
      subst hw
      go_wp2_with fail
      go_ret2
      exact ⟨_, rfl, HF.out, HB3.out⟩
end Go.Proofs.Ytoaenlbbochjhaa

namespace Go.Proofs.Ytoaenlbbochjhaa
open Go.RowKit TreN LexP FixP SynP ValP FixM QryP
set_option linter.unusedVariables false

theorem q_cells9 {w : World} {b : Nat} {T : TypeId} {x y : Value} (h : w.heap[b]? = some (.cells #[x, y] T (0, 0))) : w.cell? ⟨b, 0, none⟩ = some x ∧ w.cell? ⟨b, 1, none⟩ = some y ∧ w.frozen? ⟨b, 0, none⟩ = false ∧ w.frozen? ⟨b, 1, none⟩ = false ∧ b < w.heap.size :=
  ⟨cell_of h rfl, cell_of h rfl, unfrozen_of h, unfrozen_of h, blk_ltQ h⟩
def ParseIs (w : World) (L : List QN) (m : Nat) (e : Ending) (w' : World) : Prop := ∃ g c, e = .returned (.tuple #[.agg #[.string ⟨#[]⟩, .slice (some ⟨g, 0, none⟩) m c], .int .i64 0]) ∧ Qns w' (some ⟨g, 0, none⟩) L ∧ Below w.heap.size w w'

theorem refParse_fin {w W : World} {L : List QN} {g m c : Nat} {u0 u1 : Value} (hr : W.heap[w.heap.size]? = some (.cells #[u0, u1] 29 (0, 0))) (hg : w.heap.size < g) (hQ : Qns W (some ⟨g, 0, none⟩) L) (hb : Below w.heap.size w W) (f : Act) (hf : f.tmps[2]? = some (.pointer (some ⟨w.heap.size, 0, none⟩))) (hf3 : f.tmps[3]? = some (.int .i64 0)) (hd : f.defers = []) :
    bodyPost Try.prog Try.f29 (ParseIs w L m) .ret f ((W.setCell ⟨w.heap.size, 0, none⟩ (.string ⟨#[]⟩)).setCell ⟨w.heap.size, 1, none⟩ (.slice (some ⟨g, 0, none⟩) m c)) := by
  have h1 := heap_setCell_same _ w.heap.size 0 _ _ (.string ⟨#[]⟩) hr
  have h2 : ((W.setCell ⟨w.heap.size, 0, none⟩ (.string ⟨#[]⟩)).setCell ⟨w.heap.size, 1, none⟩ (.slice (some ⟨g, 0, none⟩) m c)).heap[w.heap.size]? = some (.cells #[.string ⟨#[]⟩, .slice (some ⟨g, 0, none⟩) m c] 29 (0, 0)) := heap_setCell_same _ w.heap.size 1 _ _ (.slice (some ⟨g, 0, none⟩) m c) h1
  have y0 : ((W.setCell ⟨w.heap.size, 0, none⟩ (.string ⟨#[]⟩)).setCell ⟨w.heap.size, 1, none⟩ (.slice (some ⟨g, 0, none⟩) m c)).cell? ⟨w.heap.size, 0, none⟩ = some (.string ⟨#[]⟩) := cell_of h2 rfl
  have y1 : ((W.setCell ⟨w.heap.size, 0, none⟩ (.string ⟨#[]⟩)).setCell ⟨w.heap.size, 1, none⟩ (.slice (some ⟨g, 0, none⟩) m c)).cell? ⟨w.heap.size, 1, none⟩ = some (.slice (some ⟨g, 0, none⟩) m c) := cell_of h2 rfl
  refine bodyPost_ret (v := .tuple #[.agg #[.string ⟨#[]⟩, .slice (some ⟨g, 0, none⟩) m c], .int .i64 0]) (by simp [results, Try.results29, go_sem, hf, hf3, y0, y1]) hd ⟨g, c, rfl, ?_, (hb.setCell (p := ⟨w.heap.size, 0, none⟩) (Nat.le_refl _) _).setCell (p := ⟨w.heap.size, 1, none⟩) (Nat.le_refl _) _⟩
  rcases hQ with h | ⟨b, o, e1, e2, e3⟩
  · exact Or.inl h
  · injection e1 with e1; injection e1 with e1 e1'
    subst e1
    refine Or.inr ⟨g, o, by rw [e1'], by rw [setCell_size, setCell_size]; exact e2, fun i hi => ?_⟩
    have h := e3 i hi
    have k : ∀ j, ((W.setCell ⟨w.heap.size, 0, none⟩ (.string ⟨#[]⟩)).setCell ⟨w.heap.size, 1, none⟩ (.slice (some ⟨g, 0, none⟩) m c)).cell? ⟨g, j, none⟩ = W.cell? ⟨g, j, none⟩ := fun j => by
      unfold World.cell?
      rw [heap_setCell_other _ _ _ _ (by show g ≠ w.heap.size; omega), heap_setCell_other _ _ _ _ (by show g ≠ w.heap.size; omega)]
    exact ⟨(k _).trans h.c0, (k _).trans h.c1, (k _).trans h.c2, (k _).trans h.c3, (k _).trans h.c4, (k _).trans h.c5, (k _).trans h.c6, (k _).trans h.c7, (k _).trans h.c8⟩

set_option maxRecDepth 100000 in
set_option maxHeartbeats 8000000 in
theorem refParse8_ok (a : Option Addr) (l : List Tok) (n cap m : Nat) (L : List QN) (w : World) (hn : l.length = n) (h1 : n ≤ cap) (h2 : cap ≤ maxLen) (hm : n ≤ 100000) (hT : Tks w a l) (htrim : trm l = l) (hid : isP l 0 1 = false) (hright : rightQ ⟨#[]⟩ L = true) (hL : L.length = m) (hm0 : 0 < m) (hm1 : m ≤ 100)
    (hcond : ∀ a2 c2 W, n ≤ c2 → c2 ≤ maxLen → Below w.heap.size w W → Tks W a2 l → Calls Try.prog 45 #[.slice a2 n c2] W (CondIs W L)) :
    Calls Try.prog 29 #[.slice a n cap] w (ParseIs w L m) := by
  have T0 := fun W (hW : Below w.heap.size w W) => refTrim_nat l.length a l n cap W hn (by omega) h1 h2 (hT.below hW)
  rw [htrim] at T0
  unfold SlPc at T0
  simp only [hn] at T0
  have HT0 := Lib.hid T0
  have HTT := Lib.hid hT
  have HC := Lib.hid hcond
  have I0 := fun (a2 : Option Addr) (c2 : Nat) W (hW : Tks W a2 l) => refIs7_any a2 l n c2 0 1 W hn (by omega) (by omega) hW
  rw [hid] at I0
  have HI0 := Lib.hid I0
  have R0 := fun g c W (hQ : Qns W (some ⟨g, 0, none⟩) L) => refRight8_any [] (by decide) (some ⟨g, 0, none⟩) L m c W hL (by unfold maxLen; omega) hQ
  have hright2 : rightQ ⟨([] : List UInt8).toArray⟩ L = true := hright
  rw [hright2] at R0
  have HR0 := Lib.hid R0
  have HL := Lib.hid hL
  have HN := Lib.hid hn
  clear T0 hcond I0 R0 hright hright2 htrim hid hT hL hn
  have hb0 := below_oneQ w (.cells #[.string ⟨#[]⟩, .slice none 0 0] 29)
  have hq0 := heap_alloc_new w (.cells #[.string ⟨#[]⟩, .slice none 0 0] 29)
  generalize hW0 : w.alloc (.cells #[.string ⟨#[]⟩, .slice none 0 0] 29) = W0 at *
  have HB0 := Lib.hid hb0
  have HQ0 := Lib.hid hq0
  clear hb0 hq0
  go_enter Try.func29, Try.ntmps29
  go_wp2_with fail
  refine (HT0.out _ HB0.out).mono ?_
  rintro e w' ⟨⟨a2, c2, rfl, hc2, hc3, hT2⟩, hw⟩
  have hw := hw.symm
  subst hw
  have HT2 := Lib.hid hT2
  clear hT2
  go_upto_region 3 with (fail)
  have hb1 := below_oneQ W0 (.cells #[.string ⟨#[]⟩, .slice none 0 0] 29)
  have hq1 := heap_alloc_new W0 (.cells #[.string ⟨#[]⟩, .slice none 0 0] 29)
  generalize hW1 : W0.alloc (.cells #[.string ⟨#[]⟩, .slice none 0 0] 29) = W1 at *
  have hB1 := HB0.out.trans (hb1.mono HB0.out.size)
  have hr1 := (hb1.block _ (blk_ltQ HQ0.out)).trans HQ0.out
  have hlt1 := Nat.lt_of_lt_of_le (blk_ltQ HQ0.out) (Nat.le_refl _)
  have HB1 := Lib.hid hB1
  have HQ1 := Lib.hid (And.intro hq1 hr1)
  have HLT := Lib.hid hlt1
  obtain ⟨a3, s1, s2, s3, s4, s5⟩ := sl_from a2 l c2 n 0 HN.out (0 : Int) rfl (Nat.zero_le _) hc2 hc3
  have s5' : ∀ W : World, Tks W a2 l → Tks W a3 l := by simpa using s5
  have HS5 := Lib.hid s5'
  simp only [Nat.sub_zero] at s1 s3 s4
  clear hb1 hq1 hB1 hr1 hlt1 s2 s5 s5' HT0
  go_wp2_with fail
  refine (HI0.out a2 c2 _ (HT2.out _ (HTT.out.below HB1.out))).mono ?_
  rintro e w' ⟨rfl, hw⟩
  have hw := hw.symm
  subst hw
  go_wp2_with fail
  refine (HC.out a3 c2 _ hc2 hc3 HB1.out (HS5.out _ (HT2.out _ (HTT.out.below HB1.out)))).mono ?_
  rintro e w2 ⟨v, rfl, ho, hb2⟩
  rw [HL.out] at ho
  obtain ⟨g, c, hv, hgc, hcm, hQ⟩ := qns_of_row ho HL.out hm0
  subst hv
  have hB2 := HB1.out.trans (hb2.mono HB1.out.size)
  have hq2 := (hb2.block _ (blk_ltQ HQ1.out.1)).trans HQ1.out.1
  have hr2 := (hb2.block _ (blk_ltQ HQ1.out.2)).trans HQ1.out.2
  obtain ⟨x0, x1, x2, x3, x4⟩ := q_cells9 hq2
  have hst : (w2.setCell ⟨W0.heap.size, 1, none⟩ (.slice (some ⟨g, 0, none⟩) m c)).heap[W0.heap.size]? = some (.cells #[.string ⟨#[]⟩, .slice (some ⟨g, 0, none⟩) m c] 29 (0, 0)) := heap_setCell_same _ _ 1 _ _ _ hq2
  have hsr : (w2.setCell ⟨W0.heap.size, 1, none⟩ (.slice (some ⟨g, 0, none⟩) m c)).heap[w.heap.size]? = some (.cells #[.string ⟨#[]⟩, .slice none 0 0] 29 (0, 0)) := by rw [heap_setCell_other _ _ _ _ (by have := HLT.out; show w.heap.size ≠ W0.heap.size; omega)]; exact hr2
  have hglt : Hid (w.heap.size < g) := Lib.hid (by have h := (World.ownsRow.lt ho g rfl).1; have := HLT.out; have h5 := blk_ltQ HQ1.out.1; omega)
  have hgne : g ≠ W0.heap.size := by
    have h := (World.ownsRow.lt ho g rfl).1
    have := blk_ltQ HQ1.out.1
    omega
  have hQ3 : Qns (w2.setCell ⟨W0.heap.size, 1, none⟩ (.slice (some ⟨g, 0, none⟩) m c)) (some ⟨g, 0, none⟩) L := by
    rcases hQ with h | ⟨b, o, e1, e2, e3⟩
    · exact Or.inl h
    · injection e1 with e1; injection e1 with e1 e1'
      subst e1
      refine Or.inr ⟨g, o, by rw [e1'], by rw [setCell_size]; exact e2, fun i hi => ?_⟩
      have h := e3 i hi
      have k : ∀ j, (w2.setCell ⟨W0.heap.size, 1, none⟩ (.slice (some ⟨g, 0, none⟩) m c)).cell? ⟨g, j, none⟩ = w2.cell? ⟨g, j, none⟩ := fun j => by unfold World.cell?; rw [heap_setCell_other _ _ _ _ hgne]
      exact ⟨(k _).trans h.c0, (k _).trans h.c1, (k _).trans h.c2, (k _).trans h.c3, (k _).trans h.c4, (k _).trans h.c5, (k _).trans h.c6, (k _).trans h.c7, (k _).trans h.c8⟩
  have hB3 : Below w.heap.size w (w2.setCell ⟨W0.heap.size, 1, none⟩ (.slice (some ⟨g, 0, none⟩) m c)) := hB2.setCell (p := ⟨W0.heap.size, 1, none⟩) (by have := HLT.out; show w.heap.size ≤ W0.heap.size; omega) _
  go_upto_region 9 with (fail)
  generalize (w2.setCell ⟨W0.heap.size, 1, none⟩ (.slice (some ⟨g, 0, none⟩) m c)) = W3 at *
  have H3 := Lib.hid (And.intro hst (And.intro hsr (And.intro hQ3 hB3)))
  clear x0 x1 x2 x3 x4 hq2 hr2 hB2 hb2 ho hQ hgne
  obtain ⟨x0, x1, x2, x3, x4⟩ := q_cells9 hst
  clear hst hsr hQ3 hB3
  go_wp2_with fail
  refine (HR0.out g c _ H3.out.2.2.1).mono ?_
  rintro e w4 ⟨rfl, hb4⟩
  have hq4 := (hb4.block _ (blk_ltQ H3.out.1)).trans H3.out.1
  have hr4 := (hb4.block _ (blk_ltQ H3.out.2.1)).trans H3.out.2.1
  have H4 := Lib.hid (And.intro hr4 (And.intro (H3.out.2.2.1.below hb4) (H3.out.2.2.2.trans (hb4.mono H3.out.2.2.2.size))))
  clear x0 x1 x2 x3 x4 hb4
  obtain ⟨x0, x1, x2, x3, x4⟩ := q_cells9 hq4
  obtain ⟨y0, y1, y2, y3, y4⟩ := q_cells9 hr4
  clear hq4 hr4
  go_wp2_with fail
  exact refParse_fin H4.out.1 hglt.out H4.out.2.1 H4.out.2.2 _ rfl rfl rfl
end Go.Proofs.Ytoaenlbbochjhaa
