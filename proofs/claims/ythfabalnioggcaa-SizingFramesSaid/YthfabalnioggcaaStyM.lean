/- Layer 17, the other text: a style that is made, beside its parent's: what lies where. (Written by gen_styc.py.) -/
import Derived.Test.YthfabalnioggcaaStyNa
import Derived.Deep.MidRow
import Derived.Laws.Rows
namespace Go.Proofs.Ythfabalnioggcaa
open Go.RowKit TreN LexP FixP SynP ValP PropP FixM Go.Sort
set_option linter.unusedVariables false

theorem thereS_of_block {W : World} {b : Nat} {C : Array Value} {t : TypeId} (hb : W.heap[b]? = some (.cells C t (0, 0))) : W.there b 0 C.size := fun j hj => by
  rw [Nat.zero_add]
  have h : W.cell? ⟨b, j, none⟩ = some C[j] := cell_of hb (by simp [hj])
  exact ⟨by rw [h]; rfl, unfrozen_of hb⟩
theorem rangeS_of_block {W : World} {b : Nat} {As : List Value} {t : TypeId} (hb : W.heap[b]? = some (.cells As.toArray t (0, 0))) : W.rangeAt b 0 As := fun j v hv => by
  rw [Nat.zero_add]
  exact cell_of hb (by simpa using hv)
theorem sizeS17 : (Try.prog.info? 27).map (·.size) = some 55 := by kernel_rfl
theorem belowS_setCells {B : Nat} {w W : World} (h : Below B w W) (b : Nat) (hb : B ≤ b) : ∀ (vs : List Value) (o : Nat), Below B w (W.setCells b o vs) := by
  intro vs
  induction vs generalizing W with
  | nil => intro o; exact h
  | cons v r ih => intro o; exact ih (h.setCell (p := ⟨b, o, none⟩) hb v) (o + 1)
theorem rangeS_below {W W' : World} {b B : Nat} {L : List Value} (h : W.rangeAt b 0 L) (hb : Below B W W') (hB : b < B) : W'.rangeAt b 0 L := fun j v hv => by
  have h2 := h j v hv
  rw [Nat.zero_add] at h2 ⊢
  rw [hb.cell (p := ⟨b, j, none⟩) hB]
  exact h2
theorem thereS_below {W W' : World} {b n B : Nat} (h : W.there b 0 n) (hb : Below B W W') (hB : b < B) : W'.there b 0 n := fun j hj => by
  have h2 := h j hj
  rw [Nat.zero_add] at h2 ⊢
  rw [hb.cell (p := ⟨b, j, none⟩) hB, hb.frozen (p := ⟨b, j, none⟩) hB]
  exact h2
theorem rangeS_set {W : World} {b : Nat} {L : List Value} (h : W.rangeAt b 0 L) (j : Nat) (u : Value) : (W.setCell ⟨b, j, none⟩ u).rangeAt b 0 (L.set j u) := fun i v hv => by
  rw [Nat.zero_add]
  by_cases e : j = i
  · subst e
    have hj : j < L.length := by have := (List.getElem?_eq_some_iff.1 hv).1; simpa using this
    rw [List.getElem?_set_self hj] at hv
    have hc := h j L[j] (List.getElem?_eq_getElem hj)
    rw [Nat.zero_add] at hc
    rw [World.cell?_setCell_same (h := hc)]
    exact hv
  · rw [List.getElem?_set_ne e] at hv
    have hc := h i v hv
    rw [Nat.zero_add] at hc
    rw [World.cell?_setCell_other (h := by intro q; injection q; omega)]
    exact hc
theorem rangeS_other {W : World} {b b2 : Nat} {L : List Value} (h : W.rangeAt b 0 L) (hb : b2 ≠ b) (o : Nat) (u : Value) : (W.setCell ⟨b2, o, none⟩ u).rangeAt b 0 L := fun i v hv => by
  have hc := h i v hv
  rw [Nat.zero_add] at hc ⊢
  rw [World.cell?_setCell_other (h := by intro q; injection q; omega)]
  exact hc
theorem thereS_set {W : World} {b b2 n : Nat} (h : W.there b 0 n) (o : Nat) (v : Value) : (W.setCell ⟨b2, o, none⟩ v).there b 0 n := fun j hj => by
  have h2 := h j hj
  rw [Nat.zero_add] at h2 ⊢
  refine ⟨?_, by rw [World.frozen?_setCell]; exact h2.2⟩
  by_cases e : (⟨b2, o, none⟩ : Addr) = ⟨b, j, none⟩
  · rw [e]
    obtain ⟨u, hu⟩ := Option.isSome_iff_exists.1 h2.1
    rw [World.cell?_setCell_same (h := hu)]; rfl
  · rw [World.cell?_setCell_other (h := e)]; exact h2.1
/-- the style that is made (bs), its parent's (bu), and where it is answered (b8) -/
structure CS (w W : World) (bu b8 bs : Nat) (As Ss : List Value) : Prop where
  bel : Below w.heap.size w W
  up : W.rangeAt bu 0 As
  r8 : W.there b8 0 55
  s : W.rangeAt bs 0 Ss
  th : W.there bs 0 55
  lu : bu < W.heap.size
  l8 : b8 < W.heap.size
  ls : bs < W.heap.size
  h8 : w.heap.size ≤ b8
  hs : w.heap.size ≤ bs
  n1 : bs ≠ bu
  n2 : bs ≠ b8
theorem CS.call {w W W' : World} {bu b8 bs : Nat} {As Ss : List Value} (h : CS w W bu b8 bs As Ss) (hb : Below W.heap.size W W') : CS w W' bu b8 bs As Ss :=
  ⟨h.bel.trans (hb.mono h.bel.size), rangeS_below h.up hb h.lu, thereS_below h.r8 hb h.l8, rangeS_below h.s hb h.ls, thereS_below h.th hb h.ls, Nat.lt_of_lt_of_le h.lu hb.size, Nat.lt_of_lt_of_le h.l8 hb.size, Nat.lt_of_lt_of_le h.ls hb.size, h.h8, h.hs, h.n1, h.n2⟩
theorem CS.set {w W : World} {bu b8 bs : Nat} {As Ss : List Value} (h : CS w W bu b8 bs As Ss) (j : Nat) (v : Value) : CS w (W.setCell ⟨bs, j, none⟩ v) bu b8 bs As (Ss.set j v) :=
  ⟨h.bel.setCell (p := ⟨bs, j, none⟩) h.hs v, rangeS_other h.up h.n1 j v, thereS_set h.r8 j v, rangeS_set h.s j v, thereS_set h.th j v, by simpa using h.lu, by simpa using h.l8, by simpa using h.ls, h.h8, h.hs, h.n1, h.n2⟩
theorem CS.drew {w W : World} {bu b8 bs : Nat} {As Ss : List Value} (h : CS w W bu b8 bs As Ss) : CS w W.drew bu b8 bs As Ss := ⟨h.bel.drew, h.up, h.r8, h.s, h.th, h.lu, h.l8, h.ls, h.h8, h.hs, h.n1, h.n2⟩
theorem CS.u {w W : World} {bu b8 bs : Nat} {As Ss : List Value} (h : CS w W bu b8 bs As Ss) (i : Nat) (v : Value) (hi : As[i]? = some v) : W.cell? ⟨bu, i, none⟩ = some v := by
  have := h.up i v hi
  rwa [Nat.zero_add] at this
theorem CS.c {w W : World} {bu b8 bs : Nat} {As Ss : List Value} (h : CS w W bu b8 bs As Ss) (i : Nat) (hi : i < 55) : ∃ v, W.cell? ⟨bs, i, none⟩ = some v ∧ W.frozen? ⟨bs, i, none⟩ = false := by
  have := h.th i hi
  rw [Nat.zero_add] at this
  obtain ⟨v, hv⟩ := Option.isSome_iff_exists.1 this.1
  exact ⟨v, hv, this.2⟩
theorem resultsS_style {fn : Func} {p : Tmp} (h : fn.results = #[.cell p 27]) (tmps : Array Value) (w : World) (b : Nat) (As : List Value) (hl : As.length = 55) (hp : tmps.getD p undef = .pointer (some ⟨b, 0, none⟩)) (hr : w.rangeAt b 0 As) :
    (results fn tmps).run Try.prog w = .ok (.agg As.toArray) w := by
  have hv := run_loadVar_mid (P := Try.prog) w b 0 27 As _ hr Try.underlying27 rfl (by rw [sizeS17, hl])
  have hp' : tmps[p]?.getD undef = .pointer (some ⟨b, 0, none⟩) := by simpa using hp
  simp [results, h, hp', asAddr, hv]
/-- what the four sides come to -/
def sideS (S : List Value) : Nat → List Value
  | 0 => S
  | k + 1 => (((((sideS S k).set (14 + k * 2) (.int .i64 1)).set (14 + k * 2 + 1) (.int .i64 0)).set (22 + k * 2) (.int .i64 1)).set (22 + k * 2 + 1) (.int .i64 0)).set (30 + k) (.int .i64 0)
/-- the style at the start -/
def startS : List Value := [Value.int .i64 0, Value.bool false, Value.int .i64 0, Value.int .i64 0, Value.int .i64 0, Value.int .i64 0, Value.int .i64 0, Value.int .i64 0, Value.int .i64 0, Value.int .i64 0, Value.int .i64 6, Value.int .i64 0, Value.int .i64 6, Value.int .i64 0, Value.int .i64 1, Value.int .i64 0, Value.int .i64 1, Value.int .i64 0, Value.int .i64 1, Value.int .i64 0, Value.int .i64 1, Value.int .i64 0, Value.int .i64 1, Value.int .i64 0, Value.int .i64 1, Value.int .i64 0, Value.int .i64 1, Value.int .i64 0, Value.int .i64 1, Value.int .i64 0, Value.int .i64 0, Value.int .i64 0, Value.int .i64 0, Value.int .i64 0, Value.int .i64 0, Value.int .i64 0, Value.int .i64 0, Value.int .i64 0, Value.int .i64 0, Value.int .i64 1000, Value.int .i64 0, Value.int .i64 0, Value.int .i64 0, Value.int .i64 0, Value.int .i64 0, Value.int .i64 0, Value.int .i64 0, Value.int .i64 1, Value.int .i64 0, Value.int .i64 1, Value.int .i64 0, Value.int .i64 0, Value.string ⟨#[]⟩, Value.int .i64 1024, Value.int .i64 1200]
theorem W17_1 (w : World) : Calls Try.prog 68 #[.slice none 0 0, .int .i64 1, .int .i64 0] w fun e w' => e = .returned (.int .i64 0) ∧ Below w.heap.size w w' := by
  have h := Words17_nil 1 0 w (by decide) (by decide)
  rw [show plcS 1 (firstZ 1).kind (firstZ 1).n = 0 from by kernel_rfl] at h
  exact h
theorem W17_22 (w : World) : Calls Try.prog 68 #[.slice none 0 0, .int .i64 22, .int .i64 0] w fun e w' => e = .returned (.int .i64 0) ∧ Below w.heap.size w w' := by
  have h := Words17_nil 22 0 w (by decide) (by decide)
  rw [show plcS 22 (firstZ 22).kind (firstZ 22).n = 0 from by kernel_rfl] at h
  exact h
theorem W17_23 (w : World) : Calls Try.prog 68 #[.slice none 0 0, .int .i64 23, .int .i64 0] w fun e w' => e = .returned (.int .i64 0) ∧ Below w.heap.size w w' := by
  have h := Words17_nil 23 0 w (by decide) (by decide)
  rw [show plcS 23 (firstZ 23).kind (firstZ 23).n = 0 from by kernel_rfl] at h
  exact h
theorem W17_28 (w : World) : Calls Try.prog 68 #[.slice none 0 0, .int .i64 28, .int .i64 0] w fun e w' => e = .returned (.int .i64 0) ∧ Below w.heap.size w w' := by
  have h := Words17_nil 28 0 w (by decide) (by decide)
  rw [show plcS 28 (firstZ 28).kind (firstZ 28).n = 0 from by kernel_rfl] at h
  exact h
theorem W17_29 (w : World) : Calls Try.prog 68 #[.slice none 0 0, .int .i64 29, .int .i64 0] w fun e w' => e = .returned (.int .i64 0) ∧ Below w.heap.size w w' := by
  have h := Words17_nil 29 0 w (by decide) (by decide)
  rw [show plcS 29 (firstZ 29).kind (firstZ 29).n = 0 from by kernel_rfl] at h
  exact h
theorem W17_30 (w : World) : Calls Try.prog 68 #[.slice none 0 0, .int .i64 30, .int .i64 0] w fun e w' => e = .returned (.int .i64 0) ∧ Below w.heap.size w w' := by
  have h := Words17_nil 30 0 w (by decide) (by decide)
  rw [show plcS 30 (firstZ 30).kind (firstZ 30).n = 0 from by kernel_rfl] at h
  exact h
theorem W17_31 (w : World) : Calls Try.prog 68 #[.slice none 0 0, .int .i64 31, .int .i64 0] w fun e w' => e = .returned (.int .i64 0) ∧ Below w.heap.size w w' := by
  have h := Words17_nil 31 0 w (by decide) (by decide)
  rw [show plcS 31 (firstZ 31).kind (firstZ 31).n = 0 from by kernel_rfl] at h
  exact h
theorem W17_34 (w : World) : Calls Try.prog 68 #[.slice none 0 0, .int .i64 34, .int .i64 0] w fun e w' => e = .returned (.int .i64 0) ∧ Below w.heap.size w w' := by
  have h := Words17_nil 34 0 w (by decide) (by decide)
  rw [show plcS 34 (firstZ 34).kind (firstZ 34).n = 0 from by kernel_rfl] at h
  exact h
theorem S17_3 (w : World) : Calls Try.prog 71 #[.slice none 0 0, .int .i64 3, .agg #[.int .i64 0, .int .i64 0], .int .i64 1024, .int .i64 0, .int .i64 0] w fun e w' => e = .returned (.agg #[.int .i64 0, .int .i64 0]) ∧ Below w.heap.size w w' := by
  have h := Sizes17_nil 3 0 0 1024 0 0 w (by decide) (by decide)
  rw [show sizK (firstZ 3).kind (firstZ 3).n = 0 from by kernel_rfl, show sizN (firstZ 3).kind (firstZ 3).n (firstZ 3).d (decide ((9 : Int) ≤ 3 ∧ (3 : Int) ≤ 12)) 1024 0 0 = 0 from by kernel_rfl] at h
  exact h
theorem S17_4 (w : World) : Calls Try.prog 71 #[.slice none 0 0, .int .i64 4, .agg #[.int .i64 0, .int .i64 0], .int .i64 1024, .int .i64 0, .int .i64 0] w fun e w' => e = .returned (.agg #[.int .i64 0, .int .i64 0]) ∧ Below w.heap.size w w' := by
  have h := Sizes17_nil 4 0 0 1024 0 0 w (by decide) (by decide)
  rw [show sizK (firstZ 4).kind (firstZ 4).n = 0 from by kernel_rfl, show sizN (firstZ 4).kind (firstZ 4).n (firstZ 4).d (decide ((9 : Int) ≤ 4 ∧ (4 : Int) ≤ 12)) 1024 0 0 = 0 from by kernel_rfl] at h
  exact h
theorem S17_5 (w : World) : Calls Try.prog 71 #[.slice none 0 0, .int .i64 5, .agg #[.int .i64 0, .int .i64 0], .int .i64 1024, .int .i64 0, .int .i64 0] w fun e w' => e = .returned (.agg #[.int .i64 0, .int .i64 0]) ∧ Below w.heap.size w w' := by
  have h := Sizes17_nil 5 0 0 1024 0 0 w (by decide) (by decide)
  rw [show sizK (firstZ 5).kind (firstZ 5).n = 0 from by kernel_rfl, show sizN (firstZ 5).kind (firstZ 5).n (firstZ 5).d (decide ((9 : Int) ≤ 5 ∧ (5 : Int) ≤ 12)) 1024 0 0 = 0 from by kernel_rfl] at h
  exact h
theorem S17_6 (w : World) : Calls Try.prog 71 #[.slice none 0 0, .int .i64 6, .agg #[.int .i64 0, .int .i64 0], .int .i64 1024, .int .i64 0, .int .i64 0] w fun e w' => e = .returned (.agg #[.int .i64 0, .int .i64 0]) ∧ Below w.heap.size w w' := by
  have h := Sizes17_nil 6 0 0 1024 0 0 w (by decide) (by decide)
  rw [show sizK (firstZ 6).kind (firstZ 6).n = 0 from by kernel_rfl, show sizN (firstZ 6).kind (firstZ 6).n (firstZ 6).d (decide ((9 : Int) ≤ 6 ∧ (6 : Int) ≤ 12)) 1024 0 0 = 0 from by kernel_rfl] at h
  exact h
theorem S17_7 (w : World) : Calls Try.prog 71 #[.slice none 0 0, .int .i64 7, .agg #[.int .i64 0, .int .i64 0], .int .i64 1024, .int .i64 0, .int .i64 0] w fun e w' => e = .returned (.agg #[.int .i64 6, .int .i64 0]) ∧ Below w.heap.size w w' := by
  have h := Sizes17_nil 7 0 0 1024 0 0 w (by decide) (by decide)
  rw [show sizK (firstZ 7).kind (firstZ 7).n = 6 from by kernel_rfl, show sizN (firstZ 7).kind (firstZ 7).n (firstZ 7).d (decide ((9 : Int) ≤ 7 ∧ (7 : Int) ≤ 12)) 1024 0 0 = 0 from by kernel_rfl] at h
  exact h
theorem S17_8 (w : World) : Calls Try.prog 71 #[.slice none 0 0, .int .i64 8, .agg #[.int .i64 0, .int .i64 0], .int .i64 1024, .int .i64 0, .int .i64 0] w fun e w' => e = .returned (.agg #[.int .i64 6, .int .i64 0]) ∧ Below w.heap.size w w' := by
  have h := Sizes17_nil 8 0 0 1024 0 0 w (by decide) (by decide)
  rw [show sizK (firstZ 8).kind (firstZ 8).n = 6 from by kernel_rfl, show sizN (firstZ 8).kind (firstZ 8).n (firstZ 8).d (decide ((9 : Int) ≤ 8 ∧ (8 : Int) ≤ 12)) 1024 0 0 = 0 from by kernel_rfl] at h
  exact h
theorem S17_26 (w : World) : Calls Try.prog 71 #[.slice none 0 0, .int .i64 26, .agg #[.int .i64 0, .int .i64 0], .int .i64 1024, .int .i64 0, .int .i64 0] w fun e w' => e = .returned (.agg #[.int .i64 0, .int .i64 0]) ∧ Below w.heap.size w w' := by
  have h := Sizes17_nil 26 0 0 1024 0 0 w (by decide) (by decide)
  rw [show sizK (firstZ 26).kind (firstZ 26).n = 0 from by kernel_rfl, show sizN (firstZ 26).kind (firstZ 26).n (firstZ 26).d (decide ((9 : Int) ≤ 26 ∧ (26 : Int) ≤ 12)) 1024 0 0 = 0 from by kernel_rfl] at h
  exact h
theorem S17_32 (w : World) : Calls Try.prog 71 #[.slice none 0 0, .int .i64 32, .agg #[.int .i64 0, .int .i64 0], .int .i64 1024, .int .i64 0, .int .i64 0] w fun e w' => e = .returned (.agg #[.int .i64 1, .int .i64 0]) ∧ Below w.heap.size w w' := by
  have h := Sizes17_nil 32 0 0 1024 0 0 w (by decide) (by decide)
  rw [show sizK (firstZ 32).kind (firstZ 32).n = 1 from by kernel_rfl, show sizN (firstZ 32).kind (firstZ 32).n (firstZ 32).d (decide ((9 : Int) ≤ 32 ∧ (32 : Int) ≤ 12)) 1024 0 0 = 0 from by kernel_rfl] at h
  exact h
theorem S17_33 (w : World) : Calls Try.prog 71 #[.slice none 0 0, .int .i64 33, .agg #[.int .i64 0, .int .i64 0], .int .i64 1024, .int .i64 0, .int .i64 0] w fun e w' => e = .returned (.agg #[.int .i64 1, .int .i64 0]) ∧ Below w.heap.size w w' := by
  have h := Sizes17_nil 33 0 0 1024 0 0 w (by decide) (by decide)
  rw [show sizK (firstZ 33).kind (firstZ 33).n = 1 from by kernel_rfl, show sizN (firstZ 33).kind (firstZ 33).n (firstZ 33).d (decide ((9 : Int) ≤ 33 ∧ (33 : Int) ≤ 12)) 1024 0 0 = 0 from by kernel_rfl] at h
  exact h
theorem S17_9 (w : World) : Calls Try.prog 71 #[.slice none 0 0, .int .i64 9, .agg #[.int .i64 0, .int .i64 0], .int .i64 1024, .int .i64 0, .int .i64 0] w fun e w' => e = .returned (.agg #[.int .i64 1, .int .i64 0]) ∧ Below w.heap.size w w' := by
  have h := Sizes17_nil 9 0 0 1024 0 0 w (by decide) (by decide)
  rw [show sizK (firstZ 9).kind (firstZ 9).n = 1 from by kernel_rfl, show sizN (firstZ 9).kind (firstZ 9).n (firstZ 9).d (decide ((9 : Int) ≤ 9 ∧ (9 : Int) ≤ 12)) 1024 0 0 = 0 from by kernel_rfl] at h
  exact h
theorem S17_10 (w : World) : Calls Try.prog 71 #[.slice none 0 0, .int .i64 10, .agg #[.int .i64 0, .int .i64 0], .int .i64 1024, .int .i64 0, .int .i64 0] w fun e w' => e = .returned (.agg #[.int .i64 1, .int .i64 0]) ∧ Below w.heap.size w w' := by
  have h := Sizes17_nil 10 0 0 1024 0 0 w (by decide) (by decide)
  rw [show sizK (firstZ 10).kind (firstZ 10).n = 1 from by kernel_rfl, show sizN (firstZ 10).kind (firstZ 10).n (firstZ 10).d (decide ((9 : Int) ≤ 10 ∧ (10 : Int) ≤ 12)) 1024 0 0 = 0 from by kernel_rfl] at h
  exact h
theorem S17_11 (w : World) : Calls Try.prog 71 #[.slice none 0 0, .int .i64 11, .agg #[.int .i64 0, .int .i64 0], .int .i64 1024, .int .i64 0, .int .i64 0] w fun e w' => e = .returned (.agg #[.int .i64 1, .int .i64 0]) ∧ Below w.heap.size w w' := by
  have h := Sizes17_nil 11 0 0 1024 0 0 w (by decide) (by decide)
  rw [show sizK (firstZ 11).kind (firstZ 11).n = 1 from by kernel_rfl, show sizN (firstZ 11).kind (firstZ 11).n (firstZ 11).d (decide ((9 : Int) ≤ 11 ∧ (11 : Int) ≤ 12)) 1024 0 0 = 0 from by kernel_rfl] at h
  exact h
theorem S17_12 (w : World) : Calls Try.prog 71 #[.slice none 0 0, .int .i64 12, .agg #[.int .i64 0, .int .i64 0], .int .i64 1024, .int .i64 0, .int .i64 0] w fun e w' => e = .returned (.agg #[.int .i64 1, .int .i64 0]) ∧ Below w.heap.size w w' := by
  have h := Sizes17_nil 12 0 0 1024 0 0 w (by decide) (by decide)
  rw [show sizK (firstZ 12).kind (firstZ 12).n = 1 from by kernel_rfl, show sizN (firstZ 12).kind (firstZ 12).n (firstZ 12).d (decide ((9 : Int) ≤ 12 ∧ (12 : Int) ≤ 12)) 1024 0 0 = 0 from by kernel_rfl] at h
  exact h
theorem S17_13 (w : World) : Calls Try.prog 71 #[.slice none 0 0, .int .i64 13, .agg #[.int .i64 0, .int .i64 0], .int .i64 1024, .int .i64 0, .int .i64 0] w fun e w' => e = .returned (.agg #[.int .i64 1, .int .i64 0]) ∧ Below w.heap.size w w' := by
  have h := Sizes17_nil 13 0 0 1024 0 0 w (by decide) (by decide)
  rw [show sizK (firstZ 13).kind (firstZ 13).n = 1 from by kernel_rfl, show sizN (firstZ 13).kind (firstZ 13).n (firstZ 13).d (decide ((9 : Int) ≤ 13 ∧ (13 : Int) ≤ 12)) 1024 0 0 = 0 from by kernel_rfl] at h
  exact h
theorem S17_14 (w : World) : Calls Try.prog 71 #[.slice none 0 0, .int .i64 14, .agg #[.int .i64 0, .int .i64 0], .int .i64 1024, .int .i64 0, .int .i64 0] w fun e w' => e = .returned (.agg #[.int .i64 1, .int .i64 0]) ∧ Below w.heap.size w w' := by
  have h := Sizes17_nil 14 0 0 1024 0 0 w (by decide) (by decide)
  rw [show sizK (firstZ 14).kind (firstZ 14).n = 1 from by kernel_rfl, show sizN (firstZ 14).kind (firstZ 14).n (firstZ 14).d (decide ((9 : Int) ≤ 14 ∧ (14 : Int) ≤ 12)) 1024 0 0 = 0 from by kernel_rfl] at h
  exact h
theorem S17_15 (w : World) : Calls Try.prog 71 #[.slice none 0 0, .int .i64 15, .agg #[.int .i64 0, .int .i64 0], .int .i64 1024, .int .i64 0, .int .i64 0] w fun e w' => e = .returned (.agg #[.int .i64 1, .int .i64 0]) ∧ Below w.heap.size w w' := by
  have h := Sizes17_nil 15 0 0 1024 0 0 w (by decide) (by decide)
  rw [show sizK (firstZ 15).kind (firstZ 15).n = 1 from by kernel_rfl, show sizN (firstZ 15).kind (firstZ 15).n (firstZ 15).d (decide ((9 : Int) ≤ 15 ∧ (15 : Int) ≤ 12)) 1024 0 0 = 0 from by kernel_rfl] at h
  exact h
theorem S17_16 (w : World) : Calls Try.prog 71 #[.slice none 0 0, .int .i64 16, .agg #[.int .i64 0, .int .i64 0], .int .i64 1024, .int .i64 0, .int .i64 0] w fun e w' => e = .returned (.agg #[.int .i64 1, .int .i64 0]) ∧ Below w.heap.size w w' := by
  have h := Sizes17_nil 16 0 0 1024 0 0 w (by decide) (by decide)
  rw [show sizK (firstZ 16).kind (firstZ 16).n = 1 from by kernel_rfl, show sizN (firstZ 16).kind (firstZ 16).n (firstZ 16).d (decide ((9 : Int) ≤ 16 ∧ (16 : Int) ≤ 12)) 1024 0 0 = 0 from by kernel_rfl] at h
  exact h
theorem S17m (k : Nat) (hk : k < 4) (w : World) : Calls Try.prog 71 #[.slice none 0 0, .int .i64 (9 + (k : Int)), .agg #[.int .i64 0, .int .i64 0], .int .i64 1024, .int .i64 0, .int .i64 0] w fun e w' => e = .returned (.agg #[.int .i64 1, .int .i64 0]) ∧ Below w.heap.size w w' := by
  have h : k = 0 ∨ k = 1 ∨ k = 2 ∨ k = 3 := by omega
  rcases h with rfl | rfl | rfl | rfl
  · exact S17_9 w
  · exact S17_10 w
  · exact S17_11 w
  · exact S17_12 w
theorem S17p (k : Nat) (hk : k < 4) (w : World) : Calls Try.prog 71 #[.slice none 0 0, .int .i64 (13 + (k : Int)), .agg #[.int .i64 0, .int .i64 0], .int .i64 1024, .int .i64 0, .int .i64 0] w fun e w' => e = .returned (.agg #[.int .i64 1, .int .i64 0]) ∧ Below w.heap.size w w' := by
  have h : k = 0 ∨ k = 1 ∨ k = 2 ∨ k = 3 := by omega
  rcases h with rfl | rfl | rfl | rfl
  · exact S17_13 w
  · exact S17_14 w
  · exact S17_15 w
  · exact S17_16 w
theorem N17_24 (w : World) : Calls Try.prog 74 #[.slice none 0 0, .int .i64 24, .int .i64 0, .int .i64 1] w fun e w' => e = .returned (.int .i64 0) ∧ Below w.heap.size w w' :=
  Numbers17_nil 24 0 1 0 w (by decide) (by decide) (by decide) (by decide) (by decide +kernel) (by decide +kernel) (by decide +kernel)
theorem N17_25 (w : World) : Calls Try.prog 74 #[.slice none 0 0, .int .i64 25, .int .i64 0, .int .i64 1] w fun e w' => e = .returned (.int .i64 1000) ∧ Below w.heap.size w w' :=
  Numbers17_nil 25 0 1 1000 w (by decide) (by decide) (by decide) (by decide) (by decide +kernel) (by decide +kernel) (by decide +kernel)
theorem N17_27 (w : World) : Calls Try.prog 74 #[.slice none 0 0, .int .i64 27, .int .i64 0, .int .i64 1000] w fun e w' => e = .returned (.int .i64 0) ∧ Below w.heap.size w w' :=
  Numbers17_nil 27 0 1000 0 w (by decide) (by decide) (by decide) (by decide) (by decide +kernel) (by decide +kernel) (by decide +kernel)
theorem H17_2 (w : World) : Calls Try.prog 69 #[.slice none 0 0, .int .i64 2] w fun e w' => e = .returned (.tuple #[.agg #[.int .i64 1, .int .i64 5, .int .i64 0, .string ⟨#[]⟩], .bool false]) ∧ Below w.heap.size w w' := by
  have h := Has17_nil 2 w (by decide) (by decide)
  rw [show hasN 2 = ⟨1, 5, 0, []⟩ from by kernel_rfl, show upN 2 = false from by kernel_rfl] at h
  exact h
theorem H17_17 (w : World) : Calls Try.prog 69 #[.slice none 0 0, .int .i64 17] w fun e w' => e = .returned (.tuple #[.agg #[.int .i64 2, .int .i64 0, .int .i64 1, .string ⟨#[]⟩], .bool false]) ∧ Below w.heap.size w w' := by
  have h := Has17_nil 17 w (by decide) (by decide)
  rw [show hasN 17 = ⟨2, 0, 1, []⟩ from by kernel_rfl, show upN 17 = false from by kernel_rfl] at h
  exact h
theorem H17_18 (w : World) : Calls Try.prog 69 #[.slice none 0 0, .int .i64 18] w fun e w' => e = .returned (.tuple #[.agg #[.int .i64 2, .int .i64 0, .int .i64 1, .string ⟨#[]⟩], .bool false]) ∧ Below w.heap.size w w' := by
  have h := Has17_nil 18 w (by decide) (by decide)
  rw [show hasN 18 = ⟨2, 0, 1, []⟩ from by kernel_rfl, show upN 18 = false from by kernel_rfl] at h
  exact h
theorem H17_19 (w : World) : Calls Try.prog 69 #[.slice none 0 0, .int .i64 19] w fun e w' => e = .returned (.tuple #[.agg #[.int .i64 2, .int .i64 0, .int .i64 1, .string ⟨#[]⟩], .bool false]) ∧ Below w.heap.size w w' := by
  have h := Has17_nil 19 w (by decide) (by decide)
  rw [show hasN 19 = ⟨2, 0, 1, []⟩ from by kernel_rfl, show upN 19 = false from by kernel_rfl] at h
  exact h
theorem H17_20 (w : World) : Calls Try.prog 69 #[.slice none 0 0, .int .i64 20] w fun e w' => e = .returned (.tuple #[.agg #[.int .i64 2, .int .i64 0, .int .i64 1, .string ⟨#[]⟩], .bool false]) ∧ Below w.heap.size w w' := by
  have h := Has17_nil 20 w (by decide) (by decide)
  rw [show hasN 20 = ⟨2, 0, 1, []⟩ from by kernel_rfl, show upN 20 = false from by kernel_rfl] at h
  exact h
theorem H17_21 (w : World) : Calls Try.prog 69 #[.slice none 0 0, .int .i64 21] w fun e w' => e = .returned (.tuple #[.agg #[.int .i64 1, .int .i64 1, .int .i64 0, .string ⟨#[]⟩], .bool false]) ∧ Below w.heap.size w w' := by
  have h := Has17_nil 21 w (by decide) (by decide)
  rw [show hasN 21 = ⟨1, 1, 0, []⟩ from by kernel_rfl, show upN 21 = false from by kernel_rfl] at h
  exact h
theorem H17_35 (w : World) : Calls Try.prog 69 #[.slice none 0 0, .int .i64 35] w fun e w' => e = .returned (.tuple #[.agg #[.int .i64 1, .int .i64 2, .int .i64 0, .string ⟨#[]⟩], .bool false]) ∧ Below w.heap.size w w' := by
  have h := Has17_nil 35 w (by decide) (by decide)
  rw [show hasN 35 = ⟨1, 2, 0, []⟩ from by kernel_rfl, show upN 35 = false from by kernel_rfl] at h
  exact h
theorem H17_37 (w : World) : Calls Try.prog 69 #[.slice none 0 0, .int .i64 37] w fun e w' => e = .returned (.tuple #[.agg #[.int .i64 0, .int .i64 0, .int .i64 0, .string ⟨#[]⟩], .bool true]) ∧ Below w.heap.size w w' := by
  have h := Has17_nil 37 w (by decide) (by decide)
  rw [show hasN 37 = ⟨0, 0, 0, []⟩ from by kernel_rfl, show upN 37 = true from by kernel_rfl] at h
  exact h
theorem H17e (k : Nat) (hk : k < 4) (w : World) : Calls Try.prog 69 #[.slice none 0 0, .int .i64 (17 + (k : Int))] w fun e w' => e = .returned (.tuple #[.agg #[.int .i64 2, .int .i64 0, .int .i64 1, .string ⟨#[]⟩], .bool false]) ∧ Below w.heap.size w w' := by
  have h : k = 0 ∨ k = 1 ∨ k = 2 ∨ k = 3 := by omega
  rcases h with rfl | rfl | rfl | rfl
  · exact H17_17 w
  · exact H17_18 w
  · exact H17_19 w
  · exact H17_20 w
end Go.Proofs.Ythfabalnioggcaa
