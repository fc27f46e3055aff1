/- Layer 21: how items that come in are opened. -/
import Derived.Test.YtaegajlffiepoaaFlxK
import Derived.ProofKit
import Derived.OpenShut
import Derived.Deep.Slices
import Derived.Deep.Fields
namespace Go.Proofs.Ytaegajlffiepoaa
open Go.ChangeShapes Go.WideShapes Go.ChangeAt Go.RowKit
set_option linter.unusedVariables false
section
variable {H : Type} {enc : TypeId × Value → H} {w : World}
theorem cells_itO : Try.prog.cellsOf 34 = 7 := by kernel_rfl
theorem cells_intO : Try.prog.cellsOf 3 = 1 := by kernel_rfl
theorem plain_ofO {a : Addr} {v : Value} (h : w.cell? (a.add 0) = some v) : ∃ b off, a = ⟨b, off, none⟩ ∧ b < w.heap.size := by
  obtain ⟨b, off, spot⟩ := a
  have hspot : spot = none := by simpa [Addr.add] using World.cell?_spot h
  subst hspot
  have hl := World.block_lt_of_cell? w _ h
  rw [Go.WideShapes.add_plain] at hl
  exact ⟨b, off, rfl, hl⟩
set_option maxRecDepth 100000 in
theorem open_itO {fuel : Nat} {cs : List Value} {x : DataW H × List MemPlace} (h : DataW.trod enc Try.prog w 0 (fun _ => true) true fuel 34 cs = some x) :
    ∃ t : It, cs = [.int .i64 t.b, .int .i64 t.l, .int .i64 t.m, .int .i64 t.g, .int .i64 t.i, .int .i64 t.gr, .int .i64 t.sh] := by
  obtain ⟨xs, n', _, _, hcl, hx, hf⟩ := DataW.trod_struct Try.underlying34 h
  rw [cells_itO] at hcl
  match cs, hcl with
  | [c0, c1, c2, c3, c4, c5, c6], _ =>
    match xs, hx with
    | [y0, y1, y2, y3, y4, y5, y6], _ =>
      have g0 : DataW.trod enc Try.prog w 0 (fun _ => true) true n' 3 [c0] = some y0 := by
        have g := hf 0 _ rfl
        simpa [cells_intO] using g
      obtain ⟨k0, h0, _, _⟩ := DataW.trod_int Try.underlying3 g0
      injection h0 with h0
      subst h0
      have g1 : DataW.trod enc Try.prog w 0 (fun _ => true) true n' 3 [c1] = some y1 := by
        have g := hf 1 _ rfl
        simpa [cells_intO] using g
      obtain ⟨k1, h1, _, _⟩ := DataW.trod_int Try.underlying3 g1
      injection h1 with h1
      subst h1
      have g2 : DataW.trod enc Try.prog w 0 (fun _ => true) true n' 3 [c2] = some y2 := by
        have g := hf 2 _ rfl
        simpa [cells_intO] using g
      obtain ⟨k2, h2, _, _⟩ := DataW.trod_int Try.underlying3 g2
      injection h2 with h2
      subst h2
      have g3 : DataW.trod enc Try.prog w 0 (fun _ => true) true n' 3 [c3] = some y3 := by
        have g := hf 3 _ rfl
        simpa [cells_intO] using g
      obtain ⟨k3, h3, _, _⟩ := DataW.trod_int Try.underlying3 g3
      injection h3 with h3
      subst h3
      have g4 : DataW.trod enc Try.prog w 0 (fun _ => true) true n' 3 [c4] = some y4 := by
        have g := hf 4 _ rfl
        simpa [cells_intO] using g
      obtain ⟨k4, h4, _, _⟩ := DataW.trod_int Try.underlying3 g4
      injection h4 with h4
      subst h4
      have g5 : DataW.trod enc Try.prog w 0 (fun _ => true) true n' 3 [c5] = some y5 := by
        have g := hf 5 _ rfl
        simpa [cells_intO] using g
      obtain ⟨k5, h5, _, _⟩ := DataW.trod_int Try.underlying3 g5
      injection h5 with h5
      subst h5
      have g6 : DataW.trod enc Try.prog w 0 (fun _ => true) true n' 3 [c6] = some y6 := by
        have g := hf 6 _ rfl
        simpa [cells_intO] using g
      obtain ⟨k6, h6, _, _⟩ := DataW.trod_int Try.underlying3 g6
      injection h6 with h6
      subst h6
      exact ⟨⟨k0, k1, k2, k3, k4, k5, k6⟩, rfl⟩
theorem open_itV {r : Reach} {b0 : Nat} {v : Value} {d : DataW H} {ps : List MemPlace} (hv : Value.okWide Try.prog w r b0 34 v) (h : DataW.Trod enc Try.prog w 0 (fun _ => true) true 34 v d ps) : ∃ t : It, v = .agg #[.int .i64 t.b, .int .i64 t.l, .int .i64 t.m, .int .i64 t.g, .int .i64 t.i, .int .i64 t.gr, .int .i64 t.sh] := by
  simp only [Value.okWide, Try.underlying34] at hv
  obtain ⟨cs, rfl, _, _⟩ := hv
  obtain ⟨fuel, hf⟩ := h
  obtain ⟨l⟩ := cs
  simp only [Value.cells] at hf
  obtain ⟨t, rfl⟩ := open_itO hf
  exact ⟨t, rfl⟩
set_option maxRecDepth 100000 in
/-- a list of items that came in -/
theorem open_its {fuel : Nat} {c : Value} {x : DataW H × List MemPlace} (h : DataW.trod enc Try.prog w 0 (fun _ => true) true fuel 22 [c] = some x) :
    ∃ a n cap L, c = .slice a n cap ∧ n ≤ cap ∧ cap ≤ maxLen ∧ ItA w a n L := by
  rcases Go.Deep.open_slice Try.underlying22 h with ⟨hc, _⟩ | ⟨a, len, cap, m, n, D, Pl, hc, _, hl, hm, hmm, _, hi⟩
  · injection hc with hc
    exact ⟨none, 0, 0, fun _ => ⟨0, 0, 0, 0, 0, 0, 0⟩, hc, Nat.le_refl _, Nat.zero_le _, Or.inl rfl⟩
  · injection hc with hc
    simp only [if_true] at hmm
    rw [cells_itO] at hi
    have each : ∀ i, i < len → ∃ t : It, ∀ j (hj : j < 7), w.cell? (a.add (i * 7 + j)) = (itc t)[j]? := by
      intro i hi1
      obtain ⟨cs', h1, h2⟩ := hi i (by omega)
      obtain ⟨_, _, hat⟩ := World.cells?_some h1
      obtain ⟨t, ht⟩ := open_itO h2
      subst ht
      refine ⟨t, fun j hj => ?_⟩
      have := hat j hj
      rw [Go.Deep.add_add] at this
      rw [this]
      unfold itc
      match j, hj with
      | 0, _ => rfl
      | 1, _ => rfl
      | 2, _ => rfl
      | 3, _ => rfl
      | 4, _ => rfl
      | 5, _ => rfl
      | 6, _ => rfl
    obtain ⟨f, hf⟩ : ∃ f : Nat → It, ∀ i, i < len → ∀ j (hj : j < 7), w.cell? (a.add (i * 7 + j)) = (itc (f i))[j]? := by
      refine ⟨fun i => if hi : i < len then Classical.choose (each i hi) else ⟨0, 0, 0, 0, 0, 0, 0⟩, fun i hi => ?_⟩
      simp only [dif_pos hi]
      exact Classical.choose_spec (each i hi)
    refine ⟨some a, len, cap, f, hc, hl, by omega, ?_⟩
    by_cases h0 : len = 0
    · exact Or.inl h0
    · obtain ⟨b, off, rfl, hb⟩ := plain_ofO (a := a) (v := .int .i64 (f 0).b) (by have := hf 0 (by omega) 0 (by omega); rwa [Nat.zero_mul, Nat.zero_add] at this)
      refine Or.inr ⟨b, off, rfl, hb, fun i hi => ?_⟩
      have k := fun j hj => hf i hi j hj
      simp only [Go.WideShapes.add_plain] at k
      have k0 := k 0 (by omega)
      have k1 := k 1 (by omega)
      have k2 := k 2 (by omega)
      have k3 := k 3 (by omega)
      have k4 := k 4 (by omega)
      have k5 := k 5 (by omega)
      have k6 := k 6 (by omega)
      simp only [← Nat.add_assoc, Nat.add_zero] at k0 k1 k2 k3 k4 k5 k6
      exact ⟨k0, k1, k2, k3, k4, k5, k6⟩
end
end Go.Proofs.Ytaegajlffiepoaa
