/- Layer 19: how struts and parts that come in are opened. -/
import Derived.Test.YtajmmnmagbnigaaStrL3
import Derived.ProofKit
import Derived.OpenShut
import Derived.Deep.Slices
import Derived.Deep.Fields
namespace Go.Proofs.Ytajmmnmagbnigaa
open Go.ChangeShapes Go.WideShapes Go.ChangeAt Go.RowKit StrP
section
variable {H : Type} {enc : TypeId × Value → H} {w : World}
theorem cells_sruO : Try.prog.cellsOf 23 = 2 := by kernel_rfl
theorem cells_ptO : Try.prog.cellsOf 37 = 6 := by kernel_rfl
theorem cells_intO : Try.prog.cellsOf 3 = 1 := by kernel_rfl
theorem cells_boolO : Try.prog.cellsOf 4 = 1 := by kernel_rfl
theorem plain_ofO {a : Addr} {v : Value} (h : w.cell? (a.add 0) = some v) : ∃ b off, a = ⟨b, off, none⟩ ∧ b < w.heap.size := by
  obtain ⟨b, off, spot⟩ := a
  have hspot : spot = none := by simpa [Addr.add] using World.cell?_spot h
  subst hspot
  have hl := World.block_lt_of_cell? w _ h
  rw [Go.WideShapes.add_plain] at hl
  exact ⟨b, off, rfl, hl⟩
set_option maxRecDepth 100000 in
theorem open_sruO {fuel : Nat} {cs : List Value} {x : DataW H × List MemPlace} (h : DataW.trod enc Try.prog w 0 (fun _ => true) true fuel 23 cs = some x) :
    ∃ u d : Int, cs = [.int .i64 u, .int .i64 d] := by
  obtain ⟨xs, n', _, _, hcl, hx, hf⟩ := DataW.trod_struct Try.underlying23 h
  rw [cells_sruO] at hcl
  match cs, hcl with
  | [c0, c1], _ =>
    match xs, hx with
    | [y0, y1], _ =>
      have g0 : DataW.trod enc Try.prog w 0 (fun _ => true) true n' 3 [c0] = some y0 := by
        have g := hf 0 _ rfl
        simpa [cells_intO] using g
      have g1 : DataW.trod enc Try.prog w 0 (fun _ => true) true n' 3 [c1] = some y1 := by
        have g := hf 1 _ rfl
        simpa [cells_intO] using g
      obtain ⟨k, hk, _, _⟩ := DataW.trod_int Try.underlying3 g0
      obtain ⟨n, hn, _, _⟩ := DataW.trod_int Try.underlying3 g1
      injection hk with hk
      injection hn with hn
      subst hk; subst hn
      exact ⟨k, n, rfl⟩
theorem open_sruV {r : Reach} {b0 : Nat} {v : Value} {d : DataW H} {ps : List MemPlace} (hv : Value.okWide Try.prog w r b0 23 v) (h : DataW.Trod enc Try.prog w 0 (fun _ => true) true 23 v d ps) : ∃ (a b : Int), v = .agg #[.int .i64 a, .int .i64 b] := by
  simp only [Value.okWide, Try.underlying23] at hv
  obtain ⟨cs, rfl, _, _⟩ := hv
  obtain ⟨fuel, hf⟩ := h
  obtain ⟨l⟩ := cs
  simp only [Value.cells] at hf
  obtain ⟨u, d, rfl⟩ := open_sruO hf
  exact ⟨u, d, rfl⟩
set_option maxRecDepth 100000 in
theorem open_ptO {fuel : Nat} {cs : List Value} {x : DataW H × List MemPlace} (h : DataW.trod enc Try.prog w 0 (fun _ => true) true fuel 37 cs = some x) :
    ∃ p : Pt, cs = [.int .i64 p.tu, .int .i64 p.td, .int .i64 p.bu, .int .i64 p.bd, .int .i64 p.h, .bool p.thr] := by
  obtain ⟨xs, n', _, _, hcl, hx, hf⟩ := DataW.trod_struct Try.underlying37 h
  rw [cells_ptO] at hcl
  match cs, hcl with
  | [c0, c1, c2, c3, c4, c5], _ =>
    match xs, hx with
    | [y0, y1, y2, y3], _ =>
      have g0 : DataW.trod enc Try.prog w 0 (fun _ => true) true n' 23 [c0, c1] = some y0 := by
        have g := hf 0 _ rfl
        simpa [cells_intO, cells_sruO] using g
      have g1 : DataW.trod enc Try.prog w 0 (fun _ => true) true n' 23 [c2, c3] = some y1 := by
        have g := hf 1 _ rfl
        simpa [cells_intO, cells_sruO] using g
      have g2 : DataW.trod enc Try.prog w 0 (fun _ => true) true n' 3 [c4] = some y2 := by
        have g := hf 2 _ rfl
        simpa [cells_intO, cells_sruO] using g
      have g3 : DataW.trod enc Try.prog w 0 (fun _ => true) true n' 4 [c5] = some y3 := by
        have g := hf 3 _ rfl
        simpa [cells_intO, cells_sruO, cells_boolO] using g
      obtain ⟨u, d, h01⟩ := open_sruO g0
      obtain ⟨u2, d2, h23⟩ := open_sruO g1
      obtain ⟨n, hn, _, _⟩ := DataW.trod_int Try.underlying3 g2
      obtain ⟨b, hb, _⟩ := DataW.trod_bool Try.underlying4 g3
      injection hn with hn
      injection hb with hb
      simp only [List.cons.injEq, and_true] at h01 h23
      obtain ⟨e0, e1⟩ := h01
      obtain ⟨e2, e3⟩ := h23
      subst e0; subst e1; subst e2; subst e3; subst hn; subst hb
      exact ⟨⟨u, d, u2, d2, n, b⟩, rfl⟩
/-- a list of parts that came in -/
theorem open_ptsO {fuel : Nat} {c : Value} {x : DataW H × List MemPlace} (h : DataW.trod enc Try.prog w 0 (fun _ => true) true fuel 35 [c] = some x) :
    ∃ a len cap, ∃ l : List Pt, c = .slice a len cap ∧ l.length = len ∧ len ≤ cap ∧ cap ≤ maxLen ∧ Pts19 w a l := by
  rcases Go.Deep.open_slice Try.underlying35 h with ⟨hc, _⟩ | ⟨a, len, cap, m, n, D, Pl, hc, _, hl, hm, hmm, _, hi⟩
  · injection hc with hc
    exact ⟨none, 0, 0, [], hc, rfl, Nat.le_refl _, Nat.zero_le _, Or.inl rfl⟩
  · injection hc with hc
    simp only [if_true] at hmm
    rw [cells_ptO] at hi
    have each : ∀ i, i < len → ∃ t : Pt, ∀ j (hj : j < 6), w.cell? (a.add (i * 6 + j)) = some ((ptc t)[j]'(by simpa [ptc] using hj)) := by
      intro i hi1
      obtain ⟨cs', h1, h2⟩ := hi i (by omega)
      obtain ⟨_, _, hat⟩ := World.cells?_some h1
      obtain ⟨t, ht⟩ := open_ptO h2
      subst ht
      refine ⟨t, fun j hj => ?_⟩
      have := hat j hj
      rw [Go.Deep.add_add] at this
      rw [this]
      unfold ptc
      match j, hj with
      | 0, _ => rfl
      | 1, _ => rfl
      | 2, _ => rfl
      | 3, _ => rfl
      | 4, _ => rfl
      | 5, _ => rfl
    obtain ⟨f, hf⟩ : ∃ f : Nat → Pt, ∀ i, i < len → ∀ j (hj : j < 6), w.cell? (a.add (i * 6 + j)) = some ((ptc (f i))[j]'(by simpa [ptc] using hj)) := by
      refine ⟨fun i => if hi : i < len then Classical.choose (each i hi) else ⟨0, 0, 0, 0, 0, false⟩, fun i hi => ?_⟩
      simp only [dif_pos hi]
      exact Classical.choose_spec (each i hi)
    refine ⟨some a, len, cap, (List.range len).map f, hc, by simp, hl, by omega, ?_⟩
    by_cases h0 : len = 0
    · exact Or.inl (by rw [h0]; rfl)
    · obtain ⟨b, off, rfl, hb⟩ := plain_ofO (a := a) (by have := hf 0 (by omega) 0 (by omega); rwa [Nat.zero_mul, Nat.zero_add] at this)
      refine Or.inr ⟨b, off, rfl, hb, fun i hi => ?_⟩
      rw [List.length_map, List.length_range] at hi
      have k := fun j hj => hf i hi j hj
      simp only [Go.WideShapes.add_plain] at k
      rw [List.getElem_map, List.getElem_range]
      have k0 := k 0 (by omega)
      have k1 := k 1 (by omega)
      have k2 := k 2 (by omega)
      have k3 := k 3 (by omega)
      have k4 := k 4 (by omega)
      have k5 := k 5 (by omega)
      simp only [← Nat.add_assoc, Nat.add_zero] at k0 k1 k2 k3 k4 k5
      exact ⟨k0, k1, k2, k3, k4, k5⟩
end
theorem ints_of19 {w : World} {a : Option Addr} {len cap : Nat} {zs : List Int}
    (h : (a = none ∧ len = 0 ∧ cap = 0 ∧ zs = []) ∨ ∃ x, a = some x ∧ len ≤ cap ∧ cap ≤ maxLen ∧ zs.length = cap ∧ (∀ i, i < zs.length → w.cell? (x.add i) = some (.int .i64 (zs.getD i 0))) ∧ ∀ n ∈ zs, (Lit.int .i64 n).wf = true) :
    ∃ l, l.length = len ∧ len ≤ maxLen ∧ Ints19 w a l := by
  rcases h with ⟨rfl, rfl, rfl, rfl⟩ | ⟨x, rfl, h1, h2, h3, h4, h5⟩
  · exact ⟨[], rfl, Nat.zero_le _, Or.inl rfl⟩
  · by_cases hz : len = 0
    · subst hz; exact ⟨[], rfl, Nat.zero_le _, Or.inl rfl⟩
    · obtain ⟨b, off, rfl, hc⟩ := Go.ints_at h4 (by omega)
      refine ⟨zs.take len, by rw [List.length_take]; omega, by omega, Or.inr ⟨b, off, rfl, ?_, ?_⟩⟩
      · have h := hc 0 (by omega)
        exact World.block_lt_of_cell? w _ h
      · intro i hi
        rw [List.length_take] at hi
        rw [hc i (by omega), List.getElem_take, List.getD_eq_getElem?_getD, List.getElem?_eq_getElem (by omega)]
        rfl
end Go.Proofs.Ytajmmnmagbnigaa
