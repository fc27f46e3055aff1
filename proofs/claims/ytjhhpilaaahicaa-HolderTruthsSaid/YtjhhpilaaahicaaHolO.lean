/- Layer 15: how values, views and extents that come in are opened. -/
import Derived.Test.YtjhhpilaaahicaaTreO
import Derived.Test.YtjhhpilaaahicaaHolA
import Derived.ProofKit
namespace Go.Proofs.Ytjhhpilaaahicaa
open Go.ChangeShapes Go.WideShapes Go.ChangeAt Go.RowKit TreP
section
variable {H : Type} {enc : TypeId × Value → H} {w : World}
theorem cells_valH : Try.prog.cellsOf 93 = 4 := by kernel_rfl
theorem cells_intH : Try.prog.cellsOf 3 = 1 := by kernel_rfl
theorem cells_vieH : Try.prog.cellsOf 89 = 2 := by kernel_rfl
theorem cells_extH : Try.prog.cellsOf 44 = 4 := by kernel_rfl
theorem text_ofH (s : ByteArray) : (⟨s.data.toList.toArray⟩ : ByteArray) = s := by cases s; simp
set_option maxRecDepth 100000 in
theorem open_valH {r : Reach} {b0 : Nat} {v : Value} {d : DataW H} {ps : List MemPlace} (hv : Value.okWide Try.prog w r b0 93 v) (h : DataW.Trod enc Try.prog w 0 (fun _ => true) true 93 v d ps) : ∃ (k n d : Int) (nm : List UInt8), v = .agg #[.int .i64 k, .int .i64 n, .int .i64 d, .string ⟨nm.toArray⟩] := by
  simp only [Value.okWide, Try.underlying93] at hv
  obtain ⟨cs, rfl, _, _⟩ := hv
  obtain ⟨fuel, hf⟩ := h
  obtain ⟨l⟩ := cs
  simp only [Value.cells] at hf
  obtain ⟨xs, n', _, _, hcl, hx, hf⟩ := DataW.trod_struct Try.underlying93 hf
  rw [cells_valH] at hcl
  match l, hcl with
  | [c0, c1, c2, c3], _ =>
    match xs, hx with
    | [y0, y1, y2, y3], _ =>
      have g0 : DataW.trod enc Try.prog w 0 (fun _ => true) true n' 3 [c0] = some y0 := by
        have g := hf 0 _ rfl
        simpa [cells_intH] using g
      have g1 : DataW.trod enc Try.prog w 0 (fun _ => true) true n' 3 [c1] = some y1 := by
        have g := hf 1 _ rfl
        simpa [cells_intH] using g
      have g2 : DataW.trod enc Try.prog w 0 (fun _ => true) true n' 3 [c2] = some y2 := by
        have g := hf 2 _ rfl
        simpa [cells_intH] using g
      have g3 : DataW.trod enc Try.prog w 0 (fun _ => true) true n' 9 [c3] = some y3 := by
        have g := hf 3 _ rfl
        simpa [cells_intH, cells_str] using g
      obtain ⟨k, hk, _, _⟩ := DataW.trod_int Try.underlying3 g0
      obtain ⟨n, hn, _, _⟩ := DataW.trod_int Try.underlying3 g1
      obtain ⟨d, hd, _, _⟩ := DataW.trod_int Try.underlying3 g2
      obtain ⟨s, hs, _, _⟩ := DataW.trod_string Try.underlying9 g3
      injection hk with hk
      injection hn with hn
      injection hd with hd
      injection hs with hs
      subst hk; subst hn; subst hd; subst hs
      exact ⟨k, n, d, s.data.toList, by rw [text_ofH]⟩
set_option maxRecDepth 100000 in
theorem open_viewH {r : Reach} {b0 : Nat} {v : Value} {d : DataW H} {ps : List MemPlace} (hv : Value.okWide Try.prog w r b0 89 v) (h : DataW.Trod enc Try.prog w 0 (fun _ => true) true 89 v d ps) : ∃ (a b : Int), v = .agg #[.int .i64 a, .int .i64 b] := by
  simp only [Value.okWide, Try.underlying89] at hv
  obtain ⟨cs, rfl, _, _⟩ := hv
  obtain ⟨fuel, hf⟩ := h
  obtain ⟨l⟩ := cs
  simp only [Value.cells] at hf
  obtain ⟨xs, n', _, _, hcl, hx, hf⟩ := DataW.trod_struct Try.underlying89 hf
  rw [cells_vieH] at hcl
  match l, hcl with
  | [c0, c1], _ =>
    match xs, hx with
    | [y0, y1], _ =>
      have g0 : DataW.trod enc Try.prog w 0 (fun _ => true) true n' 3 [c0] = some y0 := by
        have g := hf 0 _ rfl
        simpa [cells_intH] using g
      have g1 : DataW.trod enc Try.prog w 0 (fun _ => true) true n' 3 [c1] = some y1 := by
        have g := hf 1 _ rfl
        simpa [cells_intH] using g
      obtain ⟨k, hk, _, _⟩ := DataW.trod_int Try.underlying3 g0
      obtain ⟨n, hn, _, _⟩ := DataW.trod_int Try.underlying3 g1
      injection hk with hk
      injection hn with hn
      subst hk; subst hn
      exact ⟨k, n, rfl⟩
set_option maxRecDepth 100000 in
theorem open_extH {fuel : Nat} {cs : List Value} {x : DataW H × List MemPlace} (h : DataW.trod enc Try.prog w 0 (fun _ => true) true fuel 44 cs = some x) :
    ∃ e : Ext, cs = [.int .i64 e.kind, .string ⟨e.name.toArray⟩, .int .i64 e.wd, .int .i64 e.ht] := by
  obtain ⟨xs, n', _, _, hcl, hx, hf⟩ := DataW.trod_struct Try.underlying44 h
  rw [cells_extH] at hcl
  match cs, hcl with
  | [c0, c1, c2, c3], _ =>
    match xs, hx with
    | [y0, y1, y2, y3], _ =>
      have g0 : DataW.trod enc Try.prog w 0 (fun _ => true) true n' 3 [c0] = some y0 := by
        have g := hf 0 _ rfl
        simpa [cells_intH] using g
      have g1 : DataW.trod enc Try.prog w 0 (fun _ => true) true n' 9 [c1] = some y1 := by
        have g := hf 1 _ rfl
        simpa [cells_intH, cells_str] using g
      have g2 : DataW.trod enc Try.prog w 0 (fun _ => true) true n' 3 [c2] = some y2 := by
        have g := hf 2 _ rfl
        simpa [cells_intH, cells_str] using g
      have g3 : DataW.trod enc Try.prog w 0 (fun _ => true) true n' 3 [c3] = some y3 := by
        have g := hf 3 _ rfl
        simpa [cells_intH, cells_str] using g
      obtain ⟨k, hk, _, _⟩ := DataW.trod_int Try.underlying3 g0
      obtain ⟨s, hs, _, _⟩ := DataW.trod_string Try.underlying9 g1
      obtain ⟨n, hn, _, _⟩ := DataW.trod_int Try.underlying3 g2
      obtain ⟨d, hd, _, _⟩ := DataW.trod_int Try.underlying3 g3
      injection hk with hk
      injection hn with hn
      injection hd with hd
      injection hs with hs
      subst hk; subst hn; subst hd; subst hs
      exact ⟨⟨k, s.data.toList, n, d⟩, by rw [text_ofH]⟩
set_option maxRecDepth 100000 in
/-- a list of extents that came in -/
theorem open_exts {fuel : Nat} {c : Value} {x : DataW H × List MemPlace} (h : DataW.trod enc Try.prog w 0 (fun _ => true) true fuel 55 [c] = some x) :
    ∃ a len cap, ∃ X : Nat → Ext, c = .slice a len cap ∧ len ≤ cap ∧ cap ≤ maxLen ∧ Exts w a len X := by
  rcases Go.Deep.open_slice Try.underlying55 h with ⟨hc, _⟩ | ⟨a, len, cap, m, n, D, Pl, hc, _, hl, hm, hmm, _, hi⟩
  · injection hc with hc
    exact ⟨none, 0, 0, fun _ => ⟨0, [], 0, 0⟩, hc, Nat.le_refl _, Nat.zero_le _, Or.inl rfl⟩
  · injection hc with hc
    simp only [if_true] at hmm
    rw [cells_extH] at hi
    have each : ∀ i, i < len → ∃ t : Ext, w.cell? (a.add (i * 4)) = some (.int .i64 t.kind) ∧ w.cell? (a.add (i * 4 + 1)) = some (.string ⟨t.name.toArray⟩) ∧ w.cell? (a.add (i * 4 + 2)) = some (.int .i64 t.wd) ∧ w.cell? (a.add (i * 4 + 3)) = some (.int .i64 t.ht) := by
      intro i hi1
      obtain ⟨cs', h1, h2⟩ := hi i (by omega)
      obtain ⟨_, _, hat⟩ := World.cells?_some h1
      obtain ⟨t, ht⟩ := open_extH h2
      subst ht
      have k := fun j (hj : j < 4) => by have := hat j hj; rw [Go.Deep.add_add] at this; exact this
      exact ⟨t, k 0 (by omega), k 1 (by omega), k 2 (by omega), k 3 (by omega)⟩
    obtain ⟨f, hf⟩ : ∃ f : Nat → Ext, ∀ i, i < len → w.cell? (a.add (i * 4)) = some (.int .i64 (f i).kind) ∧ w.cell? (a.add (i * 4 + 1)) = some (.string ⟨(f i).name.toArray⟩) ∧ w.cell? (a.add (i * 4 + 2)) = some (.int .i64 (f i).wd) ∧ w.cell? (a.add (i * 4 + 3)) = some (.int .i64 (f i).ht) := by
      refine ⟨fun i => if hi : i < len then Classical.choose (each i hi) else ⟨0, [], 0, 0⟩, fun i hi => ?_⟩
      simp only [dif_pos hi]
      exact Classical.choose_spec (each i hi)
    refine ⟨some a, len, cap, f, hc, hl, by omega, ?_⟩
    by_cases h0 : len = 0
    · exact Or.inl h0
    · obtain ⟨b, off, rfl, hb⟩ := plain_of (a := a) (by have := (hf 0 (by omega)).1; rwa [Nat.zero_mul] at this)
      refine Or.inr ⟨b, off, rfl, hb, fun i hi => ?_⟩
      obtain ⟨k1, k2, k3, k4⟩ := hf i hi
      rw [Go.WideShapes.add_plain] at k1 k2 k3 k4
      rw [← Nat.add_assoc] at k2 k3 k4
      exact ⟨k1, k2, k3, k4⟩
end
end Go.Proofs.Ytjhhpilaaahicaa
