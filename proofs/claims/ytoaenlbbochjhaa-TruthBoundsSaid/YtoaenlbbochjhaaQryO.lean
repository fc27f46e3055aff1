/- Layer 8: how queries that come in are opened. -/
import Derived.Test.YtoaenlbbochjhaaQryM
import Derived.OpenShut
import Derived.SliceStrings
import Derived.Deep.Slices
import Derived.Deep.Fields
import Derived.ProofKit
namespace Go.Proofs.Ytoaenlbbochjhaa
open Go.ChangeShapes Go.WideShapes Go.ChangeAt Go.RowKit FixM FixP QryP
set_option linter.unusedVariables false

structure QV where
  nm : List UInt8
  ad : Option Addr
  n : Nat
  c : Nat
  L : List QN
@[reducible] def QV.val (q : QV) : Value := .agg #[.string ⟨q.nm.toArray⟩, .slice q.ad q.n q.c]
/-- a query that came in -/
structure QOk (w : World) (q : QV) : Prop where
  ns : Qns w q.ad q.L
  ln : q.L.length = q.n
  bd : q.n ≤ maxLen
  nb : q.nm.length ≤ maxLen
section
variable {H : Type} {enc : TypeId × Value → H} {w : World}
theorem cells_intQ : Try.prog.cellsOf 3 = 1 := by kernel_rfl
theorem cells_strQ : Try.prog.cellsOf 9 = 1 := by kernel_rfl
theorem cells_bdQ : Try.prog.cellsOf 37 = 3 := by kernel_rfl
theorem cells_qnQ : Try.prog.cellsOf 39 = 9 := by kernel_rfl
theorem cells_qnsQ : Try.prog.cellsOf 27 = 1 := by kernel_rfl
theorem cells_qrQ : Try.prog.cellsOf 29 = 2 := by kernel_rfl
theorem text_ofQ (s : ByteArray) : (⟨s.data.toList.toArray⟩ : ByteArray) = s := by cases s; simp
theorem plainQ {a : Addr} {v : Value} (h : w.cell? (a.add 0) = some v) : ∃ b off, a = ⟨b, off, none⟩ ∧ b < w.heap.size := by
  obtain ⟨b, off, spot⟩ := a
  have hspot : spot = none := by simpa [Addr.add] using World.cell?_spot h
  subst hspot
  have hl := World.block_lt_of_cell? w _ h
  rw [Go.WideShapes.add_plain] at hl
  exact ⟨b, off, rfl, hl⟩
set_option maxRecDepth 100000 in
theorem open_bdQ {fuel : Nat} {cs : List Value} {x : DataW H × List MemPlace} (h : DataW.trod enc Try.prog w 0 (fun _ => true) true fuel 37 cs = some x) :
    ∃ b : Bd, cs = [.int .i64 b.op, .int .i64 b.n, .int .i64 b.d] := by
  obtain ⟨xs, n', _, _, hcl, hx, hf⟩ := DataW.trod_struct Try.underlying37 h
  rw [cells_bdQ] at hcl
  match cs, hcl with
  | [c0, c1, c2], _ =>
    match xs, hx with
    | [y0, y1, y2], _ =>
      have g0 : DataW.trod enc Try.prog w 0 (fun _ => true) true n' 3 [c0] = some y0 := by
        have g := hf 0 _ rfl
        simpa [cells_intQ] using g
      have g1 : DataW.trod enc Try.prog w 0 (fun _ => true) true n' 3 [c1] = some y1 := by
        have g := hf 1 _ rfl
        simpa [cells_intQ] using g
      have g2 : DataW.trod enc Try.prog w 0 (fun _ => true) true n' 3 [c2] = some y2 := by
        have g := hf 2 _ rfl
        simpa [cells_intQ] using g
      obtain ⟨k, hk, _, _⟩ := DataW.trod_int Try.underlying3 g0
      obtain ⟨n, hn, _, _⟩ := DataW.trod_int Try.underlying3 g1
      obtain ⟨d, hd, _, _⟩ := DataW.trod_int Try.underlying3 g2
      injection hk with hk
      injection hn with hn
      injection hd with hd
      subst hk; subst hn; subst hd
      exact ⟨⟨k, n, d⟩, rfl⟩
set_option maxRecDepth 100000 in
theorem open_qnQ {fuel : Nat} {cs : List Value} {x : DataW H × List MemPlace} (h : DataW.trod enc Try.prog w 0 (fun _ => true) true fuel 39 cs = some x) :
    ∃ y : QN, cs = (qnC y).toList := by
  obtain ⟨xs, n', _, _, hcl, hx, hf⟩ := DataW.trod_struct Try.underlying39 h
  rw [cells_qnQ] at hcl
  match cs, hcl with
  | [c0, c1, c2, c3, c4, c5, c6, c7, c8], _ =>
    match xs, hx with
    | [y0, y1, y2, y3, y4], _ =>
      have g0 : DataW.trod enc Try.prog w 0 (fun _ => true) true n' 3 [c0] = some y0 := by
        have g := hf 0 _ rfl
        simpa [cells_intQ] using g
      have g1 : DataW.trod enc Try.prog w 0 (fun _ => true) true n' 3 [c1] = some y1 := by
        have g := hf 1 _ rfl
        simpa [cells_intQ] using g
      have g2 : DataW.trod enc Try.prog w 0 (fun _ => true) true n' 3 [c2] = some y2 := by
        have g := hf 2 _ rfl
        simpa [cells_intQ] using g
      have g3 : DataW.trod enc Try.prog w 0 (fun _ => true) true n' 37 [c3, c4, c5] = some y3 := by
        have g := hf 3 _ rfl
        simpa [cells_intQ, cells_bdQ] using g
      have g4 : DataW.trod enc Try.prog w 0 (fun _ => true) true n' 37 [c6, c7, c8] = some y4 := by
        have g := hf 4 _ rfl
        simpa [cells_intQ, cells_bdQ] using g
      obtain ⟨k, hk, _, _⟩ := DataW.trod_int Try.underlying3 g0
      obtain ⟨n, hn, _, _⟩ := DataW.trod_int Try.underlying3 g1
      obtain ⟨d, hd, _, _⟩ := DataW.trod_int Try.underlying3 g2
      obtain ⟨b1, e1⟩ := open_bdQ g3
      obtain ⟨b2, e2⟩ := open_bdQ g4
      injection hk with hk
      injection hn with hn
      injection hd with hd
      injection e1 with u1 e1
      injection e1 with u2 e1
      injection e1 with u3 e1
      injection e2 with v1 e2
      injection e2 with v2 e2
      injection e2 with v3 e2
      subst hk; subst hn; subst hd; subst u1; subst u2; subst u3; subst v1; subst v2; subst v3
      exact ⟨⟨k, n, d, b1, b2⟩, rfl⟩
set_option maxRecDepth 100000 in
theorem open_qns {fuel : Nat} {c : Value} {x : DataW H × List MemPlace} (h : DataW.trod enc Try.prog w 0 (fun _ => true) true fuel 27 [c] = some x) :
    ∃ a cap, ∃ l : List QN, c = .slice a l.length cap ∧ l.length ≤ cap ∧ cap ≤ maxLen ∧ Qns w a l := by
  rcases Go.Deep.open_slice Try.underlying27 h with ⟨hc, _⟩ | ⟨a, len, cap, m, n, D, Pl, hc, _, hl, hm, hmm, _, hi⟩
  · injection hc with hc
    exact ⟨none, 0, [], hc, Nat.le_refl _, Nat.zero_le _, Or.inl rfl⟩
  · injection hc with hc
    simp only [if_true] at hmm
    rw [cells_qnQ] at hi
    have each : ∀ i, i < len → ∃ t : QN, (∀ j, j < 9 → w.cell? (a.add (i * 9 + j)) = (qnC t).toList[j]?) := by
      intro i hi1
      obtain ⟨cs', h1, h2⟩ := hi i (by omega)
      obtain ⟨_, _, hat⟩ := World.cells?_some h1
      obtain ⟨t, ht⟩ := open_qnQ h2
      subst ht
      exact ⟨t, fun j hj => by have := hat j hj; rw [Go.Deep.add_add] at this; exact this⟩
    obtain ⟨f, hf⟩ : ∃ f : Nat → QN, ∀ i, i < len → (∀ j, j < 9 → w.cell? (a.add (i * 9 + j)) = (qnC (f i)).toList[j]?) := by
      refine ⟨fun i => if hi : i < len then Classical.choose (each i hi) else ⟨0, 0, 0, ⟨0, 0, 0⟩, ⟨0, 0, 0⟩⟩, fun i hi => ?_⟩
      simp only [dif_pos hi]
      exact Classical.choose_spec (each i hi)
    have hlen : ((List.range len).map f).length = len := by simp
    refine ⟨some a, cap, (List.range len).map f, by rw [hlen]; exact hc, by rw [hlen]; exact hl, by omega, ?_⟩
    by_cases h0 : len = 0
    · left; rw [h0]; rfl
    · obtain ⟨b, off, rfl, hb⟩ := plainQ (a := a) (v := .int .i64 (f 0).kind) (by have := (hf 0 (by omega)) 0 (by omega); rwa [Nat.zero_mul] at this)
      refine Or.inr ⟨b, off, rfl, hb, fun i hi => ?_⟩
      rw [hlen] at hi
      have e : ((List.range len).map f)[i] = f i := by simp
      have k := fun j hj => (hf i hi) j hj
      simp only [Go.WideShapes.add_plain, ← Nat.add_assoc] at k
      rw [e]
      exact ⟨k 0 (by omega), k 1 (by omega), k 2 (by omega), k 3 (by omega), k 4 (by omega), k 5 (by omega), k 6 (by omega), k 7 (by omega), k 8 (by omega)⟩
set_option maxRecDepth 100000 in
theorem open_qrc {fuel : Nat} {cs : List Value} {x : DataW H × List MemPlace} (h : DataW.trod enc Try.prog w 0 (fun _ => true) true fuel 29 cs = some x) :
    ∃ q : QV, cs = [.string ⟨q.nm.toArray⟩, .slice q.ad q.n q.c] ∧ QOk w q := by
  obtain ⟨xs, n', _, _, hcl, hx, hf⟩ := DataW.trod_struct Try.underlying29 h
  rw [cells_qrQ] at hcl
  match cs, hcl with
  | [c0, c1], _ =>
    match xs, hx with
    | [y0, y1], _ =>
      have g0 : DataW.trod enc Try.prog w 0 (fun _ => true) true n' 9 [c0] = some y0 := by
        have g := hf 0 _ rfl
        simpa [cells_strQ] using g
      have g1 : DataW.trod enc Try.prog w 0 (fun _ => true) true n' 27 [c1] = some y1 := by
        have g := hf 1 _ rfl
        simpa [cells_strQ, cells_qnsQ] using g
      obtain ⟨s, hs, _, z⟩ := DataW.trod_string Try.underlying9 g0
      obtain ⟨a, cap, l, e, l1, l2, l3⟩ := open_qns g1
      injection hs with hs
      subst hs; subst e
      exact ⟨⟨s.data.toList, a, l.length, cap, l⟩, by simp only [text_ofQ], ⟨l3, rfl, Nat.le_trans l1 l2, by show s.data.toList.length ≤ maxLen; simpa using z⟩⟩
set_option maxRecDepth 100000 in
theorem open_qrV {r : Reach} {b0 : Nat} {v : Value} {d : DataW H} {ps : List MemPlace} (hv : Value.okWide Try.prog w r b0 29 v) (h : DataW.Trod enc Try.prog w 0 (fun _ => true) true 29 v d ps) : ∃ q : QV, v = q.val ∧ QOk w q := by
  simp only [Value.okWide, Try.underlying29] at hv
  obtain ⟨cs, rfl, _, _⟩ := hv
  obtain ⟨fuel, hf⟩ := h
  obtain ⟨q, hs, hok⟩ := open_qrc hf
  refine ⟨q, ?_, hok⟩
  obtain ⟨l⟩ := cs
  simp only [Value.cells] at hs
  subst hs
  rfl
end
end Go.Proofs.Ytoaenlbbochjhaa
