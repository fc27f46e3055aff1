/- Layer 5: how tokens that come in are opened. -/
import Derived.Test.YtbodmfbpmeapoaaGreatLexPs
import Derived.Test.YtbodmfbpmeapoaaGreatLexJa
import Derived.OpenShut
import Derived.ProofKit
import Derived.Deep.Slices
import Derived.Deep.Fields
namespace Go.Proofs.YtbodmfbpmeapoaaGreat
open Go.ChangeShapes Go.WideShapes Go.ChangeAt Go.RowKit LexP
section
variable {H : Type} {enc : TypeId × Value → H} {w : World}
theorem cells_tok : Tryz.prog.cellsOf 58 = 3 := by kernel_rfl
theorem cells_tint : Tryz.prog.cellsOf 3 = 1 := by kernel_rfl
theorem cells_tstr : Tryz.prog.cellsOf 9 = 1 := by kernel_rfl
theorem text_of (s : ByteArray) : (⟨s.data.toList.toArray⟩ : ByteArray) = s := by cases s; simp
set_option maxRecDepth 100000 in
/-- a token's three cells -/
theorem open_tok {fuel : Nat} {cs : List Value} {x : DataW H × List MemPlace} (h : DataW.trod enc Tryz.prog w 0 (fun _ => true) true fuel 58 cs = some x) :
    ∃ t : Tok, cs = [.int .i64 t.kind, .string ⟨t.text.toArray⟩, .int .i64 t.n] := by
  obtain ⟨xs, n', _, _, hcl, hx, hf⟩ := DataW.trod_struct Tryz.underlying58 h
  rw [cells_tok] at hcl
  match cs, hcl with
  | [c0, c1, c2], _ =>
    match xs, hx with
    | [y0, y1, y2], _ =>
      have g0 : DataW.trod enc Tryz.prog w 0 (fun _ => true) true n' 3 [c0] = some y0 := by
        have g := hf 0 _ rfl
        simpa [cells_tint] using g
      have g1 : DataW.trod enc Tryz.prog w 0 (fun _ => true) true n' 9 [c1] = some y1 := by
        have g := hf 1 _ rfl
        simpa [cells_tstr] using g
      have g2 : DataW.trod enc Tryz.prog w 0 (fun _ => true) true n' 3 [c2] = some y2 := by
        have g := hf 2 _ rfl
        simpa [cells_tint] using g
      obtain ⟨k, hk, _, _⟩ := DataW.trod_int Tryz.underlying3 g0
      obtain ⟨s, hs, _, _⟩ := DataW.trod_string Tryz.underlying9 g1
      obtain ⟨n, hn, _, _⟩ := DataW.trod_int Tryz.underlying3 g2
      injection hk with hk
      injection hs with hs
      injection hn with hn
      subst hk; subst hs; subst hn
      exact ⟨⟨k, s.data.toList, n⟩, by rw [text_of]⟩
set_option maxRecDepth 100000 in
theorem open_tokV {r : Reach} {b0 : Nat} {v : Value} {d : DataW H} {ps : List MemPlace} (hv : Value.okWide Tryz.prog w r b0 58 v) (h : DataW.Trod enc Tryz.prog w 0 (fun _ => true) true 58 v d ps) : ∃ t : Tok, v = t.val := by
  simp only [Value.okWide, Tryz.underlying58] at hv
  obtain ⟨cs, rfl, _, _⟩ := hv
  obtain ⟨fuel, hf⟩ := h
  obtain ⟨t, ht⟩ := open_tok hf
  refine ⟨t, ?_⟩
  obtain ⟨l⟩ := cs
  simp only [Value.cells] at ht
  subst ht
  rfl

set_option maxRecDepth 100000 in
/-- a plain address, where there is a cell -/
theorem plain_at {a : Addr} {v : Value} (h : w.cell? (a.add 0) = some v) : ∃ b off, a = ⟨b, off, none⟩ ∧ b < w.heap.size := by
  obtain ⟨b, off, spot⟩ := a
  have hspot : spot = none := by simpa [Addr.add] using World.cell?_spot h
  subst hspot
  have hl := World.block_lt_of_cell? w _ h
  rw [Go.WideShapes.add_plain] at hl
  exact ⟨b, off, rfl, hl⟩
set_option maxRecDepth 100000 in
/-- a list of tokens that came in -/
theorem open_toks {fuel : Nat} {c : Value} {x : DataW H × List MemPlace} (h : DataW.trod enc Tryz.prog w 0 (fun _ => true) true fuel 26 [c] = some x) :
    ∃ a cap, ∃ l : List Tok, c = .slice a l.length cap ∧ l.length ≤ cap ∧ cap ≤ maxLen ∧ Tks w a l := by
  rcases Go.Deep.open_slice Tryz.underlying26 h with ⟨hc, _⟩ | ⟨a, len, cap, m, n, D, Pl, hc, _, hl, hm, hmm, _, hi⟩
  · injection hc with hc
    exact ⟨none, 0, [], hc, Nat.le_refl _, Nat.zero_le _, Or.inl rfl⟩
  · injection hc with hc
    simp only [if_true] at hmm
    rw [cells_tok] at hi
    have each : ∀ i, i < len → ∃ t : Tok, w.cell? (a.add (i * 3)) = some (.int .i64 t.kind) ∧ w.cell? (a.add (i * 3 + 1)) = some (.string ⟨t.text.toArray⟩) ∧ w.cell? (a.add (i * 3 + 2)) = some (.int .i64 t.n) := by
      intro i hi1
      obtain ⟨cs', h1, h2⟩ := hi i (by omega)
      obtain ⟨_, _, hat⟩ := World.cells?_some h1
      obtain ⟨t, ht⟩ := open_tok h2
      subst ht
      have k := fun j (hj : j < 3) => by have := hat j hj; rw [Go.Deep.add_add] at this; exact this
      exact ⟨t, k 0 (by omega), k 1 (by omega), k 2 (by omega)⟩
    obtain ⟨f, hf⟩ : ∃ f : Nat → Tok, ∀ i, i < len → w.cell? (a.add (i * 3)) = some (.int .i64 (f i).kind) ∧ w.cell? (a.add (i * 3 + 1)) = some (.string ⟨(f i).text.toArray⟩) ∧ w.cell? (a.add (i * 3 + 2)) = some (.int .i64 (f i).n) := by
      refine ⟨fun i => if hi : i < len then Classical.choose (each i hi) else ⟨0, [], 0⟩, fun i hi => ?_⟩
      simp only [dif_pos hi]
      exact Classical.choose_spec (each i hi)
    have hlen : ((List.range len).map f).length = len := by simp
    refine ⟨some a, cap, (List.range len).map f, by rw [hlen]; exact hc, by rw [hlen]; exact hl, by omega, ?_⟩
    by_cases h0 : len = 0
    · left; rw [h0]; rfl
    · obtain ⟨b, off, rfl, hb⟩ := plain_at (a := a) (by have := (hf 0 (by omega)).1; rwa [Nat.zero_mul] at this)
      refine Or.inr ⟨b, off, rfl, hb, fun i hi => ?_⟩
      rw [hlen] at hi
      have e : ((List.range len).map f)[i] = f i := by simp
      obtain ⟨k1, k2, k3⟩ := hf i hi
      rw [Go.WideShapes.add_plain] at k1 k2 k3
      rw [← Nat.add_assoc] at k2 k3
      rw [e]
      exact ⟨k1, k2, k3⟩
end
end Go.Proofs.YtbodmfbpmeapoaaGreat
