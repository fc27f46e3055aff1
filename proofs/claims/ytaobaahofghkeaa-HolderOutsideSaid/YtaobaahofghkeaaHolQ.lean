/- Layer 15: extents that come in, with what their memory takes. -/
import Derived.Test.YtaobaahofghkeaaHolO
import Derived.SizedLaws
namespace Go.Proofs.Ytaobaahofghkeaa
open Go.ChangeShapes Go.WideShapes Go.ChangeAt Go.RowKit TreP
section
variable {H : Type} {enc : TypeId × Value → H} {w : World}
set_option maxRecDepth 100000 in
/-- a list of extents that came in -/
theorem open_extsD {fuel : Nat} {c : Value} {x : DataW H × List MemPlace} (h : DataW.trod enc Try.prog w 0 (fun _ => true) true fuel 23 [c] = some x) :
    ∃ a len cap, ∃ X : Nat → Ext, c = .slice a len cap ∧ len ≤ cap ∧ cap ≤ maxLen ∧ Exts w a len X ∧ (len = 0 ∨ ∃ els spr, x.1 = .slice els spr ∧ els.length = len) := by
  rcases Go.Deep.open_slice Try.underlying23 h with ⟨hc, _⟩ | ⟨a, len, cap, m, n, D, Pl, hc, _, hl, hm, hmm, hxx, hi⟩
  · injection hc with hc
    exact ⟨none, 0, 0, fun _ => ⟨0, [], 0, 0⟩, hc, Nat.le_refl _, Nat.zero_le _, Or.inl rfl, Or.inl rfl⟩
  · injection hc with hc
    simp only [if_true] at hmm
    rw [cells_extH] at hi
    have each : ∀ i, i < len → ∃ t : Ext, w.cell? (a.add (i * 4)) = some (.int .i64 t.kind) ∧ w.cell? (a.add (i * 4 + 1)) = some (.string ⟨t.name.toArray⟩) ∧ w.cell? (a.add (i * 4 + 2)) = some (.int .i64 t.wd) ∧ w.cell? (a.add (i * 4 + 3)) = some (.int .i64 t.ht) := by
      intro i hi1
      obtain ⟨cs', h1, h2⟩ := hi i (by omega)
      obtain ⟨_, _, hat⟩ := World.cells?_some h1
      obtain ⟨t, ht⟩ := open_extH h2
      subst ht
      have k := fun j (hj : j < 4) => by have := hat j hj; rw [Go.Deep.add_add] at this; exact this
      exact ⟨t, k 0 (by omega), k 1 (by omega), k 2 (by omega), k 3 (by omega)⟩
    obtain ⟨f, hf⟩ : ∃ f : Nat → Ext, ∀ i, i < len → w.cell? (a.add (i * 4)) = some (.int .i64 (f i).kind) ∧ w.cell? (a.add (i * 4 + 1)) = some (.string ⟨(f i).name.toArray⟩) ∧ w.cell? (a.add (i * 4 + 2)) = some (.int .i64 (f i).wd) ∧ w.cell? (a.add (i * 4 + 3)) = some (.int .i64 (f i).ht) := by
      refine ⟨fun i => if hi : i < len then Classical.choose (each i hi) else ⟨0, [], 0, 0⟩, fun i hi => ?_⟩
      simp only [dif_pos hi]
      exact Classical.choose_spec (each i hi)
    refine ⟨some a, len, cap, f, hc, hl, by omega, ?_, Or.inr ⟨_, _, by rw [hxx], by simp⟩⟩
    by_cases h0 : len = 0
    · exact Or.inl h0
    · obtain ⟨b, off, rfl, hb⟩ := plain_of (a := a) (by have := (hf 0 (by omega)).1; rwa [Nat.zero_mul] at this)
      refine Or.inr ⟨b, off, rfl, hb, fun i hi => ?_⟩
      obtain ⟨k1, k2, k3, k4⟩ := hf i hi
      rw [Go.WideShapes.add_plain] at k1 k2 k3 k4
      rw [← Nat.add_assoc] at k2 k3 k4
      exact ⟨k1, k2, k3, k4⟩
set_option maxRecDepth 100000 in
theorem ext_bytes {ts : List TypeId} {ds : List (DataW H)} {len j : Nat} {d : DataW H} (h : (DataW.weightsEach Try.prog ts ds).all (· ≤ reachBytes) = true) (ht : ts[j]? = some 23) (hd : ds[j]? = some d) (hx : len = 0 ∨ ∃ els spr, d = .slice els spr ∧ els.length = len) : len * 40 ≤ 140737488355328 := by
  rcases hx with rfl | ⟨els, spr, rfl, rfl⟩
  · omega
  · have h1 := sized_slice h ht hd Try.underlying23
    have hb : Try.prog.bytesOf 42 = 40 := by kernel_rfl
    rw [hb] at h1
    have h2 := reachBytes_lt
    omega
set_option maxRecDepth 100000 in
theorem open_extV {r : Reach} {b0 : Nat} {v : Value} {d : DataW H} {ps : List MemPlace} (hv : Value.okWide Try.prog w r b0 42 v) (h : DataW.Trod enc Try.prog w 0 (fun _ => true) true 42 v d ps) : ∃ (k : Int) (nm : List UInt8) (a b : Int), v = .agg #[.int .i64 k, .string ⟨nm.toArray⟩, .int .i64 a, .int .i64 b] := by
  simp only [Value.okWide, Try.underlying42] at hv
  obtain ⟨cs, rfl, _, _⟩ := hv
  obtain ⟨fuel, hf⟩ := h
  obtain ⟨e, he⟩ := open_extH hf
  refine ⟨e.kind, e.name, e.wd, e.ht, ?_⟩
  obtain ⟨l⟩ := cs
  simp only [Value.cells] at he
  subst he
  rfl
end
end Go.Proofs.Ytaobaahofghkeaa
