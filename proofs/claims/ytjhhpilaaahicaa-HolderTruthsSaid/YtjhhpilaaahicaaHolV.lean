/- Layer 15: how a list of queries that comes in is opened. -/
import Derived.Test.YtjhhpilaaahicaaHolU
namespace Go.Proofs.Ytjhhpilaaahicaa
open Go.ChangeShapes Go.WideShapes Go.ChangeAt Go.RowKit FixM FixP QryP
section
variable {H : Type} {enc : TypeId × Value → H} {w : World}
set_option maxRecDepth 100000 in
theorem open_qrs {fuel : Nat} {c : Value} {x : DataW H × List MemPlace} (h : DataW.trod enc Try.prog w 0 (fun _ => true) true fuel 56 [c] = some x) :
    ∃ a len cap, ∃ Q : Nat → QV, c = .slice a len cap ∧ len ≤ cap ∧ cap ≤ maxLen ∧ Qrs w a len Q := by
  rcases Go.Deep.open_slice Try.underlying56 h with ⟨hc, _⟩ | ⟨a, len, cap, m, n, D, Pl, hc, _, hl, hm, hmm, _, hi⟩
  · injection hc with hc
    exact ⟨none, 0, 0, fun _ => ⟨[], none, 0, 0, []⟩, hc, Nat.le_refl _, Nat.zero_le _, Or.inl rfl⟩
  · injection hc with hc
    simp only [if_true] at hmm
    rw [cells_qrQ] at hi
    have each : ∀ i, i < len → ∃ q : QV, w.cell? (a.add (i * 2)) = some (.string ⟨q.nm.toArray⟩) ∧ w.cell? (a.add (i * 2 + 1)) = some (.slice q.ad q.n q.c) ∧ QOk w q := by
      intro i hi1
      obtain ⟨cs', h1, h2⟩ := hi i (by omega)
      obtain ⟨_, _, hat⟩ := World.cells?_some h1
      obtain ⟨t, ht, hok⟩ := open_qrc h2
      subst ht
      have k := fun j (hj : j < 2) => by have := hat j hj; rw [Go.Deep.add_add] at this; exact this
      exact ⟨t, k 0 (by omega), k 1 (by omega), hok⟩
    obtain ⟨f, hf⟩ : ∃ f : Nat → QV, ∀ i, i < len → w.cell? (a.add (i * 2)) = some (.string ⟨(f i).nm.toArray⟩) ∧ w.cell? (a.add (i * 2 + 1)) = some (.slice (f i).ad (f i).n (f i).c) ∧ QOk w (f i) := by
      refine ⟨fun i => if hi : i < len then Classical.choose (each i hi) else ⟨[], none, 0, 0, []⟩, fun i hi => ?_⟩
      simp only [dif_pos hi]
      exact Classical.choose_spec (each i hi)
    refine ⟨some a, len, cap, f, hc, hl, by omega, ?_⟩
    by_cases h0 : len = 0
    · exact Or.inl h0
    · obtain ⟨b, off, rfl, hb⟩ := plainQ (a := a) (by have := (hf 0 (by omega)).1; rwa [Nat.zero_mul] at this)
      refine Or.inr ⟨b, off, rfl, hb, fun i hi => ?_⟩
      obtain ⟨k1, k2, k3⟩ := hf i hi
      rw [Go.WideShapes.add_plain] at k1 k2
      rw [← Nat.add_assoc] at k2
      exact ⟨k1, k2, k3.ns, k3.ln, k3.bd, k3.nb⟩
end
end Go.Proofs.Ytjhhpilaaahicaa
