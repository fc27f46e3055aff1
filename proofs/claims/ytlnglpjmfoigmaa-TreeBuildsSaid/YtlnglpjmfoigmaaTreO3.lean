/- Layer 4: how a builder's calls that come in are opened. -/
import Derived.Test.YtlnglpjmfoigmaaTreO
import Derived.Test.YtlnglpjmfoigmaaTreL7
namespace Go.Proofs.Ytlnglpjmfoigmaa
open Go.RowKit TreN TreP
section
variable {H : Type} {enc : TypeId × Value → H} {w : World}
theorem cells_op : Try.prog.cellsOf 47 = 7 := by kernel_rfl
def nd0 : Nd := ⟨0, ByteArray.empty, ByteArray.empty, none, 0, 0, none, 0, 0, ByteArray.empty, fun _ => ByteArray.empty, fun _ => ByteArray.empty, fun _ => ByteArray.empty⟩
set_option maxRecDepth 100000 in
theorem open_op {fuel : Nat} {cs : List Value} {x : DataW H × List MemPlace} (h : DataW.trod enc Try.prog w 0 (fun _ => true) true fuel 47 cs = some x) :
    ∃ (k : Int) (n : Nd), cs = .int .i64 k :: n.val.toList ∧ NdIn w n := by
  obtain ⟨xs, n', _, _, hcl, hx, hf⟩ := DataW.trod_struct Try.underlying47 h
  rw [cells_op] at hcl
  match cs, hcl with
  | [c0, c1, c2, c3, c4, c5, c6], _ =>
    match xs, hx with
    | [y0, y1], _ =>
      have g0 : DataW.trod enc Try.prog w 0 (fun _ => true) true n' 3 [c0] = some y0 := by
        have g := hf 0 _ rfl
        simpa [cells_int] using g
      have g1 : DataW.trod enc Try.prog w 0 (fun _ => true) true n' 39 [c1, c2, c3, c4, c5, c6] = some y1 := by
        have g := hf 1 _ rfl
        simpa [cells_nod] using g
      obtain ⟨p, hp, _, _⟩ := DataW.trod_int Try.underlying3 g0
      obtain ⟨n, hn, hin⟩ := open_node g1
      injection hp with hp
      subst hp
      exact ⟨p, n, by rw [hn], hin⟩
set_option maxRecDepth 100000 in
theorem open_ops {fuel : Nat} {c : Value} {x : DataW H × List MemPlace} (h : DataW.trod enc Try.prog w 0 (fun _ => true) true fuel 43 [c] = some x) :
    ∃ a len cap K L, c = .slice a len cap ∧ len ≤ maxLen ∧ Ops w a len K L := by
  rcases Go.Deep.open_slice Try.underlying43 h with ⟨hc, _⟩ | ⟨a, len, cap, m, n, D, Pl, hc, _, hl, hm, hmm, _, hi⟩
  · injection hc with hc
    exact ⟨none, 0, 0, fun _ => 0, fun _ => nd0, hc, Nat.zero_le _, Or.inl rfl⟩
  · injection hc with hc
    simp only [if_true] at hmm
    rw [cells_op] at hi
    have each : ∀ i, i < len → ∃ kn : Int × Nd, (∀ j, j < 7 → w.cell? (a.add (i * 7 + j)) = (Value.int .i64 kn.1 :: kn.2.val.toList)[j]?) ∧ NdIn w kn.2 := by
      intro i hi1
      obtain ⟨cs', h1, h2⟩ := hi i (by omega)
      obtain ⟨_, _, hat⟩ := World.cells?_some h1
      obtain ⟨k, n, hn, hin⟩ := open_op h2
      subst hn
      exact ⟨(k, n), fun j hj => by have := hat j hj; rw [Go.Deep.add_add] at this; exact this, hin⟩
    have : ∃ F : Nat → Int × Nd, ∀ i, i < len → (∀ j, j < 7 → w.cell? (a.add (i * 7 + j)) = (Value.int .i64 (F i).1 :: (F i).2.val.toList)[j]?) ∧ NdIn w (F i).2 := by
      refine ⟨fun i => if hi : i < len then Classical.choose (each i hi) else (0, nd0), fun i hi => ?_⟩
      simp only [dif_pos hi]
      exact Classical.choose_spec (each i hi)
    obtain ⟨F, hF⟩ := this
    refine ⟨some a, len, cap, fun i => (F i).1, fun i => (F i).2, hc, by omega, ?_⟩
    by_cases h0 : len = 0
    · exact Or.inl h0
    · obtain ⟨b, off, rfl, hb⟩ := plain_of (a := a) (v := .int .i64 (F 0).1) ((hF 0 (by omega)).1 0 (by omega))
      refine Or.inr ⟨b, off, rfl, hb, fun i hi => ?_⟩
      obtain ⟨hc, hin⟩ := hF i hi
      have hcj : ∀ j, j < 7 → w.cell? ⟨b, off + i * 7 + j, none⟩ = (Value.int .i64 (F i).1 :: (F i).2.val.toList)[j]? := fun j hj => by
        have := hc j hj
        rw [Go.WideShapes.add_plain, ← Nat.add_assoc] at this
        exact this
      exact ⟨hcj 0 (by omega), ⟨hcj 1 (by omega), hcj 2 (by omega), hcj 3 (by omega), hcj 4 (by omega), hcj 5 (by omega), hcj 6 (by omega)⟩, hin⟩
end
end Go.Proofs.Ytlnglpjmfoigmaa
