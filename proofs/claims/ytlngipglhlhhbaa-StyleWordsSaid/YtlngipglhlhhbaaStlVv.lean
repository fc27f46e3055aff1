/- Joined texts: StlV StlVb. -/
import Derived.Test.YtlngipglhlhhbaaStlO
import Derived.SizedLaws
namespace Go.Proofs.Ytlngipglhlhhbaa
theorem text_ofV (s : ByteArray) : (⟨s.data.toList.toArray⟩ : ByteArray) = s := by cases s; simp
open Go.ChangeShapes Go.WideShapes Go.ChangeAt Go.RowKit TreN LexP FixP SynP ValP PropP FixM
set_option linter.unusedVariables false
section
variable {H : Type} {enc : TypeId × Value → H} {w : World}
theorem cells_val : Try.prog.cellsOf 34 = 4 := by kernel_rfl
theorem plain_at {a : Addr} {v : Value} (h : w.cell? (a.add 0) = some v) : ∃ b off, a = ⟨b, off, none⟩ ∧ b < w.heap.size := by
  obtain ⟨b, off, spot⟩ := a
  have hspot : spot = none := by simpa [Addr.add] using World.cell?_spot h
  subst hspot
  have hl := World.block_lt_of_cell? w _ h
  rw [Go.WideShapes.add_plain] at hl
  exact ⟨b, off, rfl, hl⟩
set_option maxRecDepth 100000 in
/-- a value's four cells -/
theorem open_val {fuel : Nat} {cs : List Value} {x : DataW H × List MemPlace} (h : DataW.trod enc Try.prog w 0 (fun _ => true) true fuel 34 cs = some x) :
    ∃ v : Val, cs = [.int .i64 v.kind, .int .i64 v.n, .int .i64 v.d, .string ⟨v.name.toArray⟩] ∧ v.name.length ≤ maxLen := by
  obtain ⟨xs, n', _, _, hcl, hx, hf⟩ := DataW.trod_struct Try.underlying34 h
  rw [cells_val] at hcl
  match cs, hcl with
  | [c0, c1, c2, c3], _ =>
    match xs, hx with
    | [y0, y1, y2, y3], _ =>
      have g0 : DataW.trod enc Try.prog w 0 (fun _ => true) true n' 3 [c0] = some y0 := by
        have g := hf 0 _ rfl
        simpa [cells_int17] using g
      have g1 : DataW.trod enc Try.prog w 0 (fun _ => true) true n' 3 [c1] = some y1 := by
        have g := hf 1 _ rfl
        simpa [cells_int17] using g
      have g2 : DataW.trod enc Try.prog w 0 (fun _ => true) true n' 3 [c2] = some y2 := by
        have g := hf 2 _ rfl
        simpa [cells_int17] using g
      have g3 : DataW.trod enc Try.prog w 0 (fun _ => true) true n' 9 [c3] = some y3 := by
        have g := hf 3 _ rfl
        simpa [cells_int17, cells_str17] using g
      obtain ⟨k, hk, _, _⟩ := DataW.trod_int Try.underlying3 g0
      obtain ⟨n, hn, _, _⟩ := DataW.trod_int Try.underlying3 g1
      obtain ⟨d, hd, _, _⟩ := DataW.trod_int Try.underlying3 g2
      obtain ⟨s, hs, _, hsz⟩ := DataW.trod_string Try.underlying9 g3
      injection hk with hk
      injection hs with hs
      injection hn with hn
      injection hd with hd
      subst hk; subst hs; subst hn; subst hd
      exact ⟨⟨k, n, d, s.data.toList⟩, by rw [text_ofV], by show s.data.toList.length ≤ maxLen; simpa using hsz⟩
set_option maxRecDepth 100000 in
/-- a list of values that came in -/
theorem open_vals {fuel : Nat} {c : Value} {x : DataW H × List MemPlace} (h : DataW.trod enc Try.prog w 0 (fun _ => true) true fuel 32 [c] = some x) :
    ∃ a cap, ∃ l : List Val, c = .slice a l.length cap ∧ l.length ≤ cap ∧ cap ≤ maxLen ∧ Vs w a l ∧ ∀ v ∈ l, v.name.length ≤ maxLen := by
  rcases Go.Deep.open_slice Try.underlying32 h with ⟨hc, _⟩ | ⟨a, len, cap, m, n, D, Pl, hc, _, hl, hm, hmm, _, hi⟩
  · injection hc with hc
    exact ⟨none, 0, [], hc, Nat.le_refl _, Nat.zero_le _, Or.inl rfl, fun t ht => by cases ht⟩
  · injection hc with hc
    simp only [if_true] at hmm
    rw [cells_val] at hi
    have each : ∀ i, i < len → ∃ t : Val, w.cell? (a.add (i * 4)) = some (.int .i64 t.kind) ∧ w.cell? (a.add (i * 4 + 1)) = some (.int .i64 t.n) ∧ w.cell? (a.add (i * 4 + 2)) = some (.int .i64 t.d) ∧ w.cell? (a.add (i * 4 + 3)) = some (.string ⟨t.name.toArray⟩) ∧ t.name.length ≤ maxLen := by
      intro i hi1
      obtain ⟨cs', h1, h2⟩ := hi i (by omega)
      obtain ⟨_, _, hat⟩ := World.cells?_some h1
      obtain ⟨t, ht, htl⟩ := open_val h2
      subst ht
      have k := fun j (hj : j < 4) => by have := hat j hj; rw [Go.Deep.add_add] at this; exact this
      exact ⟨t, k 0 (by omega), k 1 (by omega), k 2 (by omega), k 3 (by omega), htl⟩
    obtain ⟨f, hf⟩ : ∃ f : Nat → Val, ∀ i, i < len → w.cell? (a.add (i * 4)) = some (.int .i64 (f i).kind) ∧ w.cell? (a.add (i * 4 + 1)) = some (.int .i64 (f i).n) ∧ w.cell? (a.add (i * 4 + 2)) = some (.int .i64 (f i).d) ∧ w.cell? (a.add (i * 4 + 3)) = some (.string ⟨(f i).name.toArray⟩) ∧ (f i).name.length ≤ maxLen := by
      refine ⟨fun i => if hi : i < len then Classical.choose (each i hi) else ⟨0, 0, 0, []⟩, fun i hi => ?_⟩
      simp only [dif_pos hi]
      exact Classical.choose_spec (each i hi)
    have hlen : ((List.range len).map f).length = len := by simp
    refine ⟨some a, cap, (List.range len).map f, by rw [hlen]; exact hc, by rw [hlen]; exact hl, by omega, ?_, fun t ht => ?_⟩
    · by_cases h0 : len = 0
      · left; rw [h0]; rfl
      · obtain ⟨b, off, rfl, hb⟩ := plain_at (a := a) (by have := (hf 0 (by omega)).1; rwa [Nat.zero_mul] at this)
        refine Or.inr ⟨b, off, rfl, hb, fun i hi => ?_⟩
        rw [hlen] at hi
        have e : ((List.range len).map f)[i] = f i := by simp
        obtain ⟨k1, k2, k3, k4, _⟩ := hf i hi
        rw [Go.WideShapes.add_plain] at k1 k2 k3 k4
        rw [← Nat.add_assoc] at k2 k3 k4
        rw [e]
        exact ⟨k1, k2, k3, k4⟩
    · obtain ⟨i, hi, rfl⟩ := List.mem_map.1 ht
      exact (hf i (List.mem_range.1 hi)).2.2.2.2
theorem open_told {fuel : Nat} {c : Value} {x : DataW H × List MemPlace} (h : DataW.trod enc Try.prog w 0 (fun _ => true) true fuel 32 [c] = some x) :
    ∃ a n cap L, c = .slice a n cap ∧ n ≤ cap ∧ cap ≤ maxLen ∧ Td w a n L := by
  obtain ⟨a, cap, L, hc, h1, h2, h3, h4⟩ := open_vals h
  exact ⟨a, L.length, cap, L, hc, h1, h2, rfl, h3, h4⟩
end
end Go.Proofs.Ytlngipglhlhhbaa

namespace Go.Proofs.Ytlngipglhlhhbaa
open Go.RowKit TreN LexP FixP SynP ValP PropP FixM
set_option linter.unusedVariables false
section
variable {H : Type} {enc : TypeId × Value → H} {w : World}
set_option maxRecDepth 100000 in
theorem told_data {fuel : Nat} {a : Option Addr} {n cap : Nat} {x : DataW H × List MemPlace} (h : DataW.trod enc Try.prog w 0 (fun _ => true) true fuel 32 [.slice a n cap] = some x) : n = 0 ∨ ∃ els spr, x.1 = .slice els spr ∧ els.length = n := by
  rcases Go.Deep.open_slice Try.underlying32 h with ⟨hc, _⟩ | ⟨a', len, cap', m, q, D, Pl, hc, _, hl, hm, hmm, hxx, hi⟩
  · injection hc with hc
    injection hc with h1 h2 h3
    exact Or.inl h2
  · injection hc with hc
    injection hc with h1 h2 h3
    subst h2
    simp only [if_true] at hmm
    exact Or.inr ⟨_, _, by rw [hxx], by simp⟩
theorem val_bytes {ts : List TypeId} {ds : List (DataW H)} {len j : Nat} {d : DataW H} (h : (DataW.weightsEach Try.prog ts ds).all (· ≤ reachBytes) = true) (ht : ts[j]? = some 32) (hd : ds[j]? = some d) (hx : len = 0 ∨ ∃ els spr, d = .slice els spr ∧ els.length = len) : len * 40 ≤ 140737488355328 := by
  rcases hx with rfl | ⟨els, spr, rfl, rfl⟩
  · omega
  · have h1 := sized_slice h ht hd Try.underlying32
    have hb : Try.prog.bytesOf 34 = 40 := by kernel_rfl
    rw [hb] at h1
    have h2 := reachBytes_lt
    omega
theorem open_valV17 {r : Reach} {b0 : Nat} {v : Value} {d : DataW H} {ps : List MemPlace} (hv : Value.okWide Try.prog w r b0 34 v) (h : DataW.Trod enc Try.prog w 0 (fun _ => true) true 34 v d ps) : ∃ u : Val, v = .agg #[.int .i64 u.kind, .int .i64 u.n, .int .i64 u.d, .string ⟨u.name.toArray⟩] ∧ u.name.length ≤ maxLen := by
  simp only [Value.okWide, Try.underlying34] at hv
  obtain ⟨cs, rfl, _, _⟩ := hv
  obtain ⟨fuel, hf⟩ := h
  obtain ⟨u, hu, hl⟩ := open_val hf
  refine ⟨u, ?_, hl⟩
  obtain ⟨l⟩ := cs
  simp only [Value.cells] at hu
  subst hu
  rfl
end
end Go.Proofs.Ytlngipglhlhhbaa
