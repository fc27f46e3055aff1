/- Layer 9: how tokens (with their texts' bounds) and values that come in are opened. -/
import Derived.Test.YtbodmfbpmeapoaaGreatLexOp
import Derived.Test.YtbodmfbpmeapoaaGreatValR3
namespace Go.Proofs.YtbodmfbpmeapoaaGreat
open Go.ChangeShapes Go.WideShapes Go.ChangeAt Go.RowKit LexP ValP
section
variable {H : Type} {enc : TypeId × Value → H} {w : World}
theorem cells_val : Tryz.prog.cellsOf 23 = 4 := by kernel_rfl
set_option maxRecDepth 100000 in
/-- a token's three cells, its text no longer than may be -/
theorem open_tokB {fuel : Nat} {cs : List Value} {x : DataW H × List MemPlace} (h : DataW.trod enc Tryz.prog w 0 (fun _ => true) true fuel 58 cs = some x) :
    ∃ t : Tok, cs = [.int .i64 t.kind, .string ⟨t.text.toArray⟩, .int .i64 t.n] ∧ t.text.length ≤ maxLen := by
  obtain ⟨xs, n', _, _, hcl, hx, hf⟩ := DataW.trod_struct Tryz.underlying58 h
  rw [cells_tok] at hcl
  match cs, hcl with
  | [c0, c1, c2], _ =>
    match xs, hx with
    | [y0, y1, y2], _ =>
      have g0 : DataW.trod enc Tryz.prog w 0 (fun _ => true) true n' 3 [c0] = some y0 := by
        have g := hf 0 _ rfl
        simpa [cells_tint] using g
      have g1 : DataW.trod enc Tryz.prog w 0 (fun _ => true) true n' 9 [c1] = some y1 := by
        have g := hf 1 _ rfl
        simpa [cells_tstr] using g
      have g2 : DataW.trod enc Tryz.prog w 0 (fun _ => true) true n' 3 [c2] = some y2 := by
        have g := hf 2 _ rfl
        simpa [cells_tint] using g
      obtain ⟨k, hk, _, _⟩ := DataW.trod_int Tryz.underlying3 g0
      obtain ⟨s, hs, _, hsz⟩ := DataW.trod_string Tryz.underlying9 g1
      obtain ⟨n, hn, _, _⟩ := DataW.trod_int Tryz.underlying3 g2
      injection hk with hk
      injection hs with hs
      injection hn with hn
      subst hk; subst hs; subst hn
      exact ⟨⟨k, s.data.toList, n⟩, by rw [text_of], by show s.data.toList.length ≤ maxLen; simpa using hsz⟩
set_option maxRecDepth 100000 in
theorem open_toksB {fuel : Nat} {c : Value} {x : DataW H × List MemPlace} (h : DataW.trod enc Tryz.prog w 0 (fun _ => true) true fuel 26 [c] = some x) :
    ∃ a cap, ∃ l : List Tok, c = .slice a l.length cap ∧ l.length ≤ cap ∧ cap ≤ maxLen ∧ Tks w a l ∧ TxOk l := by
  rcases Go.Deep.open_slice Tryz.underlying26 h with ⟨hc, _⟩ | ⟨a, len, cap, m, n, D, Pl, hc, _, hl, hm, hmm, _, hi⟩
  · injection hc with hc
    exact ⟨none, 0, [], hc, Nat.le_refl _, Nat.zero_le _, Or.inl rfl, fun t ht => by cases ht⟩
  · injection hc with hc
    simp only [if_true] at hmm
    rw [cells_tok] at hi
    have each : ∀ i, i < len → ∃ t : Tok, w.cell? (a.add (i * 3)) = some (.int .i64 t.kind) ∧ w.cell? (a.add (i * 3 + 1)) = some (.string ⟨t.text.toArray⟩) ∧ w.cell? (a.add (i * 3 + 2)) = some (.int .i64 t.n) ∧ t.text.length ≤ maxLen := by
      intro i hi1
      obtain ⟨cs', h1, h2⟩ := hi i (by omega)
      obtain ⟨_, _, hat⟩ := World.cells?_some h1
      obtain ⟨t, ht, htl⟩ := open_tokB h2
      subst ht
      have k := fun j (hj : j < 3) => by have := hat j hj; rw [Go.Deep.add_add] at this; exact this
      exact ⟨t, k 0 (by omega), k 1 (by omega), k 2 (by omega), htl⟩
    obtain ⟨f, hf⟩ : ∃ f : Nat → Tok, ∀ i, i < len → w.cell? (a.add (i * 3)) = some (.int .i64 (f i).kind) ∧ w.cell? (a.add (i * 3 + 1)) = some (.string ⟨(f i).text.toArray⟩) ∧ w.cell? (a.add (i * 3 + 2)) = some (.int .i64 (f i).n) ∧ (f i).text.length ≤ maxLen := by
      refine ⟨fun i => if hi : i < len then Classical.choose (each i hi) else ⟨0, [], 0⟩, fun i hi => ?_⟩
      simp only [dif_pos hi]
      exact Classical.choose_spec (each i hi)
    have hlen : ((List.range len).map f).length = len := by simp
    refine ⟨some a, cap, (List.range len).map f, by rw [hlen]; exact hc, by rw [hlen]; exact hl, by omega, ?_, fun t ht => ?_⟩
    · by_cases h0 : len = 0
      · left; rw [h0]; rfl
      · obtain ⟨b, off, rfl, hb⟩ := plain_at (a := a) (by have := (hf 0 (by omega)).1; rwa [Nat.zero_mul] at this)
        refine Or.inr ⟨b, off, rfl, hb, fun i hi => ?_⟩
        rw [hlen] at hi
        have e : ((List.range len).map f)[i] = f i := by simp
        obtain ⟨k1, k2, k3, _⟩ := hf i hi
        rw [Go.WideShapes.add_plain] at k1 k2 k3
        rw [← Nat.add_assoc] at k2 k3
        rw [e]
        exact ⟨k1, k2, k3⟩
    · obtain ⟨i, hi, rfl⟩ := List.mem_map.1 ht
      exact (hf i (List.mem_range.1 hi)).2.2.2
set_option maxRecDepth 100000 in
/-- a value's four cells -/
theorem open_val {fuel : Nat} {cs : List Value} {x : DataW H × List MemPlace} (h : DataW.trod enc Tryz.prog w 0 (fun _ => true) true fuel 23 cs = some x) :
    ∃ v : Val, cs = [.int .i64 v.kind, .int .i64 v.n, .int .i64 v.d, .string ⟨v.name.toArray⟩] ∧ v.name.length ≤ maxLen := by
  obtain ⟨xs, n', _, _, hcl, hx, hf⟩ := DataW.trod_struct Tryz.underlying23 h
  rw [cells_val] at hcl
  match cs, hcl with
  | [c0, c1, c2, c3], _ =>
    match xs, hx with
    | [y0, y1, y2, y3], _ =>
      have g0 : DataW.trod enc Tryz.prog w 0 (fun _ => true) true n' 3 [c0] = some y0 := by
        have g := hf 0 _ rfl
        simpa [cells_tint] using g
      have g1 : DataW.trod enc Tryz.prog w 0 (fun _ => true) true n' 3 [c1] = some y1 := by
        have g := hf 1 _ rfl
        simpa [cells_tint] using g
      have g2 : DataW.trod enc Tryz.prog w 0 (fun _ => true) true n' 3 [c2] = some y2 := by
        have g := hf 2 _ rfl
        simpa [cells_tint] using g
      have g3 : DataW.trod enc Tryz.prog w 0 (fun _ => true) true n' 9 [c3] = some y3 := by
        have g := hf 3 _ rfl
        simpa [cells_tint, cells_tstr] using g
      obtain ⟨k, hk, _, _⟩ := DataW.trod_int Tryz.underlying3 g0
      obtain ⟨n, hn, _, _⟩ := DataW.trod_int Tryz.underlying3 g1
      obtain ⟨d, hd, _, _⟩ := DataW.trod_int Tryz.underlying3 g2
      obtain ⟨s, hs, _, hsz⟩ := DataW.trod_string Tryz.underlying9 g3
      injection hk with hk
      injection hs with hs
      injection hn with hn
      injection hd with hd
      subst hk; subst hs; subst hn; subst hd
      exact ⟨⟨k, n, d, s.data.toList⟩, by rw [text_of], by show s.data.toList.length ≤ maxLen; simpa using hsz⟩
set_option maxRecDepth 100000 in
theorem open_valV {r : Reach} {b0 : Nat} {v : Value} {d : DataW H} {ps : List MemPlace} (hv : Value.okWide Tryz.prog w r b0 23 v) (h : DataW.Trod enc Tryz.prog w 0 (fun _ => true) true 23 v d ps) : ∃ u : Val, v = .agg #[.int .i64 u.kind, .int .i64 u.n, .int .i64 u.d, .string ⟨u.name.toArray⟩] ∧ u.name.length ≤ maxLen := by
  simp only [Value.okWide, Tryz.underlying23] at hv
  obtain ⟨cs, rfl, _, _⟩ := hv
  obtain ⟨fuel, hf⟩ := h
  obtain ⟨u, hu, hl⟩ := open_val hf
  refine ⟨u, ?_, hl⟩
  obtain ⟨l⟩ := cs
  simp only [Value.cells] at hu
  subst hu
  rfl
theorem cells_tboolB : Tryz.prog.cellsOf 4 = 1 := by kernel_rfl
theorem cells_declB : Tryz.prog.cellsOf 25 = 6 := by kernel_rfl
set_option maxRecDepth 100000 in
/-- a declaration's six cells -/
theorem open_decl {fuel : Nat} {cs : List Value} {x : DataW H × List MemPlace} (h : DataW.trod enc Tryz.prog w 0 (fun _ => true) true fuel 25 cs = some x) :
    ∃ (p : Int) (v : Val) (b : Bool), cs = [.int .i64 p, .int .i64 v.kind, .int .i64 v.n, .int .i64 v.d, .string ⟨v.name.toArray⟩, .bool b] ∧ v.name.length ≤ maxLen := by
  obtain ⟨xs, n', _, _, hcl, hx, hf⟩ := DataW.trod_struct Tryz.underlying25 h
  rw [cells_declB] at hcl
  match cs, hcl with
  | [c0, c1, c2, c3, c4, c5], _ =>
    match xs, hx with
    | [y0, y1, y2], _ =>
      have g0 : DataW.trod enc Tryz.prog w 0 (fun _ => true) true n' 3 [c0] = some y0 := by
        have g := hf 0 _ rfl
        simpa [cells_tint] using g
      have g1 : DataW.trod enc Tryz.prog w 0 (fun _ => true) true n' 23 [c1, c2, c3, c4] = some y1 := by
        have g := hf 1 _ rfl
        simpa [cells_tint, cells_val] using g
      have g2 : DataW.trod enc Tryz.prog w 0 (fun _ => true) true n' 4 [c5] = some y2 := by
        have g := hf 2 _ rfl
        simpa [cells_tint, cells_val, cells_tboolB] using g
      obtain ⟨k, hk, _, _⟩ := DataW.trod_int Tryz.underlying3 g0
      obtain ⟨v, hv, hl⟩ := open_val g1
      obtain ⟨b, hb, _⟩ := DataW.trod_bool Tryz.underlying4 g2
      injection hk with hk
      injection hb with hb
      injection hv with v1 hv
      injection hv with v2 hv
      injection hv with v3 hv
      injection hv with v4 hv
      subst hk; subst hb; subst v1; subst v2; subst v3; subst v4
      exact ⟨k, v, b, rfl, hl⟩
set_option maxRecDepth 100000 in
theorem open_declV {r : Reach} {b0 : Nat} {v : Value} {d : DataW H} {ps : List MemPlace} (hv : Value.okWide Tryz.prog w r b0 25 v) (h : DataW.Trod enc Tryz.prog w 0 (fun _ => true) true 25 v d ps) : ∃ (p : Int) (u : Val) (b : Bool), v = .agg #[.int .i64 p, .int .i64 u.kind, .int .i64 u.n, .int .i64 u.d, .string ⟨u.name.toArray⟩, .bool b] ∧ u.name.length ≤ maxLen := by
  simp only [Value.okWide, Tryz.underlying25] at hv
  obtain ⟨cs, rfl, _, _⟩ := hv
  obtain ⟨fuel, hf⟩ := h
  obtain ⟨p, u, b, hu, hl⟩ := open_decl hf
  refine ⟨p, u, b, ?_, hl⟩
  obtain ⟨l⟩ := cs
  simp only [Value.cells] at hu
  subst hu
  rfl
set_option maxRecDepth 100000 in
/-- a list of values that came in -/
theorem open_vals {fuel : Nat} {c : Value} {x : DataW H × List MemPlace} (h : DataW.trod enc Tryz.prog w 0 (fun _ => true) true fuel 49 [c] = some x) :
    ∃ a cap, ∃ l : List Val, c = .slice a l.length cap ∧ l.length ≤ cap ∧ cap ≤ maxLen ∧ Vs w a l ∧ ∀ v ∈ l, v.name.length ≤ maxLen := by
  rcases Go.Deep.open_slice Tryz.underlying49 h with ⟨hc, _⟩ | ⟨a, len, cap, m, n, D, Pl, hc, _, hl, hm, hmm, _, hi⟩
  · injection hc with hc
    exact ⟨none, 0, [], hc, Nat.le_refl _, Nat.zero_le _, Or.inl rfl, fun t ht => by cases ht⟩
  · injection hc with hc
    simp only [if_true] at hmm
    rw [cells_val] at hi
    have each : ∀ i, i < len → ∃ t : Val, w.cell? (a.add (i * 4)) = some (.int .i64 t.kind) ∧ w.cell? (a.add (i * 4 + 1)) = some (.int .i64 t.n) ∧ w.cell? (a.add (i * 4 + 2)) = some (.int .i64 t.d) ∧ w.cell? (a.add (i * 4 + 3)) = some (.string ⟨t.name.toArray⟩) ∧ t.name.length ≤ maxLen := by
      intro i hi1
      obtain ⟨cs', h1, h2⟩ := hi i (by omega)
      obtain ⟨_, _, hat⟩ := World.cells?_some h1
      obtain ⟨t, ht, htl⟩ := open_val h2
      subst ht
      have k := fun j (hj : j < 4) => by have := hat j hj; rw [Go.Deep.add_add] at this; exact this
      exact ⟨t, k 0 (by omega), k 1 (by omega), k 2 (by omega), k 3 (by omega), htl⟩
    obtain ⟨f, hf⟩ : ∃ f : Nat → Val, ∀ i, i < len → w.cell? (a.add (i * 4)) = some (.int .i64 (f i).kind) ∧ w.cell? (a.add (i * 4 + 1)) = some (.int .i64 (f i).n) ∧ w.cell? (a.add (i * 4 + 2)) = some (.int .i64 (f i).d) ∧ w.cell? (a.add (i * 4 + 3)) = some (.string ⟨(f i).name.toArray⟩) ∧ (f i).name.length ≤ maxLen := by
      refine ⟨fun i => if hi : i < len then Classical.choose (each i hi) else ⟨0, 0, 0, []⟩, fun i hi => ?_⟩
      simp only [dif_pos hi]
      exact Classical.choose_spec (each i hi)
    have hlen : ((List.range len).map f).length = len := by simp
    refine ⟨some a, cap, (List.range len).map f, by rw [hlen]; exact hc, by rw [hlen]; exact hl, by omega, ?_, fun t ht => ?_⟩
    · by_cases h0 : len = 0
      · left; rw [h0]; rfl
      · obtain ⟨b, off, rfl, hb⟩ := plain_at (a := a) (by have := (hf 0 (by omega)).1; rwa [Nat.zero_mul] at this)
        refine Or.inr ⟨b, off, rfl, hb, fun i hi => ?_⟩
        rw [hlen] at hi
        have e : ((List.range len).map f)[i] = f i := by simp
        obtain ⟨k1, k2, k3, k4, _⟩ := hf i hi
        rw [Go.WideShapes.add_plain] at k1 k2 k3 k4
        rw [← Nat.add_assoc] at k2 k3 k4
        rw [e]
        exact ⟨k1, k2, k3, k4⟩
    · obtain ⟨i, hi, rfl⟩ := List.mem_map.1 ht
      exact (hf i (List.mem_range.1 hi)).2.2.2.2
end
end Go.Proofs.YtbodmfbpmeapoaaGreat
