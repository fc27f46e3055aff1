/- Nodes that come in: from how an argument reads to what the walks are told. -/
import Derived.Test.YtjhhpilaaahicaaTreC
import Derived.OpenShut
import Derived.SliceStrings
import Derived.Deep.Slices
import Derived.Deep.Fields
namespace Go.Proofs.Ytjhhpilaaahicaa
open Go.RowKit TreN TreP

section
variable {H : Type} {enc : TypeId × Value → H} {w : World}

set_option maxRecDepth 100000 in
/-- a plain address, where there is a cell -/
theorem plain_of {a : Addr} {v : Value} (h : w.cell? (a.add 0) = some v) : ∃ b off, a = ⟨b, off, none⟩ ∧ b < w.heap.size := by
  obtain ⟨b, off, spot⟩ := a
  have hspot : spot = none := by simpa [Addr.add] using World.cell?_spot h
  subst hspot
  have hl := World.block_lt_of_cell? w _ h
  rw [Go.WideShapes.add_plain] at hl
  exact ⟨b, off, rfl, hl⟩

set_option maxRecDepth 100000 in
theorem cells_str : Try.prog.cellsOf 9 = 1 := by kernel_rfl
set_option maxRecDepth 100000 in
theorem cells_int : Try.prog.cellsOf 3 = 1 := by kernel_rfl
set_option maxRecDepth 100000 in
theorem cells_cls : Try.prog.cellsOf 82 = 1 := by kernel_rfl
set_option maxRecDepth 100000 in
theorem cells_ats : Try.prog.cellsOf 83 = 1 := by kernel_rfl
set_option maxRecDepth 100000 in
theorem cells_att : Try.prog.cellsOf 199 = 2 := by kernel_rfl
set_option maxRecDepth 100000 in
theorem cells_nod : Try.prog.cellsOf 85 = 6 := by kernel_rfl

set_option maxRecDepth 100000 in
theorem open_strs {fuel : Nat} {c : Value} {x : DataW H × List MemPlace} (h : DataW.trod enc Try.prog w 0 (fun _ => true) true fuel 82 [c] = some x) :
    ∃ a len cap cs, c = .slice a len cap ∧ len ≤ maxLen ∧ (∀ i, i < len → (cs i : ByteArray).size ≤ maxLen) ∧ Strs w a len cs := by
  rcases Go.ChangeShapes.open_strings Try.underlying82 Try.underlying9 cells_str h with ⟨hc, _⟩ | ⟨a, len, cap, ss, hc, _, hl, hm, hs, _, hcell, hsz⟩
  · injection hc with hc
    exact ⟨none, 0, 0, fun _ => ByteArray.empty, hc, Nat.zero_le _, fun i hi => absurd hi (Nat.not_lt_zero i), Or.inl rfl⟩
  · injection hc with hc
    simp only [if_true] at hs
    refine ⟨some a, len, cap, fun i => ss.getD i ByteArray.empty, hc, by omega, fun i hi => ?_, ?_⟩
    · show (ss.getD i ByteArray.empty).size ≤ maxLen
      rw [List.getD_eq_getElem?_getD, List.getElem?_eq_getElem (by omega)]
      exact hsz _ (List.getElem_mem _)
    · by_cases h0 : len = 0
      · exact Or.inl h0
      · obtain ⟨b, off, rfl, hb⟩ := plain_of (hcell 0 (by omega))
        exact Or.inr ⟨b, off, rfl, hb, fun i hi => by rw [← Go.WideShapes.add_plain]; exact hcell i (by omega)⟩

set_option maxRecDepth 100000 in
theorem open_atts {fuel : Nat} {c : Value} {x : DataW H × List MemPlace} (h : DataW.trod enc Try.prog w 0 (fun _ => true) true fuel 83 [c] = some x) :
    ∃ a len cap cs ds, c = .slice a len cap ∧ len ≤ maxLen ∧ (∀ i, i < len → (cs i : ByteArray).size ≤ maxLen) ∧ (∀ i, i < len → (ds i : ByteArray).size ≤ maxLen) ∧ Atts w a len cs ds := by
  rcases Go.Deep.open_slice Try.underlying83 h with ⟨hc, _⟩ | ⟨a, len, cap, m, n, D, Pl, hc, _, hl, hm, hmm, _, hi⟩
  · injection hc with hc
    exact ⟨none, 0, 0, fun _ => ByteArray.empty, fun _ => ByteArray.empty, hc, Nat.zero_le _, fun i hi => absurd hi (Nat.not_lt_zero i), fun i hi => absurd hi (Nat.not_lt_zero i), Or.inl rfl⟩
  · injection hc with hc
    simp only [if_true] at hmm
    rw [cells_att] at hi
    have each : ∀ i, i < len → ∃ s t : ByteArray, w.cell? (a.add (i * 2)) = some (.string s) ∧ w.cell? (a.add (i * 2 + 1)) = some (.string t) ∧ s.size ≤ maxLen ∧ t.size ≤ maxLen := by
      intro i hi1
      obtain ⟨cs', h1, h2⟩ := hi i (by omega)
      obtain ⟨_, hcl, hat⟩ := World.cells?_some h1
      obtain ⟨xs, n', _, _, _, hx, hf⟩ := DataW.trod_struct Try.underlying199 h2
      match cs', hcl with
      | [c0, c1], _ =>
        match xs, hx with
        | [y0, y1], _ =>
          have g0 : DataW.trod enc Try.prog w 0 (fun _ => true) true n' 9 [c0] = some y0 := by
            have g := hf 0 _ rfl
            simpa [cells_str] using g
          have g1 : DataW.trod enc Try.prog w 0 (fun _ => true) true n' 9 [c1] = some y1 := by
            have g := hf 1 _ rfl
            simpa [cells_str] using g
          obtain ⟨s, hs, _, hs2⟩ := DataW.trod_string Try.underlying9 g0
          obtain ⟨t, ht, _, ht2⟩ := DataW.trod_string Try.underlying9 g1
          injection hs with hs
          injection ht with ht
          subst hs; subst ht
          refine ⟨s, t, ?_, ?_, hs2, ht2⟩
          · have := hat 0 (by omega)
            rw [Go.Deep.add_add] at this
            exact this
          · have := hat 1 (by omega)
            rw [Go.Deep.add_add] at this
            exact this
    have : ∃ f : Nat → ByteArray × ByteArray, ∀ i, i < len → w.cell? (a.add (i * 2)) = some (.string (f i).1) ∧ w.cell? (a.add (i * 2 + 1)) = some (.string (f i).2) ∧ (f i).1.size ≤ maxLen ∧ (f i).2.size ≤ maxLen := by
      refine ⟨fun i => if hi : i < len then (Classical.choose (each i hi), Classical.choose (Classical.choose_spec (each i hi))) else (ByteArray.empty, ByteArray.empty), fun i hi => ?_⟩
      simp only [dif_pos hi]
      exact Classical.choose_spec (Classical.choose_spec (each i hi))
    obtain ⟨f, hf⟩ := this
    refine ⟨some a, len, cap, fun i => (f i).1, fun i => (f i).2, hc, by omega, fun i hi => (hf i hi).2.2.1, fun i hi => (hf i hi).2.2.2, ?_⟩
    by_cases h0 : len = 0
    · exact Or.inl h0
    · obtain ⟨b, off, rfl, hb⟩ := plain_of (by have := (hf 0 (by omega)).1; simpa using this)
      exact Or.inr ⟨b, off, rfl, hb, fun i hi => by
        have := hf i hi
        rw [Go.WideShapes.add_plain, Go.WideShapes.add_plain, ← Nat.add_assoc] at this
        exact ⟨this.1, this.2.1⟩⟩

set_option maxRecDepth 100000 in
/-- a node's six cells -/
theorem open_node {fuel : Nat} {cs : List Value} {x : DataW H × List MemPlace} (h : DataW.trod enc Try.prog w 0 (fun _ => true) true fuel 85 cs = some x) :
    ∃ n : Nd, cs = n.val.toList ∧ NdIn w n := by
  obtain ⟨xs, n', _, _, hcl, hx, hf⟩ := DataW.trod_struct Try.underlying85 h
  rw [cells_nod] at hcl
  match cs, hcl with
  | [c0, c1, c2, c3, c4, c5], _ =>
    match xs, hx with
    | [y0, y1, y2, y3, y4, y5], _ =>
      have g0 : DataW.trod enc Try.prog w 0 (fun _ => true) true n' 3 [c0] = some y0 := by
        have g := hf 0 _ rfl
        simpa [cells_int] using g
      have g1 : DataW.trod enc Try.prog w 0 (fun _ => true) true n' 9 [c1] = some y1 := by
        have g := hf 1 _ rfl
        simpa [cells_str] using g
      have g2 : DataW.trod enc Try.prog w 0 (fun _ => true) true n' 9 [c2] = some y2 := by
        have g := hf 2 _ rfl
        simpa [cells_str] using g
      have g3 : DataW.trod enc Try.prog w 0 (fun _ => true) true n' 82 [c3] = some y3 := by
        have g := hf 3 _ rfl
        simpa [cells_cls] using g
      have g4 : DataW.trod enc Try.prog w 0 (fun _ => true) true n' 83 [c4] = some y4 := by
        have g := hf 4 _ rfl
        simpa [cells_ats] using g
      have g5 : DataW.trod enc Try.prog w 0 (fun _ => true) true n' 9 [c5] = some y5 := by
        have g := hf 5 _ rfl
        simpa [cells_str] using g
      obtain ⟨p, hp, _, _⟩ := DataW.trod_int Try.underlying3 g0
      obtain ⟨s1, hs1, _, z1⟩ := DataW.trod_string Try.underlying9 g1
      obtain ⟨s2, hs2, _, z2⟩ := DataW.trod_string Try.underlying9 g2
      obtain ⟨s5, hs5, _, z5⟩ := DataW.trod_string Try.underlying9 g5
      obtain ⟨ca, cl, cc, cf, e3, l3, k3, t3⟩ := open_strs g3
      obtain ⟨aa, al, ac, af, ag, e4, l4, k4, q4, t4⟩ := open_atts g4
      injection hp with hp
      injection hs1 with hs1
      injection hs2 with hs2
      injection hs5 with hs5
      subst hp; subst hs1; subst hs2; subst hs5; subst e3; subst e4
      exact ⟨⟨p, s1, s2, ca, cl, cc, aa, al, ac, s5, cf, af, ag⟩, rfl, ⟨z1, z2, z5, l3, l4, k3, k4, q4, t3, t4⟩⟩

set_option maxRecDepth 100000 in
/-- a list of nodes that came in -/
theorem open_nodes {fuel : Nat} {c : Value} {x : DataW H × List MemPlace} (h : DataW.trod enc Try.prog w 0 (fun _ => true) true fuel 54 [c] = some x) :
    ∃ a len cap L, c = .slice a len cap ∧ Nods w a len L := by
  rcases Go.Deep.open_slice Try.underlying54 h with ⟨hc, _⟩ | ⟨a, len, cap, m, n, D, Pl, hc, _, hl, hm, hmm, _, hi⟩
  · injection hc with hc
    exact ⟨none, 0, 0, fun _ => ⟨0, ByteArray.empty, ByteArray.empty, none, 0, 0, none, 0, 0, ByteArray.empty, fun _ => ByteArray.empty, fun _ => ByteArray.empty, fun _ => ByteArray.empty⟩, hc, Or.inl rfl⟩
  · injection hc with hc
    simp only [if_true] at hmm
    rw [cells_nod] at hi
    have each : ∀ i, i < len → ∃ n : Nd, (∀ j, j < 6 → w.cell? (a.add (i * 6 + j)) = n.val.toList[j]?) ∧ NdIn w n := by
      intro i hi1
      obtain ⟨cs', h1, h2⟩ := hi i (by omega)
      obtain ⟨_, _, hat⟩ := World.cells?_some h1
      obtain ⟨n, hn, hin⟩ := open_node h2
      subst hn
      exact ⟨n, fun j hj => by have := hat j hj; rw [Go.Deep.add_add] at this; exact this, hin⟩
    have : ∃ L : Nat → Nd, ∀ i, i < len → (∀ j, j < 6 → w.cell? (a.add (i * 6 + j)) = (L i).val.toList[j]?) ∧ NdIn w (L i) := by
      refine ⟨fun i => if hi : i < len then Classical.choose (each i hi) else ⟨0, ByteArray.empty, ByteArray.empty, none, 0, 0, none, 0, 0, ByteArray.empty, fun _ => ByteArray.empty, fun _ => ByteArray.empty, fun _ => ByteArray.empty⟩, fun i hi => ?_⟩
      simp only [dif_pos hi]
      exact Classical.choose_spec (each i hi)
    obtain ⟨L, hL⟩ := this
    refine ⟨some a, len, cap, L, hc, ?_⟩
    by_cases h0 : len = 0
    · exact Or.inl h0
    · obtain ⟨b, off, rfl, hb⟩ := plain_of (a := a) (v := .int .i64 (L 0).par) ((hL 0 (by omega)).1 0 (by omega))
      refine Or.inr ⟨b, off, rfl, hb, fun i hi => ?_⟩
      obtain ⟨hc, hin⟩ := hL i hi
      have hcj : ∀ j, j < 6 → w.cell? ⟨b, off + i * 6 + j, none⟩ = (L i).val.toList[j]? := fun j hj => by
        have := hc j hj
        rw [Go.WideShapes.add_plain, ← Nat.add_assoc] at this
        exact this
      exact ⟨⟨hcj 0 (by omega), hcj 1 (by omega), hcj 2 (by omega), hcj 3 (by omega), hcj 4 (by omega), hcj 5 (by omega)⟩, hin⟩
end
end Go.Proofs.Ytjhhpilaaahicaa
