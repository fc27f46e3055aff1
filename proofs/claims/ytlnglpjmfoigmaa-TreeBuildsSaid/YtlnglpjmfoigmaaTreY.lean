/- Layer 4: the builder beside the reference's lists. -/
import Derived.Test.YtlnglpjmfoigmaaTreX
namespace Go.Proofs.Ytlnglpjmfoigmaa
open Go.RowKit TreN TreP
set_option linter.unusedVariables false

/-- a node's rows lie not in block q -/
def UpN (q : Nat) (n : Nd) : Prop := (n.cl = 0 ∨ ∃ g off, n.ca = some ⟨g, off, none⟩ ∧ g ≠ q) ∧ (n.al = 0 ∨ ∃ g off, n.aa = some ⟨g, off, none⟩ ∧ g ≠ q)
theorem UpN.of_up {lo q : Nat} {n : Nd} (h1 : Up lo n.ca n.cl) (h2 : Up lo n.aa n.al) (hq : q < lo) : UpN q n := by
  refine ⟨?_, ?_⟩
  · rcases h1 with h | ⟨g, off, e, hg⟩
    · exact Or.inl h
    · exact Or.inr ⟨g, off, e, by omega⟩
  · rcases h2 with h | ⟨g, off, e, hg⟩
    · exact Or.inl h
    · exact Or.inr ⟨g, off, e, by omega⟩
/-- a builder stays, where only a block far from it changes -/
theorem BdAt.far {w0 w w' : World} {P : Nat} {nv ov : Value} {D : Nat → Nd} {N : Nat} {O : List Nat} {row : Option Nat} (h : BdAt w0 w P nv ov D N O) (hg : w.grownBy w' row)
    (hr : ∀ q, row = some q → w0.heap.size ≤ q ∧ q ≠ P ∧ nv.ownBlock ≠ some q ∧ ov.ownBlock ≠ some q ∧ ∀ i, i < N → UpN q (D i)) : BdAt w0 w' P nv ov D N O := by
  have hP : P < w.heap.size := by
    obtain ⟨hlt, _⟩ := Array.getElem?_eq_some_iff.1 h.box
    exact hlt
  have key : ∀ q, q < w.heap.size → row ≠ some q → w'.heap[q]? = w.heap[q]? := fun q h1 h2 => hg.block q h1 (fun e => h2 e.symm)
  refine ⟨?_, ?_, ?_, h.two, fun i hi => ?_, h.base, h.bel.grown hg h.bel.size (fun q hq => (hr q hq).1)⟩
  · rw [key P hP (fun e => (hr P e).2.1 rfl)]; exact h.box
  · exact ownsRow_stay h.nodes (fun q hq => key q (own_lt h.nodes hq).2 (fun e => (hr q e).2.2.1 hq))
  · exact ownsRow_stay h.open_ (fun q hq => key q (own_lt h.open_ hq).2 (fun e => (hr q e).2.2.2.1 hq))
  · obtain ⟨h1, h2, h3, h4, h5⟩ := h.all i hi
    refine ⟨h1.moved hg.size ?_ ?_, h2, h3, h4, h5⟩
    · by_cases hz : (D i).cl = 0
      · exact Or.inl hz
      · rcases h4 with q | ⟨g, off, e, _, _, _⟩
        · exact absurd q hz
        · refine Or.inr ⟨g, off, e, fun k => ?_⟩
          simp only [World.cell?]
          rw [key g (h1.hc.lt e hz) (fun er => ?_)]
          rcases ((hr g er).2.2.2.2 i hi).1 with q | ⟨g', off', e', hne⟩
          · exact hz q
          · rw [e] at e'; injection e' with e'; injection e' with e1 _; exact hne e1.symm
    · by_cases hz : (D i).al = 0
      · exact Or.inl hz
      · rcases h5 with q | ⟨g, off, e, _, _, _⟩
        · exact absurd q hz
        · refine Or.inr ⟨g, off, e, fun k => ?_⟩
          simp only [World.cell?]
          rw [key g (h1.ha.lt e hz) (fun er => ?_)]
          rcases ((hr g er).2.2.2.2 i hi).2 with q | ⟨g', off', e', hne⟩
          · exact hz q
          · rw [e] at e'; injection e' with e'; injection e' with e1 _; exact hne e1.symm
/-- a list of nodes stays, where its block stays and its nodes' rows are elder -/
theorem Nods.stay {w0 w w' : World} {la : Option Addr} {N : Nat} {L : Nat → Nd} (h : Nods w la N L) (hin : ∀ i, i < N → NdIn w0 (L i)) (hb : Below w0.heap.size w0 w') (hs : w.heap.size ≤ w'.heap.size) (hc : ∀ g off, la = some ⟨g, off, none⟩ → N ≠ 0 → g < w.heap.size → w'.heap[g]? = w.heap[g]?) : Nods w' la N L := by
  by_cases h0 : N = 0
  · exact Or.inl h0
  · rcases h with h | ⟨b, off, e, hlt, hat⟩
    · exact absurd h h0
    · have hblk := hc b off e h0 hlt
      have hcell : ∀ k, w'.cell? ⟨b, k, none⟩ = w.cell? ⟨b, k, none⟩ := fun k => by simp only [World.cell?]; rw [hblk]
      refine Or.inr ⟨b, off, e, by omega, fun i hi => ?_⟩
      obtain ⟨⟨c0, c1, c2, c3, c4, c5⟩, _⟩ := hat i hi
      exact ⟨⟨(hcell _).trans c0, (hcell _).trans c1, (hcell _).trans c2, (hcell _).trans c3, (hcell _).trans c4, (hcell _).trans c5⟩, (hin i hi).below hb⟩

/-- the builder (open: O) beside the reference's list and its open numbers (Q) -/
structure St (w0 w : World) (P : Nat) (nv ov : Value) (D L : Nat → Nd) (N : Nat) (O Q : List Nat) (la : Option Addr) (vo : Value) : Prop where
  b : BdAt w0 w P nv ov D N O
  inv : BInv D N O
  eql : EqL D L N
  l : Nods w la N L
  lap : N = 0 ∨ ∃ g, la = some ⟨g, 0, none⟩ ∧ g ≠ P ∧ nv.ownBlock ≠ some g ∧ ov.ownBlock ≠ some g ∧ vo.ownBlock ≠ some g
  lin : ∀ i, i < N → NdIn w0 (L i)
  o : w.ownsRow (P + 1) 3 1 vo Q.length (ins Q)
  oap : ∀ q, vo.ownBlock = some q → nv.ownBlock ≠ some q ∧ ov.ownBlock ≠ some q ∧ ∀ i, i < N → UpN q (D i)
theorem St.below {w0 w w' : World} {P : Nat} {nv ov : Value} {D L : Nat → Nd} {N : Nat} {O Q : List Nat} {la : Option Addr} {vo : Value} (h : St w0 w P nv ov D L N O Q la vo) (hb : Below w.heap.size w w') : St w0 w' P nv ov D L N O Q la vo :=
  ⟨h.b.keep hb, h.inv, h.eql, h.l.below hb, h.lap, h.lin, ownsRow_belowV h.o hb, h.oap⟩
/-- the reference's side, behind a call of the builder's -/
theorem St.side {w0 w w' : World} {P : Nat} {nv ov nv' ov' : Value} {D L : Nat → Nd} {N : Nat} {O Q : List Nat} {la : Option Addr} {vo : Value} (h : St w0 w P nv ov D L N O Q la vo) (hb0 : Below w0.heap.size w0 w') (hf : Fr w w' P nv ov) (h1 : Own w nv nv') (h2 : Own w ov ov') :
    Nods w' la N L ∧ w'.ownsRow (P + 1) 3 1 vo Q.length (ins Q) ∧ (∀ q, vo.ownBlock = some q → nv'.ownBlock ≠ some q ∧ ov'.ownBlock ≠ some q) := by
  have hvo : ∀ q, vo.ownBlock = some q → P + 1 ≤ q ∧ q < w.heap.size := fun q hq => own_lt h.o hq
  refine ⟨h.l.stay h.lin hb0 hf.1 (fun g off e hN hlt => ?_), ownsRow_stay h.o (fun q hq => ?_), fun q hq => ⟨fun e => ?_, fun e => ?_⟩⟩
  · rcases h.lap with q | ⟨g', e', a1, a2, a3, a4⟩
    · exact absurd q hN
    · rw [e] at e'; injection e' with e'; injection e' with e1 _
      subst e1
      exact hf.2 g hlt a1 a2 a3
  · have := hvo q hq
    exact hf.2 q this.2 (by omega) (h.oap q hq).1 (h.oap q hq).2.1
  · rcases h1 q e with q1 | q1
    · exact (h.oap q hq).1 q1
    · have := (hvo q hq).2; omega
  · rcases h2 q e with q1 | q1
    · exact (h.oap q hq).2.1 q1
    · have := (hvo q hq).2; omega
/-- a node put by both -/
theorem St.put {w0 w w1 w4 : World} {P : Nat} {nv ov nv' ov' : Value} {D L : Nat → Nd} {N : Nat} {O O1 Q : List Nat} {la : Option Addr} {vo : Value} {x n : Nd} {g : Nat} (h : St w0 w P nv ov D L N O Q la vo)
    (hb : BdAt w0 w1 P nv' ov' (putS D N x) (N + 1) O1) (hi : BInv (putS D N x) (N + 1) O1) (h1 : Own w nv nv') (h2 : Own w ov ov') (hf : Fr w w1 P nv ov) (hu : Up w.heap.size x.ca x.cl ∧ Up w.heap.size x.aa x.al)
    (hx : Eqn n x) (hp : x.par = lastO O) (hn : NdIn w0 n) (hb4 : Below w1.heap.size w1 w4) (hg : w1.heap.size ≤ g) (hl : NAt w4 g 0 (N + 1) (putS L N (n.withP (lastO O)))) :
    St w0 w4 P nv' ov' (putS D N x) (putS L N (n.withP (lastO O))) (N + 1) O1 Q (some ⟨g, 0, none⟩) vo := by
  obtain ⟨s1, s2, s3⟩ := h.side hb.bel hf h1 h2
  have hvo : ∀ q, vo.ownBlock = some q → P + 1 ≤ q ∧ q < w.heap.size := fun q hq => own_lt h.o hq
  have hP : P < w1.heap.size := by
    obtain ⟨hlt, _⟩ := Array.getElem?_eq_some_iff.1 hb.box
    exact hlt
  have hs1 := hf.1
  refine ⟨hb.keep hb4, hi, fun i hi => ?_, hl.nods, Or.inr ⟨g, rfl, by omega, fun e => ?_, fun e => ?_, fun e => ?_⟩, fun i hi => ?_, ownsRow_belowV s2 hb4, fun q hq => ⟨(s3 q hq).1, (s3 q hq).2, fun i hi => ?_⟩⟩
  · by_cases hc : i < N
    · rw [putS_lt hc, putS_lt hc]; exact h.eql i hc
    · have e : i = N := by omega
      subst e
      rw [putS_at, putS_at]
      exact ⟨⟨hx.tag.symm, hx.id.symm, hx.tx.symm, hx.cl.symm, hx.al.symm, fun j hj => (hx.cs j (by rw [← hx.cl]; exact hj)).symm, fun j hj => (hx.an j (by rw [← hx.al]; exact hj)).symm, fun j hj => (hx.av j (by rw [← hx.al]; exact hj)).symm⟩, hp.symm⟩
  · have := (own_lt hb.nodes e).2; omega
  · have := (own_lt hb.open_ e).2; omega
  · have := (hvo g e).2; omega
  · by_cases hc : i < N
    · rw [putS_lt hc]; exact h.lin i hc
    · have e : i = N := by omega
      subst e
      rw [putS_at]; exact hn.withP' _
  · by_cases hc : i < N
    · rw [putS_lt hc]; exact (h.oap q hq).2.2 i hc
    · have e : i = N := by omega
      subst e
      rw [putS_at]; exact UpN.of_up hu.1 hu.2 (hvo q hq).2
/-- a number put behind the reference's -/
theorem St.pushQ {w0 w w5 : World} {P : Nat} {nv ov : Value} {D L : Nat → Nd} {N k g cap : Nat} {O Q : List Nat} {la : Option Addr} {vo : Value} (h : St w0 w P nv ov D L N O Q la vo) (hgrow : w.grownBy w5 vo.ownBlock)
    (hown : w5.ownsRow (P + 1) 3 1 (.slice (some ⟨g, 0, none⟩) (Q.length + 1) cap) (Q.length + 1) (ins (Q ++ [k]))) (hgn : vo.ownBlock = some g ∨ w.heap.size ≤ g) :
    St w0 w5 P nv ov D L N O (Q ++ [k]) la (.slice (some ⟨g, 0, none⟩) (Q.length + 1) cap) := by
  have hvo : ∀ q, vo.ownBlock = some q → P + 1 ≤ q ∧ q < w.heap.size := fun q hq => own_lt h.o hq
  have hbase := h.b.base
  have hb0 : Below w0.heap.size w0 w5 := h.b.bel.grown hgrow h.b.bel.size (fun q hq => by have := (hvo q hq).1; omega)
  refine ⟨h.b.far hgrow (fun q hq => ?_), h.inv, h.eql, h.l.stay h.lin hb0 hgrow.size (fun g' off e hN hlt => ?_), ?_, h.lin, by rw [List.length_append]; exact hown, fun q hq => ?_⟩
  · have := (hvo q hq).1
    exact ⟨by omega, by omega, (h.oap q hq).1, (h.oap q hq).2.1, (h.oap q hq).2.2⟩
  · refine hgrow.block g' hlt (fun er => ?_)
    rcases h.lap with q | ⟨g2, e', a1, a2, a3, a4⟩
    · exact absurd q hN
    · rw [e] at e'; injection e' with e'; injection e' with e1 _
      subst e1
      exact a4 er.symm
  · rcases h.lap with q | ⟨g2, e', a1, a2, a3, a4⟩
    · exact Or.inl q
    · by_cases hN : N = 0
      · exact Or.inl hN
      · refine Or.inr ⟨g2, e', a1, a2, a3, fun er => ?_⟩
        have er : g = g2 := Option.some.inj er
        subst er
        rcases hgn with q | q
        · exact a4 q
        · rcases h.l with r | ⟨b, off, e2, hlt, _⟩
          · exact hN r
          · rw [e'] at e2; injection e2 with e2; injection e2 with e3 _; omega
  · have hq : g = q := Option.some.inj hq
    subst hq
    rcases hgn with q | q
    · exact h.oap g q
    · refine ⟨fun e => by have := (own_lt h.b.nodes e).2; omega, fun e => by have := (own_lt h.b.open_ e).2; omega, fun i hi => ⟨?_, ?_⟩⟩
      · obtain ⟨h1, _, _, h4, _⟩ := h.b.all i hi
        by_cases hz : (D i).cl = 0
        · exact Or.inl hz
        · rcases h4 with r | ⟨g', off, e, _⟩
          · exact absurd r hz
          · exact Or.inr ⟨g', off, e, by have := h1.hc.lt e hz; omega⟩
      · obtain ⟨h1, _, _, _, h4⟩ := h.b.all i hi
        by_cases hz : (D i).al = 0
        · exact Or.inl hz
        · rcases h4 with r | ⟨g', off, e, _⟩
          · exact absurd r hz
          · exact Or.inr ⟨g', off, e, by have := h1.ha.lt e hz; omega⟩
/-- a row of numbers, one shorter -/
theorem owns_pop {w : World} {base g k cap : Nat} {Q : List Nat} (h : w.ownsRow base 3 1 (.slice (some ⟨g, 0, none⟩) (Q.length + 1) cap) (Q ++ [k]).length (ins (Q ++ [k]))) : w.ownsRow base 3 1 (.slice (some ⟨g, 0, none⟩) Q.length cap) Q.length (ins Q) ∧ Q.length + 1 ≤ cap := by
  obtain ⟨q1, q2⟩ := h
  rcases q2 with ⟨hv, _⟩ | ⟨g', cp, cur, hv, hg, hh, hle, hm, hsz, htk⟩
  · cases hv
  · injection hv with hv1 hv2 hv3
    injection hv1 with hv1; injection hv1 with hv1 _
    subst hv1; subst hv3
    rw [List.length_append] at hle htk
    simp only [List.length_singleton, Nat.mul_one] at hle htk
    refine ⟨⟨by rw [ins_length, Nat.mul_one], Or.inr ⟨g, cap, cur, rfl, hg, hh, by omega, hm, hsz, ?_⟩⟩, hle⟩
    rw [Nat.mul_one]
    have : (cur.toList.take (Q.length + 1)).take Q.length = (ins (Q ++ [k])).take Q.length := by rw [htk]
    rw [List.take_take, Nat.min_eq_left (by omega)] at this
    rw [this]
    unfold ins
    rw [List.map_append, List.take_left' (by rw [List.length_map])]
theorem St.popQ {w0 w : World} {P : Nat} {nv ov : Value} {D L : Nat → Nd} {N k g cap : Nat} {O Q : List Nat} {la : Option Addr} (h : St w0 w P nv ov D L N O (Q ++ [k]) la (.slice (some ⟨g, 0, none⟩) (Q.length + 1) cap)) : St w0 w P nv ov D L N O Q la (.slice (some ⟨g, 0, none⟩) Q.length cap) :=
  ⟨h.b, h.inv, h.eql, h.l, h.lap, h.lin, (owns_pop h.o).1, h.oap⟩
theorem St.popB {w0 w : World} {P : Nat} {nv vo : Value} {D L : Nat → Nd} {N k g cap : Nat} {O Q : List Nat} {la : Option Addr} (h : St w0 w P nv (.slice (some ⟨g, 0, none⟩) (O.length + 1) cap) D L N (O ++ [k]) Q la vo) : St w0 (w.drew.setCell ⟨P, 1, none⟩ (.slice (some ⟨g, 0, none⟩) O.length cap)) P nv (.slice (some ⟨g, 0, none⟩) O.length cap) D L N O Q la vo := by
  have hb := h.b.popO
  have hf : Fr w (w.drew.setCell ⟨P, 1, none⟩ (.slice (some ⟨g, 0, none⟩) O.length cap)) P nv (.slice (some ⟨g, 0, none⟩) (O.length + 1) cap) := ⟨by rw [setCell_size]; exact Nat.le_refl _, fun q _ q1 _ _ => setCell_there _ (by show q ≠ P; exact q1)⟩
  obtain ⟨s1, s2, s3⟩ := h.side (nv' := nv) (ov' := .slice (some ⟨g, 0, none⟩) O.length cap) hb.bel hf (Own.refl _ _) (fun q hq => Or.inl hq)
  exact ⟨hb, h.inv.pop, h.eql, s1, h.lap, h.lin, s2, h.oap⟩
theorem St.start (w0 : World) (D : Nat → Nd) : St w0 (newB w0) w0.heap.size (.slice none 0 0) (.slice none 0 0) D D 0 [] [] none (.slice none 0 0) :=
  ⟨⟨heap_alloc_new w0 _, World.ownsRow_nil _ _ _ _, World.ownsRow_nil _ _ _ _, fun q h => (by cases h), fun i h => (by omega), Nat.le_refl _, (Below.refl _ _).alloc (Nat.le_refl _) _⟩, BInv.start D, fun i h => (by omega), Or.inl rfl, Or.inl rfl, fun i h => (by omega), World.ownsRow_nil _ _ _ _, fun q h => (by cases h)⟩
end Go.Proofs.Ytlnglpjmfoigmaa
