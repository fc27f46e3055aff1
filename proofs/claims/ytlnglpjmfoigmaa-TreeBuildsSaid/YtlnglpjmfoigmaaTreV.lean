/- Layer 4: what a builder has. -/
import Derived.Test.YtlnglpjmfoigmaaTreB4
import Derived.Test.YtlnglpjmfoigmaaTreB2
import Derived.Test.YtlnglpjmfoigmaaTreB3
namespace Go.Proofs.Ytlnglpjmfoigmaa
open Go.RowKit TreN TreP
set_option linter.unusedVariables false

/-- a row that lies apart -/
def Upx (lo : Nat) (nv ov : Value) (a : Option Addr) (n : Nat) : Prop := n = 0 ∨ ∃ g off, a = some ⟨g, off, none⟩ ∧ lo ≤ g ∧ nv.ownBlock ≠ some g ∧ ov.ownBlock ≠ some g
theorem NdIn.moved {w x : World} {n : Nd} (h : NdIn w n) (hs : w.heap.size ≤ x.heap.size)
    (u1 : n.cl = 0 ∨ ∃ g off, n.ca = some ⟨g, off, none⟩ ∧ ∀ k, x.cell? ⟨g, k, none⟩ = w.cell? ⟨g, k, none⟩)
    (u2 : n.al = 0 ∨ ∃ g off, n.aa = some ⟨g, off, none⟩ ∧ ∀ k, x.cell? ⟨g, k, none⟩ = w.cell? ⟨g, k, none⟩) : NdIn x n := by
  refine ⟨h.stag, h.sid, h.stx, h.scl, h.sal, h.scs, h.san, h.sav, ?_, ?_⟩
  · by_cases hz : n.cl = 0
    · exact Or.inl hz
    · rcases h.hc with h | ⟨b, off, e, hb, hc⟩
      · exact absurd h hz
      · rcases u1 with h | ⟨q, off', e', hg⟩
        · exact absurd h hz
        · rw [e] at e'; injection e' with e'; injection e' with e1 e2
          subst e1
          exact Or.inr ⟨b, off, e, by omega, fun i hi => by rw [hg]; exact hc i hi⟩
  · by_cases hz : n.al = 0
    · exact Or.inl hz
    · rcases h.ha with h | ⟨b, off, e, hb, hc⟩
      · exact absurd h hz
      · rcases u2 with h | ⟨q, off', e', hg⟩
        · exact absurd h hz
        · rw [e] at e'; injection e' with e'; injection e' with e1 e2
          subst e1
          exact Or.inr ⟨b, off, e, by omega, fun i hi => ⟨by rw [hg]; exact (hc i hi).1, by rw [hg]; exact (hc i hi).2⟩⟩
/-- a node of the builder's -/
def NdOk (w : World) (lo : Nat) (nv ov : Value) (n : Nd) : Prop := NdIn w n ∧ n.cl ≤ 8 ∧ n.al ≤ 8 ∧ Upx lo nv ov n.ca n.cl ∧ Upx lo nv ov n.aa n.al
theorem NdOk.below {w w' : World} {lo : Nat} {nv ov : Value} {n : Nd} (h : NdOk w lo nv ov n) (hb : Below w.heap.size w w') : NdOk w' lo nv ov n := ⟨h.1.below hb, h.2⟩
/-- where a row's block lies -/
theorem Strs.lt {w : World} {a : Option Addr} {n : Nat} {f : Nat → ByteArray} (h : Strs w a n f) {g off : Nat} (e : a = some ⟨g, off, none⟩) (hn : n ≠ 0) : g < w.heap.size := by
  rcases h with h | ⟨b, o, e', hb, _⟩
  · exact absurd h hn
  · rw [e] at e'; injection e' with e'; injection e' with e1 _; rw [e1]; exact hb
theorem Atts.lt {w : World} {a : Option Addr} {n : Nat} {f f' : Nat → ByteArray} (h : Atts w a n f f') {g off : Nat} (e : a = some ⟨g, off, none⟩) (hn : n ≠ 0) : g < w.heap.size := by
  rcases h with h | ⟨b, o, e', hb, _⟩
  · exact absurd h hn
  · rw [e] at e'; injection e' with e'; injection e' with e1 _; rw [e1]; exact hb
/-- a row apart, another row told -/
theorem Upx.turn {lo : Nat} {nv ov nv2 ov2 : Value} {a : Option Addr} {n : Nat} (h : Upx lo nv ov a n) (h2 : ∀ g off, a = some ⟨g, off, none⟩ → n ≠ 0 → nv.ownBlock ≠ some g → ov.ownBlock ≠ some g → nv2.ownBlock ≠ some g ∧ ov2.ownBlock ≠ some g) : Upx lo nv2 ov2 a n := by
  by_cases hz : n = 0
  · exact Or.inl hz
  · rcases h with h | ⟨g, off, e, h3, h4, h5⟩
    · exact absurd h hz
    · exact Or.inr ⟨g, off, e, h3, (h2 g off e hz h4 h5).1, (h2 g off e hz h4 h5).2⟩
/-- a node stays, where its rows' blocks stay -/
theorem NdOk.turn {w x : World} {lo : Nat} {nv ov nv2 ov2 : Value} {n : Nd} (h : NdOk w lo nv ov n) (hs : w.heap.size ≤ x.heap.size) (hc : ∀ g, lo ≤ g → g < w.heap.size → nv.ownBlock ≠ some g → ov.ownBlock ≠ some g → (∀ k, x.cell? ⟨g, k, none⟩ = w.cell? ⟨g, k, none⟩) ∧ nv2.ownBlock ≠ some g ∧ ov2.ownBlock ≠ some g) : NdOk x lo nv2 ov2 n := by
  obtain ⟨h1, h2, h3, h4, h5⟩ := h
  have key : ∀ (a : Option Addr) (m : Nat), (∀ g off, a = some ⟨g, off, none⟩ → m ≠ 0 → g < w.heap.size) → Upx lo nv ov a m → (m = 0 ∨ ∃ g off, a = some ⟨g, off, none⟩ ∧ ∀ k, x.cell? ⟨g, k, none⟩ = w.cell? ⟨g, k, none⟩) ∧ Upx lo nv2 ov2 a m := by
    intro a m hl hu
    by_cases hz : m = 0
    · exact ⟨Or.inl hz, Or.inl hz⟩
    · rcases hu with hu | ⟨g, off, e, q1, q2, q3⟩
      · exact absurd hu hz
      · obtain ⟨r1, r2, r3⟩ := hc g q1 (hl g off e hz) q2 q3
        exact ⟨Or.inr ⟨g, off, e, r1⟩, Or.inr ⟨g, off, e, q1, r2, r3⟩⟩
  obtain ⟨k1, k2⟩ := key n.ca n.cl (fun g off e hz => h1.hc.lt e hz) h4
  obtain ⟨k3, k4⟩ := key n.aa n.al (fun g off e hz => h1.ha.lt e hz) h5
  exact ⟨h1.moved hs k1 k3, h2, h3, k2, k4⟩
theorem ownsRow_belowV {w w' : World} {base : Nat} {e : TypeId} {size : Nat} {v : Value} {n : Nat} {xs : List Value} (h : w.ownsRow base e size v n xs) (hb : Below w.heap.size w w') : w'.ownsRow base e size v n xs := by
  obtain ⟨h1, h2⟩ := h
  refine ⟨h1, ?_⟩
  rcases h2 with h2 | ⟨g, cap, cur, hv, hg, hh, r⟩
  · exact Or.inl h2
  · refine Or.inr ⟨g, cap, cur, hv, hg, ?_, r⟩
    have hlt : g < w.heap.size := by
      by_cases q : g < w.heap.size
      · exact q
      · rw [Array.getElem?_eq_none (by omega)] at hh; cases hh
    rw [hb.block g hlt]; exact hh
/-- numbers, as cells -/
def ins (O : List Nat) : List Value := O.map fun (k : Nat) => Value.int .i64 (k : Int)
theorem ins_length (O : List Nat) : (ins O).length = O.length := by unfold ins; rw [List.length_map]
theorem ins_one (O : List Nat) : ∀ u ∈ ins O, u.oneCell' = true := by
  intro u hu
  obtain ⟨k, _, rfl⟩ := List.mem_map.1 hu
  rfl
/-- the builder at P: its nodes, and the numbers of those that are open -/
structure BdAt (w0 w : World) (P : Nat) (nv ov : Value) (D : Nat → Nd) (N : Nat) (O : List Nat) : Prop where
  box : w.heap[P]? = some (.cells #[nv, ov] 65 (0, 0))
  nodes : w.ownsRow (P + 1) 39 6 nv N (ndcs D N)
  open_ : w.ownsRow (P + 1) 3 1 ov O.length (ins O)
  two : ∀ q, nv.ownBlock = some q → ov.ownBlock ≠ some q
  all : ∀ i, i < N → NdOk w (P + 1) nv ov (D i)
  base : w0.heap.size ≤ P
  bel : Below w0.heap.size w0 w
def Bd (w0 w : World) (P : Nat) (D : Nat → Nd) (N : Nat) (O : List Nat) : Prop := ∃ nv ov, BdAt w0 w P nv ov D N O
theorem BdAt.keep {w0 w w' : World} {P : Nat} {nv ov : Value} {D : Nat → Nd} {N : Nat} {O : List Nat} (h : BdAt w0 w P nv ov D N O) (hb : Below w.heap.size w w') : BdAt w0 w' P nv ov D N O := by
  have hP : P < w.heap.size := by
    obtain ⟨hlt, _⟩ := Array.getElem?_eq_some_iff.1 h.box
    exact hlt
  exact ⟨(hb.block P hP).trans h.box, ownsRow_belowV h.nodes hb, ownsRow_belowV h.open_ hb, h.two, fun i hi => (h.all i hi).below hb, h.base, h.bel.trans (hb.mono h.bel.size)⟩

/-- what a builder's call leaves as it was: all blocks but its own -/
def Fr (w w' : World) (P : Nat) (nv ov : Value) : Prop := w.heap.size ≤ w'.heap.size ∧ ∀ q, q < w.heap.size → q ≠ P → nv.ownBlock ≠ some q → ov.ownBlock ≠ some q → w'.heap[q]? = w.heap[q]?
/-- a row's block is the elder's, or new -/
def Own (w : World) (v v' : Value) : Prop := ∀ q, v'.ownBlock = some q → v.ownBlock = some q ∨ w.heap.size ≤ q
theorem Fr.of_below {w w' : World} (hb : Below w.heap.size w w') (P : Nat) (nv ov : Value) : Fr w w' P nv ov := ⟨hb.size, fun q hq _ _ _ => hb.block q hq⟩
theorem Own.refl (w : World) (v : Value) : Own w v v := fun q h => Or.inl h
theorem Own.trans {w w' : World} {a b c : Value} (h1 : Own w a b) (h2 : Own w' b c) (hs : w.heap.size ≤ w'.heap.size) : Own w a c := fun q hq => by
  rcases h2 q hq with h | h
  · exact h1 q h
  · exact Or.inr (by omega)
theorem Fr.trans {w w1 w2 : World} {P : Nat} {nv ov nv1 ov1 : Value} (h1 : Fr w w1 P nv ov) (h2 : Fr w1 w2 P nv1 ov1) (o1 : Own w nv nv1) (o2 : Own w ov ov1) : Fr w w2 P nv ov := by
  refine ⟨Nat.le_trans h1.1 h2.1, fun q hq q1 q2 q3 => ?_⟩
  rw [h2.2 q (Nat.lt_of_lt_of_le hq h1.1) q1 (fun e => ?_) (fun e => ?_)]
  · exact h1.2 q hq q1 q2 q3
  · rcases o1 q e with h | h
    · exact q2 h
    · omega
  · rcases o2 q e with h | h
    · exact q3 h
    · omega
theorem own_lt {w : World} {base : Nat} {e : TypeId} {size : Nat} {v : Value} {n : Nat} {xs : List Value} (h : w.ownsRow base e size v n xs) {q : Nat} (hq : v.ownBlock = some q) : base ≤ q ∧ q < w.heap.size := World.ownsRow.lt h q hq
/-- a row in a block that stays -/
theorem ownsRow_stay {w x : World} {base : Nat} {e : TypeId} {size : Nat} {v : Value} {n : Nat} {xs : List Value} (h : w.ownsRow base e size v n xs) (hb : ∀ q, v.ownBlock = some q → x.heap[q]? = w.heap[q]?) : x.ownsRow base e size v n xs := by
  obtain ⟨h1, h2⟩ := h
  refine ⟨h1, ?_⟩
  rcases h2 with h2 | ⟨g, cap, cur, hv, hg, hh, r⟩
  · exact Or.inl h2
  · exact Or.inr ⟨g, cap, cur, hv, hg, by rw [hb g (by rw [hv]; rfl)]; exact hh, r⟩
/-- one node more -/
theorem BdAt.pushN {w0 w4 w5 : World} {P : Nat} {nv ov : Value} {D : Nat → Nd} {N : Nat} {O : List Nat} {x : Nd} {g cap : Nat} (h : BdAt w0 w4 P nv ov D N O) (hx : NdOk w4 (P + 1) nv ov x)
    (hgrow : w4.grownBy w5 nv.ownBlock) (hown : w5.ownsRow (P + 1) 39 6 (.slice (some ⟨g, 0, none⟩) (N + 1) cap) (N + 1) (ndcs (putS D N x) (N + 1))) (hgn : nv.ownBlock = some g ∨ w4.heap.size ≤ g) :
    BdAt w0 (w5.setCell ⟨P, 0, none⟩ (.slice (some ⟨g, 0, none⟩) (N + 1) cap)) P (.slice (some ⟨g, 0, none⟩) (N + 1) cap) ov (putS D N x) (N + 1) O := by
  have hP : P < w4.heap.size := by
    obtain ⟨hlt, _⟩ := Array.getElem?_eq_some_iff.1 h.box
    exact hlt
  have hnl : ∀ q, nv.ownBlock = some q → P + 1 ≤ q ∧ q < w4.heap.size := fun q hq => own_lt h.nodes hq
  have hol : ∀ q, ov.ownBlock = some q → P + 1 ≤ q ∧ q < w4.heap.size := fun q hq => own_lt h.open_ hq
  have hb5 : w5.heap[P]? = some (.cells #[nv, ov] 65 (0, 0)) := by
    rw [hgrow.block P hP (fun e => by have := hnl P e.symm; omega)]; exact h.box
  have hblk : ∀ q, q ≠ P → q < w4.heap.size → nv.ownBlock ≠ some q → (w5.setCell ⟨P, 0, none⟩ (.slice (some ⟨g, 0, none⟩) (N + 1) cap)).heap[q]? = w4.heap[q]? := fun q h1 h2 h3 => by
    rw [setCell_there _ (by show q ≠ P; exact h1)]
    exact hgrow.block q h2 (fun e => h3 e.symm)
  have hsz : (w5.setCell ⟨P, 0, none⟩ (.slice (some ⟨g, 0, none⟩) (N + 1) cap)).heap.size = w5.heap.size := setCell_size _ _ _
  have turn : ∀ n : Nd, NdOk w4 (P + 1) nv ov n → NdOk (w5.setCell ⟨P, 0, none⟩ (.slice (some ⟨g, 0, none⟩) (N + 1) cap)) (P + 1) (.slice (some ⟨g, 0, none⟩) (N + 1) cap) ov n := fun n hn => by
    refine hn.turn (by rw [hsz]; exact hgrow.size) (fun q q1 q2 q3 q4 => ⟨fun k => ?_, ?_, q4⟩)
    · simp only [World.cell?]
      rw [hblk q (by omega) q2 q3]
    · intro e
      have e : g = q := Option.some.inj e
      subst e
      rcases hgn with e | e
      · exact q3 e
      · omega
  refine ⟨?_, ?_, ?_, ?_, ?_, h.base, ?_⟩
  · exact setCell_here (k := 0) _ hb5
  · exact ownsRow_setCell_below hown (a := ⟨P, 0, none⟩) (Nat.lt_succ_self P) _
  · refine ownsRow_stay h.open_ (fun q hq => hblk q ?_ (hol q hq).2 (fun e => h.two q e hq))
    have := (hol q hq).1; omega
  · intro q hq e
    have hq : g = q := Option.some.inj hq
    subst hq
    rcases hgn with e2 | e2
    · exact h.two _ e2 e
    · have := (hol _ e).2; omega
  · intro i hi
    unfold putS
    by_cases hc : i < N
    · rw [if_pos hc]; exact turn _ (h.all i hc)
    · rw [if_neg hc]; exact turn _ hx
  · exact (h.bel.grown hgrow h.bel.size (fun q hq => by have := (hnl q hq).1; have := h.base; omega)).setCell (p := ⟨P, 0, none⟩) h.base _
/-- one number more -/
theorem BdAt.pushO {w0 w4 w5 : World} {P : Nat} {nv ov : Value} {D : Nat → Nd} {N : Nat} {O : List Nat} {x : Nat} {g cap : Nat} (h : BdAt w0 w4 P nv ov D N O)
    (hgrow : w4.grownBy w5 ov.ownBlock) (hown : w5.ownsRow (P + 1) 3 1 (.slice (some ⟨g, 0, none⟩) (O.length + 1) cap) (O.length + 1) (ins (O ++ [x]))) (hgn : ov.ownBlock = some g ∨ w4.heap.size ≤ g) :
    BdAt w0 (w5.setCell ⟨P, 1, none⟩ (.slice (some ⟨g, 0, none⟩) (O.length + 1) cap)) P nv (.slice (some ⟨g, 0, none⟩) (O.length + 1) cap) D N (O ++ [x]) := by
  have hP : P < w4.heap.size := by
    obtain ⟨hlt, _⟩ := Array.getElem?_eq_some_iff.1 h.box
    exact hlt
  have hnl : ∀ q, nv.ownBlock = some q → P + 1 ≤ q ∧ q < w4.heap.size := fun q hq => own_lt h.nodes hq
  have hol : ∀ q, ov.ownBlock = some q → P + 1 ≤ q ∧ q < w4.heap.size := fun q hq => own_lt h.open_ hq
  have hb5 : w5.heap[P]? = some (.cells #[nv, ov] 65 (0, 0)) := by
    rw [hgrow.block P hP (fun e => by have := hol P e.symm; omega)]; exact h.box
  have hblk : ∀ q, q ≠ P → q < w4.heap.size → ov.ownBlock ≠ some q → (w5.setCell ⟨P, 1, none⟩ (.slice (some ⟨g, 0, none⟩) (O.length + 1) cap)).heap[q]? = w4.heap[q]? := fun q h1 h2 h3 => by
    rw [setCell_there _ (by show q ≠ P; exact h1)]
    exact hgrow.block q h2 (fun e => h3 e.symm)
  have hsz : (w5.setCell ⟨P, 1, none⟩ (.slice (some ⟨g, 0, none⟩) (O.length + 1) cap)).heap.size = w5.heap.size := setCell_size _ _ _
  refine ⟨?_, ?_, ?_, ?_, ?_, h.base, ?_⟩
  · exact setCell_here (k := 1) _ hb5
  · refine ownsRow_stay h.nodes (fun q hq => hblk q ?_ (hnl q hq).2 (h.two q hq))
    have := (hnl q hq).1; omega
  · rw [List.length_append]
    exact ownsRow_setCell_below hown (a := ⟨P, 1, none⟩) (Nat.lt_succ_self P) _
  · intro q hq e
    have e : g = q := Option.some.inj e
    subst e
    rcases hgn with e2 | e2
    · exact h.two _ hq e2
    · have := (hnl _ hq).2; omega
  · intro i hi
    refine (h.all i hi).turn (by rw [hsz]; exact hgrow.size) (fun q q1 q2 q3 q4 => ⟨fun k => ?_, q3, ?_⟩)
    · simp only [World.cell?]
      rw [hblk q (by omega) q2 q4]
    · intro e
      have e : g = q := Option.some.inj e
      subst e
      rcases hgn with e | e
      · exact q4 e
      · omega
  · exact (h.bel.grown hgrow h.bel.size (fun q hq => by have := (hol q hq).1; have := h.base; omega)).setCell (p := ⟨P, 1, none⟩) h.base _
end Go.Proofs.Ytlnglpjmfoigmaa
