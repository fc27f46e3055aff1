/- A row of copies under way. -/
import Derived.Test.YtlnglpjmfoigmaaTreW14
namespace Go.Proofs.Ytlnglpjmfoigmaa
open Go.RowKit TreN TreP

set_option maxRecDepth 100000 in
theorem Six.reset {w x : World} {b o : Nat} {n0 n1 n2 n3 n4 n5 : Value} (h : Six w x b o n0 n1 n2 n3 n4 n5) (m : Value) : Six w (x.setCell ⟨b, o, none⟩ m) b o m n1 n2 n3 n4 n5 := by
  have oth : ∀ (b' k : Nat), b' ≠ b ∨ k ≠ o → (x.setCell ⟨b, o, none⟩ m).cell? ⟨b', k, none⟩ = x.cell? ⟨b', k, none⟩ := fun b' k h => by
    rw [World.cell?_setCell_other (h := by intro e; injection e; omega)]
  refine ⟨World.cell?_setCell_same _ _ _ h.h0, ?_, ?_, ?_, ?_, ?_, fun b' k hk => ?_, fun p => ?_, ?_, fun lo a hlo hb => ?_⟩
  · rw [oth _ _ (by omega)]; exact h.h1
  · rw [oth _ _ (by omega)]; exact h.h2
  · rw [oth _ _ (by omega)]; exact h.h3
  · rw [oth _ _ (by omega)]; exact h.h4
  · rw [oth _ _ (by omega)]; exact h.h5
  · rw [oth _ _ (by omega)]; exact h.other b' k hk
  · rw [World.frozen?_setCell]; exact h.froz p
  · rw [setCell_size]; exact h.size
  · exact (h.below lo a hlo hb).setCell (p := ⟨b, o, none⟩) hlo m

set_option maxRecDepth 100000 in
/-- a node's rows stay where only block g changed -/
theorem NdIn.kept {w x : World} {n : Nd} {g : Nat} (h : NdIn w n) (u1 : Up (g + 1) n.ca n.cl) (u2 : Up (g + 1) n.aa n.al) (hs : w.heap.size ≤ x.heap.size) (ho : ∀ b k, b ≠ g → x.cell? ⟨b, k, none⟩ = w.cell? ⟨b, k, none⟩) : NdIn x n := by
  refine ⟨h.stag, h.sid, h.stx, h.scl, h.sal, h.scs, h.san, h.sav, ?_, ?_⟩
  · by_cases hz : n.cl = 0
    · exact Or.inl hz
    · rcases h.hc with h | ⟨b, off, e, hb, hc⟩
      · exact absurd h hz
      · rcases u1 with h | ⟨q, off', e', hg⟩
        · exact absurd h hz
        · rw [e] at e'; injection e' with e'; injection e' with e1 e2
          refine Or.inr ⟨b, off, e, by omega, fun i hi => ?_⟩
          rw [ho _ _ (by omega)]
          exact hc i hi
  · by_cases hz : n.al = 0
    · exact Or.inl hz
    · rcases h.ha with h | ⟨b, off, e, hb, hc⟩
      · exact absurd h hz
      · rcases u2 with h | ⟨q, off', e', hg⟩
        · exact absurd h hz
        · rw [e] at e'; injection e' with e'; injection e' with e1 e2
          refine Or.inr ⟨b, off, e, by omega, fun i hi => ⟨?_, ?_⟩⟩
          · rw [ho _ _ (by omega)]
            exact (hc i hi).1
          · rw [ho _ _ (by omega)]
            exact (hc i hi).2

/-- six cells of a node -/
def NdAt (w : World) (b o : Nat) (n : Nd) : Prop := w.cell? ⟨b, o, none⟩ = some (.int .i64 n.par) ∧ w.cell? ⟨b, o + 1, none⟩ = some (.string n.tag) ∧ w.cell? ⟨b, o + 2, none⟩ = some (.string n.id) ∧
  w.cell? ⟨b, o + 3, none⟩ = some (.slice n.ca n.cl n.cc) ∧ w.cell? ⟨b, o + 4, none⟩ = some (.slice n.aa n.al n.ac) ∧ w.cell? ⟨b, o + 5, none⟩ = some (.string n.tx)
set_option maxRecDepth 100000 in
theorem NdAt.same {w x : World} {b o : Nat} {n : Nd} (h : NdAt w b o n) (ho : ∀ j, j < 6 → x.cell? ⟨b, o + j, none⟩ = w.cell? ⟨b, o + j, none⟩) : NdAt x b o n := by
  obtain ⟨h0, h1, h2, h3, h4, h5⟩ := h
  exact ⟨(ho 0 (by omega)).trans h0, (ho 1 (by omega)).trans h1, (ho 2 (by omega)).trans h2, (ho 3 (by omega)).trans h3, (ho 4 (by omega)).trans h4, (ho 5 (by omega)).trans h5⟩

/-- k copies of L lie in block g, each parent told by f -/
structure Mov (w wr : World) (g len k : Nat) (L : Nat → Nd) (f : Int → Int) (B : Nat → Nd) : Prop where
  bel : Below w.heap.size w wr
  lt : g < wr.heap.size
  le : w.heap.size ≤ g
  done : ∀ i, i < k → NdAt wr g (i * 6) (B i) ∧ NdIn wr (B i) ∧ Up (g + 1) (B i).ca (B i).cl ∧ Up (g + 1) (B i).aa (B i).al ∧ Eqn (L i) (B i) ∧ (B i).par = f (L i).par
  there : ∀ j, j < len * 6 → ∃ v, wr.cell? ⟨g, j, none⟩ = some v
  froz : ∀ j, j < len * 6 → wr.frozen? ⟨g, j, none⟩ = false

set_option maxRecDepth 100000 in
theorem Mov.grow {w wr wx : World} {g len k : Nat} {L : Nat → Nd} {f : Int → Int} {B : Nat → Nd} (h : Mov w wr g len k L f B) (hb : Below wr.heap.size wr wx) : Mov w wx g len k L f B := by
  have hc : ∀ j, wx.cell? ⟨g, j, none⟩ = wr.cell? ⟨g, j, none⟩ := fun j => hb.cell (p := ⟨g, j, none⟩) h.lt
  refine ⟨h.bel.trans (hb.mono h.bel.size), Nat.lt_of_lt_of_le h.lt hb.size, h.le, fun i hi => ?_, fun j hj => ?_, fun j hj => ?_⟩
  · obtain ⟨h1, h2, h3⟩ := h.done i hi
    exact ⟨h1.same fun j _ => hc _, h2.below hb, h3⟩
  · rw [hc]; exact h.there j hj
  · rw [hb.frozen (p := ⟨g, j, none⟩) h.lt]; exact h.froz j hj

set_option maxRecDepth 100000 in
theorem Mov.step {w wr x : World} {g len k : Nat} {L : Nat → Nd} {f : Int → Int} {B : Nat → Nd} (h : Mov w wr g len k L f B) (hk : k < len) (n : Nd)
    (h6 : Six wr x g (k * 6) (.int .i64 n.par) (.string n.tag) (.string n.id) (.slice n.ca n.cl n.cc) (.slice n.aa n.al n.ac) (.string n.tx)) (hn : NdIn wr n) (u1 : Up (g + 1) n.ca n.cl) (u2 : Up (g + 1) n.aa n.al) (he : Eqn (L k) n) (hp : n.par = f (L k).par) :
    Mov w x g len (k + 1) L f (fun i => if i = k then n else B i) := by
  have ho : ∀ b' j, b' ≠ g → x.cell? ⟨b', j, none⟩ = wr.cell? ⟨b', j, none⟩ := fun b' j hb => h6.other b' j (Or.inl hb)
  have hs : wr.heap.size ≤ x.heap.size := Nat.le_of_eq h6.size.symm
  refine ⟨h6.below _ _ h.le h.bel, by rw [h6.size]; exact h.lt, h.le, fun i hi => ?_, fun j hj => ?_, fun j hj => ?_⟩
  · by_cases hik : i = k
    · subst hik
      rw [if_pos rfl]
      exact ⟨⟨h6.h0, h6.h1, h6.h2, h6.h3, h6.h4, h6.h5⟩, hn.kept u1 u2 hs ho, u1, u2, he, hp⟩
    · rw [if_neg hik]
      obtain ⟨h1, h2, h3, h4, h5⟩ := h.done i (by omega)
      exact ⟨h1.same fun j hj => h6.other _ _ (by omega), h2.kept h3 h4 hs ho, h3, h4, h5⟩
  · by_cases hj6 : j < k * 6 ∨ k * 6 + 6 ≤ j
    · rw [h6.other _ _ (Or.inr hj6)]; exact h.there j hj
    · have hc : j = k * 6 ∨ j = k * 6 + 1 ∨ j = k * 6 + 2 ∨ j = k * 6 + 3 ∨ j = k * 6 + 4 ∨ j = k * 6 + 5 := by omega
      rcases hc with rfl | rfl | rfl | rfl | rfl | rfl
      · exact ⟨_, h6.h0⟩
      · exact ⟨_, h6.h1⟩
      · exact ⟨_, h6.h2⟩
      · exact ⟨_, h6.h3⟩
      · exact ⟨_, h6.h4⟩
      · exact ⟨_, h6.h5⟩
  · rw [h6.froz]; exact h.froz j hj

set_option maxRecDepth 100000 in
theorem Mov.nat {w wr : World} {g len : Nat} {L : Nat → Nd} {f : Int → Int} {B : Nat → Nd} (h : Mov w wr g len len L f B) : NAt wr g 0 len B := by
  refine ⟨h.lt, fun i hi => ?_⟩
  obtain ⟨h1, h2, _⟩ := h.done i hi
  rw [Nat.zero_add]
  exact ⟨h1, h2⟩

/-- a new row of nodes -/
def mkN (w : World) (n : Nat) : World := w.alloc (.cells (madeCells #[.int .i64 0, .string ⟨#[]⟩, .string ⟨#[]⟩, .slice none 0 0, .slice none 0 0, .string ⟨#[]⟩] (n * 6)) 39)
set_option maxRecDepth 100000 in
theorem info_node : (Try.prog.info? 39).map (fun i => (i.zero, i.size, i.bytes)) = some (some (.agg #[.int .i64 0, .string ⟨#[]⟩, .string ⟨#[]⟩, .slice none 0 0, .slice none 0 0, .string ⟨#[]⟩]), 6, 104) := by kernel_rfl
set_option maxRecDepth 100000 in
theorem und_nodes : Try.prog.underlying 24 = some (.slice 39) := by kernel_rfl
set_option maxRecDepth 100000 in
theorem make_nodes (n : Nat) (h : n ≤ 10000) (u : World) : (Instr.makeSlice 24 (.int .i64 (n : Int)) (.int .i64 (n : Int))).run Try.prog u = .ok (.slice (some ⟨u.heap.size, 0, none⟩) n n) (mkN u n) := by
  obtain ⟨i0, hi, hz0, hz1, hz2⟩ := info_parts info_node
  have h := run_make (P := Try.prog) u 24 39 i0 _ und_nodes hi hz0 .i64 .i64 (n : Int) (n : Int) (by omega) (Int.le_refl _) (by rw [hz2]; omega) (by omega)
  simpa [hz1, Value.cells, mkN] using h
set_option maxRecDepth 100000 in
theorem Mov.start (w : World) (len : Nat) (L : Nat → Nd) (f : Int → Int) (B : Nat → Nd) : Mov w (mkN w len) w.heap.size len 0 L f B := by
  have hs : (mkN w len).heap.size = w.heap.size + 1 := by simp [mkN]
  have hb := heap_alloc_new w (.cells (madeCells #[.int .i64 0, .string ⟨#[]⟩, .string ⟨#[]⟩, .slice none 0 0, .slice none 0 0, .string ⟨#[]⟩] (len * 6)) 39)
  refine ⟨(Below.refl _ _).alloc (Nat.le_refl _) _, by omega, Nat.le_refl _, fun i hi => by omega, fun j hj => ?_, fun j hj => ?_⟩
  · have hz : j < (madeCells #[.int .i64 0, .string ⟨#[]⟩, .string ⟨#[]⟩, .slice none 0 0, .slice none 0 0, .string ⟨#[]⟩] (len * 6)).size := by rw [size_madeCells]; exact hj
    exact ⟨_, cell_of hb (Array.getElem?_eq_getElem hz)⟩
  · exact unfrozen_of hb
end Go.Proofs.Ytlnglpjmfoigmaa
