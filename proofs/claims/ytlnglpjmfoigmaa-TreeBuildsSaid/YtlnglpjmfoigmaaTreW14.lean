/- The walk of layer 4's clone. -/
import Derived.Test.YtlnglpjmfoigmaaTreF
namespace Go.Proofs.Ytlnglpjmfoigmaa
open Go.RowKit TreN TreP

/-- a node's box, and one for the answer -/
def cloned0 (w : World) (n : Nd) : World := (boxed w n).alloc (.cells #[.int .i64 0, .string ⟨#[]⟩, .string ⟨#[]⟩, .slice none 0 0, .slice none 0 0, .string ⟨#[]⟩] 39)

set_option maxRecDepth 100000 in
theorem Up.mono {lo lo' : Nat} {a : Option Addr} {n : Nat} (h : Up lo a n) (hl : lo' ≤ lo) : Up lo' a n := h.imp id fun ⟨g, off, e, hg⟩ => ⟨g, off, e, Nat.le_trans hl hg⟩

/-- a node's cells, its rows in other places -/
def Nd.at2 (n : Nd) (a1 : Option Addr) (k1 : Nat) (a2 : Option Addr) (k2 : Nat) : Nd := { n with ca := a1, cc := k1, aa := a2, ac := k2 }

set_option maxRecDepth 100000 in
set_option maxHeartbeats 2000000 in
theorem clone_any (A : Nd) (w : World) (hA : NdIn w A) (h8 : A.cl ≤ 8) (h8' : A.al ≤ 8) :
    Calls Try.prog 63 #[.agg A.val] w fun e w' => ∃ B : Nd, e = .returned (.agg B.val) ∧ Eqn A B ∧ B.par = A.par ∧ NdIn w' B ∧ Up w.heap.size B.ca B.cl ∧ Up w.heap.size B.aa B.al ∧ Below w.heap.size w w' := by
  have hb0 : Below w.heap.size w (cloned0 w A) := (boxed_below w A).alloc (boxed_below w A).size _
  have hs0 : (cloned0 w A).heap.size = w.heap.size + 2 := by unfold cloned0 boxed; simp
  have hbk : (cloned0 w A).heap[w.heap.size]? = some (.cells #[.int .i64 A.par, .string A.tag, .string A.id, .slice A.ca A.cl A.cc, .slice A.aa A.al A.ac, .string A.tx] 39 (0, 0)) := by
    unfold cloned0 boxed
    refine (heap_alloc_old (w.alloc _) _ (by simp)).trans ?_
    exact heap_alloc_new w _
  have hbk2 : (cloned0 w A).heap[w.heap.size + 1]? = some (.cells #[.int .i64 0, .string ⟨#[]⟩, .string ⟨#[]⟩, .slice none 0 0, .slice none 0 0, .string ⟨#[]⟩] 39 (0, 0)) := by
    unfold cloned0
    have e : w.heap.size + 1 = (boxed w A).heap.size := by unfold boxed; simp
    rw [e]
    exact heap_alloc_new _ _
  have hbx : ((w.alloc (.cells #[.int .i64 A.par, .string A.tag, .string A.id, .slice A.ca A.cl A.cc, .slice A.aa A.al A.ac, .string A.tx] 39)).alloc (.cells #[.int .i64 0, .string ⟨#[]⟩, .string ⟨#[]⟩, .slice none 0 0, .slice none 0 0, .string ⟨#[]⟩] 39)) = cloned0 w A := rfl
  generalize cloned0 w A = wb at *
  -- the classes
  obtain ⟨a1, k1, w1, hr1, hS, hU1, hB1⟩ := copy_strs A.ca A.cl A.cc A.cs wb h8 (hA.hc.below hb0)
  have c3 := cell_of (k := 3) hbk rfl
  have hbk_1 := (hB1.block w.heap.size (by omega)).trans hbk
  have hbk2_1 := (hB1.block (w.heap.size + 1) (by omega)).trans hbk2
  have d3 := cell_of (k := 3) hbk_1 rfl
  have f3 := unfrozen_of (k := 3) hbk_1
  have hbk_2 := setCell_here (k := 3) (.slice a1 A.cl k1) hbk_1
  have hbk2_2 := (setCell_there (k := 3) (.slice a1 A.cl k1) (show w.heap.size + 1 ≠ w.heap.size by omega)).trans hbk2_1
  have hB2 : Below w.heap.size w (w1.setCell ⟨w.heap.size, 3, none⟩ (.slice a1 A.cl k1)) := (hb0.trans (hB1.mono hb0.size)).setCell (p := ⟨w.heap.size, 3, none⟩) (Nat.le_refl _) _
  have hsz2 : (w1.setCell ⟨w.heap.size, 3, none⟩ (.slice a1 A.cl k1)).heap.size = w1.heap.size := by simp [World.setCell]
  have hz1 := hB1.size
  have hS2 : Strs (w1.setCell ⟨w.heap.size, 3, none⟩ (.slice a1 A.cl k1)) a1 A.cl A.cs := by
    by_cases hz : A.cl = 0
    · exact Or.inl hz
    · rcases hS with h | ⟨b, off, e, hb, hc⟩
      · exact absurd h hz
      · rcases hU1 with h | ⟨g, off', e', hg⟩
        · exact absurd h hz
        · rw [e] at e'; injection e' with e'; injection e' with e1 e2
          refine Or.inr ⟨b, off, e, by rw [hsz2]; exact hb, fun i hi => ?_⟩
          rw [World.cell?_setCell_other (h := by intro e; injection e; omega)]
          exact hc i hi
  have hU1' : Up (w.heap.size + 2) a1 A.cl := hU1.imp id fun ⟨g, off, e, hg⟩ => ⟨g, off, e, by omega⟩
  obtain ⟨wc, hwc⟩ : ∃ wc, w1.setCell ⟨w.heap.size, 3, none⟩ (.slice a1 A.cl k1) = wc := ⟨_, rfl⟩
  rw [hwc] at hbk_2 hbk2_2 hB2 hsz2 hS2
  -- the attributes
  obtain ⟨a2, k2, w2, hr2, hT, hU2, hB3⟩ := copy_atts A.aa A.al A.ac A.an A.av wc h8' (hA.ha.below hB2)
  simp only [List.setIfInBounds_toArray, List.set_cons_succ, List.set_cons_zero] at hbk_2
  have c4 := cell_of (k := 4) hbk_2 rfl
  have hbk_3 := (hB3.block w.heap.size (by omega)).trans hbk_2
  have hbk2_3 := (hB3.block (w.heap.size + 1) (by omega)).trans hbk2_2
  have d4 := cell_of (k := 4) hbk_3 rfl
  have f4 := unfrozen_of (k := 4) hbk_3
  have hbk_4 := setCell_here (k := 4) (.slice a2 A.al k2) hbk_3
  have hbk2_4 := (setCell_there (k := 4) (.slice a2 A.al k2) (show w.heap.size + 1 ≠ w.heap.size by omega)).trans hbk2_3
  simp only [List.setIfInBounds_toArray, List.set_cons_succ, List.set_cons_zero] at hbk_4
  have hsz4 : (w2.setCell ⟨w.heap.size, 4, none⟩ (.slice a2 A.al k2)).heap.size = w2.heap.size := by simp [World.setCell]
  have hz2 := hB3.size
  have hB4 : Below w.heap.size w (w2.setCell ⟨w.heap.size, 4, none⟩ (.slice a2 A.al k2)) := (hB2.trans (hB3.mono hB2.size)).setCell (p := ⟨w.heap.size, 4, none⟩) (Nat.le_refl _) _
  have hS3 := hS2.below hB3
  have hS4 : Strs (w2.setCell ⟨w.heap.size, 4, none⟩ (.slice a2 A.al k2)) a1 A.cl A.cs := by
    by_cases hz : A.cl = 0
    · exact Or.inl hz
    · rcases hS3 with h | ⟨b, off, e, hb, hc⟩
      · exact absurd h hz
      · rcases hU1 with h | ⟨g, off', e', hg⟩
        · exact absurd h hz
        · rw [e] at e'; injection e' with e'; injection e' with e1 e2
          refine Or.inr ⟨b, off, e, by rw [hsz4]; exact hb, fun i hi => ?_⟩
          rw [World.cell?_setCell_other (h := by intro e; injection e; omega)]
          exact hc i hi
  have hT4 : Atts (w2.setCell ⟨w.heap.size, 4, none⟩ (.slice a2 A.al k2)) a2 A.al A.an A.av := by
    by_cases hz : A.al = 0
    · exact Or.inl hz
    · rcases hT with h | ⟨b, off, e, hb, hc⟩
      · exact absurd h hz
      · rcases hU2 with h | ⟨g, off', e', hg⟩
        · exact absurd h hz
        · rw [e] at e'; injection e' with e'; injection e' with e1 e2
          refine Or.inr ⟨b, off, e, by rw [hsz4]; exact hb, fun i hi => ⟨?_, ?_⟩⟩
          · rw [World.cell?_setCell_other (h := by intro e; injection e; omega)]
            exact (hc i hi).1
          · rw [World.cell?_setCell_other (h := by intro e; injection e; omega)]
            exact (hc i hi).2
  have hU2' : Up (w.heap.size + 2) a2 A.al := hU2.imp id fun ⟨g, off, e, hg⟩ => ⟨g, off, e, by omega⟩
  obtain ⟨wd, hwd⟩ : ∃ wd, w2.setCell ⟨w.heap.size, 4, none⟩ (.slice a2 A.al k2) = wd := ⟨_, rfl⟩
  rw [hwd] at hbk_4 hbk2_4 hB4 hsz4 hS4 hT4
  have e0 := cell_of (k := 0) hbk_4 rfl
  have e1 := cell_of (k := 1) hbk_4 rfl
  have e2 := cell_of (k := 2) hbk_4 rfl
  have e3 := cell_of (k := 3) hbk_4 rfl
  have e4 := cell_of (k := 4) hbk_4 rfl
  have e5 := cell_of (k := 5) hbk_4 rfl
  have hall : ∀ j, j < 6 → ∃ v, wd.cell? ⟨w.heap.size + 1, 0 + j, none⟩ = some v := by
    intro j hj
    rcases j with _ | _ | _ | _ | _ | _ | j
    · exact ⟨_, cell_of hbk2_4 rfl⟩
    · exact ⟨_, cell_of hbk2_4 rfl⟩
    · exact ⟨_, cell_of hbk2_4 rfl⟩
    · exact ⟨_, cell_of hbk2_4 rfl⟩
    · exact ⟨_, cell_of hbk2_4 rfl⟩
    · exact ⟨_, cell_of hbk2_4 rfl⟩
    · omega
  obtain ⟨x1, x2, x3, x4, x5, x6, v0, v1, v2, v3, v4, v5, s0, s1, s2, s3, s4, s5, h6⟩ := six_store wd (w.heap.size + 1) 0 (.int .i64 A.par) (.string A.tag) (.string A.id) (.slice a1 A.cl k1) (.slice a2 A.al k2) (.string A.tx) hall (fun j _ => unfrozen_of hbk2_4)
  have H6 := Lib.hid h6
  have y0 := h6.h0
  have y1 := h6.h1
  have y2 := h6.h2
  have y3 := h6.h3
  have y4 := h6.h4
  have y5 := h6.h5
  simp only [Nat.zero_add] at s1 s2 s3 s4 s5 y1 y2 y3 y4 y5
  obtain ⟨p0, q0, r0⟩ := s0
  obtain ⟨p1, q1, r1⟩ := s1
  obtain ⟨p2, q2, r2⟩ := s2
  obtain ⟨p3, q3, r3⟩ := s3
  obtain ⟨p4, q4, r4⟩ := s4
  obtain ⟨p5, q5, r5⟩ := s5
  clear hall h6
  have HR1 := Lib.hid hr1
  have HR2 := Lib.hid hr2
  have HA := Lib.hid hA
  have HB4 := Lib.hid hB4
  have HS4 := Lib.hid hS4
  have HT4 := Lib.hid hT4
  have HU1 := Lib.hid hU1'
  have HU2 := Lib.hid hU2'
  have HBK2 := Lib.hid hbk2_4
  have hsz : w.heap.size + 2 ≤ wd.heap.size := by omega
  have HSZ := Lib.hid hsz
  clear hA hb0 hs0 hbk hbk2 hr1 hr2 hS hU1 hB1 hbk_1 hbk2_1 hbk_2 hbk2_2 hB2 hsz2 hz1 hS2 hU1' hT hU2 hB3 hbk_3 hbk2_3 hbk_4 hbk2_4 hsz4 hz2 hB4 hS3 hS4 hT4 hU2' hsz
  rw [Nd.val_eq]
  go_enter Try.func63, Try.ntmps63
  go_wp2_with (first
    | (at_builtin; refine wpList_append_run rfl _ _ 36 rfl _ _ _ _ rfl rfl HR1.out ?_)
    | (at_builtin; refine wpList_append_run rfl _ _ 37 rfl _ _ _ _ rfl rfl HR2.out ?_))
  have hNd : NdIn x6 (A.at2 a1 k1 a2 k2) := by
    have hz : w.heap.size + 2 ≤ x6.heap.size := by rw [H6.out.size]; exact HSZ.out
    refine ⟨HA.out.stag, HA.out.sid, HA.out.stx, HA.out.scl, HA.out.sal, HA.out.scs, HA.out.san, HA.out.sav, ?_, ?_⟩
    · show Strs x6 a1 A.cl A.cs
      by_cases hz : A.cl = 0
      · exact Or.inl hz
      · rcases HS4.out with h | ⟨b, off, e, hb, hc⟩
        · exact absurd h hz
        · rcases HU1.out with h | ⟨g, off', e', hg⟩
          · exact absurd h hz
          · rw [e] at e'; injection e' with e'; injection e' with e1 e2
            refine Or.inr ⟨b, off, e, by rw [H6.out.size]; exact hb, fun i hi => ?_⟩
            rw [H6.out.other _ _ (by omega)]
            exact hc i hi
    · show Atts x6 a2 A.al A.an A.av
      by_cases hz : A.al = 0
      · exact Or.inl hz
      · rcases HT4.out with h | ⟨b, off, e, hb, hc⟩
        · exact absurd h hz
        · rcases HU2.out with h | ⟨g, off', e', hg⟩
          · exact absurd h hz
          · rw [e] at e'; injection e' with e'; injection e' with e1 e2
            refine Or.inr ⟨b, off, e, by rw [H6.out.size]; exact hb, fun i hi => ⟨?_, ?_⟩⟩
            · rw [H6.out.other _ _ (by omega)]
              exact (hc i hi).1
            · rw [H6.out.other _ _ (by omega)]
              exact (hc i hi).2
  exact bodyPost_ret (v := .agg (A.at2 a1 k1 a2 k2).val) (by rw [Nd.val_eq]; simp [results, Try.results63, go_sem, y0, y1, y2, y3, y4, y5, Nd.at2]) rfl
    ⟨A.at2 a1 k1 a2 k2, rfl, ⟨rfl, rfl, rfl, rfl, rfl, fun _ _ => rfl, fun _ _ => rfl, fun _ _ => rfl⟩, rfl, hNd, HU1.out.mono (by omega), HU2.out.mono (by omega), H6.out.below _ _ (by omega) HB4.out⟩
end Go.Proofs.Ytlnglpjmfoigmaa
