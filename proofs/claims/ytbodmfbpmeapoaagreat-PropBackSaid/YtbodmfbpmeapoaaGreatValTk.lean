/- Joined texts: ValR5 ValL2. -/
import Derived.Test.YtbodmfbpmeapoaaGreatValWd
import Derived.Test.YtbodmfbpmeapoaaGreatValR1
import Derived.Test.YtbodmfbpmeapoaaGreatValWe
namespace Go.Proofs.YtbodmfbpmeapoaaGreat
open Go.RowKit TreN LexP FixP SynP ValP FixM
set_option linter.unusedVariables false

theorem txtP_at {L : List (List UInt8)} {k : Nat} (h1 : 1 ≤ k) (h2 : k < ([] :: L).length) : ([] :: L)[k] = txtP L (k : Int) := by
  obtain ⟨j, rfl⟩ : ∃ j, k = j + 1 := ⟨k - 1, by omega⟩
  have hj : j < L.length := by simpa using h2
  show L[j] = _
  unfold txtP
  rw [if_pos ⟨by omega, by omega⟩]
  have : ((j + 1 : Nat) : Int).toNat - 1 = j := by omega
  rw [this, List.getD_eq_getElem?_getD, List.getElem?_eq_getElem hj]; rfl
/-- behind a call that makes memory: the box, and the token that is told anew -/
theorem tok_facts {w W w2 : World} {Bx Bt : Nat} {o : Obj} (k n : Int) (x : List UInt8) (h1 : W.heap[Bx]? = some o) (h2 : W.heap[Bt]? = some (.cells #[.int .i64 7, .string ⟨#[]⟩, .int .i64 n] 58 (0, 0))) (h3 : Below w.heap.size w W) (hB : w.heap.size ≤ Bt) (hne : Bx ≠ Bt) (m : Int) (hb : Below W.drew.heap.size W.drew w2) :
    w2.heap[Bx]? = some o ∧ ∃ x1 x2 x3, (w2.cell? ⟨Bt, 0, none⟩ = some (.int .i64 7) ∧ w2.frozen? ⟨Bt, 0, none⟩ = false ∧ w2.setCell ⟨Bt, 0, none⟩ (.int .i64 k) = x1) ∧
      (x1.cell? ⟨Bt, 1, none⟩ = some (.string ⟨#[]⟩) ∧ x1.frozen? ⟨Bt, 1, none⟩ = false ∧ x1.setCell ⟨Bt, 1, none⟩ (.string ⟨x.toArray⟩) = x2) ∧
      (x2.cell? ⟨Bt, 2, none⟩ = some (.int .i64 n) ∧ x2.frozen? ⟨Bt, 2, none⟩ = false ∧ x2.setCell ⟨Bt, 2, none⟩ (.int .i64 m) = x3) ∧
      x3.heap[Bx]? = some o ∧ x3.cell? ⟨Bt, 0, none⟩ = some (.int .i64 k) ∧ x3.cell? ⟨Bt, 1, none⟩ = some (.string ⟨x.toArray⟩) ∧ x3.cell? ⟨Bt, 2, none⟩ = some (.int .i64 m) ∧ Hid (Below w.heap.size w x3) := by
  have l1 : Bx < W.heap.size := blk_lt9 h1
  have l2 : Bt < W.heap.size := blk_lt9 h2
  have k1 : w2.heap[Bx]? = some o := (hb.block _ l1).trans h1
  have k2 : w2.heap[Bt]? = some (.cells #[.int .i64 7, .string ⟨#[]⟩, .int .i64 n] 58 (0, 0)) := (hb.block _ l2).trans h2
  have hs := h3.size
  have k3 : Below w.heap.size w w2 := h3.trans ((Below.refl _ _).drew.trans (hb.mono hs))
  obtain ⟨x1, x2, x3, a1, a2, a3, h4⟩ := three_store w2 Bt 58 _ _ _ (.int .i64 k) (.string ⟨x.toArray⟩) (.int .i64 m) k2
  exact ⟨k1, x1, x2, x3, a1, a2, a3, (h4.there _ hne).trans k1, cell_of (k := 0) h4.here rfl, cell_of (k := 1) h4.here rfl, cell_of (k := 2) h4.here rfl, h4.below w.heap.size w hB k3⟩

set_option maxRecDepth 100000 in
set_option maxHeartbeats 4000000 in
theorem refTokens9_any (k n d : Int) (nm : List UInt8) (w : World) (hs : nm.length ≤ maxLen) : Calls Tryz.prog 15 #[.agg #[.int .i64 k, .int .i64 n, .int .i64 d, .string ⟨nm.toArray⟩]] w (ToldCap w (tokV ⟨k, n, d, nm⟩)) := by
  have RR := Lib.hid (fun W => refRight9_any k n d nm W hs)
  obtain ⟨L, hL⟩ : ∃ L, tokV ⟨k, n, d, nm⟩ = L := ⟨_, rfl⟩
  have HL := Lib.hid hL
  rw [hL]
  have hfx : (w.alloc (.cells #[.int .i64 k, .int .i64 n, .int .i64 d, .string ⟨nm.toArray⟩] 23)).heap[w.heap.size]? = some (.cells #[.int .i64 k, .int .i64 n, .int .i64 d, .string ⟨nm.toArray⟩] 23 (0, 0)) := heap_alloc_new w _
  have HBW := Lib.hid (below_one w (.cells #[.int .i64 k, .int .i64 n, .int .i64 d, .string ⟨nm.toArray⟩] 23))
  generalize hW : w.alloc (.cells #[.int .i64 k, .int .i64 n, .int .i64 d, .string ⟨nm.toArray⟩] 23) = W at *
  have HFX := Lib.hid hfx
  have hBl := blk_lt9 hfx
  have c0 : W.cell? ⟨w.heap.size, 0, none⟩ = some (.int .i64 k) := cell_of hfx rfl
  have c1 : W.cell? ⟨w.heap.size, 1, none⟩ = some (.int .i64 n) := cell_of hfx rfl
  have c2 : W.cell? ⟨w.heap.size, 2, none⟩ = some (.int .i64 d) := cell_of hfx rfl
  have c3 : W.cell? ⟨w.heap.size, 3, none⟩ = some (.string ⟨nm.toArray⟩) := cell_of hfx rfl
  clear hL hfx
  cases hr : rightV ⟨k, n, d, nm⟩ with
  | false =>
    have RR2 : Hid (∀ W : World, Calls Tryz.prog 32 #[.agg #[.int .i64 k, .int .i64 n, .int .i64 d, .string ⟨nm.toArray⟩]] W fun e w' => e = .returned (.bool false) ∧ Below W.heap.size W w') := Lib.hid fun W => by have := RR.out W; rw [hr] at this; exact this
    have HE : Hid (L = []) := Lib.hid (by rw [← HL.out, tokV_no hr])
    clear RR hr
    go_enter Tryz.func15, Tryz.ntmps15
    go_wp2_with fail
    refine (RR2.out _).mono ?_
    rintro e w1 ⟨rfl, hb1⟩
    have HB1 := Lib.hid (HBW.out.trans (hb1.mono HBW.out.size))
    clear hb1
    go_wp2_with fail
    go_ret
    rw [HE.out]
    exact told_nil HB1.out
  | true =>
    have RR2 : Hid (∀ W : World, Calls Tryz.prog 32 #[.agg #[.int .i64 k, .int .i64 n, .int .i64 d, .string ⟨nm.toArray⟩]] W fun e w' => e = .returned (.bool true) ∧ Below W.heap.size W w') := Lib.hid fun W => by have := RR.out W; rw [hr] at this; exact this
    clear RR
    have WW := Lib.hid (fun (W : World) => (refWords_any W).mono (R' := fun e w' => ∃ b, e = .returned (.slice (some ⟨b, 0, none⟩) 31 31) ∧ Hid (TxAt w' b wL ∧ b < w'.heap.size ∧ Below W.heap.size W w')) fun e w' h => ⟨_, h.1, by rw [h.2]; exact ⟨TxAt.made W wL, by simp, below_one _ _⟩⟩)
    have UU := Lib.hid (fun (W : World) => (refUnits_any W).mono (R' := fun e w' => ∃ b, e = .returned (.slice (some ⟨b, 0, none⟩) 9 9) ∧ Hid (TxAt w' b uL ∧ b < w'.heap.size ∧ Below W.heap.size W w')) fun e w' h => ⟨_, h.1, by rw [h.2]; exact ⟨TxAt.made W uL, by simp, below_one _ _⟩⟩)
    go_enter Tryz.func15, Tryz.ntmps15
    go_wp2_with fail
    refine (RR2.out _).mono ?_
    rintro e w1 ⟨rfl, hb1⟩
    have HB1 := Lib.hid (HBW.out.trans (hb1.mono HBW.out.size))
    have hfx1 : w1.heap[w.heap.size]? = some (.cells #[.int .i64 k, .int .i64 n, .int .i64 d, .string ⟨nm.toArray⟩] 23 (0, 0)) := by rw [hb1.block _ hBl]; exact HFX.out
    have hBl1 := blk_lt9 hfx1
    have d0 : w1.cell? ⟨w.heap.size, 0, none⟩ = some (.int .i64 k) := cell_of hfx1 rfl
    have d1 : w1.cell? ⟨w.heap.size, 1, none⟩ = some (.int .i64 n) := cell_of hfx1 rfl
    have d2 : w1.cell? ⟨w.heap.size, 2, none⟩ = some (.int .i64 d) := cell_of hfx1 rfl
    have d3 : w1.cell? ⟨w.heap.size, 3, none⟩ = some (.string ⟨nm.toArray⟩) := cell_of hfx1 rfl
    have HFX1 := Lib.hid hfx1
    clear hb1 c0 c1 c2 c3 hfx1
    have hl := HL.out
    unfold tokV at hl
    rw [if_pos hr] at hl
    go_upto_region 4 with (fail)
    generalize hW2 : w1.alloc (.cells #[.int .i64 7, .string ⟨#[]⟩, .int .i64 n] 58) = w2
    have g2 : w2.heap[w1.heap.size]? = some (.cells #[.int .i64 7, .string ⟨#[]⟩, .int .i64 n] 58 (0, 0)) := by rw [← hW2]; exact heap_alloc_new w1 _
    have g1 : w2.heap[w.heap.size]? = some (.cells #[.int .i64 k, .int .i64 n, .int .i64 d, .string ⟨nm.toArray⟩] 23 (0, 0)) := by rw [← hW2, Below.heap_alloc _ _ _ hBl1]; exact HFX1.out
    have HB2 : Hid (Below w.heap.size w w2) := Lib.hid (by rw [← hW2]; exact HB1.out.alloc HB1.out.size _)
    obtain ⟨Bt, hBt⟩ : ∃ B, w1.heap.size = B := ⟨_, rfl⟩
    rw [hBt] at g2 hBl1
    rw [hBt]
    clear hW2 d0 d1 d2 d3 hBt
    have hBl2 := blk_lt9 g2
    have hBl3 := blk_lt9 g1
    have d0 : w2.cell? ⟨w.heap.size, 0, none⟩ = some (.int .i64 k) := cell_of g1 rfl
    have d1 : w2.cell? ⟨w.heap.size, 1, none⟩ = some (.int .i64 n) := cell_of g1 rfl
    have d2 : w2.cell? ⟨w.heap.size, 2, none⟩ = some (.int .i64 d) := cell_of g1 rfl
    have d3 : w2.cell? ⟨w.heap.size, 3, none⟩ = some (.string ⟨nm.toArray⟩) := cell_of g1 rfl
    have t0 : w2.cell? ⟨Bt, 0, none⟩ = some (.int .i64 7) := cell_of g2 rfl
    have t1 : w2.cell? ⟨Bt, 1, none⟩ = some (.string ⟨#[]⟩) := cell_of g2 rfl
    have t2 : w2.cell? ⟨Bt, 2, none⟩ = some (.int .i64 n) := cell_of g2 rfl
    have GG := Lib.hid (And.intro g1 g2)
    have HBT : Hid (w.heap.size < Bt) := Lib.hid hBl1
    clear g1 g2
    rcases (by omega : k = 1 ∨ k = 2 ∨ k = 3 ∨ k = 4 ∨ k = 5 ∨ (k ≠ 1 ∧ k ≠ 2 ∧ k ≠ 3 ∧ k ≠ 4 ∧ k ≠ 5)) with rfl | rfl | rfl | rfl | rfl | ⟨h1, h2, h3, h4, h5⟩
    · have hl : [⟨1, txtP wordsL n, 0⟩] = L := hl
      rw [rv1] at hr
      simp only [Bool.and_eq_true, decide_eq_true_eq] at hr
      obtain ⟨j, rfl⟩ : ∃ j : Nat, n = (j : Int) := ⟨n.toNat, by omega⟩
      have hj1 : 1 ≤ j := by omega
      have hj2 : j < wL.length := by show j < 31; omega
      have hjz : (j : Int) < 31 := by omega
      have hj0 : (0 : Int) ≤ (j : Int) := by omega
      have hj31 : j < 31 := by omega
      have CX : Hid (∀ (b : Nat) (W : World), TxAt W b wL → W.cell? ⟨b, j, none⟩ = some (.string ⟨(txtP wordsL (j : Int)).toArray⟩)) := Lib.hid fun b W hW => by have := hW j hj2; rwa [show wL[j] = txtP wordsL (j : Int) from txtP_at hj1 hj2] at this
      generalize txtP wordsL (j : Int) = x at *
      have HLL := Lib.hid hl
      clear hl hr hj2 hj1
      go_wp2_with fail
      go_region_with (go_at_call 36; refine (WW.out _).mono ?_; rintro e w3 ⟨b, rfl, HF⟩; obtain ⟨y1, x1, x2, x3, ⟨p0, q0, r0⟩, ⟨p1, q1, r1⟩, ⟨p2, q2, r2⟩, y2, f0, f1, f2, HF3⟩ := tok_facts (w := w) 1 _ x GG.out.1 GG.out.2 HB2.out (Nat.le_of_lt HBT.out) (Nat.ne_of_lt HBT.out) 0 HF.out.2.2; have cx := CX.out b w3 HF.out.1; have dd1 : w3.cell? ⟨w.heap.size, 1, none⟩ = some (.int .i64 (j : Int)) := cell_of y1 rfl; clear y1)
      all_goals
        have d0 : x3.cell? ⟨w.heap.size, 0, none⟩ = some (.int .i64 1) := cell_of y2 rfl
        clear y2
        go_wp2_with fail
        go_ret
        rw [← HLL.out]
        have t : ToldCap w [⟨1, x, 0⟩] (.returned (.slice (some ⟨x3.heap.size, 0, none⟩) 1 1)) (x3.alloc (.cells #[.int .i64 1, .string ⟨x.toArray⟩, .int .i64 0] 58)) := by
          simpa [tkcs] using told_one ⟨1, x, 0⟩ HF3.out
        exact t
    · have hl : [⟨9, txtP unitsL d, n⟩] = L := hl
      rw [rv2] at hr
      simp only [Bool.and_eq_true, decide_eq_true_eq] at hr
      obtain ⟨j, rfl⟩ : ∃ j : Nat, d = (j : Int) := ⟨d.toNat, by omega⟩
      have hj1 : 1 ≤ j := by omega
      have hj2 : j < uL.length := by show j < 9; omega
      have hjz : (j : Int) < 9 := by omega
      have hj0 : (0 : Int) ≤ (j : Int) := by omega
      have hj31 : j < 9 := by omega
      have CX : Hid (∀ (b : Nat) (W : World), TxAt W b uL → W.cell? ⟨b, j, none⟩ = some (.string ⟨(txtP unitsL (j : Int)).toArray⟩)) := Lib.hid fun b W hW => by have := hW j hj2; rwa [show uL[j] = txtP unitsL (j : Int) from txtP_at hj1 hj2] at this
      generalize txtP unitsL (j : Int) = x at *
      have HLL := Lib.hid hl
      clear hl hr hj2 hj1
      go_wp2_with fail
      go_region_with (go_at_call 38; refine (UU.out _).mono ?_; rintro e w3 ⟨b, rfl, HF⟩; obtain ⟨y1, x1, x2, x3, ⟨p0, q0, r0⟩, ⟨p1, q1, r1⟩, ⟨p2, q2, r2⟩, y2, f0, f1, f2, HF3⟩ := tok_facts (w := w) 9 _ x GG.out.1 GG.out.2 HB2.out (Nat.le_of_lt HBT.out) (Nat.ne_of_lt HBT.out) n HF.out.2.2; have cx := CX.out b w3 HF.out.1; have dd1 : w3.cell? ⟨w.heap.size, 2, none⟩ = some (.int .i64 (j : Int)) := cell_of y1 rfl; have dd2 : w3.cell? ⟨w.heap.size, 1, none⟩ = some (.int .i64 n) := cell_of y1 rfl; clear y1)
      all_goals
        have d0 : x3.cell? ⟨w.heap.size, 0, none⟩ = some (.int .i64 2) := cell_of y2 rfl
        clear y2
        go_wp2_with fail
        go_ret
        rw [← HLL.out]
        have t : ToldCap w [⟨9, x, n⟩] (.returned (.slice (some ⟨x3.heap.size, 0, none⟩) 1 1)) (x3.alloc (.cells #[.int .i64 9, .string ⟨x.toArray⟩, .int .i64 n] 58)) := by
          simpa [tkcs] using told_one ⟨9, x, n⟩ HF3.out
        exact t
    · have HLL := Lib.hid (show [⟨8, [], n⟩] = L from hl)
      obtain ⟨x1, x2, x3, ⟨p0, q0, r0⟩, ⟨p1, q1, r1⟩, ⟨p2, q2, r2⟩, h3⟩ := three_store w2 Bt 58 _ _ _ (.int .i64 8) (.string ⟨#[]⟩) (.int .i64 n) GG.out.2
      have d0 : x3.cell? ⟨w.heap.size, 0, none⟩ = some (.int .i64 3) := cell_of ((h3.there _ (Nat.ne_of_lt HBT.out)).trans GG.out.1) rfl
      have f0 : x3.cell? ⟨Bt, 0, none⟩ = some (.int .i64 8) := cell_of h3.here rfl
      have f1 : x3.cell? ⟨Bt, 1, none⟩ = some (.string ⟨#[]⟩) := cell_of h3.here rfl
      have f2 : x3.cell? ⟨Bt, 2, none⟩ = some (.int .i64 n) := cell_of h3.here rfl
      have HF3 := Lib.hid (h3.below w.heap.size w (Nat.le_of_lt HBT.out) HB2.out)
      clear hl hr h3
      go_wp2_with fail
      go_ret
      rw [← HLL.out]
      have t : ToldCap w [⟨8, [], n⟩] (.returned (.slice (some ⟨x3.heap.size, 0, none⟩) 1 1)) (x3.alloc (.cells #[.int .i64 8, .string ⟨#[]⟩, .int .i64 n] 58)) := by
        simpa [tkcs] using told_one ⟨8, [], n⟩ HF3.out
      exact t
    · have HLL := Lib.hid (show [⟨7, [], n⟩] = L from hl)
      clear hl hr
      go_wp2_with fail
      go_ret
      rw [← HLL.out]
      have t : ToldCap w [⟨7, [], n⟩] (.returned (.slice (some ⟨w2.heap.size, 0, none⟩) 1 1)) (w2.alloc (.cells #[.int .i64 7, .string ⟨#[]⟩, .int .i64 n] 58)) := by
        simpa [tkcs] using told_one ⟨7, [], n⟩ HB2.out
      exact t
    · have HLL := Lib.hid (show ratT n d = L from hl)
      clear hl hr
      go_wp2_with fail
      go_ret
      rw [← HLL.out]
      exact ⟨_, _, rfl, made_toks w2 (ratT n d), HB2.out.alloc HB2.out.size _, Nat.le_refl _, by unfold maxLen; decide⟩
    · have h6 : k = 6 := by
        by_cases c : k = 6
        · exact c
        · rw [rvo n d nm h1 h2 h3 h4 h5 c] at hr; cases hr
      subst h6
      have HLL := Lib.hid (show [⟨1, nm, 0⟩] = L from hl)
      obtain ⟨x1, x2, x3, ⟨p0, q0, r0⟩, ⟨p1, q1, r1⟩, ⟨p2, q2, r2⟩, h3⟩ := three_store w2 Bt 58 _ _ _ (.int .i64 1) (.string ⟨nm.toArray⟩) (.int .i64 0) GG.out.2
      have d0 : x3.cell? ⟨w.heap.size, 0, none⟩ = some (.int .i64 6) := cell_of ((h3.there _ (Nat.ne_of_lt HBT.out)).trans GG.out.1) rfl
      have f0 : x3.cell? ⟨Bt, 0, none⟩ = some (.int .i64 1) := cell_of h3.here rfl
      have f1 : x3.cell? ⟨Bt, 1, none⟩ = some (.string ⟨nm.toArray⟩) := cell_of h3.here rfl
      have f2 : x3.cell? ⟨Bt, 2, none⟩ = some (.int .i64 0) := cell_of h3.here rfl
      have HF3 := Lib.hid (h3.below w.heap.size w (Nat.le_of_lt HBT.out) HB2.out)
      clear hl hr h3 h1 h2 h4 h5
      go_wp2_with fail
      go_ret
      rw [← HLL.out]
      have t : ToldCap w [⟨1, nm, 0⟩] (.returned (.slice (some ⟨x3.heap.size, 0, none⟩) 1 1)) (x3.alloc (.cells #[.int .i64 1, .string ⟨nm.toArray⟩, .int .i64 0] 58)) := by
        simpa [tkcs] using told_one ⟨1, nm, 0⟩ HF3.out
      exact t
end Go.Proofs.YtbodmfbpmeapoaaGreat

namespace Go.Proofs.YtbodmfbpmeapoaaGreat
open Go.RowKit TreN LexP FixP SynP ValP FixM
set_option linter.unusedVariables false

theorem tokV_le (v : Val) : (tokV v).length ≤ 5 := by
  unfold tokV
  split
  · split
    · simp
    · split
      · simp
      · split
        · simp
        · split
          · simp
          · split
            · simp [ratT]
            · simp
  · simp
/-- two calls' tokens -/
def TkCell (B : Nat) (v : Val) (w : World) : Prop := w.heap[B]? = some (.cells #[.int .i64 v.kind, .int .i64 v.n, .int .i64 v.d, .string ⟨v.name.toArray⟩] 23 (0, 0))
end Go.Proofs.YtbodmfbpmeapoaaGreat
