/- The walks of layer 21: an item is frozen, tried. -/
import Derived.Test.YtaegajlffiepoaaFlxM
namespace Go.Proofs.Ytaegajlffiepoaa
open Go.RowKit FixM ShaD ShaM Go.Sort
set_option linter.unusedVariables false

theorem put3F (W : World) (S : Nat) (T : TypeId) (a0 a1 a2 b0 b1 b2 : Value) (h : W.heap[S]? = some (.cells #[a0, a1, a2] T (0, 0))) :
    (((W.setCell ⟨S, 0, none⟩ b0).setCell ⟨S, 1, none⟩ b1).setCell ⟨S, 2, none⟩ b2).heap[S]? = some (.cells #[b0, b1, b2] T (0, 0)) := by
  rw [heap_setCell_same _ S 2 _ _ _ (heap_setCell_same _ S 1 _ _ _ (heap_setCell_same _ S 0 _ _ _ h))]; rfl

set_option maxRecDepth 100000 in
set_option maxHeartbeats 2000000 in
theorem freeze_any {w0 w : World} {P bl Bo n : Nat} {iv ov : Value} {L : Nat → It} {s : FSt} {first : Int} {fF fW : Nat} (h : LnAt w0 w P bl Bo n iv ov L s first fF fW) (i : Nat) (x : Int) (hi : i < n) (hn : n ≤ 1000)
    (f0 : -1099511627776 ≤ s.free) (f1 : s.free ≤ 1099511627776) (b0 : -1073741824 ≤ (L i).b) (b1 : (L i).b ≤ 1073741824) (x0 : -1073741824 ≤ x) (x1 : x ≤ 1073741824) :
    Calls Try.prog 38 #[.pointer (some ⟨P, 0, none⟩), .int .i64 (i : Int), .int .i64 x] w fun e w' => e = .returned (.tuple #[]) ∧ LnAt w0 w' P bl Bo n iv ov L (frz (fun i => (L i).b) s i x) first fF fW ∧ Kp P bl Bo w w' := by
  obtain ⟨hL0, hK0⟩ := h.frz (fun i => (L i).b) i x hi
  have hL : LnAt w0 ((w.setCell ⟨bl, i, none⟩ (.int .i64 x)).setCell ⟨P, 3, none⟩ (.int .i64 (s.free + ((L i).b - x)))) P bl Bo n iv ov L (frz (fun i => (L i).b) s i x) first fF fW := hL0
  have hK : Kp P bl Bo w ((w.setCell ⟨bl, i, none⟩ (.int .i64 x)).setCell ⟨P, 3, none⟩ (.int .i64 (s.free + ((L i).b - x)))) := hK0
  clear hL0 hK0
  rcases h.its with e | ⟨bi, io, ci, e, hI, n1, n2, n3⟩
  · omega
  · subst e
    have hiz : (i : Int) < (n : Int) := by omega
    have c0 : w.cell? ⟨P, 0, none⟩ = some (.slice (some ⟨bi, io, none⟩) n ci) := cell_ofF h.blk rfl
    have c1 : w.cell? ⟨P, 1, none⟩ = some (.slice (some ⟨bl, 0, none⟩) n n) := cell_ofF h.blk rfl
    have c3 : w.cell? ⟨P, 3, none⟩ = some (.int .i64 s.free) := cell_ofF h.blk rfl
    have fz3 : w.frozen? ⟨P, 3, none⟩ = false := frz_ofF h.blk
    have r1 := (h.len i hi).1
    have r2 := (h.len i hi).2
    have q := (hI i hi).c0
    obtain ⟨bb, hbb⟩ : ∃ bb, (L i).b = bb := ⟨_, rfl⟩
    rw [hbb] at q b0 b1
    obtain ⟨w1, hw1⟩ : ∃ w1, w.setCell ⟨bl, i, none⟩ (.int .i64 x) = w1 := ⟨_, rfl⟩
    have e1 : ∀ b, b ≠ bl → w1.heap[b]? = w.heap[b]? := fun b hb => by rw [← hw1]; exact heap_setCell_other _ _ _ _ hb
    have d0 := (cell_blk (e1 P h.ne.symm) 0).trans c0
    have d3 := (cell_blk (e1 P h.ne.symm) 3).trans c3
    have df := (frz_blk (e1 P h.ne.symm) 3).trans fz3
    have dq := (cell_blk (e1 bi n2) _).trans q
    rw [hw1, hbb] at hL hK
    have HL := Lib.hid hL.drew
    have HK := Lib.hid hK
    clear hL hK e1 h hI hbb
    go_enter Try.func38, Try.ntmps38
    go_upto_region 1 with fail
    clear hw1 c0 c1 c3 fz3 r1 r2 q
    go_region
    all_goals go_wp2_with fail
    all_goals go_end0
    all_goals exact ⟨rfl, HL.out, ⟨HK.out.size, HK.out.blk⟩⟩

set_option maxRecDepth 100000 in
set_option maxHeartbeats 2000000 in
theorem try_any {w0 w : World} {P bl Bo n : Nat} {iv ov : Value} {L : Nat → It} {s : FSt} {first : Int} {fF fW : Nat} (h : LnAt w0 w P bl Bo n iv ov L s first fF fW) (i : Nat) (p : Int) (hi : i < n) (hn : n ≤ 1000) (hH : HeldI (L i)) :
    Calls Try.prog 42 #[.pointer (some ⟨P, 0, none⟩), .int .i64 (i : Int), .int .i64 p] w fun e w' => e = .returned (.agg #[.int .i64 (i : Int), .int .i64 (tryF L i p).2.1, .int .i64 (tryF L i p).2.2]) ∧ Below w.heap.size w w' := by
  have hx : (tryF L i p).2.1 = clI (L i) (H (H (L i).b + H p)) := rfl
  have hy : (tryF L i p).2.2 = clI (L i) (H (H (L i).b + H p)) - H (H (L i).b + H p) := rfl
  have hwb := H_bd (H (L i).b + H p)
  have hcb := hH.cl hwb.1 hwb.2
  rw [hx, hy]
  clear hx hy
  have ADD := Lib.hid (fun W => Add_any (L i).b p W)
  obtain ⟨wd, hwd⟩ : ∃ wd, H (H (L i).b + H p) = wd := ⟨_, rfl⟩
  rw [hwd] at ADD hwb hcb ⊢
  have CL := Lib.hid (fun W => clamp21_any (L i) wd W)
  obtain ⟨cl, hcl⟩ : ∃ cl, clI (L i) wd = cl := ⟨_, rfl⟩
  rw [hcl] at CL hcb ⊢
  have w0' := hwb.1
  have w1' := hwb.2
  have c0' := hcb.1
  have c1' := hcb.2
  clear hwb hcb hwd hcl hH
  rcases h.its with e | ⟨bi, io, ci, e, hI, n1, n2, n3⟩
  · omega
  · subst e
    have hiz : (i : Int) < (n : Int) := by omega
    have hs : P < w.heap.size := blk_ltF h.blk
    have hbi : bi < w.heap.size := by have := h.bB; omega
    have hb1 := below_one21 w (.cells #[.int .i64 0, .int .i64 0, .int .i64 0] 61)
    obtain ⟨w1, hw1⟩ : ∃ w1, w.alloc (.cells #[.int .i64 0, .int .i64 0, .int .i64 0] 61) = w1 := ⟨_, rfl⟩
    have hx1 : w1.heap[w.heap.size]? = some (.cells #[.int .i64 0, .int .i64 0, .int .i64 0] 61 (0, 0)) := by rw [← hw1]; exact heap_alloc_new w _
    rw [hw1] at hb1
    have hL1 := h.below hb1
    have d0 : w1.cell? ⟨P, 0, none⟩ = some (.slice (some ⟨bi, io, none⟩) n ci) := cell_ofF hL1.blk rfl
    have S7 := (hI.blk (hb1.block bi hbi)) i hi
    obtain ⟨t, ht⟩ : ∃ t, L i = t := ⟨_, rfl⟩
    rw [ht] at ADD CL S7
    obtain ⟨q0, q1, q2, q3, q4, q5, q6⟩ := S7
    have HX1 := Lib.hid hx1
    have HB1 := Lib.hid hb1
    clear ht
    clear h hI hx1 hb1 hL1
    go_enter Try.func42, Try.ntmps42
    go_upto_region 1 with fail
    clear hw1
    go_wp2_with fail
    refine (ADD.out _).mono ?_
    rintro e w' ⟨rfl, rfl⟩
    go_wp2_with fail
    refine (CL.out _).mono ?_
    rintro e w2 ⟨rfl, hb2⟩
    have hx2 := (hb2.block _ (blk_ltF HX1.out)).trans HX1.out
    have HB2 := Lib.hid (HB1.out.trans (hb2.mono HB1.out.size))
    have g0 : w2.cell? ⟨w.heap.size, 0, none⟩ = some (.int .i64 0) := cell_ofF hx2 rfl
    have g1 : w2.cell? ⟨w.heap.size, 1, none⟩ = some (.int .i64 0) := cell_ofF hx2 rfl
    have g2 : w2.cell? ⟨w.heap.size, 2, none⟩ = some (.int .i64 0) := cell_ofF hx2 rfl
    have f0 : w2.frozen? ⟨w.heap.size, 0, none⟩ = false := frz_ofF hx2
    have f1 : w2.frozen? ⟨w.heap.size, 1, none⟩ = false := frz_ofF hx2
    have f2 : w2.frozen? ⟨w.heap.size, 2, none⟩ = false := frz_ofF hx2
    have HX2 := Lib.hid hx2
    clear hb2 hx2 d0 q0 q1 q2 q3 q4 q5 q6
    go_wp2_with fail
    have z3 := put3F w2 w.heap.size 61 (.int .i64 0) (.int .i64 0) (.int .i64 0) (.int .i64 (i : Int)) (.int .i64 cl) (.int .i64 (cl - wd)) HX2.out
    have y0 := cell_ofF (k := 0) z3 rfl
    have y1 := cell_ofF (k := 1) z3 rfl
    have y2 := cell_ofF (k := 2) z3 rfl
    have HB3 := ((HB2.out.setCell (p := ⟨w.heap.size, 0, none⟩) (Nat.le_refl _) (.int .i64 (i : Int))).setCell (p := ⟨w.heap.size, 1, none⟩) (Nat.le_refl _) (.int .i64 cl)).setCell (p := ⟨w.heap.size, 2, none⟩) (Nat.le_refl _) (.int .i64 (cl - wd))
    exact bodyPost_ret (v := .agg #[.int .i64 (i : Int), .int .i64 cl, .int .i64 (cl - wd)]) (by simp [results, Try.results42, go_sem, y0, y1, y2]) rfl ⟨rfl, HB3⟩

set_option maxRecDepth 100000 in
set_option maxHeartbeats 2000000 in
theorem ends_any (a b : Int) (c all : Int) (w : World) :
    Calls Try.prog 43 #[.agg #[.int .i64 a, .int .i64 b, .int .i64 c], .int .i64 all] w fun e w' => e = .returned (.bool (endsF all c)) ∧ Below w.heap.size w w' := by
  have hz : endsF all c = (all == 0 || (decide (0 < all) && decide (0 < c)) || (decide (all < 0) && decide (c < 0))) := rfl
  obtain ⟨x, hx⟩ : ∃ x, endsF all c = x := ⟨_, rfl⟩
  rw [hx] at hz ⊢
  have HZ := Lib.hid hz
  have HB := Lib.hid (below_one21 w)
  clear hx hz
  by_cases h0 : all = 0
  · subst h0
    go_enter Try.func43, Try.ntmps43
    go_wp2_with fail
    go_ret
    exact ⟨by rw [HZ.out]; rfl, HB.out _⟩
  · have b0 : (all == 0) = false := by simp [h0]
    by_cases h1 : 0 < all
    · by_cases h2 : 0 < c
      all_goals
        go_enter Try.func43, Try.ntmps43
        go_wp2_with fail
        all_goals go_ret
        all_goals exact ⟨by rw [HZ.out]; simp [b0, h1, h2]; try omega, HB.out _⟩
    · have h1' : all < 0 := by omega
      by_cases h2 : c < 0
      all_goals
        go_enter Try.func43, Try.ntmps43
        go_wp2_with fail
        all_goals go_ret
        all_goals exact ⟨by rw [HZ.out]; simp [b0, h1', h2]; try omega, HB.out _⟩
end Go.Proofs.Ytaegajlffiepoaa
