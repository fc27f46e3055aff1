/- Joined texts: ValW4 ValW5. -/
import Derived.Test.YtbodmfbpmeapoaaGreatValW2
import Derived.Test.YtbodmfbpmeapoaaGreatLexR6
namespace Go.Proofs.YtbodmfbpmeapoaaGreat
open Go.RowKit TreN LexP FixP SynP ValP FixM
set_option linter.unusedVariables false

/-- a list made anew -/
theorem made_toks (W : World) (l : List Tok) : Tks (W.alloc (.cells (tkcs l).toArray 58)) (some ⟨W.heap.size, 0, none⟩) l := by
  have hb : (W.alloc (.cells (tkcs l).toArray 58)).heap[W.heap.size]? = some (.cells (tkcs l).toArray 58 (0, 0)) := heap_alloc_new W _
  refine Or.inr ⟨W.heap.size, 0, rfl, by simp, fun i hi => ?_⟩
  obtain ⟨h1, h2, h3⟩ := tkcs_get l i hi
  exact ⟨cell_of hb (by rw [Nat.zero_add]; simpa using h1), cell_of hb (by rw [Nat.zero_add]; simpa using h2), cell_of hb (by rw [Nat.zero_add]; simpa using h3)⟩
set_option maxRecDepth 100000 in
theorem Ident_any (x : List UInt8) (w : World) : Calls Tryz.prog 27 #[.string ⟨x.toArray⟩] w fun e w' => e = .returned (.agg #[.int .i64 1, .string ⟨x.toArray⟩, .int .i64 0]) ∧ w' = w.alloc (.cells #[.int .i64 1, .string ⟨x.toArray⟩, .int .i64 0] 58) := by
  go_enter Tryz.func27, Tryz.ntmps27
  go_wp2_with fail
  exact bodyPost_ret (v := .agg #[.int .i64 1, .string ⟨x.toArray⟩, .int .i64 0]) (by simp [results, Tryz.results27, go_sem]) rfl ⟨rfl, rfl⟩
set_option maxRecDepth 100000 in
theorem Delim_any (x : List UInt8) (w : World) : Calls Tryz.prog 58 #[.string ⟨x.toArray⟩] w fun e w' => e = .returned (.agg #[.int .i64 19, .string ⟨x.toArray⟩, .int .i64 0]) ∧ w' = w.alloc (.cells #[.int .i64 19, .string ⟨x.toArray⟩, .int .i64 0] 58) := by
  go_enter Tryz.func58, Tryz.ntmps58
  go_wp2_with fail
  exact bodyPost_ret (v := .agg #[.int .i64 19, .string ⟨x.toArray⟩, .int .i64 0]) (by simp [results, Tryz.results58, go_sem]) rfl ⟨rfl, rfl⟩
set_option maxRecDepth 100000 in
theorem Sign_any (k : Int) (w : World) : Calls Tryz.prog 57 #[.int .i64 k] w fun e w' => e = .returned (.agg #[.int .i64 k, .string ⟨#[]⟩, .int .i64 0]) ∧ w' = w.alloc (.cells #[.int .i64 k, .string ⟨#[]⟩, .int .i64 0] 58) := by
  go_enter Tryz.func57, Tryz.ntmps57
  go_wp2_with fail
  exact bodyPost_ret (v := .agg #[.int .i64 k, .string ⟨#[]⟩, .int .i64 0]) (by simp [results, Tryz.results57, go_sem]) rfl ⟨rfl, rfl⟩
theorem below_one (w : World) (o : Obj) : Below w.heap.size w (w.alloc o) := (Below.refl _ _).alloc (Nat.le_refl _) _
set_option maxRecDepth 100000 in
set_option maxHeartbeats 1000000 in
theorem Ratio_any (n d : Int) (w : World) : Calls Tryz.prog 31 #[.int .i64 n, .int .i64 d] w (ToldCap w (ratT n d)) := by
  have CS := Lib.hid (fun W => (Sign_any 20 W).mono (R' := fun e w' => e = .returned (.agg #[.int .i64 20, .string ⟨#[]⟩, .int .i64 0]) ∧ Hid (Below W.heap.size W w')) fun e w' h => ⟨h.1, Lib.hid (by rw [h.2]; exact below_one _ _)⟩)
  have CD := Lib.hid (fun W => (Delim_any [47] W).mono (R' := fun e w' => e = .returned (.agg #[.int .i64 19, .string ⟨#[47]⟩, .int .i64 0]) ∧ Hid (Below W.heap.size W w')) fun e w' h => ⟨h.1, Lib.hid (by rw [h.2]; exact below_one _ _)⟩)
  go_enter Tryz.func31, Tryz.ntmps31
  go_wp2_with fail
  refine (CS.out _).mono ?_
  rintro e w1 ⟨rfl, hb1⟩
  go_wp2_with fail
  refine (CD.out _).mono ?_
  rintro e w2 ⟨rfl, hb2⟩
  have HB2 := Lib.hid (hb1.out.trans (hb2.out.mono hb1.out.size))
  go_wp2_with fail
  refine (CS.out _).mono ?_
  rintro e w3 ⟨rfl, hb3⟩
  have HB3 := Lib.hid (HB2.out.trans (hb3.out.mono HB2.out.size))
  go_wp2_with fail
  go_ret
  exact ⟨_, _, rfl, made_toks w3 (ratT n d), HB3.out.alloc HB3.out.size _, Nat.le_refl _, by unfold maxLen; decide⟩
end Go.Proofs.YtbodmfbpmeapoaaGreat

namespace Go.Proofs.YtbodmfbpmeapoaaGreat
open Go.RowKit TreN LexP FixP SynP ValP FixM
set_option linter.unusedVariables false

theorem told_nil {w w' : World} (hb : Below w.heap.size w w') : ToldCap w [] (.returned (.slice none 0 0)) w' := ⟨none, 0, rfl, Or.inl rfl, hb, Nat.le_refl _, Nat.zero_le _⟩
theorem told_one {w W : World} (t : Tok) (hb : Below w.heap.size w W) : ToldCap w [t] (.returned (.slice (some ⟨W.heap.size, 0, none⟩) 1 1)) (W.alloc (.cells (tkcs [t]).toArray 58)) :=
  ⟨_, 1, rfl, made_toks W [t], hb.alloc hb.size _, Nat.le_refl _, by unfold maxLen; decide⟩
theorem told_drew {w w' : World} {l : List Tok} {e : Ending} (h : ToldCap w l e w') : ToldCap w l e w'.drew := by
  obtain ⟨a, c, h1, h2, h3, h4, h5⟩ := h
  exact ⟨a, c, h1, h2.below ((Below.refl _ _).drew), h3.drew, h4, h5⟩
theorem tokV_no {v : Val} (h : rightV v = false) : tokV v = [] := by unfold tokV; rw [h]; rfl
set_option maxRecDepth 100000 in
set_option maxHeartbeats 2000000 in
theorem Tokens9_any (k n d : Int) (nm : List UInt8) (w : World) (hs : nm.length ≤ maxLen) : Calls Tryz.prog 12 #[.agg #[.int .i64 k, .int .i64 n, .int .i64 d, .string ⟨nm.toArray⟩]] w (ToldCap w (tokV ⟨k, n, d, nm⟩)) := by
  have RR := Lib.hid (fun W => Right9_any k n d nm W hs)
  obtain ⟨L, hL⟩ : ∃ L, tokV ⟨k, n, d, nm⟩ = L := ⟨_, rfl⟩
  have HL := Lib.hid hL
  rw [hL]
  have hfx : (w.alloc (.cells #[.int .i64 k, .int .i64 n, .int .i64 d, .string ⟨nm.toArray⟩] 23)).heap[w.heap.size]? = some (.cells #[.int .i64 k, .int .i64 n, .int .i64 d, .string ⟨nm.toArray⟩] 23 (0, 0)) := heap_alloc_new w _
  have HBW := Lib.hid (below_one w (.cells #[.int .i64 k, .int .i64 n, .int .i64 d, .string ⟨nm.toArray⟩] 23))
  generalize hW : w.alloc (.cells #[.int .i64 k, .int .i64 n, .int .i64 d, .string ⟨nm.toArray⟩] 23) = W at *
  have HFX := Lib.hid hfx
  have hBl := blk_lt9 hfx
  have c0 : W.cell? ⟨w.heap.size, 0, none⟩ = some (.int .i64 k) := cell_of hfx rfl
  have c1 : W.cell? ⟨w.heap.size, 1, none⟩ = some (.int .i64 n) := cell_of hfx rfl
  have c2 : W.cell? ⟨w.heap.size, 2, none⟩ = some (.int .i64 d) := cell_of hfx rfl
  have c3 : W.cell? ⟨w.heap.size, 3, none⟩ = some (.string ⟨nm.toArray⟩) := cell_of hfx rfl
  clear hL hfx
  cases hr : rightV ⟨k, n, d, nm⟩ with
  | false =>
    have RR2 : Hid (∀ W : World, Calls Tryz.prog 24 #[.agg #[.int .i64 k, .int .i64 n, .int .i64 d, .string ⟨nm.toArray⟩]] W fun e w' => e = .returned (.bool false) ∧ Below W.heap.size W w') := Lib.hid fun W => by have := RR.out W; rw [hr] at this; exact this
    have HE : Hid (L = []) := Lib.hid (by rw [← HL.out, tokV_no hr])
    clear RR hr
    go_enter Tryz.func12, Tryz.ntmps12
    go_wp2_with fail
    refine (RR2.out _).mono ?_
    rintro e w1 ⟨rfl, hb1⟩
    have HB1 := Lib.hid (HBW.out.trans (hb1.mono HBW.out.size))
    clear hb1
    go_wp2_with fail
    go_ret
    rw [HE.out]
    exact told_nil HB1.out
  | true =>
    have RR2 : Hid (∀ W : World, Calls Tryz.prog 24 #[.agg #[.int .i64 k, .int .i64 n, .int .i64 d, .string ⟨nm.toArray⟩]] W fun e w' => e = .returned (.bool true) ∧ Below W.heap.size W w') := Lib.hid fun W => by have := RR.out W; rw [hr] at this; exact this
    clear RR
    go_enter Tryz.func12, Tryz.ntmps12
    go_wp2_with fail
    refine (RR2.out _).mono ?_
    rintro e w1 ⟨rfl, hb1⟩
    have HB1 := Lib.hid (HBW.out.trans (hb1.mono HBW.out.size))
    have hfx1 : w1.heap[w.heap.size]? = some (.cells #[.int .i64 k, .int .i64 n, .int .i64 d, .string ⟨nm.toArray⟩] 23 (0, 0)) := by rw [hb1.block _ hBl]; exact HFX.out
    have hBl1 := blk_lt9 hfx1
    have d0 : w1.cell? ⟨w.heap.size, 0, none⟩ = some (.int .i64 k) := cell_of hfx1 rfl
    have d1 : w1.cell? ⟨w.heap.size, 1, none⟩ = some (.int .i64 n) := cell_of hfx1 rfl
    have d2 : w1.cell? ⟨w.heap.size, 2, none⟩ = some (.int .i64 d) := cell_of hfx1 rfl
    have d3 : w1.cell? ⟨w.heap.size, 3, none⟩ = some (.string ⟨nm.toArray⟩) := cell_of hfx1 rfl
    have HFX1 := Lib.hid hfx1
    clear hb1 c0 c1 c2 c3 hfx1
    have hl := HL.out
    unfold tokV at hl
    rw [if_pos hr] at hl
    rcases (by omega : k = 1 ∨ k = 2 ∨ k = 3 ∨ k = 4 ∨ k = 5 ∨ (k ≠ 1 ∧ k ≠ 2 ∧ k ≠ 3 ∧ k ≠ 4 ∧ k ≠ 5)) with rfl | rfl | rfl | rfl | rfl | ⟨h1, h2, h3, h4, h5⟩
    · have hl : [⟨1, txtP wordsL n, 0⟩] = L := hl
      have hT := Text9_any n w1
      generalize txtP wordsL n = x at *
      have HLL := Lib.hid hl
      have HT := Lib.hid hT
      have HI := Lib.hid (fun W => Ident_any x W)
      clear hl hT hr
      go_wp2_with fail
      refine HT.out.mono ?_
      rintro e w2 ⟨rfl, hb2⟩
      have HB2 := Lib.hid (HB1.out.trans (hb2.mono HB1.out.size))
      clear hb2
      go_wp2_with fail
      refine (HI.out _).mono ?_
      rintro e w3 ⟨rfl, rfl⟩
      go_wp2_with fail
      go_ret
      rw [← HLL.out]
      have := told_one ⟨1, x, 0⟩ (HB2.out.alloc HB2.out.size (.cells #[.int .i64 1, .string ⟨x.toArray⟩, .int .i64 0] 58))
      simpa [tkcs] using this
    · have hl : [⟨9, txtP unitsL d, n⟩] = L := hl
      have HTX := Lib.hid (TxAt.made w1 unitsL)
      have hN := fun (W : World) (hW : TxAt W w1.heap.size unitsL) => numbered_any w1.heap.size unitsL 8 8 d W rfl (by omega) (by omega) hW
      generalize txtP unitsL d = x at *
      have HLL := Lib.hid hl
      have UN := Lib.hid units_any
      obtain ⟨C, hC⟩ : ∃ C, Obj.cells (txcs unitsL) 9 = C := ⟨_, rfl⟩
      rw [hC] at HTX UN
      clear hC hl hr
      have NB := Lib.hid (hN (w1.alloc C).drew (fun i h => HTX.out i h))
      clear hN
      go_wp2_with fail
      go_region_with (first
        | (go_at_call 30; refine (UN.out _).mono ?_; rintro e w2 ⟨rfl, rfl⟩)
        | (go_at_call 29; refine NB.out.mono ?_; rintro e w2 ⟨rfl, rfl⟩))
      all_goals
        go_wp2_with fail
        go_ret
        rw [← HLL.out]
        have t : ToldCap w [⟨9, x, n⟩] (.returned (.slice (some ⟨w1.heap.size + 1, 0, none⟩) 1 1)) (((w1.alloc C).alloc (.cells #[.int .i64 9, .string ⟨x.toArray⟩, .int .i64 n] 58)).drew) := by
          simpa [tkcs] using told_drew (told_one ⟨9, x, n⟩ (HB1.out.alloc HB1.out.size C))
        exact t
    · have HLL := Lib.hid (show [⟨8, [], n⟩] = L from hl)
      clear hl hr
      go_wp2_with fail
      go_ret
      rw [← HLL.out]
      have := told_one ⟨8, [], n⟩ HB1.out
      simpa [tkcs] using this
    · have HLL := Lib.hid (show [⟨7, [], n⟩] = L from hl)
      clear hl hr
      go_wp2_with fail
      go_ret
      rw [← HLL.out]
      have := told_one ⟨7, [], n⟩ HB1.out
      simpa [tkcs] using this
    · have HLL := Lib.hid (show ratT n d = L from hl)
      have HRT := Lib.hid (Ratio_any n d w1)
      clear hl hr
      go_wp2_with fail
      refine HRT.out.mono ?_
      rintro e w2 ⟨a, cap, rfl, hT, hb, h1, h2⟩
      have HF := Lib.hid (And.intro hT (And.intro hb (And.intro h1 h2)))
      clear hT hb h1 h2
      go_wp2_with fail
      go_ret
      rw [← HLL.out]
      exact ⟨a, cap, rfl, HF.out.1, HB1.out.trans (HF.out.2.1.mono HB1.out.size), HF.out.2.2.1, HF.out.2.2.2⟩
    · rw [if_neg h1, if_neg h2, if_neg h3, if_neg h4, if_neg h5] at hl
      have HLL := Lib.hid (show [⟨1, nm, 0⟩] = L from hl)
      have z1 : (k == 1) = false := by rw [beq_eq_false_iff_ne]; exact h1
      have z2 : (k == 2) = false := by rw [beq_eq_false_iff_ne]; exact h2
      have z3 : (k == 3) = false := by rw [beq_eq_false_iff_ne]; exact h3
      have z4 : (k == 4) = false := by rw [beq_eq_false_iff_ne]; exact h4
      have z5 : (k == 5) = false := by rw [beq_eq_false_iff_ne]; exact h5
      have HI := Lib.hid (fun W => Ident_any nm W)
      clear hl hr h1 h2 h3 h4 h5
      go_wp2_with fail
      refine (HI.out _).mono ?_
      rintro e w3 ⟨rfl, rfl⟩
      go_wp2_with fail
      go_ret
      rw [← HLL.out]
      have := told_one ⟨1, nm, 0⟩ (HB1.out.alloc HB1.out.size (.cells #[.int .i64 1, .string ⟨nm.toArray⟩, .int .i64 0] 58))
      simpa [tkcs] using this
end Go.Proofs.YtbodmfbpmeapoaaGreat
