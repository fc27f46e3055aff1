/- trial -/
import Derived.Test.YtajmmnmagbnigaaStrR
namespace Go.Proofs.Ytajmmnmagbnigaa
open Go.RowKit FixM StrP Go.Sort
set_option linter.unusedVariables false

/-- the other strut's box, what is answered, what comes out -/
structure Jo (w W : World) (u2 d2 a b : Int) : Prop where
  b1 : W.heap[w.heap.size + 1]? = some (.cells #[.int .i64 u2, .int .i64 d2] 25 (0, 0))
  b2 : W.heap[w.heap.size + 1 + 1]? = some (.cells #[.int .i64 0, .int .i64 0] 25 (0, 0))
  b3 : W.heap[w.heap.size + 1 + 1 + 1]? = some (.cells #[.int .i64 a, .int .i64 b] 25 (0, 0))
  bel : Below w.heap.size w W
theorem Jo.drew {w W : World} {u2 d2 a b : Int} (h : Jo w W u2 d2 a b) : Jo w W.drew u2 d2 a b := ⟨h.b1, h.b2, h.b3, h.bel.drew⟩
theorem Jo.put0 {w W : World} {u2 d2 a b : Int} (h : Jo w W u2 d2 a b) (x : Int) : Jo w (W.setCell ⟨w.heap.size + 1 + 1 + 1, 0, none⟩ (.int .i64 x)) u2 d2 x b :=
  ⟨by rw [heap_setCell_other _ _ _ _ (by show _ ≠ w.heap.size + 1 + 1 + 1; omega)]; exact h.b1, by rw [heap_setCell_other _ _ _ _ (by show _ ≠ w.heap.size + 1 + 1 + 1; omega)]; exact h.b2, heap_setCell_same _ _ 0 _ _ _ h.b3, h.bel.setCell (p := ⟨w.heap.size + 1 + 1 + 1, 0, none⟩) (by show w.heap.size ≤ w.heap.size + 1 + 1 + 1; omega) _⟩
theorem Jo.put1 {w W : World} {u2 d2 a b : Int} (h : Jo w W u2 d2 a b) (x : Int) : Jo w (W.setCell ⟨w.heap.size + 1 + 1 + 1, 1, none⟩ (.int .i64 x)) u2 d2 a x :=
  ⟨by rw [heap_setCell_other _ _ _ _ (by show _ ≠ w.heap.size + 1 + 1 + 1; omega)]; exact h.b1, by rw [heap_setCell_other _ _ _ _ (by show _ ≠ w.heap.size + 1 + 1 + 1; omega)]; exact h.b2, heap_setCell_same _ _ 1 _ _ _ h.b3, h.bel.setCell (p := ⟨w.heap.size + 1 + 1 + 1, 1, none⟩) (by show w.heap.size ≤ w.heap.size + 1 + 1 + 1; omega) _⟩
structure Joc (W : World) (n : Nat) (u2 d2 a b : Int) : Prop where
  c2 : W.cell? ⟨n + 1, 0, none⟩ = some (.int .i64 u2)
  c3 : W.cell? ⟨n + 1, 1, none⟩ = some (.int .i64 d2)
  r0 : W.cell? ⟨n + 1 + 1, 0, none⟩ = some (.int .i64 0)
  r1 : W.cell? ⟨n + 1 + 1, 1, none⟩ = some (.int .i64 0)
  e0 : W.frozen? ⟨n + 1 + 1, 0, none⟩ = false
  e1 : W.frozen? ⟨n + 1 + 1, 1, none⟩ = false
  o0 : W.cell? ⟨n + 1 + 1 + 1, 0, none⟩ = some (.int .i64 a)
  o1 : W.cell? ⟨n + 1 + 1 + 1, 1, none⟩ = some (.int .i64 b)
  f0 : W.frozen? ⟨n + 1 + 1 + 1, 0, none⟩ = false
  f1 : W.frozen? ⟨n + 1 + 1 + 1, 1, none⟩ = false
  l1 : n + 1 < W.heap.size
  l2 : n + 1 + 1 < W.heap.size
  l3 : n + 1 + 1 + 1 < W.heap.size
theorem Jo.cells {w W : World} {u2 d2 a b : Int} (h : Jo w W u2 d2 a b) : Joc W w.heap.size u2 d2 a b :=
  ⟨cell_ofS h.b1 rfl, cell_ofS h.b1 rfl, cell_ofS h.b2 rfl, cell_ofS h.b2 rfl, frz_ofS h.b2, frz_ofS h.b2, cell_ofS h.b3 rfl, cell_ofS h.b3 rfl, frz_ofS h.b3, frz_ofS h.b3, blk_ltS h.b1, blk_ltS h.b2, blk_ltS h.b3⟩
theorem Jo.start {w W : World} {a0 : Obj} {u2 d2 a b : Int} (h : Jn w W a0 (.cells #[.int .i64 u2, .int .i64 d2] 25 (0, 0)) (.cells #[.int .i64 0, .int .i64 0] 25 (0, 0))) (hs : W.heap.size = w.heap.size + 1 + 1 + 1) : Jo w (W.alloc (.cells #[.int .i64 a, .int .i64 b] 25)) u2 d2 a b := by
  have hq := heap_alloc_new W (.cells #[.int .i64 a, .int .i64 b] 25)
  have hb : Below W.heap.size W (W.alloc (.cells #[.int .i64 a, .int .i64 b] 25)) := (Below.refl _ _).alloc (Nat.le_refl _) _
  have hj := h.below hb
  rw [hs] at hq
  exact ⟨hj.b1, hj.b2, hq, hj.bel⟩

theorem refJoin_fin {w Z : World} {u2 d2 x y ju jd : Int} (h : Jo w Z u2 d2 x y) (hx : ju = x) (hy : jd = y) (f : Act) (hf : f.tmps[4]? = some (.pointer (some ⟨w.heap.size + 1 + 1, 0, none⟩))) (hd : f.defers = []) :
    bodyPost Try.prog Try.f9 (fun e w' => e = .returned (.agg #[.int .i64 ju, .int .i64 jd]) ∧ Below w.heap.size w w') .ret f ((Z.setCell ⟨w.heap.size + 1 + 1, 0, none⟩ (.int .i64 x)).setCell ⟨w.heap.size + 1 + 1, 1, none⟩ (.int .i64 y)) := by
  subst hx; subst hy
  obtain ⟨q1, q2, q3, q4⟩ := put2 Z (w.heap.size + 1 + 1) 25 _ _ (.int .i64 ju) (.int .i64 jd) h.b2
  have y0 := cell_ofS (k := 0) q1 rfl
  have y1 := cell_ofS (k := 1) q1 rfl
  exact bodyPost_ret (v := .agg #[.int .i64 ju, .int .i64 jd]) (by simp [results, Try.results9, go_sem, hf, y0, y1]) hd ⟨rfl, q3 _ _ (by omega) h.bel⟩

set_option maxRecDepth 100000 in
set_option maxHeartbeats 20000000 in
theorem refJoin19_any (u d u2 d2 : Int) (w : World) : Calls Try.prog 9 #[.agg #[.int .i64 u, .int .i64 d], .agg #[.int .i64 u2, .int .i64 d2]] w fun e w' => e = .returned (.agg #[.int .i64 (jU u u2), .int .i64 (jD d d2)]) ∧ Below w.heap.size w w' := by
  obtain ⟨ju, hju⟩ : ∃ x, jU u u2 = x := ⟨_, rfl⟩
  obtain ⟨jd, hjd⟩ : ∃ x, jD d d2 = x := ⟨_, rfl⟩
  rw [hju, hjd]
  have HJU : Hid (max (H u) (H u2) = ju ∧ min (H d) (H d2) = jd) := Lib.hid ⟨hju, hjd⟩
  clear hju hjd
  have hJ := Jn.start w #[.int .i64 u, .int .i64 d] #[.int .i64 u2, .int .i64 d2] #[.int .i64 0, .int .i64 0] 25
  have hsz : (((w.alloc (.cells #[.int .i64 u, .int .i64 d] 25)).alloc (.cells #[.int .i64 u2, .int .i64 d2] 25)).alloc (.cells #[.int .i64 0, .int .i64 0] 25)).heap.size = w.heap.size + 1 + 1 + 1 := by simp
  generalize hW : ((w.alloc (.cells #[.int .i64 u, .int .i64 d] 25)).alloc (.cells #[.int .i64 u2, .int .i64 d2] 25)).alloc (.cells #[.int .i64 0, .int .i64 0] 25) = W at hJ hsz
  have HW := Lib.hid hW
  have HJ := Lib.hid hJ
  have HSZ := Lib.hid hsz
  obtain ⟨b0, b1, b2', hb⟩ := hJ
  have hs := hb.size
  have c0 : W.cell? ⟨w.heap.size, 0, none⟩ = some (.int .i64 u) := cell_ofS b0 rfl
  have c1 : W.cell? ⟨w.heap.size, 1, none⟩ = some (.int .i64 d) := cell_ofS b0 rfl
  have c2 : W.cell? ⟨w.heap.size + 1, 0, none⟩ = some (.int .i64 u2) := cell_ofS b1 rfl
  have c3 : W.cell? ⟨w.heap.size + 1, 1, none⟩ = some (.int .i64 d2) := cell_ofS b1 rfl
  have l0 := blk_ltS b0
  have l1 := blk_ltS b1
  have l2 := blk_ltS b2'
  clear b0 b1 b2' hb hsz
  go_enter Try.func9, Try.ntmps9
  go_wp2_with fail
  go_cut [5] (fun v5 wx => v5 = .pointer (some ⟨w.heap.size + 1 + 1 + 1, 0, none⟩) ∧ Hid (Jo w wx u2 d2 (H u) (H d)))
  case first =>
    go_region_with (go_at_call 17; refine (refHold_any _ _).mono ?_; rintro e wq ⟨rfl, rfl⟩)
    all_goals
      go_wp2_with fail
      go_meet
      exact ⟨by rw [HSZ.out], Lib.hid (Jo.start HJ.out HSZ.out).drew⟩
  case rest =>
    obtain ⟨rfl, HO⟩ := hcut
    clear c0 c1 c2 c3 l0 l1 l2 hs
    obtain ⟨c2, c3, r0, r1, e0, e1, o0, o1, f0, f1, l1, l2, l3⟩ := HO.out.cells
    have C3 := Lib.hid (fun w => refHold_any u2 w)
    have C4 := Lib.hid (fun w => refHold_any d2 w)
    generalize H u = a at *
    generalize H d = b at *
    generalize H u2 = a2 at *
    generalize H d2 = b2 at *
    by_cases hu : a < a2
    · have hu' : a < a2 := hu
      have hx : ju = a2 := by have := HJU.out.1; omega
      have HX := Lib.hid hx
      clear hx
      go_wp2_with fail
      go_region_with (go_at_call 17; refine (C3.out _).mono ?_; rintro e wq ⟨rfl, rfl⟩)
      all_goals
        go_upto_region 4 with (go_at_call 17; refine (C3.out _).mono ?_; rintro e wq ⟨rfl, rfl⟩)
        have hX := (HO.out.put0 a2).drew
        generalize (wc.setCell ⟨w.heap.size + 1 + 1 + 1, 0, none⟩ (.int .i64 a2)).drew = X at *
        clear c2 c3 r0 r1 e0 e1 o0 o1 f0 f1 l1 l2 l3
        obtain ⟨c2, c3, r0, r1, e0, e1, o0, o1, f0, f1, l1, l2, l3⟩ := hX.cells
        have HO2 := Lib.hid hX
        clear hX
        by_cases hd : b2 < b
        · have hd' : b2 < b := hd
          have hy : jd = b2 := by have := HJU.out.2; omega
          have HY := Lib.hid hy
          clear hy
          go_region_with (go_at_call 17; refine (C4.out _).mono ?_; rintro e wq ⟨rfl, rfl⟩)
          all_goals
            go_upto_region 6 with (go_at_call 17; refine (C4.out _).mono ?_; rintro e wq ⟨rfl, rfl⟩)
            have hZ := (HO2.out.put1 b2).drew
            generalize (X.setCell ⟨w.heap.size + 1 + 1 + 1, 1, none⟩ (.int .i64 b2)).drew = Z at *
            clear c2 c3 r0 r1 e0 e1 o0 o1 f0 f1 l1 l2 l3
            obtain ⟨c2, c3, r0, r1, e0, e1, o0, o1, f0, f1, l1, l2, l3⟩ := hZ.cells
            have HO3 := Lib.hid hZ
            clear hZ c2 c3
            go_wp2_with fail
            exact refJoin_fin HO3.out HX.out HY.out _ rfl rfl
        · have hd' : b ≤ b2 := by omega
          have hy : jd = b := by have := HJU.out.2; omega
          have HY := Lib.hid hy
          clear hy
          go_region_with (go_at_call 17; refine (C4.out _).mono ?_; rintro e wq ⟨rfl, rfl⟩)
          all_goals
            go_upto_region 6 with (go_at_call 17; refine (C4.out _).mono ?_; rintro e wq ⟨rfl, rfl⟩)
            have hZ := HO2.out.drew
            generalize X.drew = Z at *
            clear c2 c3 r0 r1 e0 e1 o0 o1 f0 f1 l1 l2 l3
            obtain ⟨c2, c3, r0, r1, e0, e1, o0, o1, f0, f1, l1, l2, l3⟩ := hZ.cells
            have HO3 := Lib.hid hZ
            clear hZ c2 c3
            go_wp2_with fail
            exact refJoin_fin HO3.out HX.out HY.out _ rfl rfl
    · have hu' : a2 ≤ a := by omega
      have hx : ju = a := by have := HJU.out.1; omega
      have HX := Lib.hid hx
      clear hx
      go_wp2_with fail
      go_region_with (go_at_call 17; refine (C3.out _).mono ?_; rintro e wq ⟨rfl, rfl⟩)
      all_goals
        go_upto_region 4 with (go_at_call 17; refine (C3.out _).mono ?_; rintro e wq ⟨rfl, rfl⟩)
        have hX := HO.out.drew
        generalize wc.drew = X at *
        clear c2 c3 r0 r1 e0 e1 o0 o1 f0 f1 l1 l2 l3
        obtain ⟨c2, c3, r0, r1, e0, e1, o0, o1, f0, f1, l1, l2, l3⟩ := hX.cells
        have HO2 := Lib.hid hX
        clear hX
        by_cases hd : b2 < b
        · have hd' : b2 < b := hd
          have hy : jd = b2 := by have := HJU.out.2; omega
          have HY := Lib.hid hy
          clear hy
          go_region_with (go_at_call 17; refine (C4.out _).mono ?_; rintro e wq ⟨rfl, rfl⟩)
          all_goals
            go_upto_region 6 with (go_at_call 17; refine (C4.out _).mono ?_; rintro e wq ⟨rfl, rfl⟩)
            have hZ := (HO2.out.put1 b2).drew
            generalize (X.setCell ⟨w.heap.size + 1 + 1 + 1, 1, none⟩ (.int .i64 b2)).drew = Z at *
            clear c2 c3 r0 r1 e0 e1 o0 o1 f0 f1 l1 l2 l3
            obtain ⟨c2, c3, r0, r1, e0, e1, o0, o1, f0, f1, l1, l2, l3⟩ := hZ.cells
            have HO3 := Lib.hid hZ
            clear hZ c2 c3
            go_wp2_with fail
            exact refJoin_fin HO3.out HX.out HY.out _ rfl rfl
        · have hd' : b ≤ b2 := by omega
          have hy : jd = b := by have := HJU.out.2; omega
          have HY := Lib.hid hy
          clear hy
          go_region_with (go_at_call 17; refine (C4.out _).mono ?_; rintro e wq ⟨rfl, rfl⟩)
          all_goals
            go_upto_region 6 with (go_at_call 17; refine (C4.out _).mono ?_; rintro e wq ⟨rfl, rfl⟩)
            have hZ := HO2.out.drew
            generalize X.drew = Z at *
            clear c2 c3 r0 r1 e0 e1 o0 o1 f0 f1 l1 l2 l3
            obtain ⟨c2, c3, r0, r1, e0, e1, o0, o1, f0, f1, l1, l2, l3⟩ := hZ.cells
            have HO3 := Lib.hid hZ
            clear hZ c2 c3
            go_wp2_with fail
            exact refJoin_fin HO3.out HX.out HY.out _ rfl rfl
end Go.Proofs.Ytajmmnmagbnigaa
