/- Layer 21: the other text's items. -/
import Derived.Test.YtaegajlffiepoaaFlxK
namespace Go.Proofs.Ytaegajlffiepoaa
open Go.RowKit FixM ShaD ShaM Go.Sort
set_option linter.unusedVariables false

set_option maxRecDepth 100000 in
set_option maxHeartbeats 1000000 in
theorem refClamp21_any (t : It) (n : Int) (w : World) : Calls Try.prog 18 #[.agg #[.int .i64 t.b, .int .i64 t.l, .int .i64 t.m, .int .i64 t.g, .int .i64 t.i, .int .i64 t.gr, .int .i64 t.sh], .int .i64 n] w fun e w' => e = .returned (.int .i64 (clI t n)) ∧ Below w.heap.size w w' := by
  have hz : clI t n = max (if 0 ≤ t.m then min n t.m else n) t.l := rfl
  obtain ⟨x, hx⟩ : ∃ x, clI t n = x := ⟨_, rfl⟩
  rw [hx] at hz ⊢
  obtain ⟨tb, tl, tm, tg, ti, tgr, tsh⟩ := t
  simp only at hz ⊢
  have HZ := Lib.hid hz
  clear hz hx
  by_cases h : 0 ≤ tm
  all_goals
    go_enter Try.func18, Try.ntmps18
    go_wp2_with fail
    all_goals go_ret
    all_goals
      have hz := HZ.out
      refine ⟨ret_intF ?_, below_one21 _ _⟩
      split at hz <;> omega

set_option maxRecDepth 100000 in
set_option maxHeartbeats 1000000 in
theorem refWish21_any (t : It) (w : World) : Calls Try.prog 15 #[.agg #[.int .i64 t.b, .int .i64 t.l, .int .i64 t.m, .int .i64 t.g, .int .i64 t.i, .int .i64 t.gr, .int .i64 t.sh]] w fun e w' => e = .returned (.int .i64 (wsh t)) ∧ Below w.heap.size w w' := by
  have C := Lib.hid (fun W => refClamp21_any t t.b W)
  have hz : clI t t.b = wsh t := rfl
  rw [hz] at C
  have HB := Lib.hid (below_one21 w)
  obtain ⟨x, hx⟩ : ∃ x, wsh t = x := ⟨_, rfl⟩
  rw [hx] at C ⊢
  clear hz hx
  go_enter Try.func15, Try.ntmps15
  go_wp2_with (go_at_call 18; refine (C.out _).mono ?_; rintro e w' ⟨rfl, hb⟩; have HB2 := Lib.hid hb; clear hb)
  go_ret
  exact ⟨rfl, (HB.out _).trans (HB2.out.mono (by simp))⟩

set_option maxRecDepth 100000 in
set_option maxHeartbeats 1000000 in
theorem refHeld21_any (t : It) (w : World) : Calls Try.prog 16 #[.agg #[.int .i64 t.b, .int .i64 t.l, .int .i64 t.m, .int .i64 t.g, .int .i64 t.i, .int .i64 t.gr, .int .i64 t.sh]] w fun e w' => e = .returned (.agg #[.int .i64 (H t.b), .int .i64 (WT t.l), .int .i64 (H t.m), .int .i64 (H t.g), .int .i64 (WT t.i), .int .i64 (WT t.gr), .int .i64 (WT t.sh)]) ∧ Below w.heap.size w w' := by
  have d0 : ∀ W : World, Calls Try.prog 21 #[.int .i64 t.b] W fun e w' => e = .returned (.int .i64 (H t.b)) ∧ w' = W := (fun W => (refHold_any t.b W).mono fun e w' h => ⟨h.1, h.2.symm⟩)
  have d1 : ∀ W : World, Calls Try.prog 29 #[.int .i64 t.l] W fun e w' => e = .returned (.int .i64 (WT t.l)) ∧ w' = W := (fun W => (refWeight_any t.l W).mono fun e w' h => ⟨h.1, h.2.symm⟩)
  have d2 : ∀ W : World, Calls Try.prog 21 #[.int .i64 t.m] W fun e w' => e = .returned (.int .i64 (H t.m)) ∧ w' = W := (fun W => (refHold_any t.m W).mono fun e w' h => ⟨h.1, h.2.symm⟩)
  have d3 : ∀ W : World, Calls Try.prog 21 #[.int .i64 t.g] W fun e w' => e = .returned (.int .i64 (H t.g)) ∧ w' = W := (fun W => (refHold_any t.g W).mono fun e w' h => ⟨h.1, h.2.symm⟩)
  have d4 : ∀ W : World, Calls Try.prog 29 #[.int .i64 t.i] W fun e w' => e = .returned (.int .i64 (WT t.i)) ∧ w' = W := (fun W => (refWeight_any t.i W).mono fun e w' h => ⟨h.1, h.2.symm⟩)
  have d5 : ∀ W : World, Calls Try.prog 29 #[.int .i64 t.gr] W fun e w' => e = .returned (.int .i64 (WT t.gr)) ∧ w' = W := (fun W => (refWeight_any t.gr W).mono fun e w' h => ⟨h.1, h.2.symm⟩)
  have d6 : ∀ W : World, Calls Try.prog 29 #[.int .i64 t.sh] W fun e w' => e = .returned (.int .i64 (WT t.sh)) ∧ w' = W := (fun W => (refWeight_any t.sh W).mono fun e w' h => ⟨h.1, h.2.symm⟩)
  have D0 := Lib.hid d0
  have D1 := Lib.hid d1
  have D2 := Lib.hid d2
  have D3 := Lib.hid d3
  have D4 := Lib.hid d4
  have D5 := Lib.hid d5
  have D6 := Lib.hid d6
  clear d0 d1 d2 d3 d4 d5 d6
  obtain ⟨W, hW⟩ : ∃ W, w.alloc (.cells #[.int .i64 t.b, .int .i64 t.l, .int .i64 t.m, .int .i64 t.g, .int .i64 t.i, .int .i64 t.gr, .int .i64 t.sh] 36) = W := ⟨_, rfl⟩
  have hbw : Below w.heap.size w W := by rw [← hW]; exact below_one21 w _
  have c0 : W.cell? ⟨w.heap.size, 0, none⟩ = some (.int .i64 t.b) := by rw [← hW, World.cell?_alloc_at _ _ _ _ rfl]; rfl
  have c1 : W.cell? ⟨w.heap.size, 1, none⟩ = some (.int .i64 t.l) := by rw [← hW, World.cell?_alloc_at _ _ _ _ rfl]; rfl
  have c2 : W.cell? ⟨w.heap.size, 2, none⟩ = some (.int .i64 t.m) := by rw [← hW, World.cell?_alloc_at _ _ _ _ rfl]; rfl
  have c3 : W.cell? ⟨w.heap.size, 3, none⟩ = some (.int .i64 t.g) := by rw [← hW, World.cell?_alloc_at _ _ _ _ rfl]; rfl
  have c4 : W.cell? ⟨w.heap.size, 4, none⟩ = some (.int .i64 t.i) := by rw [← hW, World.cell?_alloc_at _ _ _ _ rfl]; rfl
  have c5 : W.cell? ⟨w.heap.size, 5, none⟩ = some (.int .i64 t.gr) := by rw [← hW, World.cell?_alloc_at _ _ _ _ rfl]; rfl
  have c6 : W.cell? ⟨w.heap.size, 6, none⟩ = some (.int .i64 t.sh) := by rw [← hW, World.cell?_alloc_at _ _ _ _ rfl]; rfl
  go_enter Try.func16, Try.ntmps16
  go_upto_region 1 with fail
  generalize hW2 : W.alloc (.cells #[.int .i64 0, .int .i64 0, .int .i64 0, .int .i64 0, .int .i64 0, .int .i64 0, .int .i64 0] 36) = W2
  have e0 : ∀ j, W2.cell? ⟨w.heap.size, j, none⟩ = W.cell? ⟨w.heap.size, j, none⟩ := fun j => by
    rw [← hW2, World.cell?_alloc_past _ _ _ (by rw [← hW]; simp)]
  have q0 := (e0 0).trans c0
  have q1 := (e0 1).trans c1
  have q2 := (e0 2).trans c2
  have q3 := (e0 3).trans c3
  have q4 := (e0 4).trans c4
  have q5 := (e0 5).trans c5
  have q6 := (e0 6).trans c6
  clear c0 c1 c2 c3 c4 c5 c6 e0
  have HW2 := Lib.hid hW2
  have hb2 : Below w.heap.size w W2 := by rw [← hW2]; exact hbw.alloc hbw.size _
  have HB2 := Lib.hid hb2
  have HBW := Lib.hid hbw
  have HSW : Hid (w.heap.size ≤ W.heap.size) := hbw.size
  clear hW hW2 hbw hb2
  refine wp_region_still_tail 22 (by kernel_rfl) (by kernel_rfl) ?_
  simp only [List.take_succ_cons, List.take_zero, List.drop_succ_cons, List.drop_zero]
  still_step
  still_step
  still_call (D0.out _)
  still_step
  still_step
  still_call (D1.out _)
  still_step
  still_step
  still_call (D2.out _)
  still_step
  still_step
  still_call (D3.out _)
  still_step
  still_step
  still_call (D4.out _)
  still_step
  still_step
  still_call (D5.out _)
  still_step
  still_step
  still_call (D6.out _)
  still_step
  refine wpStill_nil ?_
  change wpList _ _ _ _ _ W2.drew
  clear q0 q1 q2 q3 q4 q5 q6
  rw [← HW2.out]
  go_wp2_with fail
  exact bodyPost_ret (v := .agg #[.int .i64 (H t.b), .int .i64 (WT t.l), .int .i64 (H t.m), .int .i64 (H t.g), .int .i64 (WT t.i), .int .i64 (WT t.gr), .int .i64 (WT t.sh)]) (by simp [results, Try.results16, go_sem]) rfl ⟨rfl, (HBW.out.alloc HSW.out _).drew⟩

theorem info_itemR : (Try.prog.info? 36).map (fun i => (i.zero, i.size, i.bytes)) = some (some (.agg #[.int .i64 0, .int .i64 0, .int .i64 0, .int .i64 0, .int .i64 0, .int .i64 0, .int .i64 0]), 7, 56) := by kernel_rfl
theorem putItR (B : Nat) (v : Value) (L : Nat → It) (k : Nat) (W : World) (hK : B ≤ W.heap.size) (hx : k ≤ 200000) (h : W.ownsRow B 36 7 v k (itcs L k)) :
    ∃ g c w', (Builtin.append_ #[29, 29] 29 #[v, .slice (some ⟨W.heap.size, 0, none⟩) 1 1]).run Try.prog (W.alloc (.cells (itc (L k)).toArray 36)) = .ok (.slice (some ⟨g, 0, none⟩) (k + 1) c) w' ∧ w'.ownsRow B 36 7 (.slice (some ⟨g, 0, none⟩) (k + 1) c) (k + 1) (itcs L (k + 1)) ∧ (W.alloc (.cells (itc (L k)).toArray 36)).grownBy w' v.ownBlock := by
  obtain ⟨i, hi, hz0, hz1, hz2⟩ := info_parts info_itemR
  obtain ⟨v', w', r1, r2, r3, r4⟩ := app_cellsA 29 36 i _ 7 56 Try.underlying29 hi hz0 hz1 hz2 rfl (by decide) B v k (itcs L k) (some ⟨W.heap.size, 0, none⟩) 1 1 (itc (L k)) (W.alloc (.cells (itc (L k)).toArray 36)) (by simp; omega) (World.ownsRow.alloc h _) rfl (Or.inr ⟨_, rfl, World.news_of_block (heap_alloc_new W _)⟩) (by intro u hu; simp only [itc, List.mem_cons, List.not_mem_nil, or_false] at hu; rcases hu with rfl | rfl | rfl | rfl | rfl | rfl | rfl <;> rfl) (by unfold maxLen; omega) (by omega)
  obtain ⟨g, c, hv, _, _⟩ := r2.form (by omega)
  subst hv
  exact ⟨g, c, w', r1, r2, r4⟩

/-- a list of the other text's items, just made -/
def OfIs (w : World) (n : Nat) (L : Nat → It) (e : Ending) (w' : World) : Prop :=
  ∃ ra rc, e = .returned (.slice ra n rc) ∧ Below w.heap.size w w' ∧ (0 < n → ∃ g, ra = some ⟨g, 0, none⟩ ∧ w.heap.size ≤ g ∧ g < w'.heap.size ∧ ItR w' g 0 n L)

set_option maxRecDepth 100000 in
set_option maxHeartbeats 4000000 in
theorem of21_any (a : Option Addr) (n cap : Nat) (L : Nat → It) (w : World) (hn : n ≤ 62) (hA : ItA w a n L) :
    Calls Try.prog 13 #[.slice a n cap] w (OfIs w n L) := by
  have HA := Lib.hid hA
  have HO0 : Hid (w.ownsRow w.heap.size 36 7 (.slice none 0 0) 0 (itcs L 0)) := ⟨rfl, Or.inl ⟨rfl, rfl⟩⟩
  unfold OfIs
  clear hA
  go_enter Try.func13, Try.ntmps13
  go_wp2_with fail
  go_loopw [3, 4] (fun vo vi wr => ∃ (k : Nat) (y : Value), vo = y ∧ vi = .int .i64 k ∧ k ≤ n ∧ Hid (Below w.heap.size w wr) ∧ Hid (wr.ownsRow w.heap.size 36 7 y k (itcs L k)) ∧ Hid (k = 0 → y = .slice none 0 0)) (fun _ vi _ => n - (intOf vi).toNat)
  case atStart => exact ⟨0, _, rfl, rfl, by omega, Below.refl _ _, HO0, fun _ => rfl⟩
  case round =>
    obtain ⟨k, vo, hvo, rfl, hk, HB, HO, HN⟩ := hrel
    have hvo2 := hvo.symm
    subst hvo2
    by_cases hlt : k < n
    · have hltz : (k : Int) < (n : Int) := by omega
      rcases HA.out.below HB.out with h0 | ⟨b, off, ha, hbl, hI⟩
      · omega
      · subst ha
        have S7 := hI k hlt
        obtain ⟨t, ht⟩ : ∃ t, L k = t := ⟨_, rfl⟩
        rw [ht] at S7
        obtain ⟨q0, q1, q2, q3, q4, q5, q6⟩ := S7
        have hb2 := below_one21 wr (.cells #[.int .i64 t.b, .int .i64 t.l, .int .i64 t.m, .int .i64 t.g, .int .i64 t.i, .int .i64 t.gr, .int .i64 t.sh] 34)
        have hx2 := heap_alloc_new wr (.cells #[.int .i64 t.b, .int .i64 t.l, .int .i64 t.m, .int .i64 t.g, .int .i64 t.i, .int .i64 t.gr, .int .i64 t.sh] 34)
        obtain ⟨X, hX⟩ : ∃ X, wr.heap.size = X := ⟨_, rfl⟩
        generalize hw2 : wr.alloc (.cells #[.int .i64 t.b, .int .i64 t.l, .int .i64 t.m, .int .i64 t.g, .int .i64 t.i, .int .i64 t.gr, .int .i64 t.sh] 34) = w2 at hb2 hx2
        rw [hX] at hx2
        have d0 : w2.cell? ⟨X, 0, none⟩ = some (.int .i64 t.b) := cell_ofF hx2 rfl
        have d1 : w2.cell? ⟨X, 1, none⟩ = some (.int .i64 t.l) := cell_ofF hx2 rfl
        have d2 : w2.cell? ⟨X, 2, none⟩ = some (.int .i64 t.m) := cell_ofF hx2 rfl
        have d3 : w2.cell? ⟨X, 3, none⟩ = some (.int .i64 t.g) := cell_ofF hx2 rfl
        have d4 : w2.cell? ⟨X, 4, none⟩ = some (.int .i64 t.i) := cell_ofF hx2 rfl
        have d5 : w2.cell? ⟨X, 5, none⟩ = some (.int .i64 t.gr) := cell_ofF hx2 rfl
        have d6 : w2.cell? ⟨X, 6, none⟩ = some (.int .i64 t.sh) := cell_ofF hx2 rfl
        have hB2 := HB.out.trans (hb2.mono HB.out.size)
        have hO2 := rowA_below HO.out hb2
        obtain ⟨g5, c5, w5, hr5, ho5, hg5⟩ := putItR w.heap.size vo L k w2 hB2.size (by omega) hO2
        rw [ht] at hr5 hg5
        have hr6 : (Builtin.append_ #[29, 29] 29 #[vo, .slice (some ⟨w2.heap.size, 0, none⟩) 1 1]).run Try.prog (w2.alloc (.cells #[.int .i64 t.b, .int .i64 t.l, .int .i64 t.m, .int .i64 t.g, .int .i64 t.i, .int .i64 t.gr, .int .i64 t.sh] 36)) = .ok (.slice (some ⟨g5, 0, none⟩) (k + 1) c5) w5 := hr5
        have hb5 : Below w.heap.size w w5 := (hB2.alloc hB2.size _).grown hg5 (by have := hB2.size; simp; omega) (fun q hq => (World.ownsRow.lt hO2 q hq).1)
        have HR6 := Lib.hid hr6
        have HB5 := Lib.hid hb5
        have HO5 := Lib.hid ho5
        have HN5 : Hid (k + 1 = 0 → Value.slice (some ⟨g5, 0, none⟩) (k + 1) c5 = .slice none 0 0) := fun h => by omega
        clear hI ht hb2 hx2 hB2 hO2 hr5 hr6 hg5 hb5 ho5 HO HN HB
        go_upto_region 6 with fail
        clear hw2 hX q0 q1 q2 q3 q4 q5 q6
        go_wp2_with (at_builtin; refine wpList_append_runF rfl _ _ 29 rfl _ _ _ _ rfl rfl HR6.out ?_)
        go_roundw
        case rel => exact ⟨k + 1, _, rfl, by go_num, by omega, HB5, HO5, HN5⟩
        case measure => simp [intOf]; omega
    · have hkn : n = k := by omega
      subst hkn
      have hform : ∃ ra rc, vo = .slice ra n rc ∧ (0 < n → ∃ g, ra = some ⟨g, 0, none⟩ ∧ w.heap.size ≤ g ∧ g < wr.heap.size ∧ ItR wr g 0 n L) := by
        by_cases h0 : n = 0
        · exact ⟨none, 0, by rw [HN.out h0, h0], fun h => by omega⟩
        · obtain ⟨g, c, hv, _, _⟩ := HO.out.form (by omega)
          have ho := HO.out
          rw [hv] at ho
          have hg := World.ownsRow.lt ho g rfl
          refine ⟨_, c, hv, fun _ => ⟨g, rfl, hg.1, hg.2, fun i hi => ?_⟩⟩
          have key : ∀ j, j < 7 → wr.cell? ⟨g, i * 7 + j, none⟩ = (itc (L i))[j]? := fun j hj => by
            rw [ho.cellAt _ (by omega), itcs_get L j hj i n hi]
          rw [Nat.zero_add]
          exact ⟨key 0 (by omega), key 1 (by omega), key 2 (by omega), key 3 (by omega), key 4 (by omega), key 5 (by omega), key 6 (by omega)⟩
      obtain ⟨ra, rc, rfl, hit⟩ := hform
      have HIT := Lib.hid hit
      clear hit HO HN
      go_wp2_with fail
      go_ret
      exact ⟨ra, rc, rfl, HB.out, HIT.out⟩
end Go.Proofs.Ytaegajlffiepoaa
