/- Joined texts: SizC5 SizC4 SizC6. -/
import Derived.Test.YthfabalnioggcaaSizWa
import Derived.Test.YthfabalnioggcaaSizCb
namespace Go.Proofs.Ythfabalnioggcaa
open Go.RowKit TreN LexP FixP SynP ValP PropP FixM
set_option linter.unusedVariables false

set_option maxRecDepth 100000 in
set_option maxHeartbeats 2000000 in
theorem saysA_any (k n av ar : Int) (bb : Bool) (w : World) : Calls Try.prog 59 #[.agg #[.int .i64 av, .func (.func 51) #[] #[], .bool bb, .int .i64 ar], .agg #[.int .i64 k, .int .i64 n]] w fun e w' => e = .returned (.tuple #[.int .i64 (if isZ k = true then (if bb = true then max (worthZ k n av) ar else addZ (max (worthZ k n av) 0) ar) else 0), .bool (isZ k)]) ∧ Below w.heap.size w w' := by
  have C := Lib.hid (fun W => ofAny_any k n av W)
  have CB := Lib.hid (fun W => asBox_any av (.func (.func 51) #[] #[]) bb ar (worthZ k n av) W rfl)
  generalize worthZ k n av = r at *
  generalize isZ k = q at *
  generalize (if bb = true then max r ar else addZ (max r 0) ar) = v at *
  have hres : (if q = true then v else 0) = v ∧ q = true ∨ (if q = true then v else 0) = 0 ∧ q = false := by cases q <;> simp
  have hx := (Below.refl w.heap.size w).alloc (Nat.le_refl _) (.cells #[.int .i64 av, .func (.func 51) #[] #[], .bool bb, .int .i64 ar] 63)
  have hs1 : (w.alloc (.cells #[.int .i64 av, .func (.func 51) #[] #[], .bool bb, .int .i64 ar] 63)).heap.size = w.heap.size + 1 := by simp
  have hb2 := below_one7h (w.alloc (.cells #[.int .i64 av, .func (.func 51) #[] #[], .bool bb, .int .i64 ar] 63)) (.cells #[.int .i64 k, .int .i64 n] 58)
  have hy := (hb2.block w.heap.size (by omega)).trans (heap_alloc_new w (.cells #[.int .i64 av, .func (.func 51) #[] #[], .bool bb, .int .i64 ar] 63))
  have hz := heap_alloc_new (w.alloc (.cells #[.int .i64 av, .func (.func 51) #[] #[], .bool bb, .int .i64 ar] 63)) (.cells #[.int .i64 k, .int .i64 n] 58)
  have HB := Lib.hid (hx.trans (hb2.mono hx.size))
  rw [hs1] at hz
  clear hx hb2 hs1
  go_enter Try.func59, Try.ntmps59
  go_upto_region 1 with fail
  generalize (w.alloc (.cells #[.int .i64 av, .func (.func 51) #[] #[], .bool bb, .int .i64 ar] 63)).alloc (.cells #[.int .i64 k, .int .i64 n] 58) = W1 at *
  obtain ⟨b, hb⟩ : ∃ b, w.heap.size = b := ⟨_, rfl⟩
  rw [hb] at hy hz
  rw [hb]
  have HY := Lib.hid hy
  have y0 := cell_of (k := 0) hy rfl
  have y1 := cell_of (k := 1) hy rfl
  have y2 := cell_of (k := 2) hy rfl
  have y3 := cell_of (k := 3) hy rfl
  have yl := (Array.getElem?_eq_some_iff.1 hy).1
  have z0 := cell_of (k := 0) hz rfl
  have z1 := cell_of (k := 1) hz rfl
  clear hy hz
  go_wp2_with fail
  refine (C.out _).mono ?_
  rintro e w2 ⟨rfl, hb2⟩
  have hy2 := (hb2.block b yl).trans HY.out
  have HB2 := Lib.hid (HB.out.trans (hb2.mono HB.out.size))
  clear hb2 y0 y1 y2 y3 yl z0 z1 HY HB
  rcases hres with ⟨hr, rfl⟩ | ⟨hr, rfl⟩
  · have y0 := cell_of (k := 0) hy2 rfl
    have y1 := cell_of (k := 1) hy2 rfl
    have y2 := cell_of (k := 2) hy2 rfl
    have y3 := cell_of (k := 3) hy2 rfl
    have HR := Lib.hid hr
    clear hy2 hr
    go_wp2_with fail
    refine (CB.out _).mono ?_
    rintro e w3 ⟨rfl, hb3⟩
    have HB3 := Lib.hid (HB2.out.trans (hb3.mono HB2.out.size))
    clear hb3 y0 y1 y2 y3
    go_wp2_with fail
    exact bodyPost_ret (results_tmp2 rfl _ _ _) rfl ⟨by first | rfl | (rw [HR.out]; rfl), hb ▸ HB3.out⟩
  · have HR := Lib.hid hr
    clear hr hy2
    go_wp2_with fail
    exact bodyPost_ret (results_tmp2 rfl _ _ _) rfl ⟨by first | rfl | (rw [HR.out]; rfl), hb ▸ HB2.out⟩
set_option maxRecDepth 100000 in
set_option maxHeartbeats 2000000 in
theorem saysK_any (k n av ar : Int) (bb : Bool) (w : World) : Calls Try.prog 59 #[.agg #[.int .i64 av, .func (.func 56) #[] #[], .bool bb, .int .i64 ar], .agg #[.int .i64 k, .int .i64 n]] w fun e w' => e = .returned (.tuple #[.int .i64 (if knownZ k av = true then (if bb = true then max ((if knownZ k av = true then worthZ k n av else 0)) ar else addZ (max ((if knownZ k av = true then worthZ k n av else 0)) 0) ar) else 0), .bool (knownZ k av)]) ∧ Below w.heap.size w w' := by
  have C := Lib.hid (fun W => ofKnown_any k n av W)
  have CB := Lib.hid (fun W => asBox_any av (.func (.func 56) #[] #[]) bb ar ((if knownZ k av = true then worthZ k n av else 0)) W rfl)
  generalize (if knownZ k av = true then worthZ k n av else 0) = r at *
  generalize knownZ k av = q at *
  generalize (if bb = true then max r ar else addZ (max r 0) ar) = v at *
  have hres : (if q = true then v else 0) = v ∧ q = true ∨ (if q = true then v else 0) = 0 ∧ q = false := by cases q <;> simp
  have hx := (Below.refl w.heap.size w).alloc (Nat.le_refl _) (.cells #[.int .i64 av, .func (.func 56) #[] #[], .bool bb, .int .i64 ar] 63)
  have hs1 : (w.alloc (.cells #[.int .i64 av, .func (.func 56) #[] #[], .bool bb, .int .i64 ar] 63)).heap.size = w.heap.size + 1 := by simp
  have hb2 := below_one7h (w.alloc (.cells #[.int .i64 av, .func (.func 56) #[] #[], .bool bb, .int .i64 ar] 63)) (.cells #[.int .i64 k, .int .i64 n] 58)
  have hy := (hb2.block w.heap.size (by omega)).trans (heap_alloc_new w (.cells #[.int .i64 av, .func (.func 56) #[] #[], .bool bb, .int .i64 ar] 63))
  have hz := heap_alloc_new (w.alloc (.cells #[.int .i64 av, .func (.func 56) #[] #[], .bool bb, .int .i64 ar] 63)) (.cells #[.int .i64 k, .int .i64 n] 58)
  have HB := Lib.hid (hx.trans (hb2.mono hx.size))
  rw [hs1] at hz
  clear hx hb2 hs1
  go_enter Try.func59, Try.ntmps59
  go_upto_region 1 with fail
  generalize (w.alloc (.cells #[.int .i64 av, .func (.func 56) #[] #[], .bool bb, .int .i64 ar] 63)).alloc (.cells #[.int .i64 k, .int .i64 n] 58) = W1 at *
  obtain ⟨b, hb⟩ : ∃ b, w.heap.size = b := ⟨_, rfl⟩
  rw [hb] at hy hz
  rw [hb]
  have HY := Lib.hid hy
  have y0 := cell_of (k := 0) hy rfl
  have y1 := cell_of (k := 1) hy rfl
  have y2 := cell_of (k := 2) hy rfl
  have y3 := cell_of (k := 3) hy rfl
  have yl := (Array.getElem?_eq_some_iff.1 hy).1
  have z0 := cell_of (k := 0) hz rfl
  have z1 := cell_of (k := 1) hz rfl
  clear hy hz
  go_wp2_with fail
  refine (C.out _).mono ?_
  rintro e w2 ⟨rfl, hb2⟩
  have hy2 := (hb2.block b yl).trans HY.out
  have HB2 := Lib.hid (HB.out.trans (hb2.mono HB.out.size))
  clear hb2 y0 y1 y2 y3 yl z0 z1 HY HB
  rcases hres with ⟨hr, rfl⟩ | ⟨hr, rfl⟩
  · have y0 := cell_of (k := 0) hy2 rfl
    have y1 := cell_of (k := 1) hy2 rfl
    have y2 := cell_of (k := 2) hy2 rfl
    have y3 := cell_of (k := 3) hy2 rfl
    have HR := Lib.hid hr
    clear hy2 hr
    go_wp2_with fail
    refine (CB.out _).mono ?_
    rintro e w3 ⟨rfl, hb3⟩
    have HB3 := Lib.hid (HB2.out.trans (hb3.mono HB2.out.size))
    clear hb3 y0 y1 y2 y3
    go_wp2_with fail
    exact bodyPost_ret (results_tmp2 rfl _ _ _) rfl ⟨by first | rfl | (rw [HR.out]; rfl), hb ▸ HB3.out⟩
  · have HR := Lib.hid hr
    clear hr hy2
    go_wp2_with fail
    exact bodyPost_ret (results_tmp2 rfl _ _ _) rfl ⟨by first | rfl | (rw [HR.out]; rfl), hb ▸ HB2.out⟩
theorem PT_bd20 (a n d : Int) : -1073741824 ≤ PT a n d ∧ PT a n d ≤ 1073741824 := by
  unfold PT
  split
  · omega
  · exact H_bd _
theorem says_far (c : Cz) (k n : Int) (h3 : ¬ k = 3) (h4 : ¬ k = 4) (h5 : ¬ k = 5) : (if isZ k = true then (if c.b = true then max (worthZ k n c.av) c.x else addZ (max (worthZ k n c.av) 0) c.x) else 0) = (c.says k n).getD 0 ∧ isZ k = (c.says k n).isSome := by
  unfold Cz.says isZ
  by_cases h : k = 1 ∨ k = 2
  · have hw : H (worthZ k n c.av) = worthZ k n c.av := by
      unfold worthZ
      rcases h with rfl | rfl
      · rw [if_pos rfl]; exact H_H n
      · rw [if_neg (by decide), if_pos rfl]; exact H_id (PT_bd20 _ _ _).1 (PT_bd20 _ _ _).2
    rw [decide_eq_true h, if_pos rfl, if_pos h]
    simp only [Option.getD_some, Option.isSome_some]
    unfold boxZ
    rw [hw]
    first | exact ⟨rfl, rfl⟩ | exact ⟨rfl, trivial⟩
  · rw [decide_eq_false h, if_neg h, if_neg h3, if_neg h4, if_neg h5]
    exact ⟨rfl, rfl⟩
theorem saysH_far (c : Cz) (k n : Int) : (if knownZ k c.bs = true then (if c.b = true then max (if knownZ k c.bs = true then worthZ k n c.bs else 0) c.y else addZ (max (if knownZ k c.bs = true then worthZ k n c.bs else 0) 0) c.y) else 0) = (c.saysH k n).getD 0 ∧ knownZ k c.bs = (c.saysH k n).isSome := by
  unfold knownZ Cz.saysH
  by_cases h1 : k = 1
  · subst h1
    have hw : worthZ 1 n c.bs = H n := by unfold worthZ; rw [if_pos rfl]
    simp only [decide_true, Bool.true_or, if_true, hw, Option.getD_some, Option.isSome_some, and_true]
    unfold boxZ
    cases c.b
    · simp only [Bool.false_eq_true, if_false]
      unfold addZ
      rw [show H (max (H n) 0) = H (max n 0) from by unfold H; repeat' split <;> omega]
    · rfl
  · by_cases h2 : k = 2
    · subst h2
      have hw : worthZ 2 n c.bs = PT c.bs n 100000 := by unfold worthZ; rw [if_neg (by decide), if_pos rfl]
      by_cases h3 : 0 ≤ c.bs
      · have hp : H (PT c.bs n 100000) = PT c.bs n 100000 := H_id (PT_bd20 _ _ _).1 (PT_bd20 _ _ _).2
        simp only [h1, h3, decide_true, decide_false, Bool.false_or, Bool.and_true, if_true, if_false, and_self, hw, Option.getD_some, Option.isSome_some, and_true]
        unfold boxZ
        rw [hp]
      · simp [h3]
    · simp [h1, h2]
end Go.Proofs.Ythfabalnioggcaa

namespace Go.Proofs.Ythfabalnioggcaa
open Go.RowKit TreN LexP FixP SynP ValP PropP FixM
set_option linter.unusedVariables false

theorem run_imax20 {P : Program} (w : World) (ts : Array TypeId) (t : TypeId) (x y : Int) : (Builtin.max_ ts t #[.int .i64 x, .int .i64 y]).run P w = .ok (.int .i64 (max x y)) w := by
  have e : max x y = if x < y then y else x := by split <;> omega
  rw [e]
  by_cases h : x < y <;> simp [Builtin.max_, Builtin.max2, go_sem, h]
theorem run_imin20 {P : Program} (w : World) (ts : Array TypeId) (t : TypeId) (x y : Int) : (Builtin.min_ ts t #[.int .i64 x, .int .i64 y]).run P w = .ok (.int .i64 (min x y)) w := by
  have e : min x y = if y < x then y else x := by split <;> omega
  rw [e]; rfl
set_option maxRecDepth 100000 in
set_option maxHeartbeats 2000000 in
theorem freeB_any (c : Cz) (w : World) : Calls Try.prog 58 #[.agg (boxL c).toArray] w fun e w' => e = .returned (.int .i64 c.free) ∧ Below w.heap.size w w' := by
  have HAL := Lib.hid (boxL_len c)
  have HCE := Lib.hid (fun i h => boxL_at c i h)
  have hx := Bx.new w (boxL c) 65
  have hpre : boxL c = caseL c.held ++ [.int .i64 c.av, .func (.func 51) #[] #[], .bool c.b, .int .i64 c.x, .int .i64 c.bs, .func (.func 56) #[] #[], .bool c.b, .int .i64 c.y] := rfl
  generalize boxL c = As at *
  have hal := HAL.out
  have hFl := frameL_len c
  have HFO := Lib.hid (frameL_one c)
  have HFE := Lib.hid (fun i h => frameL_at c i h)
  have CO := Lib.hid (fun W => Of20_any c.held W)
  rw [show frameL c.held = frameL c from rfl] at CO
  generalize frameL c = Fs at *
  have hCl := caseL_len c.held
  generalize caseL c.held = Cs at *
  have hFz : Fs.toArray.size = 16 := by simpa using hFl
  have HPRE := Lib.hid hpre
  clear hpre
  go_enter Try.func58, Try.ntmps58
  go_upto_region 1 with fail
  obtain ⟨W1, hW⟩ : ∃ W, w.alloc (.cells As.toArray 65) = W := ⟨_, rfl⟩
  rw [hW] at hx ⊢
  clear hW
  obtain ⟨b, hb⟩ : ∃ b, w.heap.size = b := ⟨_, rfl⟩
  rw [hb] at hx ⊢
  have HX := Lib.hid hx
  clear hx
  have hrc : W1.rangeAt b 0 Cs := fun j v hv => HX.out.rng j v (by rw [HPRE.out, List.getElem?_append_left (List.getElem?_eq_some_iff.1 hv).1]; exact hv)
  refine wp_region_lit ?_
  go_step
  go_step
  rename_i K' hK'
  refine hK' _ _ ?_
  clear hK'
  refine wpList_load_mid rfl 29 _ rfl b 0 rfl Cs _ hrc Try.underlying29 rfl (by rw [size20c, hCl]) ?_
  clear hrc HPRE
  go_wp2_with fail
  refine (CO.out _).mono ?_
  rintro e w2 ⟨rfl, hb2⟩
  have HX2 := Lib.hid (HX.out.call hb2)
  clear hb2 HX
  dsimp only
  rename_i K' hK'
  refine hK' _ _ ?_
  clear hK'
  go_step
  go_step
  rename_i K' hK'
  refine hK' _ _ ?_
  clear hK'
  have hq := Bx.made (Below.refl w2.heap.size w2) #[.int .i64 0, .int .i64 0, .int .i64 0, .int .i64 0, .bool false, .bool false, .bool false, .bool false, .int .i64 0, .int .i64 0, .int .i64 0, .int .i64 0, .int .i64 0, .int .i64 0, .int .i64 0, .int .i64 0] 32 Fs (by rw [hFl]; rfl)
  refine wpList_store_mid rfl 32 _ _ rfl w2.heap.size 0 Fs.toArray rfl rfl (by rw [hFz]; exact thereS_of_block (heap_alloc_new w2 (.cells #[.int .i64 0, .int .i64 0, .int .i64 0, .int .i64 0, .bool false, .bool false, .bool false, .bool false, .int .i64 0, .int .i64 0, .int .i64 0, .int .i64 0, .int .i64 0, .int .i64 0, .int .i64 0, .int .i64 0] 32))) (by rw [hFz]; exact size20f) (all_oneCell_toArray HFO.out) ?_
  have e55 : Fs.toArray.toList = Fs := rfl
  rw [e55]
  clear e55
  obtain ⟨W3, hW⟩ : ∃ W, (w2.alloc (.cells #[.int .i64 0, .int .i64 0, .int .i64 0, .int .i64 0, .bool false, .bool false, .bool false, .bool false, .int .i64 0, .int .i64 0, .int .i64 0, .int .i64 0, .int .i64 0, .int .i64 0, .int .i64 0, .int .i64 0] 32)).setCells w2.heap.size 0 Fs = W := ⟨_, rfl⟩
  rw [hW] at hq ⊢
  clear hW
  obtain ⟨bq, hbq⟩ : ∃ x, w2.heap.size = x := ⟨_, rfl⟩
  have HX := Lib.hid (HX2.out.call hq.bel)
  have HQ : Hid (Bx w2 W3 bq Fs) := Lib.hid (by rw [← hbq]; exact hq)
  rw [hbq]
  clear hbq hq HX2
  have q55 : W3.cell? ⟨b, 55, none⟩ = some (.int .i64 c.av) := HX.out.at_ 55 _ (HCE.out 55 (by decide))
  have p3 : W3.cell? ⟨bq, 3, none⟩ = some (.int .i64 (c.mar 3)) := HQ.out.at_ 3 _ (HFE.out 3 (by decide))
  go_upto_region 3 with (go_at_call 75; refine (SubC_any _ _ _).mono ?_; rintro e wq ⟨rfl, rfl⟩)
  clear p3 q55
  have hS : Below W3.heap.size W3 W3.drew := (Below.refl _ _).drew
  refine wp_region_held_drew (S := fun w' => Below W3.heap.size W3 w') (by kernel_rfl) hS (fun hS => ?_)
  refine wpAnyH_take (i := 0) (v := .pointer (some ⟨b, 59, none⟩)) rfl (by kernel_rfl) (by kernel_rfl) (by kernel_rfl) (fun _ _ _ h => h) (Or.inl ⟨by kernel_rfl, fun w _ => by kernel_rfl⟩) hS ?_
  simp only [Act.put]
  try simp only [List.getElem_toArray]
  try simp only [List.getElem_cons_succ]
  try simp only [List.getElem_cons_zero]
  try simp only [List.setIfInBounds_toArray]
  try simp only [List.set_cons_succ]
  try simp only [List.set_cons_zero]
  refine wpAnyH_take (i := 1) (v := .pointer (some ⟨b, 62, none⟩)) rfl (by kernel_rfl) (by kernel_rfl) (by kernel_rfl) (fun _ _ _ h => h) (Or.inl ⟨by kernel_rfl, fun w _ => by kernel_rfl⟩) hS ?_
  simp only [Act.put]
  try simp only [List.getElem_toArray]
  try simp only [List.getElem_cons_succ]
  try simp only [List.getElem_cons_zero]
  try simp only [List.setIfInBounds_toArray]
  try simp only [List.set_cons_succ]
  try simp only [List.set_cons_zero]
  refine wpAnyH_take (i := 2) (v := .int .i64 c.x) rfl (by kernel_rfl) (by kernel_rfl) (by kernel_rfl) (fun _ _ _ h => h) (yieldsIf_load_one (by kernel_rfl) _ _ rfl b 62 (by kernel_rfl) _ (fun w h => (h.cell (p := ⟨b, 62, none⟩) HX.out.lt).trans (HX.out.at_ 62 _ (HCE.out 62 (by decide)))) (isAgg_int20)) hS ?_
  simp only [Act.put]
  try simp only [List.getElem_toArray]
  try simp only [List.getElem_cons_succ]
  try simp only [List.getElem_cons_zero]
  try simp only [List.setIfInBounds_toArray]
  try simp only [List.set_cons_succ]
  try simp only [List.set_cons_zero]
  refine wpAnyH_take (i := 3) (v := .int .i64 (subZ c.av (c.mar 3))) rfl (by kernel_rfl) (by kernel_rfl) (by kernel_rfl) (fun _ _ _ h => h) (Or.inl ⟨by kernel_rfl, fun w _ => by kernel_rfl⟩) hS ?_
  simp only [Act.put]
  try simp only [List.getElem_toArray]
  try simp only [List.getElem_cons_succ]
  try simp only [List.getElem_cons_zero]
  try simp only [List.setIfInBounds_toArray]
  try simp only [List.set_cons_succ]
  try simp only [List.set_cons_zero]
  refine wpAnyH_take (i := 4) (v := .pointer (some ⟨bq, 0, none⟩)) rfl (by kernel_rfl) (by kernel_rfl) (by kernel_rfl) (fun _ _ _ h => h) (Or.inl ⟨by kernel_rfl, fun w _ => by kernel_rfl⟩) hS ?_
  simp only [Act.put]
  try simp only [List.getElem_toArray]
  try simp only [List.getElem_cons_succ]
  try simp only [List.getElem_cons_zero]
  try simp only [List.setIfInBounds_toArray]
  try simp only [List.set_cons_succ]
  try simp only [List.set_cons_zero]
  refine wpAnyH_take (i := 5) (v := .pointer (some ⟨bq, 1, none⟩)) rfl (by kernel_rfl) (by kernel_rfl) (by kernel_rfl) (fun _ _ _ h => h) (Or.inl ⟨by kernel_rfl, fun w _ => by kernel_rfl⟩) hS ?_
  simp only [Act.put]
  try simp only [List.getElem_toArray]
  try simp only [List.getElem_cons_succ]
  try simp only [List.getElem_cons_zero]
  try simp only [List.setIfInBounds_toArray]
  try simp only [List.set_cons_succ]
  try simp only [List.set_cons_zero]
  refine wpAnyH_take (i := 6) (v := .int .i64 (c.mar 1)) rfl (by kernel_rfl) (by kernel_rfl) (by kernel_rfl) (fun _ _ _ h => h) (yieldsIf_load_one (by kernel_rfl) _ _ rfl bq 1 (by kernel_rfl) _ (fun w h => (h.cell (p := ⟨bq, 1, none⟩) HQ.out.lt).trans (HQ.out.at_ 1 _ (HFE.out 1 (by decide)))) (isAgg_int20)) hS ?_
  simp only [Act.put]
  try simp only [List.getElem_toArray]
  try simp only [List.getElem_cons_succ]
  try simp only [List.getElem_cons_zero]
  try simp only [List.setIfInBounds_toArray]
  try simp only [List.set_cons_succ]
  try simp only [List.set_cons_zero]
  refine wpAnyH_ready (rs := [7]) (by kernel_rfl) (by simp) ?_
  refine AllReadyH.cons rfl (fun K hK => ?_) AllReadyH.nil
  go_simp
  refine (SubC_any _ _ _).mono ?_
  rintro e wq ⟨rfl, rfl⟩
  refine hK.out _ _ hS (fun hS => ?_)
  clear hK K
  refine wpAnyH_take (i := 8) (v := .int .i64 (max c.x (subZ (subZ c.av (c.mar 3)) (c.mar 1)))) rfl (by kernel_rfl) (by kernel_rfl) (by kernel_rfl) (fun _ _ _ h => h) (Or.inl ⟨by kernel_rfl, fun w _ => (by have hm := fun (W : World) (ts : Array TypeId) (t : TypeId) (x y : Int) => run_imax20 (P := Try.prog) W ts t x y; go_simp)⟩) hS ?_
  simp only [Act.put]
  try simp only [List.getElem_toArray]
  try simp only [List.getElem_cons_succ]
  try simp only [List.getElem_cons_zero]
  try simp only [List.setIfInBounds_toArray]
  try simp only [List.set_cons_succ]
  try simp only [List.set_cons_zero]
  refine wpAnyH_take (i := 9) (v := .int .i64 (max c.x (subZ (subZ c.av (c.mar 3)) (c.mar 1)))) rfl (by kernel_rfl) (by kernel_rfl) (by kernel_rfl) (fun _ _ _ h => h) (Or.inl ⟨by kernel_rfl, fun w _ => by kernel_rfl⟩) hS ?_
  simp only [Act.put]
  try simp only [List.getElem_toArray]
  try simp only [List.getElem_cons_succ]
  try simp only [List.getElem_cons_zero]
  try simp only [List.setIfInBounds_toArray]
  try simp only [List.set_cons_succ]
  try simp only [List.set_cons_zero]
  refine wpAnyH_done (by kernel_rfl) ?_ _
  have HE := Lib.hid (HX.out.bel.trans (hS.mono HX.out.bel.size))
  clear hS
  go_wp2_with fail
  go_ret
  exact ⟨by first | rfl | (rw [Int.max_comm]; rfl) | (show Ending.returned (Value.int .i64 (max c.x (subZ (subZ c.av (c.mar 3)) (c.mar 1)))) = _; rw [Int.max_comm]; rfl), hb ▸ HE.out⟩
set_option maxRecDepth 100000 in
set_option maxHeartbeats 2000000 in
theorem ratioB_any (c : Cz) (w : World) : Calls Try.prog 61 #[.agg (boxL c).toArray] w fun e w' => e = .returned (.bool c.rated) ∧ Below w.heap.size w w' := by
  have HAL := Lib.hid (boxL_len c)
  have HCE := Lib.hid (fun i h => boxL_at c i h)
  have hx := Bx.new w (boxL c) 65
  generalize boxL c = As at *
  have hal := HAL.out
  unfold Cz.rated
  by_cases h1 : 0 < c.z 34
  · rw [decide_eq_true h1, Bool.true_and]
    by_cases h2 : 0 < c.z 35
    · rw [decide_eq_true h2]
      go_enter Try.func61, Try.ntmps61
      go_upto_region 1 with fail
      obtain ⟨W1, hW⟩ : ∃ W, w.alloc (.cells As.toArray 65) = W := ⟨_, rfl⟩
      rw [hW] at hx ⊢
      clear hW
      obtain ⟨b, hb⟩ : ∃ b, w.heap.size = b := ⟨_, rfl⟩
      rw [hb] at hx ⊢
      have HX := Lib.hid hx
      clear hx
      have q34 : W1.cell? ⟨b, 34, none⟩ = some (.int .i64 (c.z 34)) := HX.out.at_ 34 _ (HCE.out 34 (by decide))
      have q35 : W1.cell? ⟨b, 35, none⟩ = some (.int .i64 (c.z 35)) := HX.out.at_ 35 _ (HCE.out 35 (by decide))
      go_wp2_with fail
      go_ret
      exact ⟨rfl, hb ▸ HX.out.bel⟩
    · rw [decide_eq_false h2]
      go_enter Try.func61, Try.ntmps61
      go_upto_region 1 with fail
      obtain ⟨W1, hW⟩ : ∃ W, w.alloc (.cells As.toArray 65) = W := ⟨_, rfl⟩
      rw [hW] at hx ⊢
      clear hW
      obtain ⟨b, hb⟩ : ∃ b, w.heap.size = b := ⟨_, rfl⟩
      rw [hb] at hx ⊢
      have HX := Lib.hid hx
      clear hx
      have q34 : W1.cell? ⟨b, 34, none⟩ = some (.int .i64 (c.z 34)) := HX.out.at_ 34 _ (HCE.out 34 (by decide))
      have q35 : W1.cell? ⟨b, 35, none⟩ = some (.int .i64 (c.z 35)) := HX.out.at_ 35 _ (HCE.out 35 (by decide))
      go_wp2_with fail
      go_ret
      exact ⟨rfl, hb ▸ HX.out.bel⟩
  · rw [decide_eq_false h1, Bool.false_and]
    go_enter Try.func61, Try.ntmps61
    go_upto_region 1 with fail
    obtain ⟨W1, hW⟩ : ∃ W, w.alloc (.cells As.toArray 65) = W := ⟨_, rfl⟩
    rw [hW] at hx ⊢
    clear hW
    obtain ⟨b, hb⟩ : ∃ b, w.heap.size = b := ⟨_, rfl⟩
    rw [hb] at hx ⊢
    have HX := Lib.hid hx
    clear hx
    have q34 : W1.cell? ⟨b, 34, none⟩ = some (.int .i64 (c.z 34)) := HX.out.at_ 34 _ (HCE.out 34 (by decide))
    have q35 : W1.cell? ⟨b, 35, none⟩ = some (.int .i64 (c.z 35)) := HX.out.at_ 35 _ (HCE.out 35 (by decide))
    go_wp2_with fail
    go_ret
    exact ⟨rfl, hb ▸ HX.out.bel⟩
end Go.Proofs.Ythfabalnioggcaa

namespace Go.Proofs.Ythfabalnioggcaa
open Go.RowKit TreN LexP FixP SynP ValP PropP FixM
set_option linter.unusedVariables false

set_option maxRecDepth 100000 in
set_option maxHeartbeats 2000000 in
theorem saysWB_any (c : Cz) (k n : Int) (w : World) : Calls Try.prog 42 #[.agg (boxL c).toArray, .agg #[.int .i64 k, .int .i64 n]] w fun e w' => e = .returned (.tuple #[.int .i64 ((c.says k n).getD 0), .bool (c.says k n).isSome]) ∧ Below w.heap.size w w' := by
  have HAL := Lib.hid (boxL_len c)
  have HCE := Lib.hid (fun i h => boxL_at c i h)
  have hx := Bx.new w (boxL c) 65
  have CF := Lib.hid (fun W => freeB_any c W)
  generalize boxL c = As at *
  have hal := HAL.out
  by_cases h3 : k = 3
  · subst h3
    rw [show c.says 3 n = some c.least from by unfold Cz.says; rw [if_neg (by decide), if_pos rfl]]
    simp only [Option.getD_some, Option.isSome_some]
    go_enter Try.func42, Try.ntmps42
    go_upto_region 1 with fail
    have hz := heap_alloc_new (w.alloc (.cells As.toArray 65)) (.cells #[.int .i64 3, .int .i64 n] 58)
    have hx := hx.call (below_one7h _ (.cells #[.int .i64 3, .int .i64 n] 58))
    have hs1 : (w.alloc (.cells As.toArray 65)).heap.size = w.heap.size + 1 := by simp
    rw [hs1] at hz
    clear hs1
    obtain ⟨W1, hW⟩ : ∃ W, (w.alloc (.cells As.toArray 65)).alloc (.cells #[.int .i64 3, .int .i64 n] 58) = W := ⟨_, rfl⟩
    rw [hW] at hx hz ⊢
    clear hW
    obtain ⟨bz, hbz⟩ : ∃ b, w.heap.size + 1 = b := ⟨_, rfl⟩
    obtain ⟨b, hb⟩ : ∃ b, w.heap.size = b := ⟨_, rfl⟩
    rw [hbz] at hz ⊢
    rw [hb] at hx ⊢
    have HX := Lib.hid hx
    have HZ := Lib.hid hz
    have HZL : Hid (bz < W1.heap.size) := Lib.hid (Array.getElem?_eq_some_iff.1 hz).1
    clear hx hz hbz
    have z0 := cell_of (k := 0) HZ.out rfl
    have z1 := cell_of (k := 1) HZ.out rfl
    have zl := HZL.out
    have q57 : W1.cell? ⟨b, 57, none⟩ = some (.int .i64 c.least) := HX.out.at_ 57 _ (HCE.out 57 (by decide))
    go_wp2_with fail
    exact bodyPost_ret (results_tmp2 rfl _ _ _) rfl ⟨rfl, hb ▸ HX.out.bel⟩
  by_cases h4 : k = 4
  · subst h4
    rw [show c.says 4 n = some c.most from by unfold Cz.says; rw [if_neg (by decide), if_neg (by decide), if_pos rfl]]
    simp only [Option.getD_some, Option.isSome_some]
    go_enter Try.func42, Try.ntmps42
    go_upto_region 1 with fail
    have hz := heap_alloc_new (w.alloc (.cells As.toArray 65)) (.cells #[.int .i64 4, .int .i64 n] 58)
    have hx := hx.call (below_one7h _ (.cells #[.int .i64 4, .int .i64 n] 58))
    have hs1 : (w.alloc (.cells As.toArray 65)).heap.size = w.heap.size + 1 := by simp
    rw [hs1] at hz
    clear hs1
    obtain ⟨W1, hW⟩ : ∃ W, (w.alloc (.cells As.toArray 65)).alloc (.cells #[.int .i64 4, .int .i64 n] 58) = W := ⟨_, rfl⟩
    rw [hW] at hx hz ⊢
    clear hW
    obtain ⟨bz, hbz⟩ : ∃ b, w.heap.size + 1 = b := ⟨_, rfl⟩
    obtain ⟨b, hb⟩ : ∃ b, w.heap.size = b := ⟨_, rfl⟩
    rw [hbz] at hz ⊢
    rw [hb] at hx ⊢
    have HX := Lib.hid hx
    have HZ := Lib.hid hz
    have HZL : Hid (bz < W1.heap.size) := Lib.hid (Array.getElem?_eq_some_iff.1 hz).1
    clear hx hz hbz
    have z0 := cell_of (k := 0) HZ.out rfl
    have z1 := cell_of (k := 1) HZ.out rfl
    have zl := HZL.out
    have q58 : W1.cell? ⟨b, 58, none⟩ = some (.int .i64 c.most) := HX.out.at_ 58 _ (HCE.out 58 (by decide))
    go_wp2_with fail
    exact bodyPost_ret (results_tmp2 rfl _ _ _) rfl ⟨rfl, hb ▸ HX.out.bel⟩
  by_cases h5 : k = 5
  · subst h5
    rw [show c.says 5 n = some c.fit from by unfold Cz.says; rw [if_neg (by decide), if_neg (by decide), if_neg (by decide), if_pos rfl]]
    simp only [Option.getD_some, Option.isSome_some]
    go_enter Try.func42, Try.ntmps42
    go_upto_region 1 with fail
    have hz := heap_alloc_new (w.alloc (.cells As.toArray 65)) (.cells #[.int .i64 5, .int .i64 n] 58)
    have hx := hx.call (below_one7h _ (.cells #[.int .i64 5, .int .i64 n] 58))
    have hs1 : (w.alloc (.cells As.toArray 65)).heap.size = w.heap.size + 1 := by simp
    rw [hs1] at hz
    clear hs1
    obtain ⟨W1, hW⟩ : ∃ W, (w.alloc (.cells As.toArray 65)).alloc (.cells #[.int .i64 5, .int .i64 n] 58) = W := ⟨_, rfl⟩
    rw [hW] at hx hz ⊢
    clear hW
    obtain ⟨bz, hbz⟩ : ∃ b, w.heap.size + 1 = b := ⟨_, rfl⟩
    obtain ⟨b, hb⟩ : ∃ b, w.heap.size = b := ⟨_, rfl⟩
    rw [hbz] at hz ⊢
    rw [hb] at hx ⊢
    have HX := Lib.hid hx
    have HZ := Lib.hid hz
    have HZL : Hid (bz < W1.heap.size) := Lib.hid (Array.getElem?_eq_some_iff.1 hz).1
    clear hx hz hbz
    have z0 := cell_of (k := 0) HZ.out rfl
    have z1 := cell_of (k := 1) HZ.out rfl
    have zl := HZL.out
    go_upto_region 7 with fail
    clear z0 z1 zl
    have hS : Below W1.heap.size W1 W1.drew := (Below.refl _ _).drew
    refine wp_region_held_drew (S := fun w' => Below W1.heap.size W1 w') (by kernel_rfl) hS (fun hS => ?_)
    refine wpAnyH_take (i := 0) (v := .pointer (some ⟨b, 0, none⟩)) rfl (by kernel_rfl) (by kernel_rfl) (by kernel_rfl) (fun _ _ _ h => h) (Or.inl ⟨by kernel_rfl, fun w _ => by kernel_rfl⟩) hS ?_
    simp only [Act.put]
    try simp only [List.getElem_toArray]
    try simp only [List.getElem_cons_succ]
    try simp only [List.getElem_cons_zero]
    try simp only [List.setIfInBounds_toArray]
    try simp only [List.set_cons_succ]
    try simp only [List.set_cons_zero]
    refine wpAnyH_take (i := 1) (v := .pointer (some ⟨b, 57, none⟩)) rfl (by kernel_rfl) (by kernel_rfl) (by kernel_rfl) (fun _ _ _ h => h) (Or.inl ⟨by kernel_rfl, fun w _ => by kernel_rfl⟩) hS ?_
    simp only [Act.put]
    try simp only [List.getElem_toArray]
    try simp only [List.getElem_cons_succ]
    try simp only [List.getElem_cons_zero]
    try simp only [List.setIfInBounds_toArray]
    try simp only [List.set_cons_succ]
    try simp only [List.set_cons_zero]
    refine wpAnyH_take (i := 2) (v := .int .i64 c.least) rfl (by kernel_rfl) (by kernel_rfl) (by kernel_rfl) (fun _ _ _ h => h) (yieldsIf_load_one (by kernel_rfl) _ _ rfl b 57 (by kernel_rfl) _ (fun w h => (h.cell (p := ⟨b, 57, none⟩) HX.out.lt).trans (HX.out.at_ 57 _ (HCE.out 57 (by decide)))) (isAgg_int20)) hS ?_
    simp only [Act.put]
    try simp only [List.getElem_toArray]
    try simp only [List.getElem_cons_succ]
    try simp only [List.getElem_cons_zero]
    try simp only [List.setIfInBounds_toArray]
    try simp only [List.set_cons_succ]
    try simp only [List.set_cons_zero]
    refine wpAnyH_take (i := 3) (v := .pointer (some ⟨b, 0, none⟩)) rfl (by kernel_rfl) (by kernel_rfl) (by kernel_rfl) (fun _ _ _ h => h) (Or.inl ⟨by kernel_rfl, fun w _ => by kernel_rfl⟩) hS ?_
    simp only [Act.put]
    try simp only [List.getElem_toArray]
    try simp only [List.getElem_cons_succ]
    try simp only [List.getElem_cons_zero]
    try simp only [List.setIfInBounds_toArray]
    try simp only [List.set_cons_succ]
    try simp only [List.set_cons_zero]
    refine wpAnyH_take (i := 4) (v := .pointer (some ⟨b, 58, none⟩)) rfl (by kernel_rfl) (by kernel_rfl) (by kernel_rfl) (fun _ _ _ h => h) (Or.inl ⟨by kernel_rfl, fun w _ => by kernel_rfl⟩) hS ?_
    simp only [Act.put]
    try simp only [List.getElem_toArray]
    try simp only [List.getElem_cons_succ]
    try simp only [List.getElem_cons_zero]
    try simp only [List.setIfInBounds_toArray]
    try simp only [List.set_cons_succ]
    try simp only [List.set_cons_zero]
    refine wpAnyH_take (i := 5) (v := .int .i64 c.most) rfl (by kernel_rfl) (by kernel_rfl) (by kernel_rfl) (fun _ _ _ h => h) (yieldsIf_load_one (by kernel_rfl) _ _ rfl b 58 (by kernel_rfl) _ (fun w h => (h.cell (p := ⟨b, 58, none⟩) HX.out.lt).trans (HX.out.at_ 58 _ (HCE.out 58 (by decide)))) (isAgg_int20)) hS ?_
    simp only [Act.put]
    try simp only [List.getElem_toArray]
    try simp only [List.getElem_cons_succ]
    try simp only [List.getElem_cons_zero]
    try simp only [List.setIfInBounds_toArray]
    try simp only [List.set_cons_succ]
    try simp only [List.set_cons_zero]
    refine wpAnyH_take (i := 6) (v := .agg As.toArray) rfl (by kernel_rfl) (by kernel_rfl) (by kernel_rfl) (fun _ _ _ h => h) (yieldsIf_load_mid (by kernel_rfl) _ _ rfl b 0 (by kernel_rfl) As _ (fun w h => rangeS_below HX.out.rng h HX.out.lt) Try.underlying65 rfl (by rw [size20b, HAL.out])) hS ?_
    simp only [Act.put]
    try simp only [List.getElem_toArray]
    try simp only [List.getElem_cons_succ]
    try simp only [List.getElem_cons_zero]
    try simp only [List.setIfInBounds_toArray]
    try simp only [List.set_cons_succ]
    try simp only [List.set_cons_zero]
    refine wpAnyH_ready (rs := [7]) (by kernel_rfl) (by simp) ?_
    refine AllReadyH.cons rfl (fun K hK => ?_) AllReadyH.nil
    go_simp
    refine (CF.out _).mono ?_
    rintro e wq1 ⟨rfl, hb⟩
    have hT := hS.trans (hb.mono hS.size)
    clear hb hS
    dsimp only
    refine hK.out _ _ hT (fun hS => ?_)
    clear hK K hT
    refine wpAnyH_take (i := 8) (v := .int .i64 (min c.most c.free)) rfl (by kernel_rfl) (by kernel_rfl) (by kernel_rfl) (fun _ _ _ h => h) (Or.inl ⟨by kernel_rfl, fun w _ => (by have hm := fun (W : World) (ts : Array TypeId) (t : TypeId) (x y : Int) => run_imin20 (P := Try.prog) W ts t x y; go_simp)⟩) hS ?_
    simp only [Act.put]
    try simp only [List.getElem_toArray]
    try simp only [List.getElem_cons_succ]
    try simp only [List.getElem_cons_zero]
    try simp only [List.setIfInBounds_toArray]
    try simp only [List.set_cons_succ]
    try simp only [List.set_cons_zero]
    refine wpAnyH_take (i := 9) (v := .int .i64 (max c.least (min c.most c.free))) rfl (by kernel_rfl) (by kernel_rfl) (by kernel_rfl) (fun _ _ _ h => h) (Or.inl ⟨by kernel_rfl, fun w _ => (by have hm := fun (W : World) (ts : Array TypeId) (t : TypeId) (x y : Int) => run_imax20 (P := Try.prog) W ts t x y; go_simp)⟩) hS ?_
    simp only [Act.put]
    try simp only [List.getElem_toArray]
    try simp only [List.getElem_cons_succ]
    try simp only [List.getElem_cons_zero]
    try simp only [List.setIfInBounds_toArray]
    try simp only [List.set_cons_succ]
    try simp only [List.set_cons_zero]
    refine wpAnyH_take (i := 10) (v := .int .i64 (max c.least (min c.most c.free))) rfl (by kernel_rfl) (by kernel_rfl) (by kernel_rfl) (fun _ _ _ h => h) (Or.inl ⟨by kernel_rfl, fun w _ => by kernel_rfl⟩) hS ?_
    simp only [Act.put]
    try simp only [List.getElem_toArray]
    try simp only [List.getElem_cons_succ]
    try simp only [List.getElem_cons_zero]
    try simp only [List.setIfInBounds_toArray]
    try simp only [List.set_cons_succ]
    try simp only [List.set_cons_zero]
    refine wpAnyH_take (i := 11) (v := .bool true) rfl (by kernel_rfl) (by kernel_rfl) (by kernel_rfl) (fun _ _ _ h => h) (Or.inl ⟨by kernel_rfl, fun w _ => by kernel_rfl⟩) hS ?_
    simp only [Act.put]
    try simp only [List.getElem_toArray]
    try simp only [List.getElem_cons_succ]
    try simp only [List.getElem_cons_zero]
    try simp only [List.setIfInBounds_toArray]
    try simp only [List.set_cons_succ]
    try simp only [List.set_cons_zero]
    refine wpAnyH_done (by kernel_rfl) ?_ _
    have HE := Lib.hid (HX.out.bel.trans (hS.mono HX.out.bel.size))
    clear hS
    go_wp2_with fail
    exact bodyPost_ret (results_tmp2 rfl _ _ _) rfl ⟨by rw [Int.max_comm]; rfl, hb ▸ HE.out⟩
  have hsf := says_far c k n h3 h4 h5
  rw [← hsf.1, ← hsf.2]
  clear hsf
  have C := Lib.hid (fun W => saysA_any k n c.av c.x c.b W)
  generalize (if isZ k = true then (if c.b = true then max (worthZ k n c.av) c.x else addZ (max (worthZ k n c.av) 0) c.x) else 0) = r at *
  generalize isZ k = q at *
  have y3 : (k == 3) = false := by rw [beq_eq_false_iff_ne]; exact h3
  have y4 : (k == 4) = false := by rw [beq_eq_false_iff_ne]; exact h4
  have y5 : (k == 5) = false := by rw [beq_eq_false_iff_ne]; exact h5
  clear h3 h4 h5
  go_enter Try.func42, Try.ntmps42
  go_upto_region 1 with fail
  have hz := heap_alloc_new (w.alloc (.cells As.toArray 65)) (.cells #[.int .i64 k, .int .i64 n] 58)
  have hx := hx.call (below_one7h _ (.cells #[.int .i64 k, .int .i64 n] 58))
  have hs1 : (w.alloc (.cells As.toArray 65)).heap.size = w.heap.size + 1 := by simp
  rw [hs1] at hz
  clear hs1
  obtain ⟨W1, hW⟩ : ∃ W, (w.alloc (.cells As.toArray 65)).alloc (.cells #[.int .i64 k, .int .i64 n] 58) = W := ⟨_, rfl⟩
  rw [hW] at hx hz ⊢
  clear hW
  obtain ⟨bz, hbz⟩ : ∃ b, w.heap.size + 1 = b := ⟨_, rfl⟩
  obtain ⟨b, hb⟩ : ∃ b, w.heap.size = b := ⟨_, rfl⟩
  rw [hbz] at hz ⊢
  rw [hb] at hx ⊢
  have HX := Lib.hid hx
  have HZ := Lib.hid hz
  have HZL : Hid (bz < W1.heap.size) := Lib.hid (Array.getElem?_eq_some_iff.1 hz).1
  clear hx hz hbz
  have z0 := cell_of (k := 0) HZ.out rfl
  have z1 := cell_of (k := 1) HZ.out rfl
  have zl := HZL.out
  have q59 : W1.cell? ⟨b, 59, none⟩ = some (.int .i64 c.av) := HX.out.at_ 59 _ (HCE.out 59 (by decide))
  have q60 : W1.cell? ⟨b, 60, none⟩ = some (.func (.func 51) #[] #[]) := HX.out.at_ 60 _ (HCE.out 60 (by decide))
  have q61 : W1.cell? ⟨b, 61, none⟩ = some (.bool c.b) := HX.out.at_ 61 _ (HCE.out 61 (by decide))
  have q62 : W1.cell? ⟨b, 62, none⟩ = some (.int .i64 c.x) := HX.out.at_ 62 _ (HCE.out 62 (by decide))
  go_wp2_with fail
  refine (C.out _).mono ?_
  rintro e w2 ⟨rfl, hb2⟩
  have HX2 := Lib.hid (HX.out.call hb2)
  clear hb2 HX
  have HX := HX2
  clear HX2
  go_wp2_with fail
  exact bodyPost_ret (results_tmp2 rfl _ _ _) rfl ⟨rfl, hb ▸ HX.out.bel⟩
set_option maxRecDepth 100000 in
set_option maxHeartbeats 2000000 in
theorem saysHB_any (c : Cz) (k n : Int) (w : World) : Calls Try.prog 45 #[.agg (boxL c).toArray, .agg #[.int .i64 k, .int .i64 n]] w fun e w' => e = .returned (.tuple #[.int .i64 ((c.saysH k n).getD 0), .bool (c.saysH k n).isSome]) ∧ Below w.heap.size w w' := by
  have HAL := Lib.hid (boxL_len c)
  have HCE := Lib.hid (fun i h => boxL_at c i h)
  have hx := Bx.new w (boxL c) 65
  generalize boxL c = As at *
  have hal := HAL.out
  have hsf := saysH_far c k n
  rw [← hsf.1, ← hsf.2]
  clear hsf
  have C := Lib.hid (fun W => saysK_any k n c.bs c.y c.b W)
  generalize (if knownZ k c.bs = true then (if c.b = true then max (if knownZ k c.bs = true then worthZ k n c.bs else 0) c.y else addZ (max (if knownZ k c.bs = true then worthZ k n c.bs else 0) 0) c.y) else 0) = r at *
  generalize knownZ k c.bs = q at *
  go_enter Try.func45, Try.ntmps45
  go_upto_region 1 with fail
  have hz := heap_alloc_new (w.alloc (.cells As.toArray 65)) (.cells #[.int .i64 k, .int .i64 n] 58)
  have hx := hx.call (below_one7h _ (.cells #[.int .i64 k, .int .i64 n] 58))
  have hs1 : (w.alloc (.cells As.toArray 65)).heap.size = w.heap.size + 1 := by simp
  rw [hs1] at hz
  clear hs1
  obtain ⟨W1, hW⟩ : ∃ W, (w.alloc (.cells As.toArray 65)).alloc (.cells #[.int .i64 k, .int .i64 n] 58) = W := ⟨_, rfl⟩
  rw [hW] at hx hz ⊢
  clear hW
  obtain ⟨bz, hbz⟩ : ∃ b, w.heap.size + 1 = b := ⟨_, rfl⟩
  obtain ⟨b, hb⟩ : ∃ b, w.heap.size = b := ⟨_, rfl⟩
  rw [hbz] at hz ⊢
  rw [hb] at hx ⊢
  have HX := Lib.hid hx
  have HZ := Lib.hid hz
  have HZL : Hid (bz < W1.heap.size) := Lib.hid (Array.getElem?_eq_some_iff.1 hz).1
  clear hx hz hbz
  have z0 := cell_of (k := 0) HZ.out rfl
  have z1 := cell_of (k := 1) HZ.out rfl
  have zl := HZL.out
  have q63 : W1.cell? ⟨b, 63, none⟩ = some (.int .i64 c.bs) := HX.out.at_ 63 _ (HCE.out 63 (by decide))
  have q64 : W1.cell? ⟨b, 64, none⟩ = some (.func (.func 56) #[] #[]) := HX.out.at_ 64 _ (HCE.out 64 (by decide))
  have q65 : W1.cell? ⟨b, 65, none⟩ = some (.bool c.b) := HX.out.at_ 65 _ (HCE.out 65 (by decide))
  have q66 : W1.cell? ⟨b, 66, none⟩ = some (.int .i64 c.y) := HX.out.at_ 66 _ (HCE.out 66 (by decide))
  go_wp2_with fail
  refine (C.out _).mono ?_
  rintro e w2 ⟨rfl, hb2⟩
  have HX2 := Lib.hid (HX.out.call hb2)
  clear hb2 HX
  have HX := HX2
  clear HX2
  go_wp2_with fail
  exact bodyPost_ret (results_tmp2 rfl _ _ _) rfl ⟨rfl, hb ▸ HX.out.bel⟩
end Go.Proofs.Ythfabalnioggcaa
