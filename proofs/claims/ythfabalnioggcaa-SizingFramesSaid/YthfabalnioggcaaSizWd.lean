/- Joined texts: SizW4 SizW5. -/
import Derived.Test.YthfabalnioggcaaSizW3
namespace Go.Proofs.Ythfabalnioggcaa
open Go.RowKit TreN LexP FixP SynP ValP PropP FixM
set_option linter.unusedVariables false

set_option maxRecDepth 100000 in
set_option maxHeartbeats 2000000 in
theorem Across20_any (c : Cz) (w : World) : Calls Try.prog 16 #[.agg (caseL c).toArray] w fun e w' => e = .returned (.int .i64 c.x) ∧ Below w.heap.size w w' := by
  have HAL := Lib.hid (caseL_len c)
  have HCE := Lib.hid (fun i h => caseL_at c i h)
  have hx := Bx.new w (caseL c) 36
  have CP := Lib.hid (fun W => Pair20_31 c W)
  generalize caseL c = As at *
  have hal := HAL.out
  go_enter Try.func16, Try.ntmps16
  go_upto_region 1 with fail
  obtain ⟨W1, hW⟩ : ∃ W, w.alloc (.cells As.toArray 36) = W := ⟨_, rfl⟩
  rw [hW] at hx ⊢
  clear hW
  obtain ⟨b, hb⟩ : ∃ b, w.heap.size = b := ⟨_, rfl⟩
  rw [hb] at hx ⊢
  have HX := Lib.hid hx
  clear hx
  refine wp_region_lit ?_
  refine wpList_load_mid rfl 36 _ rfl b 0 rfl As _ HX.out.rng Try.underlying36 rfl (by rw [size20r, HAL.out]) ?_
  go_wp2_with fail
  refine (CP.out _).mono ?_
  rintro e w2 ⟨rfl, hb2⟩
  have HX2 := Lib.hid (HX.out.call hb2)
  clear hb2 HX
  have HX := HX2
  clear HX2
  go_wp2_with fail
  go_ret
  exact ⟨rfl, hb ▸ HX.out.bel⟩
set_option maxRecDepth 100000 in
set_option maxHeartbeats 2000000 in
theorem Down20_any (c : Cz) (w : World) : Calls Try.prog 17 #[.agg (caseL c).toArray] w fun e w' => e = .returned (.int .i64 c.y) ∧ Below w.heap.size w w' := by
  have HAL := Lib.hid (caseL_len c)
  have HCE := Lib.hid (fun i h => caseL_at c i h)
  have hx := Bx.new w (caseL c) 36
  have CP := Lib.hid (fun W => Pair20_02 c W)
  generalize caseL c = As at *
  have hal := HAL.out
  go_enter Try.func17, Try.ntmps17
  go_upto_region 1 with fail
  obtain ⟨W1, hW⟩ : ∃ W, w.alloc (.cells As.toArray 36) = W := ⟨_, rfl⟩
  rw [hW] at hx ⊢
  clear hW
  obtain ⟨b, hb⟩ : ∃ b, w.heap.size = b := ⟨_, rfl⟩
  rw [hb] at hx ⊢
  have HX := Lib.hid hx
  clear hx
  refine wp_region_lit ?_
  refine wpList_load_mid rfl 36 _ rfl b 0 rfl As _ HX.out.rng Try.underlying36 rfl (by rw [size20r, HAL.out]) ?_
  go_wp2_with fail
  refine (CP.out _).mono ?_
  rintro e w2 ⟨rfl, hb2⟩
  have HX2 := Lib.hid (HX.out.call hb2)
  clear hb2 HX
  have HX := HX2
  clear HX2
  go_wp2_with fail
  go_ret
  exact ⟨rfl, hb ▸ HX.out.bel⟩
set_option maxRecDepth 100000 in
set_option maxHeartbeats 2000000 in
theorem Box20_any (c : Cz) (n extra : Int) (w : World) : Calls Try.prog 43 #[.agg (caseL c).toArray, .int .i64 n, .int .i64 extra] w fun e w' => e = .returned (.int .i64 (boxZ c.b n extra)) ∧ Below w.heap.size w w' := by
  have HAL := Lib.hid (caseL_len c)
  have HCE := Lib.hid (fun i h => caseL_at c i h)
  have hx := Bx.new w (caseL c) 36
  generalize caseL c = As at *
  have hal := HAL.out
  unfold boxZ
  cases hbb : c.b
  · simp only [Bool.false_eq_true, if_false]
    go_enter Try.func43, Try.ntmps43
    go_upto_region 1 with fail
    obtain ⟨W1, hW⟩ : ∃ W, w.alloc (.cells As.toArray 36) = W := ⟨_, rfl⟩
    rw [hW] at hx ⊢
    clear hW
    obtain ⟨b, hb⟩ : ∃ b, w.heap.size = b := ⟨_, rfl⟩
    rw [hb] at hx ⊢
    have HX := Lib.hid hx
    clear hx
    have q1 : W1.cell? ⟨b, 1, none⟩ = some (.bool c.b) := (HX.out.at_ 1 _ (HCE.out 1 (by decide)))
    rw [hbb] at q1
    go_wp2_with (first | (go_at_call 12; refine (Up20_any _ _ _).mono ?_; rintro e wq ⟨rfl, rfl⟩) | (go_at_call 49; refine (Add20_any _ _ _).mono ?_; rintro e wq ⟨rfl, rfl⟩))
    go_ret
    exact ⟨rfl, hb ▸ HX.out.bel⟩
  · simp only [if_true]
    go_enter Try.func43, Try.ntmps43
    go_upto_region 1 with fail
    obtain ⟨W1, hW⟩ : ∃ W, w.alloc (.cells As.toArray 36) = W := ⟨_, rfl⟩
    rw [hW] at hx ⊢
    clear hW
    obtain ⟨b, hb⟩ : ∃ b, w.heap.size = b := ⟨_, rfl⟩
    rw [hb] at hx ⊢
    have HX := Lib.hid hx
    clear hx
    have q1 : W1.cell? ⟨b, 1, none⟩ = some (.bool c.b) := (HX.out.at_ 1 _ (HCE.out 1 (by decide)))
    rw [hbb] at q1
    go_wp2_with (first | (go_at_call 14; refine (refHold_any _ _).mono ?_; rintro e wq ⟨rfl, rfl⟩) | (go_at_call 12; refine (Up20_any _ _ _).mono ?_; rintro e wq ⟨rfl, rfl⟩))
    go_ret
    exact ⟨rfl, hb ▸ HX.out.bel⟩
set_option maxRecDepth 100000 in
set_option maxHeartbeats 2000000 in
theorem Size20_any (c : Cz) (n extra : Int) (w : World) : Calls Try.prog 48 #[.agg (caseL c).toArray, .int .i64 n, .int .i64 extra] w fun e w' => e = .returned (.int .i64 (sizZ c.b n extra)) ∧ Below w.heap.size w w' := by
  have HAL := Lib.hid (caseL_len c)
  have HCE := Lib.hid (fun i h => caseL_at c i h)
  have hx := Bx.new w (caseL c) 36
  generalize caseL c = As at *
  have hal := HAL.out
  unfold sizZ
  cases hbb : c.b
  · simp only [Bool.false_eq_true, if_false]
    go_enter Try.func48, Try.ntmps48
    go_upto_region 1 with fail
    obtain ⟨W1, hW⟩ : ∃ W, w.alloc (.cells As.toArray 36) = W := ⟨_, rfl⟩
    rw [hW] at hx ⊢
    clear hW
    obtain ⟨b, hb⟩ : ∃ b, w.heap.size = b := ⟨_, rfl⟩
    rw [hb] at hx ⊢
    have HX := Lib.hid hx
    clear hx
    have q1 : W1.cell? ⟨b, 1, none⟩ = some (.bool c.b) := (HX.out.at_ 1 _ (HCE.out 1 (by decide)))
    rw [hbb] at q1
    go_wp2_with (first | (go_at_call 12; refine (Up20_any _ _ _).mono ?_; rintro e wq ⟨rfl, rfl⟩) | (go_at_call 65; refine (Sub20_any _ _ _).mono ?_; rintro e wq ⟨rfl, rfl⟩))
    go_ret
    exact ⟨rfl, hb ▸ HX.out.bel⟩
  · simp only [if_true]
    go_enter Try.func48, Try.ntmps48
    go_upto_region 1 with fail
    obtain ⟨W1, hW⟩ : ∃ W, w.alloc (.cells As.toArray 36) = W := ⟨_, rfl⟩
    rw [hW] at hx ⊢
    clear hW
    obtain ⟨b, hb⟩ : ∃ b, w.heap.size = b := ⟨_, rfl⟩
    rw [hb] at hx ⊢
    have HX := Lib.hid hx
    clear hx
    have q1 : W1.cell? ⟨b, 1, none⟩ = some (.bool c.b) := (HX.out.at_ 1 _ (HCE.out 1 (by decide)))
    rw [hbb] at q1
    go_wp2_with (first | (go_at_call 14; refine (refHold_any _ _).mono ?_; rintro e wq ⟨rfl, rfl⟩))
    go_ret
    exact ⟨rfl, hb ▸ HX.out.bel⟩
set_option maxRecDepth 100000 in
set_option maxHeartbeats 2000000 in
theorem Rated20_any (c : Cz) (w : World) : Calls Try.prog 47 #[.agg (caseL c).toArray] w fun e w' => e = .returned (.bool c.rated) ∧ Below w.heap.size w w' := by
  have HAL := Lib.hid (caseL_len c)
  have HCE := Lib.hid (fun i h => caseL_at c i h)
  have hx := Bx.new w (caseL c) 36
  generalize caseL c = As at *
  have hal := HAL.out
  unfold Cz.rated
  by_cases h1 : 0 < c.z 34
  · rw [decide_eq_true h1, Bool.true_and]
    by_cases h2 : 0 < c.z 35
    · rw [decide_eq_true h2]
      go_enter Try.func47, Try.ntmps47
      go_upto_region 1 with fail
      obtain ⟨W1, hW⟩ : ∃ W, w.alloc (.cells As.toArray 36) = W := ⟨_, rfl⟩
      rw [hW] at hx ⊢
      clear hW
      obtain ⟨b, hb⟩ : ∃ b, w.heap.size = b := ⟨_, rfl⟩
      rw [hb] at hx ⊢
      have HX := Lib.hid hx
      clear hx
      have q34 : W1.cell? ⟨b, 34, none⟩ = some (.int .i64 (c.z 34)) := (HX.out.at_ 34 _ (HCE.out 34 (by decide)))
      have q35 : W1.cell? ⟨b, 35, none⟩ = some (.int .i64 (c.z 35)) := (HX.out.at_ 35 _ (HCE.out 35 (by decide)))
      go_wp2_with fail
      go_ret
      exact ⟨rfl, hb ▸ HX.out.bel⟩
    · rw [decide_eq_false h2]
      go_enter Try.func47, Try.ntmps47
      go_upto_region 1 with fail
      obtain ⟨W1, hW⟩ : ∃ W, w.alloc (.cells As.toArray 36) = W := ⟨_, rfl⟩
      rw [hW] at hx ⊢
      clear hW
      obtain ⟨b, hb⟩ : ∃ b, w.heap.size = b := ⟨_, rfl⟩
      rw [hb] at hx ⊢
      have HX := Lib.hid hx
      clear hx
      have q34 : W1.cell? ⟨b, 34, none⟩ = some (.int .i64 (c.z 34)) := (HX.out.at_ 34 _ (HCE.out 34 (by decide)))
      have q35 : W1.cell? ⟨b, 35, none⟩ = some (.int .i64 (c.z 35)) := (HX.out.at_ 35 _ (HCE.out 35 (by decide)))
      go_wp2_with fail
      go_ret
      exact ⟨rfl, hb ▸ HX.out.bel⟩
  · rw [decide_eq_false h1, Bool.false_and]
    go_enter Try.func47, Try.ntmps47
    go_upto_region 1 with fail
    obtain ⟨W1, hW⟩ : ∃ W, w.alloc (.cells As.toArray 36) = W := ⟨_, rfl⟩
    rw [hW] at hx ⊢
    clear hW
    obtain ⟨b, hb⟩ : ∃ b, w.heap.size = b := ⟨_, rfl⟩
    rw [hb] at hx ⊢
    have HX := Lib.hid hx
    clear hx
    have q34 : W1.cell? ⟨b, 34, none⟩ = some (.int .i64 (c.z 34)) := (HX.out.at_ 34 _ (HCE.out 34 (by decide)))
    have q35 : W1.cell? ⟨b, 35, none⟩ = some (.int .i64 (c.z 35)) := (HX.out.at_ 35 _ (HCE.out 35 (by decide)))
    go_wp2_with fail
    go_ret
    exact ⟨rfl, hb ▸ HX.out.bel⟩
set_option maxRecDepth 100000 in
set_option maxHeartbeats 2000000 in
theorem Free20_any (c : Cz) (w : World) : Calls Try.prog 60 #[.agg (caseL c).toArray] w fun e w' => e = .returned (.int .i64 c.free) ∧ Below w.heap.size w w' := by
  have HAL := Lib.hid (caseL_len c)
  have HCE := Lib.hid (fun i h => caseL_at c i h)
  have hx := Bx.new w (caseL c) 36
  have CM3 := Lib.hid (fun W => Margin20_3 c W)
  have CM1 := Lib.hid (fun W => Margin20_1 c W)
  have CX := Lib.hid (fun W => Across20_any c W)
  generalize caseL c = As at *
  have hal := HAL.out
  go_enter Try.func60, Try.ntmps60
  go_upto_region 1 with fail
  obtain ⟨W1, hW⟩ : ∃ W, w.alloc (.cells As.toArray 36) = W := ⟨_, rfl⟩
  rw [hW] at hx ⊢
  clear hW
  obtain ⟨b, hb⟩ : ∃ b, w.heap.size = b := ⟨_, rfl⟩
  rw [hb] at hx ⊢
  have HX := Lib.hid hx
  clear hx
  have hS : Below W1.heap.size W1 W1.drew := (Below.refl _ _).drew
  refine wp_region_held_drew (S := fun w' => Below W1.heap.size W1 w') (by kernel_rfl) hS (fun hS => ?_)
  refine wpAnyH_take (i := 0) (v := .pointer (some ⟨b, 55, none⟩)) rfl (by kernel_rfl) (by kernel_rfl) (by kernel_rfl) (fun _ _ _ h => h) (Or.inl ⟨by kernel_rfl, fun w _ => by kernel_rfl⟩) hS ?_
  simp only [Act.put]
  try simp only [List.getElem_toArray]
  try simp only [List.getElem_cons_succ]
  try simp only [List.getElem_cons_zero]
  try simp only [List.setIfInBounds_toArray]
  try simp only [List.set_cons_succ]
  try simp only [List.set_cons_zero]
  refine wpAnyH_take (i := 1) (v := .int .i64 c.av) rfl (by kernel_rfl) (by kernel_rfl) (by kernel_rfl) (fun _ _ _ h => h) (yieldsIf_load_one (by kernel_rfl) _ _ rfl b 55 (by kernel_rfl) _ (fun w h => (h.cell (p := ⟨b, 55, none⟩) HX.out.lt).trans (HX.out.at_ 55 _ (HCE.out 55 (by decide)))) (isAgg_int20)) hS ?_
  simp only [Act.put]
  try simp only [List.getElem_toArray]
  try simp only [List.getElem_cons_succ]
  try simp only [List.getElem_cons_zero]
  try simp only [List.setIfInBounds_toArray]
  try simp only [List.set_cons_succ]
  try simp only [List.set_cons_zero]
  refine wpAnyH_take (i := 2) (v := .agg As.toArray) rfl (by kernel_rfl) (by kernel_rfl) (by kernel_rfl) (fun _ _ _ h => h) (yieldsIf_load_mid (by kernel_rfl) _ _ rfl b 0 (by kernel_rfl) As _ (fun w h => rangeS_below HX.out.rng h HX.out.lt) Try.underlying36 rfl (by rw [size20r, HAL.out])) hS ?_
  simp only [Act.put]
  try simp only [List.getElem_toArray]
  try simp only [List.getElem_cons_succ]
  try simp only [List.getElem_cons_zero]
  try simp only [List.setIfInBounds_toArray]
  try simp only [List.set_cons_succ]
  try simp only [List.set_cons_zero]
  refine wpAnyH_take (i := 5) (v := .agg As.toArray) rfl (by kernel_rfl) (by kernel_rfl) (by kernel_rfl) (fun _ _ _ h => h) (yieldsIf_load_mid (by kernel_rfl) _ _ rfl b 0 (by kernel_rfl) As _ (fun w h => rangeS_below HX.out.rng h HX.out.lt) Try.underlying36 rfl (by rw [size20r, HAL.out])) hS ?_
  simp only [Act.put]
  try simp only [List.getElem_toArray]
  try simp only [List.getElem_cons_succ]
  try simp only [List.getElem_cons_zero]
  try simp only [List.setIfInBounds_toArray]
  try simp only [List.set_cons_succ]
  try simp only [List.set_cons_zero]
  refine wpAnyH_take (i := 8) (v := .agg As.toArray) rfl (by kernel_rfl) (by kernel_rfl) (by kernel_rfl) (fun _ _ _ h => h) (yieldsIf_load_mid (by kernel_rfl) _ _ rfl b 0 (by kernel_rfl) As _ (fun w h => rangeS_below HX.out.rng h HX.out.lt) Try.underlying36 rfl (by rw [size20r, HAL.out])) hS ?_
  simp only [Act.put]
  try simp only [List.getElem_toArray]
  try simp only [List.getElem_cons_succ]
  try simp only [List.getElem_cons_zero]
  try simp only [List.setIfInBounds_toArray]
  try simp only [List.set_cons_succ]
  try simp only [List.set_cons_zero]
  refine wpAnyH_ready (rs := [3]) (by kernel_rfl) (by simp) ?_
  refine AllReadyH.cons rfl (fun K hK => ?_) AllReadyH.nil
  go_simp
  refine (CM3.out _).mono ?_
  rintro e wq1 ⟨rfl, hb⟩
  have hT := hS.trans (hb.mono hS.size)
  clear hb hS
  dsimp only
  refine hK.out _ _ hT (fun hS => ?_)
  clear hK K hT
  refine wpAnyH_ready (rs := [4]) (by kernel_rfl) (by simp) ?_
  refine AllReadyH.cons rfl (fun K hK => ?_) AllReadyH.nil
  go_simp
  refine (Sub20_any _ _ _).mono ?_
  rintro e wq ⟨rfl, rfl⟩
  refine hK.out _ _ hS (fun hS => ?_)
  clear hK K
  refine wpAnyH_ready (rs := [6]) (by kernel_rfl) (by simp) ?_
  refine AllReadyH.cons rfl (fun K hK => ?_) AllReadyH.nil
  go_simp
  refine (CM1.out _).mono ?_
  rintro e wq3 ⟨rfl, hb⟩
  have hT := hS.trans (hb.mono hS.size)
  clear hb hS
  dsimp only
  refine hK.out _ _ hT (fun hS => ?_)
  clear hK K hT
  refine wpAnyH_ready (rs := [7]) (by kernel_rfl) (by simp) ?_
  refine AllReadyH.cons rfl (fun K hK => ?_) AllReadyH.nil
  go_simp
  refine (Sub20_any _ _ _).mono ?_
  rintro e wq ⟨rfl, rfl⟩
  refine hK.out _ _ hS (fun hS => ?_)
  clear hK K
  refine wpAnyH_ready (rs := [9]) (by kernel_rfl) (by simp) ?_
  refine AllReadyH.cons rfl (fun K hK => ?_) AllReadyH.nil
  go_simp
  refine (CX.out _).mono ?_
  rintro e wq5 ⟨rfl, hb⟩
  have hT := hS.trans (hb.mono hS.size)
  clear hb hS
  dsimp only
  refine hK.out _ _ hT (fun hS => ?_)
  clear hK K hT
  refine wpAnyH_ready (rs := [10]) (by kernel_rfl) (by simp) ?_
  refine AllReadyH.cons rfl (fun K hK => ?_) AllReadyH.nil
  go_simp
  refine (Up20_any _ _ _).mono ?_
  rintro e wq ⟨rfl, rfl⟩
  refine hK.out _ _ hS (fun hS => ?_)
  clear hK K
  refine wpAnyH_take (i := 11) (v := .int .i64 (max (subZ (subZ c.av (c.mar 3)) (c.mar 1)) c.x)) rfl (by kernel_rfl) (by kernel_rfl) (by kernel_rfl) (fun _ _ _ h => h) (Or.inl ⟨by kernel_rfl, fun w _ => by kernel_rfl⟩) hS ?_
  simp only [Act.put]
  try simp only [List.getElem_toArray]
  try simp only [List.getElem_cons_succ]
  try simp only [List.getElem_cons_zero]
  try simp only [List.setIfInBounds_toArray]
  try simp only [List.set_cons_succ]
  try simp only [List.set_cons_zero]
  refine wpAnyH_done (by kernel_rfl) ?_ _
  have HE := Lib.hid (HX.out.bel.trans (hS.mono HX.out.bel.size))
  clear hS
  go_wp2_with fail
  go_ret
  exact ⟨rfl, hb ▸ HE.out⟩
set_option maxRecDepth 100000 in
set_option maxHeartbeats 2000000 in
theorem Fitted20_any (c : Cz) (w : World) : Calls Try.prog 44 #[.agg (caseL c).toArray] w fun e w' => e = .returned (.int .i64 c.fit) ∧ Below w.heap.size w w' := by
  have HAL := Lib.hid (caseL_len c)
  have HCE := Lib.hid (fun i h => caseL_at c i h)
  have hx := Bx.new w (caseL c) 36
  have CF := Lib.hid (fun W => Free20_any c W)
  generalize caseL c = As at *
  have hal := HAL.out
  obtain ⟨fr, hfr⟩ : ∃ x, c.free = x := ⟨_, rfl⟩
  obtain ⟨mo, hmo⟩ : ∃ x, max (H c.ms) 0 = x := ⟨_, rfl⟩
  have hfit : c.fit = max (min mo fr) (max (H c.ls) 0) := by rw [← hfr, ← hmo]; rfl
  rw [hfit]
  rw [hfr] at CF
  clear hfit hfr
  by_cases h : fr < mo
  · rw [show min mo fr = fr by omega]
    go_enter Try.func44, Try.ntmps44
    go_upto_region 1 with fail
    obtain ⟨W1, hW⟩ : ∃ W, w.alloc (.cells As.toArray 36) = W := ⟨_, rfl⟩
    rw [hW] at hx ⊢
    clear hW
    obtain ⟨b, hb⟩ : ∃ b, w.heap.size = b := ⟨_, rfl⟩
    rw [hb] at hx ⊢
    have HX := Lib.hid hx
    clear hx
    have q58 : W1.cell? ⟨b, 58, none⟩ = some (.int .i64 c.ms) := (HX.out.at_ 58 _ (HCE.out 58 (by decide)))
    go_upto_region 2 with (first | (go_at_call 14; refine (refHold_any _ _).mono ?_; rintro e wq ⟨rfl, rfl⟩) | (go_at_call 12; refine (Up20_any _ _ _).mono ?_; rintro e wq ⟨rfl, rfl⟩))
    clear q58 hmo
    refine wp_region_lit ?_
    refine wpList_load_mid rfl 36 _ rfl b 0 rfl As _ HX.out.rng Try.underlying36 rfl (by rw [size20r, HAL.out]) ?_
    go_wp2_with fail
    refine (CF.out _).mono ?_
    rintro e w2 ⟨rfl, hb2⟩
    have HX2 := Lib.hid (HX.out.call hb2)
    clear hb2 HX
    have HX := HX2
    clear HX2
    go_upto_region 3 with fail
    refine wp_region_lit ?_
    refine wpList_load_mid rfl 36 _ rfl b 0 rfl As _ HX.out.rng Try.underlying36 rfl (by rw [size20r, HAL.out]) ?_
    go_wp2_with fail
    refine (CF.out _).mono ?_
    rintro e w3 ⟨rfl, hb2⟩
    have HX2 := Lib.hid (HX.out.call hb2)
    clear hb2 HX
    have HX := HX2
    clear HX2
    have q57 : w3.cell? ⟨b, 57, none⟩ = some (.int .i64 c.ls) := (HX.out.at_ 57 _ (HCE.out 57 (by decide)))
    go_wp2_with (first | (go_at_call 14; refine (refHold_any _ _).mono ?_; rintro e wq ⟨rfl, rfl⟩) | (go_at_call 12; refine (Up20_any _ _ _).mono ?_; rintro e wq ⟨rfl, rfl⟩))
    go_ret
    exact ⟨rfl, hb ▸ HX.out.bel⟩
  · rw [show min mo fr = mo by omega]
    go_enter Try.func44, Try.ntmps44
    go_upto_region 1 with fail
    obtain ⟨W1, hW⟩ : ∃ W, w.alloc (.cells As.toArray 36) = W := ⟨_, rfl⟩
    rw [hW] at hx ⊢
    clear hW
    obtain ⟨b, hb⟩ : ∃ b, w.heap.size = b := ⟨_, rfl⟩
    rw [hb] at hx ⊢
    have HX := Lib.hid hx
    clear hx
    have q58 : W1.cell? ⟨b, 58, none⟩ = some (.int .i64 c.ms) := (HX.out.at_ 58 _ (HCE.out 58 (by decide)))
    go_upto_region 2 with (first | (go_at_call 14; refine (refHold_any _ _).mono ?_; rintro e wq ⟨rfl, rfl⟩) | (go_at_call 12; refine (Up20_any _ _ _).mono ?_; rintro e wq ⟨rfl, rfl⟩))
    clear q58 hmo
    refine wp_region_lit ?_
    refine wpList_load_mid rfl 36 _ rfl b 0 rfl As _ HX.out.rng Try.underlying36 rfl (by rw [size20r, HAL.out]) ?_
    go_wp2_with fail
    refine (CF.out _).mono ?_
    rintro e w2 ⟨rfl, hb2⟩
    have HX2 := Lib.hid (HX.out.call hb2)
    clear hb2 HX
    have HX := HX2
    clear HX2
    have q57 : w2.cell? ⟨b, 57, none⟩ = some (.int .i64 c.ls) := (HX.out.at_ 57 _ (HCE.out 57 (by decide)))
    go_wp2_with (first | (go_at_call 14; refine (refHold_any _ _).mono ?_; rintro e wq ⟨rfl, rfl⟩) | (go_at_call 12; refine (Up20_any _ _ _).mono ?_; rintro e wq ⟨rfl, rfl⟩))
    go_ret
    exact ⟨rfl, hb ▸ HX.out.bel⟩
end Go.Proofs.Ythfabalnioggcaa

namespace Go.Proofs.Ythfabalnioggcaa
open Go.RowKit TreN LexP FixP SynP ValP PropP FixM
set_option linter.unusedVariables false

/-- a number, or nothing -/
def opV (o : Option Int) : Value := .tuple #[.int .i64 (o.getD 0), .bool o.isSome]
set_option maxRecDepth 100000 in
set_option maxHeartbeats 2000000 in
theorem SaysW20_any (c : Cz) (k n : Int) (w : World) : Calls Try.prog 26 #[.agg (caseL c).toArray, .agg #[.int .i64 k, .int .i64 n]] w fun e w' => e = .returned (.tuple #[.int .i64 ((c.says k n).getD 0), .bool (c.says k n).isSome]) ∧ Below w.heap.size w w' := by
  have HAL := Lib.hid (caseL_len c)
  have HCE := Lib.hid (fun i h => caseL_at c i h)
  have hx := Bx.new w (caseL c) 36
  have CX := Lib.hid (fun W => Across20_any c W)
  have CB := Lib.hid (fun n e W => Box20_any c n e W)
  have CF := Lib.hid (fun W => Fitted20_any c W)
  generalize caseL c = As at *
  have hal := HAL.out
  unfold Cz.says
  by_cases h12 : k = 1 ∨ k = 2
  · rw [if_pos h12]
    simp only [Option.getD_some, Option.isSome_some]
    rcases h12 with rfl | rfl
    · go_enter Try.func26, Try.ntmps26
      go_upto_region 1 with fail
      have hz := heap_alloc_new (w.alloc (.cells As.toArray 36)) (.cells #[.int .i64 1, .int .i64 n] 23)
      have hx := hx.call (below_one7h _ (.cells #[.int .i64 1, .int .i64 n] 23))
      have hs1 : (w.alloc (.cells As.toArray 36)).heap.size = w.heap.size + 1 := by simp
      rw [hs1] at hz
      clear hs1
      obtain ⟨W1, hW⟩ : ∃ W, (w.alloc (.cells As.toArray 36)).alloc (.cells #[.int .i64 1, .int .i64 n] 23) = W := ⟨_, rfl⟩
      rw [hW] at hx hz ⊢
      clear hW
      obtain ⟨bz, hbz⟩ : ∃ b, w.heap.size + 1 = b := ⟨_, rfl⟩
      obtain ⟨b, hb⟩ : ∃ b, w.heap.size = b := ⟨_, rfl⟩
      rw [hbz] at hz ⊢
      rw [hb] at hx ⊢
      have HX := Lib.hid hx
      have HZ := Lib.hid hz
      have HZL : Hid (bz < W1.heap.size) := Lib.hid (Array.getElem?_eq_some_iff.1 hz).1
      clear hx hz hbz
      have z0 := cell_of (k := 0) HZ.out rfl
      have z1 := cell_of (k := 1) HZ.out rfl
      have zl := HZL.out
      go_upto_region 4 with fail
      clear z0 z1 zl
      have hS : Below W1.heap.size W1 W1.drew := (Below.refl _ _).drew
      refine wp_region_held_drew (S := fun w' => Below W1.heap.size W1 w') (by kernel_rfl) hS (fun hS => ?_)
      refine wpAnyH_take (i := 0) (v := .agg As.toArray) rfl (by kernel_rfl) (by kernel_rfl) (by kernel_rfl) (fun _ _ _ h => h) (yieldsIf_load_mid (by kernel_rfl) _ _ rfl b 0 (by kernel_rfl) As _ (fun w h => rangeS_below HX.out.rng h HX.out.lt) Try.underlying36 rfl (by rw [size20r, HAL.out])) hS ?_
      simp only [Act.put]
      try simp only [List.getElem_toArray]
      try simp only [List.getElem_cons_succ]
      try simp only [List.getElem_cons_zero]
      try simp only [List.setIfInBounds_toArray]
      try simp only [List.set_cons_succ]
      try simp only [List.set_cons_zero]
      refine wpAnyH_take (i := 1) (v := .agg #[.int .i64 1, .int .i64 n]) rfl (by kernel_rfl) (by kernel_rfl) (by kernel_rfl) (fun _ _ _ h => h) (yieldsIf_load_mid (by kernel_rfl) _ _ rfl bz 0 (by kernel_rfl) [.int .i64 1, .int .i64 n] _ (fun w h => rangeS_below (rangeS_of_block (As := [.int .i64 1, .int .i64 n]) HZ.out) h HZL.out) Try.underlying23 rfl (by exact size20z)) hS ?_
      simp only [Act.put]
      try simp only [List.getElem_toArray]
      try simp only [List.getElem_cons_succ]
      try simp only [List.getElem_cons_zero]
      try simp only [List.setIfInBounds_toArray]
      try simp only [List.set_cons_succ]
      try simp only [List.set_cons_zero]
      refine wpAnyH_take (i := 2) (v := .pointer (some ⟨b, 55, none⟩)) rfl (by kernel_rfl) (by kernel_rfl) (by kernel_rfl) (fun _ _ _ h => h) (Or.inl ⟨by kernel_rfl, fun w _ => by kernel_rfl⟩) hS ?_
      simp only [Act.put]
      try simp only [List.getElem_toArray]
      try simp only [List.getElem_cons_succ]
      try simp only [List.getElem_cons_zero]
      try simp only [List.setIfInBounds_toArray]
      try simp only [List.set_cons_succ]
      try simp only [List.set_cons_zero]
      refine wpAnyH_take (i := 3) (v := .int .i64 c.av) rfl (by kernel_rfl) (by kernel_rfl) (by kernel_rfl) (fun _ _ _ h => h) (yieldsIf_load_one (by kernel_rfl) _ _ rfl b 55 (by kernel_rfl) _ (fun w h => (h.cell (p := ⟨b, 55, none⟩) HX.out.lt).trans (HX.out.at_ 55 _ (HCE.out 55 (by decide)))) (isAgg_int20)) hS ?_
      simp only [Act.put]
      try simp only [List.getElem_toArray]
      try simp only [List.getElem_cons_succ]
      try simp only [List.getElem_cons_zero]
      try simp only [List.setIfInBounds_toArray]
      try simp only [List.set_cons_succ]
      try simp only [List.set_cons_zero]
      refine wpAnyH_take (i := 5) (v := .agg As.toArray) rfl (by kernel_rfl) (by kernel_rfl) (by kernel_rfl) (fun _ _ _ h => h) (yieldsIf_load_mid (by kernel_rfl) _ _ rfl b 0 (by kernel_rfl) As _ (fun w h => rangeS_below HX.out.rng h HX.out.lt) Try.underlying36 rfl (by rw [size20r, HAL.out])) hS ?_
      simp only [Act.put]
      try simp only [List.getElem_toArray]
      try simp only [List.getElem_cons_succ]
      try simp only [List.getElem_cons_zero]
      try simp only [List.setIfInBounds_toArray]
      try simp only [List.set_cons_succ]
      try simp only [List.set_cons_zero]
      refine wpAnyH_ready (rs := [4]) (by kernel_rfl) (by simp) ?_
      refine AllReadyH.cons rfl (fun K hK => ?_) AllReadyH.nil
      go_simp
      refine (Side20_any 1 n c.av _).mono ?_
      rintro e wq1 ⟨rfl, hb⟩
      have hT := hS.trans (hb.mono hS.size)
      clear hb hS
      dsimp only
      refine hK.out _ _ hT (fun hS => ?_)
      clear hK K hT
      refine wpAnyH_ready (rs := [6]) (by kernel_rfl) (by simp) ?_
      refine AllReadyH.cons rfl (fun K hK => ?_) AllReadyH.nil
      go_simp
      refine (CX.out _).mono ?_
      rintro e wq2 ⟨rfl, hb⟩
      have hT := hS.trans (hb.mono hS.size)
      clear hb hS
      dsimp only
      refine hK.out _ _ hT (fun hS => ?_)
      clear hK K hT
      refine wpAnyH_ready (rs := [7]) (by kernel_rfl) (by simp) ?_
      refine AllReadyH.cons rfl (fun K hK => ?_) AllReadyH.nil
      go_simp
      refine (CB.out (worthZ 1 n c.av) c.x _).mono ?_
      rintro e wq3 ⟨rfl, hb⟩
      have hT := hS.trans (hb.mono hS.size)
      clear hb hS
      dsimp only
      refine hK.out _ _ hT (fun hS => ?_)
      clear hK K hT
      refine wpAnyH_take (i := 8) (v := .int .i64 (boxZ c.b (worthZ 1 n c.av) c.x)) rfl (by kernel_rfl) (by kernel_rfl) (by kernel_rfl) (fun _ _ _ h => h) (Or.inl ⟨by kernel_rfl, fun w _ => by kernel_rfl⟩) hS ?_
      simp only [Act.put]
      try simp only [List.getElem_toArray]
      try simp only [List.getElem_cons_succ]
      try simp only [List.getElem_cons_zero]
      try simp only [List.setIfInBounds_toArray]
      try simp only [List.set_cons_succ]
      try simp only [List.set_cons_zero]
      refine wpAnyH_take (i := 9) (v := .bool true) rfl (by kernel_rfl) (by kernel_rfl) (by kernel_rfl) (fun _ _ _ h => h) (Or.inl ⟨by kernel_rfl, fun w _ => by kernel_rfl⟩) hS ?_
      simp only [Act.put]
      try simp only [List.getElem_toArray]
      try simp only [List.getElem_cons_succ]
      try simp only [List.getElem_cons_zero]
      try simp only [List.setIfInBounds_toArray]
      try simp only [List.set_cons_succ]
      try simp only [List.set_cons_zero]
      refine wpAnyH_done (by kernel_rfl) ?_ _
      have HE := Lib.hid (HX.out.bel.trans (hS.mono HX.out.bel.size))
      clear hS
      go_wp2_with fail
      exact bodyPost_ret (results_tmp2 rfl _ _ _) rfl ⟨rfl, hb ▸ HE.out⟩
    · go_enter Try.func26, Try.ntmps26
      go_upto_region 1 with fail
      have hz := heap_alloc_new (w.alloc (.cells As.toArray 36)) (.cells #[.int .i64 2, .int .i64 n] 23)
      have hx := hx.call (below_one7h _ (.cells #[.int .i64 2, .int .i64 n] 23))
      have hs1 : (w.alloc (.cells As.toArray 36)).heap.size = w.heap.size + 1 := by simp
      rw [hs1] at hz
      clear hs1
      obtain ⟨W1, hW⟩ : ∃ W, (w.alloc (.cells As.toArray 36)).alloc (.cells #[.int .i64 2, .int .i64 n] 23) = W := ⟨_, rfl⟩
      rw [hW] at hx hz ⊢
      clear hW
      obtain ⟨bz, hbz⟩ : ∃ b, w.heap.size + 1 = b := ⟨_, rfl⟩
      obtain ⟨b, hb⟩ : ∃ b, w.heap.size = b := ⟨_, rfl⟩
      rw [hbz] at hz ⊢
      rw [hb] at hx ⊢
      have HX := Lib.hid hx
      have HZ := Lib.hid hz
      have HZL : Hid (bz < W1.heap.size) := Lib.hid (Array.getElem?_eq_some_iff.1 hz).1
      clear hx hz hbz
      have z0 := cell_of (k := 0) HZ.out rfl
      have z1 := cell_of (k := 1) HZ.out rfl
      have zl := HZL.out
      go_upto_region 4 with fail
      clear z0 z1 zl
      have hS : Below W1.heap.size W1 W1.drew := (Below.refl _ _).drew
      refine wp_region_held_drew (S := fun w' => Below W1.heap.size W1 w') (by kernel_rfl) hS (fun hS => ?_)
      refine wpAnyH_take (i := 0) (v := .agg As.toArray) rfl (by kernel_rfl) (by kernel_rfl) (by kernel_rfl) (fun _ _ _ h => h) (yieldsIf_load_mid (by kernel_rfl) _ _ rfl b 0 (by kernel_rfl) As _ (fun w h => rangeS_below HX.out.rng h HX.out.lt) Try.underlying36 rfl (by rw [size20r, HAL.out])) hS ?_
      simp only [Act.put]
      try simp only [List.getElem_toArray]
      try simp only [List.getElem_cons_succ]
      try simp only [List.getElem_cons_zero]
      try simp only [List.setIfInBounds_toArray]
      try simp only [List.set_cons_succ]
      try simp only [List.set_cons_zero]
      refine wpAnyH_take (i := 1) (v := .agg #[.int .i64 2, .int .i64 n]) rfl (by kernel_rfl) (by kernel_rfl) (by kernel_rfl) (fun _ _ _ h => h) (yieldsIf_load_mid (by kernel_rfl) _ _ rfl bz 0 (by kernel_rfl) [.int .i64 2, .int .i64 n] _ (fun w h => rangeS_below (rangeS_of_block (As := [.int .i64 2, .int .i64 n]) HZ.out) h HZL.out) Try.underlying23 rfl (by exact size20z)) hS ?_
      simp only [Act.put]
      try simp only [List.getElem_toArray]
      try simp only [List.getElem_cons_succ]
      try simp only [List.getElem_cons_zero]
      try simp only [List.setIfInBounds_toArray]
      try simp only [List.set_cons_succ]
      try simp only [List.set_cons_zero]
      refine wpAnyH_take (i := 2) (v := .pointer (some ⟨b, 55, none⟩)) rfl (by kernel_rfl) (by kernel_rfl) (by kernel_rfl) (fun _ _ _ h => h) (Or.inl ⟨by kernel_rfl, fun w _ => by kernel_rfl⟩) hS ?_
      simp only [Act.put]
      try simp only [List.getElem_toArray]
      try simp only [List.getElem_cons_succ]
      try simp only [List.getElem_cons_zero]
      try simp only [List.setIfInBounds_toArray]
      try simp only [List.set_cons_succ]
      try simp only [List.set_cons_zero]
      refine wpAnyH_take (i := 3) (v := .int .i64 c.av) rfl (by kernel_rfl) (by kernel_rfl) (by kernel_rfl) (fun _ _ _ h => h) (yieldsIf_load_one (by kernel_rfl) _ _ rfl b 55 (by kernel_rfl) _ (fun w h => (h.cell (p := ⟨b, 55, none⟩) HX.out.lt).trans (HX.out.at_ 55 _ (HCE.out 55 (by decide)))) (isAgg_int20)) hS ?_
      simp only [Act.put]
      try simp only [List.getElem_toArray]
      try simp only [List.getElem_cons_succ]
      try simp only [List.getElem_cons_zero]
      try simp only [List.setIfInBounds_toArray]
      try simp only [List.set_cons_succ]
      try simp only [List.set_cons_zero]
      refine wpAnyH_take (i := 5) (v := .agg As.toArray) rfl (by kernel_rfl) (by kernel_rfl) (by kernel_rfl) (fun _ _ _ h => h) (yieldsIf_load_mid (by kernel_rfl) _ _ rfl b 0 (by kernel_rfl) As _ (fun w h => rangeS_below HX.out.rng h HX.out.lt) Try.underlying36 rfl (by rw [size20r, HAL.out])) hS ?_
      simp only [Act.put]
      try simp only [List.getElem_toArray]
      try simp only [List.getElem_cons_succ]
      try simp only [List.getElem_cons_zero]
      try simp only [List.setIfInBounds_toArray]
      try simp only [List.set_cons_succ]
      try simp only [List.set_cons_zero]
      refine wpAnyH_ready (rs := [4]) (by kernel_rfl) (by simp) ?_
      refine AllReadyH.cons rfl (fun K hK => ?_) AllReadyH.nil
      go_simp
      refine (Side20_any 2 n c.av _).mono ?_
      rintro e wq1 ⟨rfl, hb⟩
      have hT := hS.trans (hb.mono hS.size)
      clear hb hS
      dsimp only
      refine hK.out _ _ hT (fun hS => ?_)
      clear hK K hT
      refine wpAnyH_ready (rs := [6]) (by kernel_rfl) (by simp) ?_
      refine AllReadyH.cons rfl (fun K hK => ?_) AllReadyH.nil
      go_simp
      refine (CX.out _).mono ?_
      rintro e wq2 ⟨rfl, hb⟩
      have hT := hS.trans (hb.mono hS.size)
      clear hb hS
      dsimp only
      refine hK.out _ _ hT (fun hS => ?_)
      clear hK K hT
      refine wpAnyH_ready (rs := [7]) (by kernel_rfl) (by simp) ?_
      refine AllReadyH.cons rfl (fun K hK => ?_) AllReadyH.nil
      go_simp
      refine (CB.out (worthZ 2 n c.av) c.x _).mono ?_
      rintro e wq3 ⟨rfl, hb⟩
      have hT := hS.trans (hb.mono hS.size)
      clear hb hS
      dsimp only
      refine hK.out _ _ hT (fun hS => ?_)
      clear hK K hT
      refine wpAnyH_take (i := 8) (v := .int .i64 (boxZ c.b (worthZ 2 n c.av) c.x)) rfl (by kernel_rfl) (by kernel_rfl) (by kernel_rfl) (fun _ _ _ h => h) (Or.inl ⟨by kernel_rfl, fun w _ => by kernel_rfl⟩) hS ?_
      simp only [Act.put]
      try simp only [List.getElem_toArray]
      try simp only [List.getElem_cons_succ]
      try simp only [List.getElem_cons_zero]
      try simp only [List.setIfInBounds_toArray]
      try simp only [List.set_cons_succ]
      try simp only [List.set_cons_zero]
      refine wpAnyH_take (i := 9) (v := .bool true) rfl (by kernel_rfl) (by kernel_rfl) (by kernel_rfl) (fun _ _ _ h => h) (Or.inl ⟨by kernel_rfl, fun w _ => by kernel_rfl⟩) hS ?_
      simp only [Act.put]
      try simp only [List.getElem_toArray]
      try simp only [List.getElem_cons_succ]
      try simp only [List.getElem_cons_zero]
      try simp only [List.setIfInBounds_toArray]
      try simp only [List.set_cons_succ]
      try simp only [List.set_cons_zero]
      refine wpAnyH_done (by kernel_rfl) ?_ _
      have HE := Lib.hid (HX.out.bel.trans (hS.mono HX.out.bel.size))
      clear hS
      go_wp2_with fail
      exact bodyPost_ret (results_tmp2 rfl _ _ _) rfl ⟨rfl, hb ▸ HE.out⟩
  · rw [if_neg h12]
    have n1 : ¬ k = 1 := fun q => h12 (Or.inl q)
    have n2 : ¬ k = 2 := fun q => h12 (Or.inr q)
    clear h12
    by_cases h3 : k = 3
    · subst h3
      rw [if_pos rfl]
      simp only [Option.getD_some, Option.isSome_some]
      clear n1 n2
      go_enter Try.func26, Try.ntmps26
      go_upto_region 1 with fail
      have hz := heap_alloc_new (w.alloc (.cells As.toArray 36)) (.cells #[.int .i64 3, .int .i64 n] 23)
      have hx := hx.call (below_one7h _ (.cells #[.int .i64 3, .int .i64 n] 23))
      have hs1 : (w.alloc (.cells As.toArray 36)).heap.size = w.heap.size + 1 := by simp
      rw [hs1] at hz
      clear hs1
      obtain ⟨W1, hW⟩ : ∃ W, (w.alloc (.cells As.toArray 36)).alloc (.cells #[.int .i64 3, .int .i64 n] 23) = W := ⟨_, rfl⟩
      rw [hW] at hx hz ⊢
      clear hW
      obtain ⟨bz, hbz⟩ : ∃ b, w.heap.size + 1 = b := ⟨_, rfl⟩
      obtain ⟨b, hb⟩ : ∃ b, w.heap.size = b := ⟨_, rfl⟩
      rw [hbz] at hz ⊢
      rw [hb] at hx ⊢
      have HX := Lib.hid hx
      have HZ := Lib.hid hz
      have HZL : Hid (bz < W1.heap.size) := Lib.hid (Array.getElem?_eq_some_iff.1 hz).1
      clear hx hz hbz
      have z0 := cell_of (k := 0) HZ.out rfl
      have z1 := cell_of (k := 1) HZ.out rfl
      have zl := HZL.out
      have q57 : W1.cell? ⟨b, 57, none⟩ = some (.int .i64 c.ls) := (HX.out.at_ 57 _ (HCE.out 57 (by decide)))
      go_wp2_with (first | (go_at_call 14; refine (refHold_any _ _).mono ?_; rintro e wq ⟨rfl, rfl⟩) | (go_at_call 12; refine (Up20_any _ _ _).mono ?_; rintro e wq ⟨rfl, rfl⟩))
      exact bodyPost_ret (results_tmp2 rfl _ _ _) rfl ⟨rfl, hb ▸ HX.out.bel⟩
    rw [if_neg h3]
    by_cases h4 : k = 4
    · subst h4
      rw [if_pos rfl]
      simp only [Option.getD_some, Option.isSome_some]
      clear n1 n2
      go_enter Try.func26, Try.ntmps26
      go_upto_region 1 with fail
      have hz := heap_alloc_new (w.alloc (.cells As.toArray 36)) (.cells #[.int .i64 4, .int .i64 n] 23)
      have hx := hx.call (below_one7h _ (.cells #[.int .i64 4, .int .i64 n] 23))
      have hs1 : (w.alloc (.cells As.toArray 36)).heap.size = w.heap.size + 1 := by simp
      rw [hs1] at hz
      clear hs1
      obtain ⟨W1, hW⟩ : ∃ W, (w.alloc (.cells As.toArray 36)).alloc (.cells #[.int .i64 4, .int .i64 n] 23) = W := ⟨_, rfl⟩
      rw [hW] at hx hz ⊢
      clear hW
      obtain ⟨bz, hbz⟩ : ∃ b, w.heap.size + 1 = b := ⟨_, rfl⟩
      obtain ⟨b, hb⟩ : ∃ b, w.heap.size = b := ⟨_, rfl⟩
      rw [hbz] at hz ⊢
      rw [hb] at hx ⊢
      have HX := Lib.hid hx
      have HZ := Lib.hid hz
      have HZL : Hid (bz < W1.heap.size) := Lib.hid (Array.getElem?_eq_some_iff.1 hz).1
      clear hx hz hbz
      have z0 := cell_of (k := 0) HZ.out rfl
      have z1 := cell_of (k := 1) HZ.out rfl
      have zl := HZL.out
      have q58 : W1.cell? ⟨b, 58, none⟩ = some (.int .i64 c.ms) := (HX.out.at_ 58 _ (HCE.out 58 (by decide)))
      go_wp2_with (first | (go_at_call 14; refine (refHold_any _ _).mono ?_; rintro e wq ⟨rfl, rfl⟩) | (go_at_call 12; refine (Up20_any _ _ _).mono ?_; rintro e wq ⟨rfl, rfl⟩))
      exact bodyPost_ret (results_tmp2 rfl _ _ _) rfl ⟨rfl, hb ▸ HX.out.bel⟩
    rw [if_neg h4]
    by_cases h5 : k = 5
    · subst h5
      rw [if_pos rfl]
      simp only [Option.getD_some, Option.isSome_some]
      clear n1 n2 h3 h4
      go_enter Try.func26, Try.ntmps26
      go_upto_region 1 with fail
      have hz := heap_alloc_new (w.alloc (.cells As.toArray 36)) (.cells #[.int .i64 5, .int .i64 n] 23)
      have hx := hx.call (below_one7h _ (.cells #[.int .i64 5, .int .i64 n] 23))
      have hs1 : (w.alloc (.cells As.toArray 36)).heap.size = w.heap.size + 1 := by simp
      rw [hs1] at hz
      clear hs1
      obtain ⟨W1, hW⟩ : ∃ W, (w.alloc (.cells As.toArray 36)).alloc (.cells #[.int .i64 5, .int .i64 n] 23) = W := ⟨_, rfl⟩
      rw [hW] at hx hz ⊢
      clear hW
      obtain ⟨bz, hbz⟩ : ∃ b, w.heap.size + 1 = b := ⟨_, rfl⟩
      obtain ⟨b, hb⟩ : ∃ b, w.heap.size = b := ⟨_, rfl⟩
      rw [hbz] at hz ⊢
      rw [hb] at hx ⊢
      have HX := Lib.hid hx
      have HZ := Lib.hid hz
      have HZL : Hid (bz < W1.heap.size) := Lib.hid (Array.getElem?_eq_some_iff.1 hz).1
      clear hx hz hbz
      have z0 := cell_of (k := 0) HZ.out rfl
      have z1 := cell_of (k := 1) HZ.out rfl
      have zl := HZL.out
      go_upto_region 10 with fail
      clear z0 z1 zl
      refine wp_region_lit ?_
      refine wpList_load_mid rfl 36 _ rfl b 0 rfl As _ HX.out.rng Try.underlying36 rfl (by rw [size20r, HAL.out]) ?_
      go_wp2_with fail
      refine (CF.out _).mono ?_
      rintro e w2 ⟨rfl, hb2⟩
      have HX2 := Lib.hid (HX.out.call hb2)
      clear hb2 HX
      have HX := HX2
      clear HX2
      go_wp2_with fail
      exact bodyPost_ret (results_tmp2 rfl _ _ _) rfl ⟨rfl, hb ▸ HX.out.bel⟩
    rw [if_neg h5]
    simp only [Option.getD_none, Option.isSome_none]
    have y1 : (k == 1) = false := by rw [beq_eq_false_iff_ne]; omega
    have y2 : (k == 2) = false := by rw [beq_eq_false_iff_ne]; omega
    have y3 : (k == 3) = false := by rw [beq_eq_false_iff_ne]; omega
    have y4 : (k == 4) = false := by rw [beq_eq_false_iff_ne]; omega
    have y5 : (k == 5) = false := by rw [beq_eq_false_iff_ne]; omega
    clear n1 n2 h3 h4 h5
    go_enter Try.func26, Try.ntmps26
    go_upto_region 1 with fail
    have hz := heap_alloc_new (w.alloc (.cells As.toArray 36)) (.cells #[.int .i64 k, .int .i64 n] 23)
    have hx := hx.call (below_one7h _ (.cells #[.int .i64 k, .int .i64 n] 23))
    have hs1 : (w.alloc (.cells As.toArray 36)).heap.size = w.heap.size + 1 := by simp
    rw [hs1] at hz
    clear hs1
    obtain ⟨W1, hW⟩ : ∃ W, (w.alloc (.cells As.toArray 36)).alloc (.cells #[.int .i64 k, .int .i64 n] 23) = W := ⟨_, rfl⟩
    rw [hW] at hx hz ⊢
    clear hW
    obtain ⟨bz, hbz⟩ : ∃ b, w.heap.size + 1 = b := ⟨_, rfl⟩
    obtain ⟨b, hb⟩ : ∃ b, w.heap.size = b := ⟨_, rfl⟩
    rw [hbz] at hz ⊢
    rw [hb] at hx ⊢
    have HX := Lib.hid hx
    have HZ := Lib.hid hz
    have HZL : Hid (bz < W1.heap.size) := Lib.hid (Array.getElem?_eq_some_iff.1 hz).1
    clear hx hz hbz
    have z0 := cell_of (k := 0) HZ.out rfl
    have z1 := cell_of (k := 1) HZ.out rfl
    have zl := HZL.out
    go_wp2_with fail
    exact bodyPost_ret (results_tmp2 rfl _ _ _) rfl ⟨rfl, hb ▸ HX.out.bel⟩
set_option maxRecDepth 100000 in
set_option maxHeartbeats 2000000 in
theorem SaysH20_any (c : Cz) (k n : Int) (w : World) : Calls Try.prog 28 #[.agg (caseL c).toArray, .agg #[.int .i64 k, .int .i64 n]] w fun e w' => e = .returned (.tuple #[.int .i64 ((c.saysH k n).getD 0), .bool (c.saysH k n).isSome]) ∧ Below w.heap.size w w' := by
  have HAL := Lib.hid (caseL_len c)
  have HCE := Lib.hid (fun i h => caseL_at c i h)
  have hx := Bx.new w (caseL c) 36
  have CY := Lib.hid (fun W => Down20_any c W)
  have CB := Lib.hid (fun n e W => Box20_any c n e W)
  generalize caseL c = As at *
  have hal := HAL.out
  unfold Cz.saysH
  by_cases h1 : k = 1
  · subst h1
    rw [if_pos rfl]
    simp only [Option.getD_some, Option.isSome_some]
    go_enter Try.func28, Try.ntmps28
    go_upto_region 1 with fail
    have hz := heap_alloc_new (w.alloc (.cells As.toArray 36)) (.cells #[.int .i64 1, .int .i64 n] 23)
    have hx := hx.call (below_one7h _ (.cells #[.int .i64 1, .int .i64 n] 23))
    have hs1 : (w.alloc (.cells As.toArray 36)).heap.size = w.heap.size + 1 := by simp
    rw [hs1] at hz
    clear hs1
    obtain ⟨W1, hW⟩ : ∃ W, (w.alloc (.cells As.toArray 36)).alloc (.cells #[.int .i64 1, .int .i64 n] 23) = W := ⟨_, rfl⟩
    rw [hW] at hx hz ⊢
    clear hW
    obtain ⟨bz, hbz⟩ : ∃ b, w.heap.size + 1 = b := ⟨_, rfl⟩
    obtain ⟨b, hb⟩ : ∃ b, w.heap.size = b := ⟨_, rfl⟩
    rw [hbz] at hz ⊢
    rw [hb] at hx ⊢
    have HX := Lib.hid hx
    have HZ := Lib.hid hz
    have HZL : Hid (bz < W1.heap.size) := Lib.hid (Array.getElem?_eq_some_iff.1 hz).1
    clear hx hz hbz
    have z0 := cell_of (k := 0) HZ.out rfl
    have z1 := cell_of (k := 1) HZ.out rfl
    have zl := HZL.out
    go_upto_region 2 with fail
    clear z0 z1 zl
    have hS : Below W1.heap.size W1 W1.drew := (Below.refl _ _).drew
    refine wp_region_held_drew (S := fun w' => Below W1.heap.size W1 w') (by kernel_rfl) hS (fun hS => ?_)
    refine wpAnyH_take (i := 0) (v := .agg As.toArray) rfl (by kernel_rfl) (by kernel_rfl) (by kernel_rfl) (fun _ _ _ h => h) (yieldsIf_load_mid (by kernel_rfl) _ _ rfl b 0 (by kernel_rfl) As _ (fun w h => rangeS_below HX.out.rng h HX.out.lt) Try.underlying36 rfl (by rw [size20r, HAL.out])) hS ?_
    simp only [Act.put]
    try simp only [List.getElem_toArray]
    try simp only [List.getElem_cons_succ]
    try simp only [List.getElem_cons_zero]
    try simp only [List.setIfInBounds_toArray]
    try simp only [List.set_cons_succ]
    try simp only [List.set_cons_zero]
    refine wpAnyH_take (i := 1) (v := .pointer (some ⟨bz, 1, none⟩)) rfl (by kernel_rfl) (by kernel_rfl) (by kernel_rfl) (fun _ _ _ h => h) (Or.inl ⟨by kernel_rfl, fun w _ => by kernel_rfl⟩) hS ?_
    simp only [Act.put]
    try simp only [List.getElem_toArray]
    try simp only [List.getElem_cons_succ]
    try simp only [List.getElem_cons_zero]
    try simp only [List.setIfInBounds_toArray]
    try simp only [List.set_cons_succ]
    try simp only [List.set_cons_zero]
    refine wpAnyH_take (i := 2) (v := .int .i64 n) rfl (by kernel_rfl) (by kernel_rfl) (by kernel_rfl) (fun _ _ _ h => h) (yieldsIf_load_one (by kernel_rfl) _ _ rfl bz 1 (by kernel_rfl) _ (fun w h => (h.cell (p := ⟨bz, 1, none⟩) HZL.out).trans (cell_of HZ.out rfl)) (isAgg_int20)) hS ?_
    simp only [Act.put]
    try simp only [List.getElem_toArray]
    try simp only [List.getElem_cons_succ]
    try simp only [List.getElem_cons_zero]
    try simp only [List.setIfInBounds_toArray]
    try simp only [List.set_cons_succ]
    try simp only [List.set_cons_zero]
    refine wpAnyH_take (i := 3) (v := .agg As.toArray) rfl (by kernel_rfl) (by kernel_rfl) (by kernel_rfl) (fun _ _ _ h => h) (yieldsIf_load_mid (by kernel_rfl) _ _ rfl b 0 (by kernel_rfl) As _ (fun w h => rangeS_below HX.out.rng h HX.out.lt) Try.underlying36 rfl (by rw [size20r, HAL.out])) hS ?_
    simp only [Act.put]
    try simp only [List.getElem_toArray]
    try simp only [List.getElem_cons_succ]
    try simp only [List.getElem_cons_zero]
    try simp only [List.setIfInBounds_toArray]
    try simp only [List.set_cons_succ]
    try simp only [List.set_cons_zero]
    refine wpAnyH_ready (rs := [4]) (by kernel_rfl) (by simp) ?_
    refine AllReadyH.cons rfl (fun K hK => ?_) AllReadyH.nil
    go_simp
    refine (CY.out _).mono ?_
    rintro e wq1 ⟨rfl, hb⟩
    have hT := hS.trans (hb.mono hS.size)
    clear hb hS
    dsimp only
    refine hK.out _ _ hT (fun hS => ?_)
    clear hK K hT
    refine wpAnyH_ready (rs := [5]) (by kernel_rfl) (by simp) ?_
    refine AllReadyH.cons rfl (fun K hK => ?_) AllReadyH.nil
    go_simp
    refine (CB.out n c.y _).mono ?_
    rintro e wq2 ⟨rfl, hb⟩
    have hT := hS.trans (hb.mono hS.size)
    clear hb hS
    dsimp only
    refine hK.out _ _ hT (fun hS => ?_)
    clear hK K hT
    refine wpAnyH_take (i := 6) (v := .int .i64 (boxZ c.b n c.y)) rfl (by kernel_rfl) (by kernel_rfl) (by kernel_rfl) (fun _ _ _ h => h) (Or.inl ⟨by kernel_rfl, fun w _ => by kernel_rfl⟩) hS ?_
    simp only [Act.put]
    try simp only [List.getElem_toArray]
    try simp only [List.getElem_cons_succ]
    try simp only [List.getElem_cons_zero]
    try simp only [List.setIfInBounds_toArray]
    try simp only [List.set_cons_succ]
    try simp only [List.set_cons_zero]
    refine wpAnyH_take (i := 7) (v := .bool true) rfl (by kernel_rfl) (by kernel_rfl) (by kernel_rfl) (fun _ _ _ h => h) (Or.inl ⟨by kernel_rfl, fun w _ => by kernel_rfl⟩) hS ?_
    simp only [Act.put]
    try simp only [List.getElem_toArray]
    try simp only [List.getElem_cons_succ]
    try simp only [List.getElem_cons_zero]
    try simp only [List.setIfInBounds_toArray]
    try simp only [List.set_cons_succ]
    try simp only [List.set_cons_zero]
    refine wpAnyH_done (by kernel_rfl) ?_ _
    have HE := Lib.hid (HX.out.bel.trans (hS.mono HX.out.bel.size))
    clear hS
    go_wp2_with fail
    exact bodyPost_ret (results_tmp2 rfl _ _ _) rfl ⟨rfl, hb ▸ HE.out⟩
  rw [if_neg h1]
  by_cases h2 : k = 2
  · subst h2
    by_cases h3 : 0 ≤ c.bs
    · rw [if_pos ⟨rfl, h3⟩]
      simp only [Option.getD_some, Option.isSome_some]
      go_enter Try.func28, Try.ntmps28
      go_upto_region 1 with fail
      have hz := heap_alloc_new (w.alloc (.cells As.toArray 36)) (.cells #[.int .i64 2, .int .i64 n] 23)
      have hx := hx.call (below_one7h _ (.cells #[.int .i64 2, .int .i64 n] 23))
      have hs1 : (w.alloc (.cells As.toArray 36)).heap.size = w.heap.size + 1 := by simp
      rw [hs1] at hz
      clear hs1
      obtain ⟨W1, hW⟩ : ∃ W, (w.alloc (.cells As.toArray 36)).alloc (.cells #[.int .i64 2, .int .i64 n] 23) = W := ⟨_, rfl⟩
      rw [hW] at hx hz ⊢
      clear hW
      obtain ⟨bz, hbz⟩ : ∃ b, w.heap.size + 1 = b := ⟨_, rfl⟩
      obtain ⟨b, hb⟩ : ∃ b, w.heap.size = b := ⟨_, rfl⟩
      rw [hbz] at hz ⊢
      rw [hb] at hx ⊢
      have HX := Lib.hid hx
      have HZ := Lib.hid hz
      have HZL : Hid (bz < W1.heap.size) := Lib.hid (Array.getElem?_eq_some_iff.1 hz).1
      clear hx hz hbz
      have z0 := cell_of (k := 0) HZ.out rfl
      have z1 := cell_of (k := 1) HZ.out rfl
      have zl := HZL.out
      have q56 : W1.cell? ⟨b, 56, none⟩ = some (.int .i64 c.bs) := (HX.out.at_ 56 _ (HCE.out 56 (by decide)))
      go_upto_region 4 with fail
      clear z0 z1 zl q56
      have hS : Below W1.heap.size W1 W1.drew := (Below.refl _ _).drew
      refine wp_region_held_drew (S := fun w' => Below W1.heap.size W1 w') (by kernel_rfl) hS (fun hS => ?_)
      refine wpAnyH_take (i := 0) (v := .agg As.toArray) rfl (by kernel_rfl) (by kernel_rfl) (by kernel_rfl) (fun _ _ _ h => h) (yieldsIf_load_mid (by kernel_rfl) _ _ rfl b 0 (by kernel_rfl) As _ (fun w h => rangeS_below HX.out.rng h HX.out.lt) Try.underlying36 rfl (by rw [size20r, HAL.out])) hS ?_
      simp only [Act.put]
      try simp only [List.getElem_toArray]
      try simp only [List.getElem_cons_succ]
      try simp only [List.getElem_cons_zero]
      try simp only [List.setIfInBounds_toArray]
      try simp only [List.set_cons_succ]
      try simp only [List.set_cons_zero]
      refine wpAnyH_take (i := 1) (v := .pointer (some ⟨b, 56, none⟩)) rfl (by kernel_rfl) (by kernel_rfl) (by kernel_rfl) (fun _ _ _ h => h) (Or.inl ⟨by kernel_rfl, fun w _ => by kernel_rfl⟩) hS ?_
      simp only [Act.put]
      try simp only [List.getElem_toArray]
      try simp only [List.getElem_cons_succ]
      try simp only [List.getElem_cons_zero]
      try simp only [List.setIfInBounds_toArray]
      try simp only [List.set_cons_succ]
      try simp only [List.set_cons_zero]
      refine wpAnyH_take (i := 2) (v := .int .i64 c.bs) rfl (by kernel_rfl) (by kernel_rfl) (by kernel_rfl) (fun _ _ _ h => h) (yieldsIf_load_one (by kernel_rfl) _ _ rfl b 56 (by kernel_rfl) _ (fun w h => (h.cell (p := ⟨b, 56, none⟩) HX.out.lt).trans (HX.out.at_ 56 _ (HCE.out 56 (by decide)))) (isAgg_int20)) hS ?_
      simp only [Act.put]
      try simp only [List.getElem_toArray]
      try simp only [List.getElem_cons_succ]
      try simp only [List.getElem_cons_zero]
      try simp only [List.setIfInBounds_toArray]
      try simp only [List.set_cons_succ]
      try simp only [List.set_cons_zero]
      refine wpAnyH_take (i := 3) (v := .pointer (some ⟨bz, 1, none⟩)) rfl (by kernel_rfl) (by kernel_rfl) (by kernel_rfl) (fun _ _ _ h => h) (Or.inl ⟨by kernel_rfl, fun w _ => by kernel_rfl⟩) hS ?_
      simp only [Act.put]
      try simp only [List.getElem_toArray]
      try simp only [List.getElem_cons_succ]
      try simp only [List.getElem_cons_zero]
      try simp only [List.setIfInBounds_toArray]
      try simp only [List.set_cons_succ]
      try simp only [List.set_cons_zero]
      refine wpAnyH_take (i := 4) (v := .int .i64 n) rfl (by kernel_rfl) (by kernel_rfl) (by kernel_rfl) (fun _ _ _ h => h) (yieldsIf_load_one (by kernel_rfl) _ _ rfl bz 1 (by kernel_rfl) _ (fun w h => (h.cell (p := ⟨bz, 1, none⟩) HZL.out).trans (cell_of HZ.out rfl)) (isAgg_int20)) hS ?_
      simp only [Act.put]
      try simp only [List.getElem_toArray]
      try simp only [List.getElem_cons_succ]
      try simp only [List.getElem_cons_zero]
      try simp only [List.setIfInBounds_toArray]
      try simp only [List.set_cons_succ]
      try simp only [List.set_cons_zero]
      refine wpAnyH_take (i := 6) (v := .agg As.toArray) rfl (by kernel_rfl) (by kernel_rfl) (by kernel_rfl) (fun _ _ _ h => h) (yieldsIf_load_mid (by kernel_rfl) _ _ rfl b 0 (by kernel_rfl) As _ (fun w h => rangeS_below HX.out.rng h HX.out.lt) Try.underlying36 rfl (by rw [size20r, HAL.out])) hS ?_
      simp only [Act.put]
      try simp only [List.getElem_toArray]
      try simp only [List.getElem_cons_succ]
      try simp only [List.getElem_cons_zero]
      try simp only [List.setIfInBounds_toArray]
      try simp only [List.set_cons_succ]
      try simp only [List.set_cons_zero]
      refine wpAnyH_ready (rs := [5]) (by kernel_rfl) (by simp) ?_
      refine AllReadyH.cons rfl (fun K hK => ?_) AllReadyH.nil
      go_simp
      refine (refPart_any _ _ _ _).mono ?_
      rintro e wq ⟨rfl, rfl⟩
      refine hK.out _ _ hS (fun hS => ?_)
      clear hK K
      refine wpAnyH_ready (rs := [7]) (by kernel_rfl) (by simp) ?_
      refine AllReadyH.cons rfl (fun K hK => ?_) AllReadyH.nil
      go_simp
      refine (CY.out _).mono ?_
      rintro e wq2 ⟨rfl, hb⟩
      have hT := hS.trans (hb.mono hS.size)
      clear hb hS
      dsimp only
      refine hK.out _ _ hT (fun hS => ?_)
      clear hK K hT
      refine wpAnyH_ready (rs := [8]) (by kernel_rfl) (by simp) ?_
      refine AllReadyH.cons rfl (fun K hK => ?_) AllReadyH.nil
      go_simp
      refine (CB.out (PT c.bs n 100000) c.y _).mono ?_
      rintro e wq3 ⟨rfl, hb⟩
      have hT := hS.trans (hb.mono hS.size)
      clear hb hS
      dsimp only
      refine hK.out _ _ hT (fun hS => ?_)
      clear hK K hT
      refine wpAnyH_take (i := 9) (v := .int .i64 (boxZ c.b (PT c.bs n 100000) c.y)) rfl (by kernel_rfl) (by kernel_rfl) (by kernel_rfl) (fun _ _ _ h => h) (Or.inl ⟨by kernel_rfl, fun w _ => by kernel_rfl⟩) hS ?_
      simp only [Act.put]
      try simp only [List.getElem_toArray]
      try simp only [List.getElem_cons_succ]
      try simp only [List.getElem_cons_zero]
      try simp only [List.setIfInBounds_toArray]
      try simp only [List.set_cons_succ]
      try simp only [List.set_cons_zero]
      refine wpAnyH_take (i := 10) (v := .bool true) rfl (by kernel_rfl) (by kernel_rfl) (by kernel_rfl) (fun _ _ _ h => h) (Or.inl ⟨by kernel_rfl, fun w _ => by kernel_rfl⟩) hS ?_
      simp only [Act.put]
      try simp only [List.getElem_toArray]
      try simp only [List.getElem_cons_succ]
      try simp only [List.getElem_cons_zero]
      try simp only [List.setIfInBounds_toArray]
      try simp only [List.set_cons_succ]
      try simp only [List.set_cons_zero]
      refine wpAnyH_done (by kernel_rfl) ?_ _
      have HE := Lib.hid (HX.out.bel.trans (hS.mono HX.out.bel.size))
      clear hS
      go_wp2_with fail
      exact bodyPost_ret (results_tmp2 rfl _ _ _) rfl ⟨rfl, hb ▸ HE.out⟩
    · rw [if_neg (fun q => h3 q.2)]
      simp only [Option.getD_none, Option.isSome_none]
      go_enter Try.func28, Try.ntmps28
      go_upto_region 1 with fail
      have hz := heap_alloc_new (w.alloc (.cells As.toArray 36)) (.cells #[.int .i64 2, .int .i64 n] 23)
      have hx := hx.call (below_one7h _ (.cells #[.int .i64 2, .int .i64 n] 23))
      have hs1 : (w.alloc (.cells As.toArray 36)).heap.size = w.heap.size + 1 := by simp
      rw [hs1] at hz
      clear hs1
      obtain ⟨W1, hW⟩ : ∃ W, (w.alloc (.cells As.toArray 36)).alloc (.cells #[.int .i64 2, .int .i64 n] 23) = W := ⟨_, rfl⟩
      rw [hW] at hx hz ⊢
      clear hW
      obtain ⟨bz, hbz⟩ : ∃ b, w.heap.size + 1 = b := ⟨_, rfl⟩
      obtain ⟨b, hb⟩ : ∃ b, w.heap.size = b := ⟨_, rfl⟩
      rw [hbz] at hz ⊢
      rw [hb] at hx ⊢
      have HX := Lib.hid hx
      have HZ := Lib.hid hz
      have HZL : Hid (bz < W1.heap.size) := Lib.hid (Array.getElem?_eq_some_iff.1 hz).1
      clear hx hz hbz
      have z0 := cell_of (k := 0) HZ.out rfl
      have z1 := cell_of (k := 1) HZ.out rfl
      have zl := HZL.out
      have q56 : W1.cell? ⟨b, 56, none⟩ = some (.int .i64 c.bs) := (HX.out.at_ 56 _ (HCE.out 56 (by decide)))
      go_wp2_with fail
      exact bodyPost_ret (results_tmp2 rfl _ _ _) rfl ⟨rfl, hb ▸ HX.out.bel⟩
  · rw [if_neg (fun q => h2 q.1)]
    simp only [Option.getD_none, Option.isSome_none]
    have y1 : (k == 1) = false := by rw [beq_eq_false_iff_ne]; omega
    have y2 : (k == 2) = false := by rw [beq_eq_false_iff_ne]; omega
    go_enter Try.func28, Try.ntmps28
    go_upto_region 1 with fail
    have hz := heap_alloc_new (w.alloc (.cells As.toArray 36)) (.cells #[.int .i64 k, .int .i64 n] 23)
    have hx := hx.call (below_one7h _ (.cells #[.int .i64 k, .int .i64 n] 23))
    have hs1 : (w.alloc (.cells As.toArray 36)).heap.size = w.heap.size + 1 := by simp
    rw [hs1] at hz
    clear hs1
    obtain ⟨W1, hW⟩ : ∃ W, (w.alloc (.cells As.toArray 36)).alloc (.cells #[.int .i64 k, .int .i64 n] 23) = W := ⟨_, rfl⟩
    rw [hW] at hx hz ⊢
    clear hW
    obtain ⟨bz, hbz⟩ : ∃ b, w.heap.size + 1 = b := ⟨_, rfl⟩
    obtain ⟨b, hb⟩ : ∃ b, w.heap.size = b := ⟨_, rfl⟩
    rw [hbz] at hz ⊢
    rw [hb] at hx ⊢
    have HX := Lib.hid hx
    have HZ := Lib.hid hz
    have HZL : Hid (bz < W1.heap.size) := Lib.hid (Array.getElem?_eq_some_iff.1 hz).1
    clear hx hz hbz
    have z0 := cell_of (k := 0) HZ.out rfl
    have z1 := cell_of (k := 1) HZ.out rfl
    have zl := HZL.out
    go_wp2_with fail
    exact bodyPost_ret (results_tmp2 rfl _ _ _) rfl ⟨rfl, hb ▸ HX.out.bel⟩
end Go.Proofs.Ythfabalnioggcaa
