/- Layer 20, the code: what the package hands out. (Written by gen_sizc3.py.) -/
import Derived.Test.YthfabalnioggcaaSizCe
import Derived.Test.YthfabalnioggcaaSizC7
namespace Go.Proofs.Ythfabalnioggcaa
open Go.RowKit TreN LexP FixP SynP ValP PropP FixM
set_option linter.unusedVariables false

set_option maxRecDepth 100000 in
set_option maxHeartbeats 2000000 in
theorem KeepW_any (c : Cz) (n : Int) (w : World) : Calls Try.prog 19 #[.agg (caseL c).toArray, .int .i64 n] w fun e w' => e = .returned (.int .i64 (c.keepW n)) ∧ Below w.heap.size w w' := by
  have HAL := Lib.hid (caseL_len c)
  have HCE := Lib.hid (fun i h => caseL_at c i h)
  have hx := Bx.new w (caseL c) 29
  have CB := Lib.hid (fun W => boxOf_any c W)
  have CK := Lib.hid (fun W => keepWB_any c n W)
  generalize caseL c = As at *
  have hal := HAL.out
  have HBL := Lib.hid (boxL_len c)
  have HBO := Lib.hid (boxL_one c)
  generalize boxL c = Bs at *
  generalize c.keepW n = r at *
  go_enter Try.func19, Try.ntmps19
  go_upto_region 1 with fail
  obtain ⟨W1, hW⟩ : ∃ W, w.alloc (.cells As.toArray 29) = W := ⟨_, rfl⟩
  rw [hW] at hx ⊢
  clear hW
  obtain ⟨b, hb⟩ : ∃ b, w.heap.size = b := ⟨_, rfl⟩
  rw [hb] at hx ⊢
  have HX := Lib.hid hx
  clear hx
  refine wp_region_lit ?_
  refine wpList_load_mid rfl 29 _ rfl b 0 rfl As _ HX.out.rng Try.underlying29 rfl (by rw [size20c, HAL.out]) ?_
  go_wp2_with fail
  refine (CB.out _).mono ?_
  rintro e w2 ⟨rfl, hb2⟩
  have HX2 := Lib.hid (HX.out.call hb2)
  clear hb2 HX
  have HX := HX2
  clear HX2
  go_wp2_with fail
  refine (CK.out _).mono ?_
  rintro e w3 ⟨rfl, hb2⟩
  have HX2 := Lib.hid (HX.out.call hb2)
  clear hb2 HX
  have HX := HX2
  clear HX2
  go_wp2_with fail
  go_ret
  exact ⟨rfl, hb ▸ HX.out.bel⟩
set_option maxRecDepth 100000 in
set_option maxHeartbeats 2000000 in
theorem KeepH_any (c : Cz) (n : Int) (w : World) : Calls Try.prog 20 #[.agg (caseL c).toArray, .int .i64 n] w fun e w' => e = .returned (.int .i64 (c.keepH n)) ∧ Below w.heap.size w w' := by
  have HAL := Lib.hid (caseL_len c)
  have HCE := Lib.hid (fun i h => caseL_at c i h)
  have hx := Bx.new w (caseL c) 29
  have CB := Lib.hid (fun W => boxOf_any c W)
  have CK := Lib.hid (fun W => keepHB_any c n W)
  generalize caseL c = As at *
  have hal := HAL.out
  have HBL := Lib.hid (boxL_len c)
  have HBO := Lib.hid (boxL_one c)
  generalize boxL c = Bs at *
  generalize c.keepH n = r at *
  go_enter Try.func20, Try.ntmps20
  go_upto_region 1 with fail
  obtain ⟨W1, hW⟩ : ∃ W, w.alloc (.cells As.toArray 29) = W := ⟨_, rfl⟩
  rw [hW] at hx ⊢
  clear hW
  obtain ⟨b, hb⟩ : ∃ b, w.heap.size = b := ⟨_, rfl⟩
  rw [hb] at hx ⊢
  have HX := Lib.hid hx
  clear hx
  refine wp_region_lit ?_
  refine wpList_load_mid rfl 29 _ rfl b 0 rfl As _ HX.out.rng Try.underlying29 rfl (by rw [size20c, HAL.out]) ?_
  go_wp2_with fail
  refine (CB.out _).mono ?_
  rintro e w2 ⟨rfl, hb2⟩
  have HX2 := Lib.hid (HX.out.call hb2)
  clear hb2 HX
  have HX := HX2
  clear HX2
  go_wp2_with fail
  refine (CK.out _).mono ?_
  rintro e w3 ⟨rfl, hb2⟩
  have HX2 := Lib.hid (HX.out.call hb2)
  clear hb2 HX
  have HX := HX2
  clear HX2
  go_wp2_with fail
  go_ret
  exact ⟨rfl, hb ▸ HX.out.bel⟩
set_option maxRecDepth 100000 in
set_option maxHeartbeats 2000000 in
theorem Given_any (c : Cz) (w : World) : Calls Try.prog 21 #[.agg (caseL c).toArray] w fun e w' => e = .returned (.tuple #[.int .i64 (c.given.getD 0), .bool c.given.isSome]) ∧ Below w.heap.size w w' := by
  have HAL := Lib.hid (caseL_len c)
  have HCE := Lib.hid (fun i h => caseL_at c i h)
  have hx := Bx.new w (caseL c) 29
  have CB := Lib.hid (fun W => boxOf_any c W)
  have CK := Lib.hid (fun W => givenB_any c W)
  generalize caseL c = As at *
  have hal := HAL.out
  have HBL := Lib.hid (boxL_len c)
  have HBO := Lib.hid (boxL_one c)
  generalize boxL c = Bs at *
  generalize c.given.getD 0 = r at *
  generalize c.given.isSome = q at *
  go_enter Try.func21, Try.ntmps21
  go_upto_region 1 with fail
  obtain ⟨W1, hW⟩ : ∃ W, w.alloc (.cells As.toArray 29) = W := ⟨_, rfl⟩
  rw [hW] at hx ⊢
  clear hW
  obtain ⟨b, hb⟩ : ∃ b, w.heap.size = b := ⟨_, rfl⟩
  rw [hb] at hx ⊢
  have HX := Lib.hid hx
  clear hx
  refine wp_region_lit ?_
  refine wpList_load_mid rfl 29 _ rfl b 0 rfl As _ HX.out.rng Try.underlying29 rfl (by rw [size20c, HAL.out]) ?_
  go_wp2_with fail
  refine (CB.out _).mono ?_
  rintro e w2 ⟨rfl, hb2⟩
  have HX2 := Lib.hid (HX.out.call hb2)
  clear hb2 HX
  have HX := HX2
  clear HX2
  go_wp2_with fail
  refine (CK.out _).mono ?_
  rintro e w3 ⟨rfl, hb2⟩
  have HX2 := Lib.hid (HX.out.call hb2)
  clear hb2 HX
  have HX := HX2
  clear HX2
  go_wp2_with fail
  exact bodyPost_ret (results_tmp2 rfl _ _ _) rfl ⟨rfl, hb ▸ HX.out.bel⟩
set_option maxRecDepth 100000 in
set_option maxHeartbeats 2000000 in
theorem SaysW_any (c : Cz) (k n : Int) (w : World) : Calls Try.prog 25 #[.agg (caseL c).toArray, .agg #[.int .i64 k, .int .i64 n]] w fun e w' => e = .returned (.tuple #[.int .i64 ((c.says k n).getD 0), .bool (c.says k n).isSome]) ∧ Below w.heap.size w w' := by
  have HAL := Lib.hid (caseL_len c)
  have HCE := Lib.hid (fun i h => caseL_at c i h)
  have hx := Bx.new w (caseL c) 29
  have CB := Lib.hid (fun W => boxOf_any c W)
  have CK := Lib.hid (fun W => saysWB_any c k n W)
  generalize caseL c = As at *
  have hal := HAL.out
  have HBL := Lib.hid (boxL_len c)
  have HBO := Lib.hid (boxL_one c)
  generalize boxL c = Bs at *
  generalize (c.says k n).getD 0 = r at *
  generalize (c.says k n).isSome = q at *
  go_enter Try.func25, Try.ntmps25
  go_upto_region 1 with fail
  have hz := heap_alloc_new (w.alloc (.cells As.toArray 29)) (.cells #[.int .i64 k, .int .i64 n] 23)
  have hx := hx.call (below_one7h _ (.cells #[.int .i64 k, .int .i64 n] 23))
  have hs1 : (w.alloc (.cells As.toArray 29)).heap.size = w.heap.size + 1 := by simp
  rw [hs1] at hz
  clear hs1
  obtain ⟨W1, hW⟩ : ∃ W, (w.alloc (.cells As.toArray 29)).alloc (.cells #[.int .i64 k, .int .i64 n] 23) = W := ⟨_, rfl⟩
  rw [hW] at hx hz ⊢
  clear hW
  obtain ⟨bz, hbz⟩ : ∃ b, w.heap.size + 1 = b := ⟨_, rfl⟩
  obtain ⟨b, hb⟩ : ∃ b, w.heap.size = b := ⟨_, rfl⟩
  rw [hbz] at hz ⊢
  rw [hb] at hx ⊢
  have HX := Lib.hid hx
  have HZ := Lib.hid hz
  have HZL : Hid (bz < W1.heap.size) := Lib.hid (Array.getElem?_eq_some_iff.1 hz).1
  clear hx hz hbz
  have hS : Below W1.heap.size W1 W1.drew := (Below.refl _ _).drew
  refine wp_region_held_drew (S := fun w' => Below W1.heap.size W1 w') (by kernel_rfl) hS (fun hS => ?_)
  refine wpAnyH_take (i := 0) (v := .agg As.toArray) rfl (by kernel_rfl) (by kernel_rfl) (by kernel_rfl) (fun _ _ _ h => h) (yieldsIf_load_mid (by kernel_rfl) _ _ rfl b 0 (by kernel_rfl) As _ (fun w h => rangeS_below HX.out.rng h HX.out.lt) Try.underlying29 rfl (by rw [size20c, HAL.out])) hS ?_
  simp only [Act.put]
  try simp only [List.getElem_toArray]
  try simp only [List.getElem_cons_succ]
  try simp only [List.getElem_cons_zero]
  try simp only [List.setIfInBounds_toArray]
  try simp only [List.set_cons_succ]
  try simp only [List.set_cons_zero]
  refine wpAnyH_take (i := 2) (v := .agg #[.int .i64 k, .int .i64 n]) rfl (by kernel_rfl) (by kernel_rfl) (by kernel_rfl) (fun _ _ _ h => h) (yieldsIf_load_mid (by kernel_rfl) _ _ rfl bz 0 (by kernel_rfl) [.int .i64 k, .int .i64 n] _ (fun w h => rangeS_below (rangeS_of_block (As := [.int .i64 k, .int .i64 n]) HZ.out) h HZL.out) Try.underlying23 rfl (by exact size20z)) hS ?_
  simp only [Act.put]
  try simp only [List.getElem_toArray]
  try simp only [List.getElem_cons_succ]
  try simp only [List.getElem_cons_zero]
  try simp only [List.setIfInBounds_toArray]
  try simp only [List.set_cons_succ]
  try simp only [List.set_cons_zero]
  refine wpAnyH_ready (rs := [1]) (by kernel_rfl) (by simp) ?_
  refine AllReadyH.cons rfl (fun K hK => ?_) AllReadyH.nil
  go_simp
  refine (CB.out _).mono ?_
  rintro e wq1 ⟨rfl, hb⟩
  have hT := hS.trans (hb.mono hS.size)
  clear hb hS
  dsimp only
  refine hK.out _ _ hT (fun hS => ?_)
  clear hK K hT
  refine wpAnyH_ready (rs := [3]) (by kernel_rfl) (by simp) ?_
  refine AllReadyH.cons rfl (fun K hK => ?_) AllReadyH.nil
  go_simp
  refine (CK.out _).mono ?_
  rintro e wq2 ⟨rfl, hb⟩
  have hT := hS.trans (hb.mono hS.size)
  clear hb hS
  dsimp only
  refine hK.out _ _ hT (fun hS => ?_)
  clear hK K hT
  refine wpAnyH_take (i := 4) (v := .int .i64 r) rfl (by kernel_rfl) (by kernel_rfl) (by kernel_rfl) (fun _ _ _ h => h) (Or.inl ⟨by kernel_rfl, fun w _ => by kernel_rfl⟩) hS ?_
  simp only [Act.put]
  try simp only [List.getElem_toArray]
  try simp only [List.getElem_cons_succ]
  try simp only [List.getElem_cons_zero]
  try simp only [List.setIfInBounds_toArray]
  try simp only [List.set_cons_succ]
  try simp only [List.set_cons_zero]
  refine wpAnyH_take (i := 5) (v := .bool q) rfl (by kernel_rfl) (by kernel_rfl) (by kernel_rfl) (fun _ _ _ h => h) (Or.inl ⟨by kernel_rfl, fun w _ => by kernel_rfl⟩) hS ?_
  simp only [Act.put]
  try simp only [List.getElem_toArray]
  try simp only [List.getElem_cons_succ]
  try simp only [List.getElem_cons_zero]
  try simp only [List.setIfInBounds_toArray]
  try simp only [List.set_cons_succ]
  try simp only [List.set_cons_zero]
  refine wpAnyH_take (i := 6) (v := .int .i64 r) rfl (by kernel_rfl) (by kernel_rfl) (by kernel_rfl) (fun _ _ _ h => h) (Or.inl ⟨by kernel_rfl, fun w _ => by kernel_rfl⟩) hS ?_
  simp only [Act.put]
  try simp only [List.getElem_toArray]
  try simp only [List.getElem_cons_succ]
  try simp only [List.getElem_cons_zero]
  try simp only [List.setIfInBounds_toArray]
  try simp only [List.set_cons_succ]
  try simp only [List.set_cons_zero]
  refine wpAnyH_take (i := 7) (v := .bool q) rfl (by kernel_rfl) (by kernel_rfl) (by kernel_rfl) (fun _ _ _ h => h) (Or.inl ⟨by kernel_rfl, fun w _ => by kernel_rfl⟩) hS ?_
  simp only [Act.put]
  try simp only [List.getElem_toArray]
  try simp only [List.getElem_cons_succ]
  try simp only [List.getElem_cons_zero]
  try simp only [List.setIfInBounds_toArray]
  try simp only [List.set_cons_succ]
  try simp only [List.set_cons_zero]
  refine wpAnyH_done (by kernel_rfl) ?_ _
  have HE := Lib.hid (HX.out.bel.trans (hS.mono HX.out.bel.size))
  clear hS
  go_wp2_with fail
  exact bodyPost_ret (results_tmp2 rfl _ _ _) rfl ⟨rfl, hb ▸ HE.out⟩
set_option maxRecDepth 100000 in
set_option maxHeartbeats 2000000 in
theorem SaysH_any (c : Cz) (k n : Int) (w : World) : Calls Try.prog 27 #[.agg (caseL c).toArray, .agg #[.int .i64 k, .int .i64 n]] w fun e w' => e = .returned (.tuple #[.int .i64 ((c.saysH k n).getD 0), .bool (c.saysH k n).isSome]) ∧ Below w.heap.size w w' := by
  have HAL := Lib.hid (caseL_len c)
  have HCE := Lib.hid (fun i h => caseL_at c i h)
  have hx := Bx.new w (caseL c) 29
  have CB := Lib.hid (fun W => boxOf_any c W)
  have CK := Lib.hid (fun W => saysHB_any c k n W)
  generalize caseL c = As at *
  have hal := HAL.out
  have HBL := Lib.hid (boxL_len c)
  have HBO := Lib.hid (boxL_one c)
  generalize boxL c = Bs at *
  generalize (c.saysH k n).getD 0 = r at *
  generalize (c.saysH k n).isSome = q at *
  go_enter Try.func27, Try.ntmps27
  go_upto_region 1 with fail
  have hz := heap_alloc_new (w.alloc (.cells As.toArray 29)) (.cells #[.int .i64 k, .int .i64 n] 23)
  have hx := hx.call (below_one7h _ (.cells #[.int .i64 k, .int .i64 n] 23))
  have hs1 : (w.alloc (.cells As.toArray 29)).heap.size = w.heap.size + 1 := by simp
  rw [hs1] at hz
  clear hs1
  obtain ⟨W1, hW⟩ : ∃ W, (w.alloc (.cells As.toArray 29)).alloc (.cells #[.int .i64 k, .int .i64 n] 23) = W := ⟨_, rfl⟩
  rw [hW] at hx hz ⊢
  clear hW
  obtain ⟨bz, hbz⟩ : ∃ b, w.heap.size + 1 = b := ⟨_, rfl⟩
  obtain ⟨b, hb⟩ : ∃ b, w.heap.size = b := ⟨_, rfl⟩
  rw [hbz] at hz ⊢
  rw [hb] at hx ⊢
  have HX := Lib.hid hx
  have HZ := Lib.hid hz
  have HZL : Hid (bz < W1.heap.size) := Lib.hid (Array.getElem?_eq_some_iff.1 hz).1
  clear hx hz hbz
  have hS : Below W1.heap.size W1 W1.drew := (Below.refl _ _).drew
  refine wp_region_held_drew (S := fun w' => Below W1.heap.size W1 w') (by kernel_rfl) hS (fun hS => ?_)
  refine wpAnyH_take (i := 0) (v := .agg As.toArray) rfl (by kernel_rfl) (by kernel_rfl) (by kernel_rfl) (fun _ _ _ h => h) (yieldsIf_load_mid (by kernel_rfl) _ _ rfl b 0 (by kernel_rfl) As _ (fun w h => rangeS_below HX.out.rng h HX.out.lt) Try.underlying29 rfl (by rw [size20c, HAL.out])) hS ?_
  simp only [Act.put]
  try simp only [List.getElem_toArray]
  try simp only [List.getElem_cons_succ]
  try simp only [List.getElem_cons_zero]
  try simp only [List.setIfInBounds_toArray]
  try simp only [List.set_cons_succ]
  try simp only [List.set_cons_zero]
  refine wpAnyH_take (i := 2) (v := .agg #[.int .i64 k, .int .i64 n]) rfl (by kernel_rfl) (by kernel_rfl) (by kernel_rfl) (fun _ _ _ h => h) (yieldsIf_load_mid (by kernel_rfl) _ _ rfl bz 0 (by kernel_rfl) [.int .i64 k, .int .i64 n] _ (fun w h => rangeS_below (rangeS_of_block (As := [.int .i64 k, .int .i64 n]) HZ.out) h HZL.out) Try.underlying23 rfl (by exact size20z)) hS ?_
  simp only [Act.put]
  try simp only [List.getElem_toArray]
  try simp only [List.getElem_cons_succ]
  try simp only [List.getElem_cons_zero]
  try simp only [List.setIfInBounds_toArray]
  try simp only [List.set_cons_succ]
  try simp only [List.set_cons_zero]
  refine wpAnyH_ready (rs := [1]) (by kernel_rfl) (by simp) ?_
  refine AllReadyH.cons rfl (fun K hK => ?_) AllReadyH.nil
  go_simp
  refine (CB.out _).mono ?_
  rintro e wq1 ⟨rfl, hb⟩
  have hT := hS.trans (hb.mono hS.size)
  clear hb hS
  dsimp only
  refine hK.out _ _ hT (fun hS => ?_)
  clear hK K hT
  refine wpAnyH_ready (rs := [3]) (by kernel_rfl) (by simp) ?_
  refine AllReadyH.cons rfl (fun K hK => ?_) AllReadyH.nil
  go_simp
  refine (CK.out _).mono ?_
  rintro e wq2 ⟨rfl, hb⟩
  have hT := hS.trans (hb.mono hS.size)
  clear hb hS
  dsimp only
  refine hK.out _ _ hT (fun hS => ?_)
  clear hK K hT
  refine wpAnyH_take (i := 4) (v := .int .i64 r) rfl (by kernel_rfl) (by kernel_rfl) (by kernel_rfl) (fun _ _ _ h => h) (Or.inl ⟨by kernel_rfl, fun w _ => by kernel_rfl⟩) hS ?_
  simp only [Act.put]
  try simp only [List.getElem_toArray]
  try simp only [List.getElem_cons_succ]
  try simp only [List.getElem_cons_zero]
  try simp only [List.setIfInBounds_toArray]
  try simp only [List.set_cons_succ]
  try simp only [List.set_cons_zero]
  refine wpAnyH_take (i := 5) (v := .bool q) rfl (by kernel_rfl) (by kernel_rfl) (by kernel_rfl) (fun _ _ _ h => h) (Or.inl ⟨by kernel_rfl, fun w _ => by kernel_rfl⟩) hS ?_
  simp only [Act.put]
  try simp only [List.getElem_toArray]
  try simp only [List.getElem_cons_succ]
  try simp only [List.getElem_cons_zero]
  try simp only [List.setIfInBounds_toArray]
  try simp only [List.set_cons_succ]
  try simp only [List.set_cons_zero]
  refine wpAnyH_take (i := 6) (v := .int .i64 r) rfl (by kernel_rfl) (by kernel_rfl) (by kernel_rfl) (fun _ _ _ h => h) (Or.inl ⟨by kernel_rfl, fun w _ => by kernel_rfl⟩) hS ?_
  simp only [Act.put]
  try simp only [List.getElem_toArray]
  try simp only [List.getElem_cons_succ]
  try simp only [List.getElem_cons_zero]
  try simp only [List.setIfInBounds_toArray]
  try simp only [List.set_cons_succ]
  try simp only [List.set_cons_zero]
  refine wpAnyH_take (i := 7) (v := .bool q) rfl (by kernel_rfl) (by kernel_rfl) (by kernel_rfl) (fun _ _ _ h => h) (Or.inl ⟨by kernel_rfl, fun w _ => by kernel_rfl⟩) hS ?_
  simp only [Act.put]
  try simp only [List.getElem_toArray]
  try simp only [List.getElem_cons_succ]
  try simp only [List.getElem_cons_zero]
  try simp only [List.setIfInBounds_toArray]
  try simp only [List.set_cons_succ]
  try simp only [List.set_cons_zero]
  refine wpAnyH_done (by kernel_rfl) ?_ _
  have HE := Lib.hid (HX.out.bel.trans (hS.mono HX.out.bel.size))
  clear hS
  go_wp2_with fail
  exact bodyPost_ret (results_tmp2 rfl _ _ _) rfl ⟨rfl, hb ▸ HE.out⟩
set_option maxRecDepth 100000 in
set_option maxHeartbeats 2000000 in
theorem Wide_any (c : Cz) (w : World) : Calls Try.prog 31 #[.agg (caseL c).toArray] w fun e w' => e = .returned (.int .i64 c.wide) ∧ Below w.heap.size w w' := by
  have HAL := Lib.hid (caseL_len c)
  have HCE := Lib.hid (fun i h => caseL_at c i h)
  have hx := Bx.new w (caseL c) 29
  have CB := Lib.hid (fun W => boxOf_any c W)
  have CW := Lib.hid (fun W => wideB_any c W)
  have CK := Lib.hid (fun W => keepWB_any c c.wide0 W)
  generalize caseL c = As at *
  have hal := HAL.out
  rw [show c.wide = c.keepW c.wide0 from rfl]
  have HBL := Lib.hid (boxL_len c)
  have HBO := Lib.hid (boxL_one c)
  generalize boxL c = Bs at *
  generalize c.keepW c.wide0 = r at *
  generalize c.wide0 = u at *
  go_enter Try.func31, Try.ntmps31
  go_upto_region 1 with fail
  obtain ⟨W1, hW⟩ : ∃ W, w.alloc (.cells As.toArray 29) = W := ⟨_, rfl⟩
  rw [hW] at hx ⊢
  clear hW
  obtain ⟨b, hb⟩ : ∃ b, w.heap.size = b := ⟨_, rfl⟩
  rw [hb] at hx ⊢
  have HX := Lib.hid hx
  clear hx
  refine wp_region_lit ?_
  refine wpList_load_mid rfl 29 _ rfl b 0 rfl As _ HX.out.rng Try.underlying29 rfl (by rw [size20c, HAL.out]) ?_
  go_wp2_with fail
  refine (CB.out _).mono ?_
  rintro e w2 ⟨rfl, hb2⟩
  have HX2 := Lib.hid (HX.out.call hb2)
  clear hb2 HX
  dsimp only
  rename_i K' hK'
  refine hK' _ _ ?_
  clear hK'
  go_step
  go_step
  rename_i K' hK'
  refine hK' _ _ ?_
  clear hK'
  have hq := Bx.made HX2.out.bel Try.zeroCells65 65 Bs (by rw [HBL.out]; kernel_rfl)
  have hth := thereS_of_block (heap_alloc_new w2 (.cells Try.zeroCells65 65))
  rw [show (Try.zeroCells65 : Array Value).size = 67 from by kernel_rfl] at hth
  have hBz : Bs.toArray.size = 67 := by simpa using HBL.out
  refine wpList_store_mid rfl 65 _ _ rfl w2.heap.size 0 Bs.toArray rfl rfl (by rw [hBz]; exact hth) (by rw [hBz]; exact size20b) (all_oneCell_toArray HBO.out) ?_
  have e55 : Bs.toArray.toList = Bs := rfl
  rw [e55]
  clear e55 hth
  obtain ⟨W3, hW⟩ : ∃ W, (w2.alloc (.cells Try.zeroCells65 65)).setCells w2.heap.size 0 Bs = W := ⟨_, rfl⟩
  rw [hW] at hq ⊢
  clear hW
  obtain ⟨bq, hbq⟩ : ∃ x, w2.heap.size = x := ⟨_, rfl⟩
  rw [hbq] at hq ⊢
  clear hbq
  have HQ := Lib.hid hq
  clear hq HX2
  go_upto_region 2 with fail
  have hS : Below W3.heap.size W3 W3.drew := (Below.refl _ _).drew
  refine wp_region_held_drew (S := fun w' => Below W3.heap.size W3 w') (by kernel_rfl) hS (fun hS => ?_)
  refine wpAnyH_take (i := 0) (v := .agg Bs.toArray) rfl (by kernel_rfl) (by kernel_rfl) (by kernel_rfl) (fun _ _ _ h => h) (yieldsIf_load_mid (by kernel_rfl) _ _ rfl bq 0 (by kernel_rfl) Bs _ (fun w h => rangeS_below HQ.out.rng h HQ.out.lt) Try.underlying65 rfl (by rw [size20b, HBL.out])) hS ?_
  simp only [Act.put]
  try simp only [List.getElem_toArray]
  try simp only [List.getElem_cons_succ]
  try simp only [List.getElem_cons_zero]
  try simp only [List.setIfInBounds_toArray]
  try simp only [List.set_cons_succ]
  try simp only [List.set_cons_zero]
  refine wpAnyH_take (i := 1) (v := .agg Bs.toArray) rfl (by kernel_rfl) (by kernel_rfl) (by kernel_rfl) (fun _ _ _ h => h) (yieldsIf_load_mid (by kernel_rfl) _ _ rfl bq 0 (by kernel_rfl) Bs _ (fun w h => rangeS_below HQ.out.rng h HQ.out.lt) Try.underlying65 rfl (by rw [size20b, HBL.out])) hS ?_
  simp only [Act.put]
  try simp only [List.getElem_toArray]
  try simp only [List.getElem_cons_succ]
  try simp only [List.getElem_cons_zero]
  try simp only [List.setIfInBounds_toArray]
  try simp only [List.set_cons_succ]
  try simp only [List.set_cons_zero]
  refine wpAnyH_ready (rs := [2]) (by kernel_rfl) (by simp) ?_
  refine AllReadyH.cons rfl (fun K hK => ?_) AllReadyH.nil
  go_simp
  refine (CW.out _).mono ?_
  rintro e wq1 ⟨rfl, hb⟩
  have hT := hS.trans (hb.mono hS.size)
  clear hb hS
  dsimp only
  refine hK.out _ _ hT (fun hS => ?_)
  clear hK K hT
  refine wpAnyH_ready (rs := [3]) (by kernel_rfl) (by simp) ?_
  refine AllReadyH.cons rfl (fun K hK => ?_) AllReadyH.nil
  go_simp
  refine (CK.out _).mono ?_
  rintro e wq2 ⟨rfl, hb⟩
  have hT := hS.trans (hb.mono hS.size)
  clear hb hS
  dsimp only
  refine hK.out _ _ hT (fun hS => ?_)
  clear hK K hT
  refine wpAnyH_take (i := 4) (v := .int .i64 r) rfl (by kernel_rfl) (by kernel_rfl) (by kernel_rfl) (fun _ _ _ h => h) (Or.inl ⟨by kernel_rfl, fun w _ => by kernel_rfl⟩) hS ?_
  simp only [Act.put]
  try simp only [List.getElem_toArray]
  try simp only [List.getElem_cons_succ]
  try simp only [List.getElem_cons_zero]
  try simp only [List.setIfInBounds_toArray]
  try simp only [List.set_cons_succ]
  try simp only [List.set_cons_zero]
  refine wpAnyH_done (by kernel_rfl) ?_ _
  have HE := Lib.hid (HQ.out.bel.trans (hS.mono HQ.out.bel.size))
  clear hS
  go_wp2_with fail
  go_ret
  exact ⟨rfl, hb ▸ HE.out⟩
set_option maxRecDepth 100000 in
set_option maxHeartbeats 2000000 in
theorem High_any (c : Cz) (n k : Int) (w : World) : Calls Try.prog 29 #[.agg (caseL c).toArray, .int .i64 n, .int .i64 k] w fun e w' => e = .returned (.int .i64 (c.keepH (c.high0 n k))) ∧ Below w.heap.size w w' := by
  have HAL := Lib.hid (caseL_len c)
  have HCE := Lib.hid (fun i h => caseL_at c i h)
  have hx := Bx.new w (caseL c) 29
  have CB := Lib.hid (fun W => boxOf_any c W)
  have CW := Lib.hid (fun W => highB_any c n k W)
  have CK := Lib.hid (fun W => keepHB_any c (c.high0 n k) W)
  generalize caseL c = As at *
  have hal := HAL.out
  have HBL := Lib.hid (boxL_len c)
  have HBO := Lib.hid (boxL_one c)
  generalize boxL c = Bs at *
  generalize c.keepH (c.high0 n k) = r at *
  generalize c.high0 n k = u at *
  go_enter Try.func29, Try.ntmps29
  go_upto_region 1 with fail
  obtain ⟨W1, hW⟩ : ∃ W, w.alloc (.cells As.toArray 29) = W := ⟨_, rfl⟩
  rw [hW] at hx ⊢
  clear hW
  obtain ⟨b, hb⟩ : ∃ b, w.heap.size = b := ⟨_, rfl⟩
  rw [hb] at hx ⊢
  have HX := Lib.hid hx
  clear hx
  refine wp_region_lit ?_
  refine wpList_load_mid rfl 29 _ rfl b 0 rfl As _ HX.out.rng Try.underlying29 rfl (by rw [size20c, HAL.out]) ?_
  go_wp2_with fail
  refine (CB.out _).mono ?_
  rintro e w2 ⟨rfl, hb2⟩
  have HX2 := Lib.hid (HX.out.call hb2)
  clear hb2 HX
  dsimp only
  rename_i K' hK'
  refine hK' _ _ ?_
  clear hK'
  go_step
  go_step
  rename_i K' hK'
  refine hK' _ _ ?_
  clear hK'
  have hq := Bx.made HX2.out.bel Try.zeroCells65 65 Bs (by rw [HBL.out]; kernel_rfl)
  have hth := thereS_of_block (heap_alloc_new w2 (.cells Try.zeroCells65 65))
  rw [show (Try.zeroCells65 : Array Value).size = 67 from by kernel_rfl] at hth
  have hBz : Bs.toArray.size = 67 := by simpa using HBL.out
  refine wpList_store_mid rfl 65 _ _ rfl w2.heap.size 0 Bs.toArray rfl rfl (by rw [hBz]; exact hth) (by rw [hBz]; exact size20b) (all_oneCell_toArray HBO.out) ?_
  have e55 : Bs.toArray.toList = Bs := rfl
  rw [e55]
  clear e55 hth
  obtain ⟨W3, hW⟩ : ∃ W, (w2.alloc (.cells Try.zeroCells65 65)).setCells w2.heap.size 0 Bs = W := ⟨_, rfl⟩
  rw [hW] at hq ⊢
  clear hW
  obtain ⟨bq, hbq⟩ : ∃ x, w2.heap.size = x := ⟨_, rfl⟩
  rw [hbq] at hq ⊢
  clear hbq
  have HQ := Lib.hid hq
  clear hq HX2
  go_upto_region 2 with fail
  have hS : Below W3.heap.size W3 W3.drew := (Below.refl _ _).drew
  refine wp_region_held_drew (S := fun w' => Below W3.heap.size W3 w') (by kernel_rfl) hS (fun hS => ?_)
  refine wpAnyH_take (i := 0) (v := .agg Bs.toArray) rfl (by kernel_rfl) (by kernel_rfl) (by kernel_rfl) (fun _ _ _ h => h) (yieldsIf_load_mid (by kernel_rfl) _ _ rfl bq 0 (by kernel_rfl) Bs _ (fun w h => rangeS_below HQ.out.rng h HQ.out.lt) Try.underlying65 rfl (by rw [size20b, HBL.out])) hS ?_
  simp only [Act.put]
  try simp only [List.getElem_toArray]
  try simp only [List.getElem_cons_succ]
  try simp only [List.getElem_cons_zero]
  try simp only [List.setIfInBounds_toArray]
  try simp only [List.set_cons_succ]
  try simp only [List.set_cons_zero]
  refine wpAnyH_take (i := 1) (v := .agg Bs.toArray) rfl (by kernel_rfl) (by kernel_rfl) (by kernel_rfl) (fun _ _ _ h => h) (yieldsIf_load_mid (by kernel_rfl) _ _ rfl bq 0 (by kernel_rfl) Bs _ (fun w h => rangeS_below HQ.out.rng h HQ.out.lt) Try.underlying65 rfl (by rw [size20b, HBL.out])) hS ?_
  simp only [Act.put]
  try simp only [List.getElem_toArray]
  try simp only [List.getElem_cons_succ]
  try simp only [List.getElem_cons_zero]
  try simp only [List.setIfInBounds_toArray]
  try simp only [List.set_cons_succ]
  try simp only [List.set_cons_zero]
  refine wpAnyH_take (i := 2) (v := .int .i64 n) rfl (by kernel_rfl) (by kernel_rfl) (by kernel_rfl) (fun _ _ _ h => h) (Or.inl ⟨by kernel_rfl, fun w _ => by kernel_rfl⟩) hS ?_
  simp only [Act.put]
  try simp only [List.getElem_toArray]
  try simp only [List.getElem_cons_succ]
  try simp only [List.getElem_cons_zero]
  try simp only [List.setIfInBounds_toArray]
  try simp only [List.set_cons_succ]
  try simp only [List.set_cons_zero]
  refine wpAnyH_take (i := 3) (v := .int .i64 k) rfl (by kernel_rfl) (by kernel_rfl) (by kernel_rfl) (fun _ _ _ h => h) (Or.inl ⟨by kernel_rfl, fun w _ => by kernel_rfl⟩) hS ?_
  simp only [Act.put]
  try simp only [List.getElem_toArray]
  try simp only [List.getElem_cons_succ]
  try simp only [List.getElem_cons_zero]
  try simp only [List.setIfInBounds_toArray]
  try simp only [List.set_cons_succ]
  try simp only [List.set_cons_zero]
  refine wpAnyH_ready (rs := [4]) (by kernel_rfl) (by simp) ?_
  refine AllReadyH.cons rfl (fun K hK => ?_) AllReadyH.nil
  go_simp
  refine (CW.out _).mono ?_
  rintro e wq1 ⟨rfl, hb⟩
  have hT := hS.trans (hb.mono hS.size)
  clear hb hS
  dsimp only
  refine hK.out _ _ hT (fun hS => ?_)
  clear hK K hT
  refine wpAnyH_ready (rs := [5]) (by kernel_rfl) (by simp) ?_
  refine AllReadyH.cons rfl (fun K hK => ?_) AllReadyH.nil
  go_simp
  refine (CK.out _).mono ?_
  rintro e wq2 ⟨rfl, hb⟩
  have hT := hS.trans (hb.mono hS.size)
  clear hb hS
  dsimp only
  refine hK.out _ _ hT (fun hS => ?_)
  clear hK K hT
  refine wpAnyH_take (i := 6) (v := .int .i64 r) rfl (by kernel_rfl) (by kernel_rfl) (by kernel_rfl) (fun _ _ _ h => h) (Or.inl ⟨by kernel_rfl, fun w _ => by kernel_rfl⟩) hS ?_
  simp only [Act.put]
  try simp only [List.getElem_toArray]
  try simp only [List.getElem_cons_succ]
  try simp only [List.getElem_cons_zero]
  try simp only [List.setIfInBounds_toArray]
  try simp only [List.set_cons_succ]
  try simp only [List.set_cons_zero]
  refine wpAnyH_done (by kernel_rfl) ?_ _
  have HE := Lib.hid (HQ.out.bel.trans (hS.mono HQ.out.bel.size))
  clear hS
  go_wp2_with fail
  go_ret
  exact ⟨rfl, hb ▸ HE.out⟩
end Go.Proofs.Ythfabalnioggcaa
