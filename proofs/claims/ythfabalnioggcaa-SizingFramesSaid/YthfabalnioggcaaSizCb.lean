/- Joined texts: SizC2 SizC3. -/
import Derived.Test.YthfabalnioggcaaSizC1
namespace Go.Proofs.Ythfabalnioggcaa
open Go.RowKit TreN LexP FixP SynP ValP PropP FixM
set_option linter.unusedVariables false

theorem Bx.made {w W : World} (hb : Below w.heap.size w W) (Z : Array Value) (T : TypeId) (L : List Value) (hz : Z.size = L.length) : Bx w ((W.alloc (.cells Z T)).setCells W.heap.size 0 L) W.heap.size L :=
  ⟨belowS_setCells (hb.trans ((below_one7h W (.cells Z T)).mono hb.size)) W.heap.size hb.size L 0,
   World.rangeAt_setCells_same _ _ 0 L (by rw [← hz]; exact thereS_of_block (heap_alloc_new W (.cells Z T))),
   by
    have := (belowS_setCells (Below.refl 0 (W.alloc (.cells Z T))) W.heap.size (Nat.zero_le _) L 0).size
    have h2 : (W.alloc (.cells Z T)).heap.size = W.heap.size + 1 := by simp
    omega⟩
theorem AddC_any (a b : Int) (w : World) : Calls Try.prog 54 #[.int .i64 a, .int .i64 b] w fun e w' => e = .returned (.int .i64 (addZ a b)) ∧ w = w' := Add_any a b w
theorem SubC_any (a b : Int) (w : World) : Calls Try.prog 75 #[.int .i64 a, .int .i64 b] w fun e w' => e = .returned (.int .i64 (subZ a b)) ∧ w = w' := Sub_any a b w
def fcell (c : Cz) (i : Nat) : Value := (frameL c).getD i undef
theorem frameL_at (c : Cz) (i : Nat) (h : i < 16) : (frameL c)[i]? = some (fcell c i) := by
  unfold fcell
  rw [List.getD_eq_getElem?_getD, List.getElem?_eq_getElem (by rw [frameL_len]; exact h)]
  rfl
set_option maxRecDepth 100000 in
set_option maxHeartbeats 2000000 in
theorem around_31 (c : Cz) (w : World) : Calls Try.prog 35 #[.agg (frameL c).toArray, .int .i64 3, .int .i64 1] w fun e w' => e = .returned (.int .i64 c.x) ∧ Below w.heap.size w w' := by
  have HAL := Lib.hid (frameL_len c)
  have HCE := Lib.hid (fun i h => frameL_at c i h)
  have hx := Bx.new w (frameL c) 32
  generalize frameL c = As at *
  have hal := HAL.out
  go_enter Try.func35, Try.ntmps35
  go_upto_region 1 with fail
  obtain ⟨W1, hW⟩ : ∃ W, w.alloc (.cells As.toArray 32) = W := ⟨_, rfl⟩
  rw [hW] at hx ⊢
  clear hW
  obtain ⟨b, hb⟩ : ∃ b, w.heap.size = b := ⟨_, rfl⟩
  rw [hb] at hx ⊢
  have HX := Lib.hid hx
  clear hx
  have hS : Below W1.heap.size W1 W1.drew := (Below.refl _ _).drew
  refine wp_region_held_drew (S := fun w' => Below W1.heap.size W1 w') (by kernel_rfl) hS (fun hS => ?_)
  refine wpAnyH_take (i := 0) (v := .int .i64 3) rfl (by kernel_rfl) (by kernel_rfl) (by kernel_rfl) (fun _ _ _ h => h) (Or.inl ⟨by kernel_rfl, fun w _ => by kernel_rfl⟩) hS ?_
  simp only [Act.put]
  try simp only [List.getElem_toArray]
  try simp only [List.getElem_cons_succ]
  try simp only [List.getElem_cons_zero]
  try simp only [List.setIfInBounds_toArray]
  try simp only [List.set_cons_succ]
  try simp only [List.set_cons_zero]
  refine wpAnyH_take (i := 1) (v := .pointer (some ⟨b, 8, none⟩)) rfl (by kernel_rfl) (by kernel_rfl) (by kernel_rfl) (fun _ _ _ h => h) (Or.inl ⟨by kernel_rfl, fun w _ => by kernel_rfl⟩) hS ?_
  simp only [Act.put]
  try simp only [List.getElem_toArray]
  try simp only [List.getElem_cons_succ]
  try simp only [List.getElem_cons_zero]
  try simp only [List.setIfInBounds_toArray]
  try simp only [List.set_cons_succ]
  try simp only [List.set_cons_zero]
  refine wpAnyH_take (i := 2) (v := .pointer (some ⟨b, 11, none⟩)) rfl (by kernel_rfl) (by kernel_rfl) (by kernel_rfl) (fun _ _ _ h => h) (Or.inl ⟨by kernel_rfl, fun w _ => by kernel_rfl⟩) hS ?_
  simp only [Act.put]
  try simp only [List.getElem_toArray]
  try simp only [List.getElem_cons_succ]
  try simp only [List.getElem_cons_zero]
  try simp only [List.setIfInBounds_toArray]
  try simp only [List.set_cons_succ]
  try simp only [List.set_cons_zero]
  refine wpAnyH_take (i := 3) (v := .int .i64 (c.pad 3)) rfl (by kernel_rfl) (by kernel_rfl) (by kernel_rfl) (fun _ _ _ h => h) (yieldsIf_load_one (by kernel_rfl) _ _ rfl b 11 (by kernel_rfl) _ (fun w h => (h.cell (p := ⟨b, 11, none⟩) HX.out.lt).trans (HX.out.at_ 11 _ (HCE.out 11 (by decide)))) (isAgg_int20)) hS ?_
  simp only [Act.put]
  try simp only [List.getElem_toArray]
  try simp only [List.getElem_cons_succ]
  try simp only [List.getElem_cons_zero]
  try simp only [List.setIfInBounds_toArray]
  try simp only [List.set_cons_succ]
  try simp only [List.set_cons_zero]
  refine wpAnyH_take (i := 4) (v := .int .i64 1) rfl (by kernel_rfl) (by kernel_rfl) (by kernel_rfl) (fun _ _ _ h => h) (Or.inl ⟨by kernel_rfl, fun w _ => by kernel_rfl⟩) hS ?_
  simp only [Act.put]
  try simp only [List.getElem_toArray]
  try simp only [List.getElem_cons_succ]
  try simp only [List.getElem_cons_zero]
  try simp only [List.setIfInBounds_toArray]
  try simp only [List.set_cons_succ]
  try simp only [List.set_cons_zero]
  refine wpAnyH_take (i := 5) (v := .pointer (some ⟨b, 8, none⟩)) rfl (by kernel_rfl) (by kernel_rfl) (by kernel_rfl) (fun _ _ _ h => h) (Or.inl ⟨by kernel_rfl, fun w _ => by kernel_rfl⟩) hS ?_
  simp only [Act.put]
  try simp only [List.getElem_toArray]
  try simp only [List.getElem_cons_succ]
  try simp only [List.getElem_cons_zero]
  try simp only [List.setIfInBounds_toArray]
  try simp only [List.set_cons_succ]
  try simp only [List.set_cons_zero]
  refine wpAnyH_take (i := 6) (v := .pointer (some ⟨b, 9, none⟩)) rfl (by kernel_rfl) (by kernel_rfl) (by kernel_rfl) (fun _ _ _ h => h) (Or.inl ⟨by kernel_rfl, fun w _ => by kernel_rfl⟩) hS ?_
  simp only [Act.put]
  try simp only [List.getElem_toArray]
  try simp only [List.getElem_cons_succ]
  try simp only [List.getElem_cons_zero]
  try simp only [List.setIfInBounds_toArray]
  try simp only [List.set_cons_succ]
  try simp only [List.set_cons_zero]
  refine wpAnyH_take (i := 7) (v := .int .i64 (c.pad 1)) rfl (by kernel_rfl) (by kernel_rfl) (by kernel_rfl) (fun _ _ _ h => h) (yieldsIf_load_one (by kernel_rfl) _ _ rfl b 9 (by kernel_rfl) _ (fun w h => (h.cell (p := ⟨b, 9, none⟩) HX.out.lt).trans (HX.out.at_ 9 _ (HCE.out 9 (by decide)))) (isAgg_int20)) hS ?_
  simp only [Act.put]
  try simp only [List.getElem_toArray]
  try simp only [List.getElem_cons_succ]
  try simp only [List.getElem_cons_zero]
  try simp only [List.setIfInBounds_toArray]
  try simp only [List.set_cons_succ]
  try simp only [List.set_cons_zero]
  refine wpAnyH_take (i := 9) (v := .int .i64 3) rfl (by kernel_rfl) (by kernel_rfl) (by kernel_rfl) (fun _ _ _ h => h) (Or.inl ⟨by kernel_rfl, fun w _ => by kernel_rfl⟩) hS ?_
  simp only [Act.put]
  try simp only [List.getElem_toArray]
  try simp only [List.getElem_cons_succ]
  try simp only [List.getElem_cons_zero]
  try simp only [List.setIfInBounds_toArray]
  try simp only [List.set_cons_succ]
  try simp only [List.set_cons_zero]
  refine wpAnyH_take (i := 10) (v := .pointer (some ⟨b, 12, none⟩)) rfl (by kernel_rfl) (by kernel_rfl) (by kernel_rfl) (fun _ _ _ h => h) (Or.inl ⟨by kernel_rfl, fun w _ => by kernel_rfl⟩) hS ?_
  simp only [Act.put]
  try simp only [List.getElem_toArray]
  try simp only [List.getElem_cons_succ]
  try simp only [List.getElem_cons_zero]
  try simp only [List.setIfInBounds_toArray]
  try simp only [List.set_cons_succ]
  try simp only [List.set_cons_zero]
  refine wpAnyH_take (i := 11) (v := .pointer (some ⟨b, 15, none⟩)) rfl (by kernel_rfl) (by kernel_rfl) (by kernel_rfl) (fun _ _ _ h => h) (Or.inl ⟨by kernel_rfl, fun w _ => by kernel_rfl⟩) hS ?_
  simp only [Act.put]
  try simp only [List.getElem_toArray]
  try simp only [List.getElem_cons_succ]
  try simp only [List.getElem_cons_zero]
  try simp only [List.setIfInBounds_toArray]
  try simp only [List.set_cons_succ]
  try simp only [List.set_cons_zero]
  refine wpAnyH_take (i := 12) (v := .int .i64 (c.edge 3)) rfl (by kernel_rfl) (by kernel_rfl) (by kernel_rfl) (fun _ _ _ h => h) (yieldsIf_load_one (by kernel_rfl) _ _ rfl b 15 (by kernel_rfl) _ (fun w h => (h.cell (p := ⟨b, 15, none⟩) HX.out.lt).trans (HX.out.at_ 15 _ (HCE.out 15 (by decide)))) (isAgg_int20)) hS ?_
  simp only [Act.put]
  try simp only [List.getElem_toArray]
  try simp only [List.getElem_cons_succ]
  try simp only [List.getElem_cons_zero]
  try simp only [List.setIfInBounds_toArray]
  try simp only [List.set_cons_succ]
  try simp only [List.set_cons_zero]
  refine wpAnyH_take (i := 13) (v := .int .i64 1) rfl (by kernel_rfl) (by kernel_rfl) (by kernel_rfl) (fun _ _ _ h => h) (Or.inl ⟨by kernel_rfl, fun w _ => by kernel_rfl⟩) hS ?_
  simp only [Act.put]
  try simp only [List.getElem_toArray]
  try simp only [List.getElem_cons_succ]
  try simp only [List.getElem_cons_zero]
  try simp only [List.setIfInBounds_toArray]
  try simp only [List.set_cons_succ]
  try simp only [List.set_cons_zero]
  refine wpAnyH_take (i := 14) (v := .pointer (some ⟨b, 12, none⟩)) rfl (by kernel_rfl) (by kernel_rfl) (by kernel_rfl) (fun _ _ _ h => h) (Or.inl ⟨by kernel_rfl, fun w _ => by kernel_rfl⟩) hS ?_
  simp only [Act.put]
  try simp only [List.getElem_toArray]
  try simp only [List.getElem_cons_succ]
  try simp only [List.getElem_cons_zero]
  try simp only [List.setIfInBounds_toArray]
  try simp only [List.set_cons_succ]
  try simp only [List.set_cons_zero]
  refine wpAnyH_take (i := 15) (v := .pointer (some ⟨b, 13, none⟩)) rfl (by kernel_rfl) (by kernel_rfl) (by kernel_rfl) (fun _ _ _ h => h) (Or.inl ⟨by kernel_rfl, fun w _ => by kernel_rfl⟩) hS ?_
  simp only [Act.put]
  try simp only [List.getElem_toArray]
  try simp only [List.getElem_cons_succ]
  try simp only [List.getElem_cons_zero]
  try simp only [List.setIfInBounds_toArray]
  try simp only [List.set_cons_succ]
  try simp only [List.set_cons_zero]
  refine wpAnyH_take (i := 16) (v := .int .i64 (c.edge 1)) rfl (by kernel_rfl) (by kernel_rfl) (by kernel_rfl) (fun _ _ _ h => h) (yieldsIf_load_one (by kernel_rfl) _ _ rfl b 13 (by kernel_rfl) _ (fun w h => (h.cell (p := ⟨b, 13, none⟩) HX.out.lt).trans (HX.out.at_ 13 _ (HCE.out 13 (by decide)))) (isAgg_int20)) hS ?_
  simp only [Act.put]
  try simp only [List.getElem_toArray]
  try simp only [List.getElem_cons_succ]
  try simp only [List.getElem_cons_zero]
  try simp only [List.setIfInBounds_toArray]
  try simp only [List.set_cons_succ]
  try simp only [List.set_cons_zero]
  refine wpAnyH_ready (rs := [8]) (by kernel_rfl) (by simp) ?_
  refine AllReadyH.cons rfl (fun K hK => ?_) AllReadyH.nil
  go_simp
  refine (AddC_any _ _ _).mono ?_
  rintro e wq ⟨rfl, rfl⟩
  refine hK.out _ _ hS (fun hS => ?_)
  clear hK K
  refine wpAnyH_ready (rs := [17]) (by kernel_rfl) (by simp) ?_
  refine AllReadyH.cons rfl (fun K hK => ?_) AllReadyH.nil
  go_simp
  refine (AddC_any _ _ _).mono ?_
  rintro e wq ⟨rfl, rfl⟩
  refine hK.out _ _ hS (fun hS => ?_)
  clear hK K
  refine wpAnyH_ready (rs := [18]) (by kernel_rfl) (by simp) ?_
  refine AllReadyH.cons rfl (fun K hK => ?_) AllReadyH.nil
  go_simp
  refine (AddC_any _ _ _).mono ?_
  rintro e wq ⟨rfl, rfl⟩
  refine hK.out _ _ hS (fun hS => ?_)
  clear hK K
  refine wpAnyH_take (i := 19) (v := .int .i64 (addZ (addZ (c.pad 3) (c.pad 1)) (addZ (c.edge 3) (c.edge 1)))) rfl (by kernel_rfl) (by kernel_rfl) (by kernel_rfl) (fun _ _ _ h => h) (Or.inl ⟨by kernel_rfl, fun w _ => by kernel_rfl⟩) hS ?_
  simp only [Act.put]
  try simp only [List.getElem_toArray]
  try simp only [List.getElem_cons_succ]
  try simp only [List.getElem_cons_zero]
  try simp only [List.setIfInBounds_toArray]
  try simp only [List.set_cons_succ]
  try simp only [List.set_cons_zero]
  refine wpAnyH_done (by kernel_rfl) ?_ _
  have HE := Lib.hid (HX.out.bel.trans (hS.mono HX.out.bel.size))
  clear hS
  go_wp2_with fail
  go_ret
  exact ⟨rfl, hb ▸ HE.out⟩
set_option maxRecDepth 100000 in
set_option maxHeartbeats 2000000 in
theorem around_02 (c : Cz) (w : World) : Calls Try.prog 35 #[.agg (frameL c).toArray, .int .i64 0, .int .i64 2] w fun e w' => e = .returned (.int .i64 c.y) ∧ Below w.heap.size w w' := by
  have HAL := Lib.hid (frameL_len c)
  have HCE := Lib.hid (fun i h => frameL_at c i h)
  have hx := Bx.new w (frameL c) 32
  generalize frameL c = As at *
  have hal := HAL.out
  go_enter Try.func35, Try.ntmps35
  go_upto_region 1 with fail
  obtain ⟨W1, hW⟩ : ∃ W, w.alloc (.cells As.toArray 32) = W := ⟨_, rfl⟩
  rw [hW] at hx ⊢
  clear hW
  obtain ⟨b, hb⟩ : ∃ b, w.heap.size = b := ⟨_, rfl⟩
  rw [hb] at hx ⊢
  have HX := Lib.hid hx
  clear hx
  have hS : Below W1.heap.size W1 W1.drew := (Below.refl _ _).drew
  refine wp_region_held_drew (S := fun w' => Below W1.heap.size W1 w') (by kernel_rfl) hS (fun hS => ?_)
  refine wpAnyH_take (i := 0) (v := .int .i64 0) rfl (by kernel_rfl) (by kernel_rfl) (by kernel_rfl) (fun _ _ _ h => h) (Or.inl ⟨by kernel_rfl, fun w _ => by kernel_rfl⟩) hS ?_
  simp only [Act.put]
  try simp only [List.getElem_toArray]
  try simp only [List.getElem_cons_succ]
  try simp only [List.getElem_cons_zero]
  try simp only [List.setIfInBounds_toArray]
  try simp only [List.set_cons_succ]
  try simp only [List.set_cons_zero]
  refine wpAnyH_take (i := 1) (v := .pointer (some ⟨b, 8, none⟩)) rfl (by kernel_rfl) (by kernel_rfl) (by kernel_rfl) (fun _ _ _ h => h) (Or.inl ⟨by kernel_rfl, fun w _ => by kernel_rfl⟩) hS ?_
  simp only [Act.put]
  try simp only [List.getElem_toArray]
  try simp only [List.getElem_cons_succ]
  try simp only [List.getElem_cons_zero]
  try simp only [List.setIfInBounds_toArray]
  try simp only [List.set_cons_succ]
  try simp only [List.set_cons_zero]
  refine wpAnyH_take (i := 2) (v := .pointer (some ⟨b, 8, none⟩)) rfl (by kernel_rfl) (by kernel_rfl) (by kernel_rfl) (fun _ _ _ h => h) (Or.inl ⟨by kernel_rfl, fun w _ => by kernel_rfl⟩) hS ?_
  simp only [Act.put]
  try simp only [List.getElem_toArray]
  try simp only [List.getElem_cons_succ]
  try simp only [List.getElem_cons_zero]
  try simp only [List.setIfInBounds_toArray]
  try simp only [List.set_cons_succ]
  try simp only [List.set_cons_zero]
  refine wpAnyH_take (i := 3) (v := .int .i64 (c.pad 0)) rfl (by kernel_rfl) (by kernel_rfl) (by kernel_rfl) (fun _ _ _ h => h) (yieldsIf_load_one (by kernel_rfl) _ _ rfl b 8 (by kernel_rfl) _ (fun w h => (h.cell (p := ⟨b, 8, none⟩) HX.out.lt).trans (HX.out.at_ 8 _ (HCE.out 8 (by decide)))) (isAgg_int20)) hS ?_
  simp only [Act.put]
  try simp only [List.getElem_toArray]
  try simp only [List.getElem_cons_succ]
  try simp only [List.getElem_cons_zero]
  try simp only [List.setIfInBounds_toArray]
  try simp only [List.set_cons_succ]
  try simp only [List.set_cons_zero]
  refine wpAnyH_take (i := 4) (v := .int .i64 2) rfl (by kernel_rfl) (by kernel_rfl) (by kernel_rfl) (fun _ _ _ h => h) (Or.inl ⟨by kernel_rfl, fun w _ => by kernel_rfl⟩) hS ?_
  simp only [Act.put]
  try simp only [List.getElem_toArray]
  try simp only [List.getElem_cons_succ]
  try simp only [List.getElem_cons_zero]
  try simp only [List.setIfInBounds_toArray]
  try simp only [List.set_cons_succ]
  try simp only [List.set_cons_zero]
  refine wpAnyH_take (i := 5) (v := .pointer (some ⟨b, 8, none⟩)) rfl (by kernel_rfl) (by kernel_rfl) (by kernel_rfl) (fun _ _ _ h => h) (Or.inl ⟨by kernel_rfl, fun w _ => by kernel_rfl⟩) hS ?_
  simp only [Act.put]
  try simp only [List.getElem_toArray]
  try simp only [List.getElem_cons_succ]
  try simp only [List.getElem_cons_zero]
  try simp only [List.setIfInBounds_toArray]
  try simp only [List.set_cons_succ]
  try simp only [List.set_cons_zero]
  refine wpAnyH_take (i := 6) (v := .pointer (some ⟨b, 10, none⟩)) rfl (by kernel_rfl) (by kernel_rfl) (by kernel_rfl) (fun _ _ _ h => h) (Or.inl ⟨by kernel_rfl, fun w _ => by kernel_rfl⟩) hS ?_
  simp only [Act.put]
  try simp only [List.getElem_toArray]
  try simp only [List.getElem_cons_succ]
  try simp only [List.getElem_cons_zero]
  try simp only [List.setIfInBounds_toArray]
  try simp only [List.set_cons_succ]
  try simp only [List.set_cons_zero]
  refine wpAnyH_take (i := 7) (v := .int .i64 (c.pad 2)) rfl (by kernel_rfl) (by kernel_rfl) (by kernel_rfl) (fun _ _ _ h => h) (yieldsIf_load_one (by kernel_rfl) _ _ rfl b 10 (by kernel_rfl) _ (fun w h => (h.cell (p := ⟨b, 10, none⟩) HX.out.lt).trans (HX.out.at_ 10 _ (HCE.out 10 (by decide)))) (isAgg_int20)) hS ?_
  simp only [Act.put]
  try simp only [List.getElem_toArray]
  try simp only [List.getElem_cons_succ]
  try simp only [List.getElem_cons_zero]
  try simp only [List.setIfInBounds_toArray]
  try simp only [List.set_cons_succ]
  try simp only [List.set_cons_zero]
  refine wpAnyH_take (i := 9) (v := .int .i64 0) rfl (by kernel_rfl) (by kernel_rfl) (by kernel_rfl) (fun _ _ _ h => h) (Or.inl ⟨by kernel_rfl, fun w _ => by kernel_rfl⟩) hS ?_
  simp only [Act.put]
  try simp only [List.getElem_toArray]
  try simp only [List.getElem_cons_succ]
  try simp only [List.getElem_cons_zero]
  try simp only [List.setIfInBounds_toArray]
  try simp only [List.set_cons_succ]
  try simp only [List.set_cons_zero]
  refine wpAnyH_take (i := 10) (v := .pointer (some ⟨b, 12, none⟩)) rfl (by kernel_rfl) (by kernel_rfl) (by kernel_rfl) (fun _ _ _ h => h) (Or.inl ⟨by kernel_rfl, fun w _ => by kernel_rfl⟩) hS ?_
  simp only [Act.put]
  try simp only [List.getElem_toArray]
  try simp only [List.getElem_cons_succ]
  try simp only [List.getElem_cons_zero]
  try simp only [List.setIfInBounds_toArray]
  try simp only [List.set_cons_succ]
  try simp only [List.set_cons_zero]
  refine wpAnyH_take (i := 11) (v := .pointer (some ⟨b, 12, none⟩)) rfl (by kernel_rfl) (by kernel_rfl) (by kernel_rfl) (fun _ _ _ h => h) (Or.inl ⟨by kernel_rfl, fun w _ => by kernel_rfl⟩) hS ?_
  simp only [Act.put]
  try simp only [List.getElem_toArray]
  try simp only [List.getElem_cons_succ]
  try simp only [List.getElem_cons_zero]
  try simp only [List.setIfInBounds_toArray]
  try simp only [List.set_cons_succ]
  try simp only [List.set_cons_zero]
  refine wpAnyH_take (i := 12) (v := .int .i64 (c.edge 0)) rfl (by kernel_rfl) (by kernel_rfl) (by kernel_rfl) (fun _ _ _ h => h) (yieldsIf_load_one (by kernel_rfl) _ _ rfl b 12 (by kernel_rfl) _ (fun w h => (h.cell (p := ⟨b, 12, none⟩) HX.out.lt).trans (HX.out.at_ 12 _ (HCE.out 12 (by decide)))) (isAgg_int20)) hS ?_
  simp only [Act.put]
  try simp only [List.getElem_toArray]
  try simp only [List.getElem_cons_succ]
  try simp only [List.getElem_cons_zero]
  try simp only [List.setIfInBounds_toArray]
  try simp only [List.set_cons_succ]
  try simp only [List.set_cons_zero]
  refine wpAnyH_take (i := 13) (v := .int .i64 2) rfl (by kernel_rfl) (by kernel_rfl) (by kernel_rfl) (fun _ _ _ h => h) (Or.inl ⟨by kernel_rfl, fun w _ => by kernel_rfl⟩) hS ?_
  simp only [Act.put]
  try simp only [List.getElem_toArray]
  try simp only [List.getElem_cons_succ]
  try simp only [List.getElem_cons_zero]
  try simp only [List.setIfInBounds_toArray]
  try simp only [List.set_cons_succ]
  try simp only [List.set_cons_zero]
  refine wpAnyH_take (i := 14) (v := .pointer (some ⟨b, 12, none⟩)) rfl (by kernel_rfl) (by kernel_rfl) (by kernel_rfl) (fun _ _ _ h => h) (Or.inl ⟨by kernel_rfl, fun w _ => by kernel_rfl⟩) hS ?_
  simp only [Act.put]
  try simp only [List.getElem_toArray]
  try simp only [List.getElem_cons_succ]
  try simp only [List.getElem_cons_zero]
  try simp only [List.setIfInBounds_toArray]
  try simp only [List.set_cons_succ]
  try simp only [List.set_cons_zero]
  refine wpAnyH_take (i := 15) (v := .pointer (some ⟨b, 14, none⟩)) rfl (by kernel_rfl) (by kernel_rfl) (by kernel_rfl) (fun _ _ _ h => h) (Or.inl ⟨by kernel_rfl, fun w _ => by kernel_rfl⟩) hS ?_
  simp only [Act.put]
  try simp only [List.getElem_toArray]
  try simp only [List.getElem_cons_succ]
  try simp only [List.getElem_cons_zero]
  try simp only [List.setIfInBounds_toArray]
  try simp only [List.set_cons_succ]
  try simp only [List.set_cons_zero]
  refine wpAnyH_take (i := 16) (v := .int .i64 (c.edge 2)) rfl (by kernel_rfl) (by kernel_rfl) (by kernel_rfl) (fun _ _ _ h => h) (yieldsIf_load_one (by kernel_rfl) _ _ rfl b 14 (by kernel_rfl) _ (fun w h => (h.cell (p := ⟨b, 14, none⟩) HX.out.lt).trans (HX.out.at_ 14 _ (HCE.out 14 (by decide)))) (isAgg_int20)) hS ?_
  simp only [Act.put]
  try simp only [List.getElem_toArray]
  try simp only [List.getElem_cons_succ]
  try simp only [List.getElem_cons_zero]
  try simp only [List.setIfInBounds_toArray]
  try simp only [List.set_cons_succ]
  try simp only [List.set_cons_zero]
  refine wpAnyH_ready (rs := [8]) (by kernel_rfl) (by simp) ?_
  refine AllReadyH.cons rfl (fun K hK => ?_) AllReadyH.nil
  go_simp
  refine (AddC_any _ _ _).mono ?_
  rintro e wq ⟨rfl, rfl⟩
  refine hK.out _ _ hS (fun hS => ?_)
  clear hK K
  refine wpAnyH_ready (rs := [17]) (by kernel_rfl) (by simp) ?_
  refine AllReadyH.cons rfl (fun K hK => ?_) AllReadyH.nil
  go_simp
  refine (AddC_any _ _ _).mono ?_
  rintro e wq ⟨rfl, rfl⟩
  refine hK.out _ _ hS (fun hS => ?_)
  clear hK K
  refine wpAnyH_ready (rs := [18]) (by kernel_rfl) (by simp) ?_
  refine AllReadyH.cons rfl (fun K hK => ?_) AllReadyH.nil
  go_simp
  refine (AddC_any _ _ _).mono ?_
  rintro e wq ⟨rfl, rfl⟩
  refine hK.out _ _ hS (fun hS => ?_)
  clear hK K
  refine wpAnyH_take (i := 19) (v := .int .i64 (addZ (addZ (c.pad 0) (c.pad 2)) (addZ (c.edge 0) (c.edge 2)))) rfl (by kernel_rfl) (by kernel_rfl) (by kernel_rfl) (fun _ _ _ h => h) (Or.inl ⟨by kernel_rfl, fun w _ => by kernel_rfl⟩) hS ?_
  simp only [Act.put]
  try simp only [List.getElem_toArray]
  try simp only [List.getElem_cons_succ]
  try simp only [List.getElem_cons_zero]
  try simp only [List.setIfInBounds_toArray]
  try simp only [List.set_cons_succ]
  try simp only [List.set_cons_zero]
  refine wpAnyH_done (by kernel_rfl) ?_ _
  have HE := Lib.hid (HX.out.bel.trans (hS.mono HX.out.bel.size))
  clear hS
  go_wp2_with fail
  go_ret
  exact ⟨rfl, hb ▸ HE.out⟩
set_option maxRecDepth 100000 in
set_option maxHeartbeats 2000000 in
theorem Around_any (c : Cz) (w : World) : Calls Try.prog 15 #[.agg (caseL c).toArray] w fun e w' => e = .returned (.tuple #[.int .i64 c.x, .int .i64 c.y]) ∧ Below w.heap.size w w' := by
  have HAL := Lib.hid (caseL_len c)
  have HCE := Lib.hid (fun i h => caseL_at c i h)
  have hx := Bx.new w (caseL c) 29
  have CO := Lib.hid (fun W => Of20_any c W)
  have CA := Lib.hid (fun W => around_31 c W)
  have CB := Lib.hid (fun W => around_02 c W)
  generalize caseL c = As at *
  have hal := HAL.out
  have hFl := frameL_len c
  have HFO := Lib.hid (frameL_one c)
  generalize frameL c = Fs at *
  have hFz : Fs.toArray.size = 16 := by simpa using hFl
  go_enter Try.func15, Try.ntmps15
  go_upto_region 1 with fail
  obtain ⟨W1, hW⟩ : ∃ W, w.alloc (.cells As.toArray 29) = W := ⟨_, rfl⟩
  rw [hW] at hx ⊢
  clear hW
  obtain ⟨b, hb⟩ : ∃ b, w.heap.size = b := ⟨_, rfl⟩
  rw [hb] at hx ⊢
  have HX := Lib.hid hx
  clear hx
  refine wp_region_lit ?_
  refine wpList_load_mid rfl 29 _ rfl b 0 rfl As _ HX.out.rng Try.underlying29 rfl (by rw [size20c, HAL.out]) ?_
  go_wp2_with fail
  refine (CO.out _).mono ?_
  rintro e w2 ⟨rfl, hb2⟩
  have HX2 := Lib.hid (HX.out.call hb2)
  clear hb2 HX
  dsimp only
  rename_i K' hK'
  refine hK' _ _ ?_
  clear hK'
  go_step
  go_step
  rename_i K' hK'
  refine hK' _ _ ?_
  clear hK'
  have hq := Bx.made HX2.out.bel #[.int .i64 0, .int .i64 0, .int .i64 0, .int .i64 0, .bool false, .bool false, .bool false, .bool false, .int .i64 0, .int .i64 0, .int .i64 0, .int .i64 0, .int .i64 0, .int .i64 0, .int .i64 0, .int .i64 0] 32 Fs (by rw [hFl]; rfl)
  refine wpList_store_mid rfl 32 _ _ rfl w2.heap.size 0 Fs.toArray rfl rfl (by rw [hFz]; exact thereS_of_block (heap_alloc_new w2 (.cells #[.int .i64 0, .int .i64 0, .int .i64 0, .int .i64 0, .bool false, .bool false, .bool false, .bool false, .int .i64 0, .int .i64 0, .int .i64 0, .int .i64 0, .int .i64 0, .int .i64 0, .int .i64 0, .int .i64 0] 32))) (by rw [hFz]; exact size20f) (all_oneCell_toArray HFO.out) ?_
  have e55 : Fs.toArray.toList = Fs := rfl
  rw [e55]
  clear e55
  obtain ⟨W3, hW⟩ : ∃ W, (w2.alloc (.cells #[.int .i64 0, .int .i64 0, .int .i64 0, .int .i64 0, .bool false, .bool false, .bool false, .bool false, .int .i64 0, .int .i64 0, .int .i64 0, .int .i64 0, .int .i64 0, .int .i64 0, .int .i64 0, .int .i64 0] 32)).setCells w2.heap.size 0 Fs = W := ⟨_, rfl⟩
  rw [hW] at hq ⊢
  clear hW
  obtain ⟨bq, hbq⟩ : ∃ x, w2.heap.size = x := ⟨_, rfl⟩
  rw [hbq] at hq ⊢
  clear hbq
  have HQ := Lib.hid hq
  clear hq HX2
  go_upto_region 2 with fail
  have hS : Below W3.heap.size W3 W3.drew := (Below.refl _ _).drew
  refine wp_region_held_drew (S := fun w' => Below W3.heap.size W3 w') (by kernel_rfl) hS (fun hS => ?_)
  refine wpAnyH_take (i := 0) (v := .agg Fs.toArray) rfl (by kernel_rfl) (by kernel_rfl) (by kernel_rfl) (fun _ _ _ h => h) (yieldsIf_load_mid (by kernel_rfl) _ _ rfl bq 0 (by kernel_rfl) Fs _ (fun w h => rangeS_below HQ.out.rng h HQ.out.lt) Try.underlying32 rfl (by rw [size20f, hFl])) hS ?_
  simp only [Act.put]
  try simp only [List.getElem_toArray]
  try simp only [List.getElem_cons_succ]
  try simp only [List.getElem_cons_zero]
  try simp only [List.setIfInBounds_toArray]
  try simp only [List.set_cons_succ]
  try simp only [List.set_cons_zero]
  refine wpAnyH_take (i := 2) (v := .agg Fs.toArray) rfl (by kernel_rfl) (by kernel_rfl) (by kernel_rfl) (fun _ _ _ h => h) (yieldsIf_load_mid (by kernel_rfl) _ _ rfl bq 0 (by kernel_rfl) Fs _ (fun w h => rangeS_below HQ.out.rng h HQ.out.lt) Try.underlying32 rfl (by rw [size20f, hFl])) hS ?_
  simp only [Act.put]
  try simp only [List.getElem_toArray]
  try simp only [List.getElem_cons_succ]
  try simp only [List.getElem_cons_zero]
  try simp only [List.setIfInBounds_toArray]
  try simp only [List.set_cons_succ]
  try simp only [List.set_cons_zero]
  refine wpAnyH_ready (rs := [1]) (by kernel_rfl) (by simp) ?_
  refine AllReadyH.cons rfl (fun K hK => ?_) AllReadyH.nil
  go_simp
  refine (CA.out _).mono ?_
  rintro e wq1 ⟨rfl, hb⟩
  have hT := hS.trans (hb.mono hS.size)
  clear hb hS
  dsimp only
  refine hK.out _ _ hT (fun hS => ?_)
  clear hK K hT
  refine wpAnyH_ready (rs := [3]) (by kernel_rfl) (by simp) ?_
  refine AllReadyH.cons rfl (fun K hK => ?_) AllReadyH.nil
  go_simp
  refine (CB.out _).mono ?_
  rintro e wq2 ⟨rfl, hb⟩
  have hT := hS.trans (hb.mono hS.size)
  clear hb hS
  dsimp only
  refine hK.out _ _ hT (fun hS => ?_)
  clear hK K hT
  refine wpAnyH_take (i := 4) (v := .int .i64 c.x) rfl (by kernel_rfl) (by kernel_rfl) (by kernel_rfl) (fun _ _ _ h => h) (Or.inl ⟨by kernel_rfl, fun w _ => by kernel_rfl⟩) hS ?_
  simp only [Act.put]
  try simp only [List.getElem_toArray]
  try simp only [List.getElem_cons_succ]
  try simp only [List.getElem_cons_zero]
  try simp only [List.setIfInBounds_toArray]
  try simp only [List.set_cons_succ]
  try simp only [List.set_cons_zero]
  refine wpAnyH_take (i := 5) (v := .int .i64 c.y) rfl (by kernel_rfl) (by kernel_rfl) (by kernel_rfl) (fun _ _ _ h => h) (Or.inl ⟨by kernel_rfl, fun w _ => by kernel_rfl⟩) hS ?_
  simp only [Act.put]
  try simp only [List.getElem_toArray]
  try simp only [List.getElem_cons_succ]
  try simp only [List.getElem_cons_zero]
  try simp only [List.setIfInBounds_toArray]
  try simp only [List.set_cons_succ]
  try simp only [List.set_cons_zero]
  refine wpAnyH_done (by kernel_rfl) ?_ _
  have HE := Lib.hid (HQ.out.bel.trans (hS.mono HQ.out.bel.size))
  clear hS
  go_wp2_with fail
  exact bodyPost_ret (results_tmp2 rfl _ _ _) rfl ⟨rfl, hb ▸ HE.out⟩
/-- a box, in memory -/
def boxL (c : Cz) : List Value := [Value.int .i64 (c.z 0), Value.bool c.b, Value.int .i64 (c.z 2), Value.int .i64 (c.z 3), Value.int .i64 (c.z 4), Value.int .i64 (c.z 5), Value.int .i64 (c.z 6), Value.int .i64 (c.z 7), Value.int .i64 (c.z 8), Value.int .i64 (c.z 9), Value.int .i64 (c.z 10), Value.int .i64 (c.z 11), Value.int .i64 (c.z 12), Value.int .i64 (c.z 13), Value.int .i64 (c.z 14), Value.int .i64 (c.z 15), Value.int .i64 (c.z 16), Value.int .i64 (c.z 17), Value.int .i64 (c.z 18), Value.int .i64 (c.z 19), Value.int .i64 (c.z 20), Value.int .i64 (c.z 21), Value.int .i64 (c.z 22), Value.int .i64 (c.z 23), Value.int .i64 (c.z 24), Value.int .i64 (c.z 25), Value.int .i64 (c.z 26), Value.int .i64 (c.z 27), Value.int .i64 (c.z 28), Value.int .i64 (c.z 29), Value.int .i64 (c.z 30), Value.int .i64 (c.z 31), Value.int .i64 (c.z 32), Value.int .i64 (c.z 33), Value.int .i64 (c.z 34), Value.int .i64 (c.z 35), Value.int .i64 (c.z 36), Value.int .i64 (c.z 37), Value.int .i64 (c.z 38), Value.int .i64 (c.z 39), Value.int .i64 (c.z 40), Value.int .i64 (c.z 41), Value.int .i64 (c.z 42), Value.int .i64 (c.z 43), Value.int .i64 (c.z 44), Value.int .i64 (c.z 45), Value.int .i64 (c.z 46), Value.int .i64 (c.z 47), Value.int .i64 (c.z 48), Value.int .i64 (c.z 49), Value.int .i64 (c.z 50), Value.int .i64 (c.z 51), Value.string c.nm, Value.int .i64 (c.z 53), Value.int .i64 (c.z 54), Value.int .i64 c.av, Value.int .i64 c.bs, Value.int .i64 c.least, Value.int .i64 c.most, Value.int .i64 c.av, Value.func (.func 51) #[] #[], Value.bool c.b, Value.int .i64 c.x, Value.int .i64 c.bs, Value.func (.func 56) #[] #[], Value.bool c.b, Value.int .i64 c.y]
theorem boxL_len (c : Cz) : (boxL c).length = 67 := rfl
def bcell (c : Cz) (i : Nat) : Value := (boxL c).getD i undef
theorem boxL_at (c : Cz) (i : Nat) (h : i < 67) : (boxL c)[i]? = some (bcell c i) := by
  unfold bcell
  rw [List.getD_eq_getElem?_getD, List.getElem?_eq_getElem (by rw [boxL_len]; exact h)]
  rfl
theorem boxL_one (c : Cz) : ∀ v, v ∈ boxL c → v.oneCell' = true := by
  intro v hv
  unfold boxL at hv
  simp only [List.mem_cons, List.not_mem_nil, or_false] at hv
  repeat' (rcases hv with rfl | hv; · rfl)
theorem size20b : (Try.prog.info? 65).map (·.size) = some 67 := by kernel_rfl
/-- the case whose own widths are held -/
def Cz.held (c : Cz) : Cz := { c with ls := c.least, ms := c.most }
theorem held_set (c : Cz) : ((caseL c).set 57 (.int .i64 c.least)).set 58 (.int .i64 c.most) = caseL c.held := rfl
theorem run_buildB (c : Cz) (w : World) : (Instr.build 65 #[(0, .agg (caseL c.held).toArray), (1, .agg #[.int .i64 c.av, .func (.func 51) #[] #[], .bool c.b, .int .i64 c.x]), (2, .agg #[.int .i64 c.bs, .func (.func 56) #[] #[], .bool c.b, .int .i64 c.y])]).run Try.prog w = .ok (.agg (boxL c).toArray) w := by kernel_rfl
end Go.Proofs.Ythfabalnioggcaa

namespace Go.Proofs.Ythfabalnioggcaa
open Go.RowKit TreN LexP FixP SynP ValP PropP FixM
set_option linter.unusedVariables false

theorem Bx.four {w W : World} {b : Nat} {As : List Value} (h : Bx w W b As) (i : Nat) (u v x y : Value) (h0 : As[i]? = some u) (h1 : As[i + 1]? = some v) (h2 : As[i + 2]? = some x) (h3 : As[i + 3]? = some y) : W.rangeAt b i [u, v, x, y] := fun j z hz => by
  match j, hz with
  | 0, hz => simp at hz; subst hz; exact h.at_ i _ h0
  | 1, hz => simp at hz; subst hz; exact h.at_ (i + 1) _ h1
  | 2, hz => simp at hz; subst hz; exact h.at_ (i + 2) _ h2
  | 3, hz => simp at hz; subst hz; exact h.at_ (i + 3) _ h3
theorem wpList_buildB {ops : Array Oper} {rest : List Oper} {op : Oper} {a : Act} {w : World} {Q : Exit → Act → World → Prop} (hgd : op.guard = none) (x0 x1 x2 : Operand) (ho : op.op = .build 65 #[(0, x0), (1, x1), (2, x2)]) (c : Cz)
    (h0 : a.eval x0 = .agg (caseL c.held).toArray) (h1 : a.eval x1 = .agg #[.int .i64 c.av, .func (.func 51) #[] #[], .bool c.b, .int .i64 c.x]) (h2 : a.eval x2 = .agg #[.int .i64 c.bs, .func (.func 56) #[] #[], .bool c.b, .int .i64 c.y])
    (h : wpList Try.prog ops Q rest (a.put op.dst (.agg (boxL c).toArray)) w) : wpList Try.prog ops Q (op :: rest) a w :=
  wpList_plain hgd fun K hK => by
    unfold Oper.wp execOp
    have e : (#[(0, x0), (1, x1), (2, x2)] : Array (Nat × Operand)).map (fun (i, x) => (i, a.eval x)) = #[(0, .agg (caseL c.held).toArray), (1, .agg #[.int .i64 c.av, .func (.func 51) #[] #[], .bool c.b, .int .i64 c.x]), (2, .agg #[.int .i64 c.bs, .func (.func 56) #[] #[], .bool c.b, .int .i64 c.y])] := by simp [h0, h1, h2]
    simp only [ho, e, Sem.run_bind, run_buildB c w, Result.andThen_ok, Sem.run_pure]
    exact hK _ _ h
theorem resultsB {fn : Func} {p : Tmp} (h : fn.results = #[.cell p 65]) (tmps : Array Value) (w : World) (b : Nat) (As : List Value) (hl : As.length = 67) (hp : tmps.getD p undef = .pointer (some ⟨b, 0, none⟩)) (hr : w.rangeAt b 0 As) :
    (results fn tmps).run Try.prog w = .ok (.agg As.toArray) w := by
  have hv := run_loadVar_mid (P := Try.prog) w b 0 65 As _ hr Try.underlying65 rfl (by rw [size20b, hl])
  have hp' : tmps[p]?.getD undef = .pointer (some ⟨b, 0, none⟩) := by simpa using hp
  simp [results, h, hp', asAddr, hv]
theorem Bx.set {w W : World} {b : Nat} {As : List Value} (h : Bx w W b As) (hb : w.heap.size ≤ b) (j : Nat) (v : Value) : Bx w (W.setCell ⟨b, j, none⟩ v) b (As.set j v) :=
  ⟨h.bel.setCell (p := ⟨b, j, none⟩) hb v, rangeS_set h.rng j v, by simpa using h.lt⟩
theorem Bx.drew {w W : World} {b : Nat} {As : List Value} (h : Bx w W b As) : Bx w W.drew b As := ⟨h.bel.drew, h.rng, h.lt⟩
theorem thereS_drew {W : World} {b n : Nat} (h : W.there b 0 n) : W.drew.there b 0 n := h
end Go.Proofs.Ythfabalnioggcaa
