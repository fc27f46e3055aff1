/- Layer 20, the code: the box of a case. (Written by gen_sizc3.py.) -/
import Derived.Test.YthfabalnioggcaaSizCb
namespace Go.Proofs.Ythfabalnioggcaa
open Go.RowKit TreN LexP FixP SynP ValP PropP FixM
set_option linter.unusedVariables false

set_option maxRecDepth 100000 in
set_option maxHeartbeats 2000000 in
theorem boxOf_any (c : Cz) (w : World) : Calls Try.prog 38 #[.agg (caseL c).toArray] w fun e w' => e = .returned (.agg (boxL c).toArray) ∧ Below w.heap.size w w' := by
  have HAL := Lib.hid (caseL_len c)
  have HCE := Lib.hid (fun i h => caseL_at c i h)
  have hx := Bx.new w (caseL c) 29
  have hhs := held_set c
  generalize caseL c = As at *
  have hal := HAL.out
  have hbl := boxL_len c
  have HBO := Lib.hid (boxL_one c)
  have hhl := caseL_len c.held
  have HHE := Lib.hid (fun i h => caseL_at c.held i h)
  rw [show c.least = max 0 (H c.ls) from Int.max_comm _ _, show c.most = max 0 (H c.ms) from Int.max_comm _ _] at hhs
  have CAR := Lib.hid (fun W => Around_any c.held W)
  rw [show c.held.x = c.x from rfl, show c.held.y = c.y from rfl] at CAR
  obtain ⟨Bs, hBs⟩ : ∃ L, boxL c = L := ⟨_, rfl⟩
  obtain ⟨Cs, hCs⟩ : ∃ L, caseL c.held = L := ⟨_, rfl⟩
  rw [hBs] at hbl HBO ⊢
  rw [hCs] at hhl HHE CAR hhs
  have HBS := Lib.hid hBs
  have HCS := Lib.hid hCs
  have HHS := Lib.hid hhs
  clear hBs hCs hhs
  have hbz : Bs.toArray.size = 67 := by simpa using hbl
  have hs1 : (w.alloc (.cells As.toArray 29)).heap.size = w.heap.size + 1 := by simp
  have hb2 := below_one7h (w.alloc (.cells As.toArray 29)) (.cells Try.zeroCells65 65)
  have t1 := thereS_of_block (heap_alloc_new (w.alloc (.cells As.toArray 29)) (.cells Try.zeroCells65 65))
  rw [show (Try.zeroCells65 : Array Value).size = 67 from by kernel_rfl, hs1] at t1
  have hk := (hb2.block w.heap.size (by omega)).trans (heap_alloc_new w (.cells As.toArray 29))
  have hx := hx.call hb2
  have hl2 : w.heap.size + 1 < ((w.alloc (.cells As.toArray 29)).alloc (.cells Try.zeroCells65 65)).heap.size := by simp
  clear hb2 hs1
  go_enter Try.func38, Try.ntmps38
  go_upto_region 1 with fail
  obtain ⟨W1, hW⟩ : ∃ W, ((w.alloc (.cells As.toArray 29)).alloc (.cells Try.zeroCells65 65)) = W := ⟨_, rfl⟩
  rw [hW] at hx t1 hk hl2 ⊢
  clear hW
  obtain ⟨br, hbr⟩ : ∃ x, w.heap.size + 1 = x := ⟨_, rfl⟩
  obtain ⟨b, hb⟩ : ∃ b, w.heap.size = b := ⟨_, rfl⟩
  rw [hbr] at t1 hl2
  rw [hb] at hx hk
  rw [hbr, hb]
  have HX := Lib.hid hx
  have HT : Hid (W1.there br 0 67) := Lib.hid t1
  have HL2 : Hid (br < W1.heap.size) := Lib.hid hl2
  have HBR : Hid (w.heap.size ≤ br) := Lib.hid (by omega)
  clear hx t1 hl2 hbr
  have u57 : W1.drew.frozen? ⟨b, 57, none⟩ = false := unfrozen_of (w := W1) hk
  have u58 : W1.drew.frozen? ⟨b, 58, none⟩ = false := unfrozen_of (w := W1) hk
  have q57 : W1.drew.cell? ⟨b, 57, none⟩ = some (.int .i64 c.ls) := HX.out.at_ 57 _ (HCE.out 57 (by decide))
  have q58 : W1.drew.cell? ⟨b, 58, none⟩ = some (.int .i64 c.ms) := HX.out.at_ 58 _ (HCE.out 58 (by decide))
  clear hk
  have q58b : ∀ v, (W1.setCell ⟨b, 57, none⟩ v).drew.cell? ⟨b, 58, none⟩ = some (.int .i64 c.ms) := fun v => by have h : (W1.setCell ⟨b, 57, none⟩ v).cell? ⟨b, 58, none⟩ = W1.cell? ⟨b, 58, none⟩ := World.cell?_setCell_other _ _ _ _ (by intro q; injection q; omega); exact h.trans q58
  have u58b : ∀ v, (W1.setCell ⟨b, 57, none⟩ v).drew.frozen? ⟨b, 58, none⟩ = false := fun v => by have h : (W1.setCell ⟨b, 57, none⟩ v).frozen? ⟨b, 58, none⟩ = W1.frozen? ⟨b, 58, none⟩ := World.frozen?_setCell _ _ _ _; exact h.trans u58
  have lb : b < W1.heap.size := HX.out.lt
  go_cut [8] (fun v8 wx => Hid (Bx w wx b Cs) ∧ Hid (wx.there br 0 67) ∧ Hid (br < wx.heap.size))
  case first =>
    go_region_with (go_at_call 33; refine (Hold_any _ _).mono ?_; rintro e wq ⟨rfl, rfl⟩)
    all_goals
      go_wp2_with fail
      go_meet
      have hg := ((HX.out.drew.set (Nat.le_of_eq hb) 57 (.int .i64 (max 0 (H c.ls)))).set (Nat.le_of_eq hb) 58 (.int .i64 (max 0 (H c.ms))))
      rw [HHS.out] at hg
      exact ⟨Lib.hid hg, Lib.hid (thereS_set (thereS_set (W := W1) HT.out 57 _) 58 _), Lib.hid (by have := HL2.out; simpa using this)⟩
  case rest =>
    obtain ⟨HG, HT2, HL3⟩ := hcut
    clear HX HT HL2 u57 u58 q57 q58 q58b u58b lb
    have HX := HG
    clear HG
    go_upto_region 2 with fail
    refine wp_region_lit ?_
    refine wpList_load_mid rfl 29 _ rfl b 0 rfl Cs _ HX.out.rng Try.underlying29 rfl (by rw [size20c, hhl]) ?_
    go_wp2_with fail
    refine (CAR.out _).mono ?_
    rintro e w2 ⟨rfl, hb2⟩
    have HX2 := Lib.hid (HX.out.call hb2)
    have HT3 := Lib.hid (thereS_below HT2.out hb2 HL3.out)
    clear hb2 HX HT2 HL3
    have HX := HX2
    clear HX2
    go_upto_region 3 with fail
    have q55 : w2.cell? ⟨b, 55, none⟩ = some (.int .i64 c.av) := HX.out.at_ 55 _ (HHE.out 55 (by decide))
    have q56 : w2.cell? ⟨b, 56, none⟩ = some (.int .i64 c.bs) := HX.out.at_ 56 _ (HHE.out 56 (by decide))
    have q1 : w2.cell? ⟨b, 1, none⟩ = some (.bool c.b) := HX.out.at_ 1 _ (HHE.out 1 (by decide))
    refine wp_region_lit ?_
    refine wpList_load_mid rfl 29 _ rfl b 0 rfl Cs _ HX.out.rng Try.underlying29 rfl (by rw [size20c, hhl]) ?_
    go_step
    go_step
    rename_i K' hK'
    refine hK' _ _ ?_
    clear hK'
    go_step
    go_step
    rename_i K' hK'
    refine hK' _ _ ?_
    clear hK'
    go_step
    go_step
    rename_i K' hK'
    refine hK' _ _ ?_
    clear hK'
    go_step
    go_step
    rename_i K' hK'
    refine hK' _ _ ?_
    clear hK'
    go_step
    go_step
    rename_i K' hK'
    refine hK' _ _ ?_
    clear hK'
    go_step
    go_step
    rename_i K' hK'
    refine hK' _ _ ?_
    clear hK'
    go_step
    go_step
    rename_i K' hK'
    refine hK' _ _ ?_
    clear hK'
    go_step
    go_step
    rename_i K' hK'
    refine hK' _ _ ?_
    clear hK'
    go_step
    go_step
    rename_i K' hK'
    refine hK' _ _ ?_
    clear hK'
    go_step
    go_step
    rename_i K' hK'
    refine hK' _ _ ?_
    clear hK'
    go_step
    go_step
    rename_i K' hK'
    refine hK' _ _ ?_
    clear hK'
    go_step
    go_step
    rename_i K' hK'
    refine hK' _ _ ?_
    clear hK'
    go_step
    go_step
    rename_i K' hK'
    refine hK' _ _ ?_
    clear hK'
    go_step
    go_step
    rename_i K' hK'
    refine hK' _ _ ?_
    clear hK'
    refine wpList_buildB rfl _ _ _ rfl c (by rw [HCS.out]; kernel_rfl) (by kernel_rfl) (by kernel_rfl) ?_
    rw [HBS.out]
    clear q55 q56 q1
    refine wpList_store_mid rfl 65 _ _ rfl br 0 Bs.toArray (by kernel_rfl) (by kernel_rfl) (by rw [hbz]; exact HT3.out) (by rw [hbz]; exact size20b) (all_oneCell_toArray HBO.out) ?_
    have hrr := World.rangeAt_setCells_same w2 br 0 Bs (by rw [hbl]; exact HT3.out)
    have hbf := belowS_setCells HX.out.bel br HBR.out Bs 0
    have e55 : Bs.toArray.toList = Bs := rfl
    rw [e55]
    generalize w2.setCells br 0 Bs = wf at *
    clear HX HT3 e55
    go_wp2_with fail
    exact bodyPost_ret (resultsB rfl _ _ br Bs hbl (by kernel_rfl) hrr) rfl ⟨rfl, hbf⟩
end Go.Proofs.Ythfabalnioggcaa
