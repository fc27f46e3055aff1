/- Joined texts: SizC8 SizC9 SizCa. -/
import Derived.Test.YthfabalnioggcaaSizCd
namespace Go.Proofs.Ythfabalnioggcaa
open Go.RowKit TreN LexP FixP SynP ValP PropP FixM
set_option linter.unusedVariables false

theorem betw_casesB (w : Int) (o p : Option Int) : betw w o p = (let m := if o.isSome = true then min (H w) (o.getD 0) else H w; if p.isSome = true then max m (p.getD 0) else m) := by
  unfold betw
  cases o <;> cases p <;> simp
set_option maxRecDepth 100000 in
set_option maxHeartbeats 2000000 in
theorem betweenW_any (c : Cz) (n lk ln mk mn : Int) (w : World) : Calls Try.prog 57 #[.agg (boxL c).toArray, .int .i64 n, .agg #[.int .i64 lk, .int .i64 ln], .agg #[.int .i64 mk, .int .i64 mn], .func (.func 42) #[] #[]] w fun e w' => e = .returned (.int .i64 (betw n (c.says mk mn) (c.says lk ln))) ∧ Below w.heap.size w w' := by
  have HAL := Lib.hid (boxL_len c)
  have HCE := Lib.hid (fun i h => boxL_at c i h)
  have hx := Bx.new w (boxL c) 65
  have CS := Lib.hid (fun k n W => saysWB_any c k n W)
  generalize boxL c = As at *
  have hal := HAL.out
  obtain ⟨o, ho⟩ : ∃ o, c.says mk mn = o := ⟨_, rfl⟩
  obtain ⟨p, hp⟩ : ∃ p, c.says lk ln = p := ⟨_, rfl⟩
  have CO := Lib.hid (fun W => CS.out mk mn W)
  have CP := Lib.hid (fun W => CS.out lk ln W)
  rw [ho] at CO ⊢
  rw [hp] at CP ⊢
  clear CS ho hp
  obtain ⟨y, hy⟩ : ∃ y, H n = y := ⟨_, rfl⟩
  rw [betw_casesB, hy]
  have CH := Lib.hid (fun W => Hold_any n W)
  rw [hy] at CH
  clear hy
  obtain ⟨ov, hov⟩ : ∃ x, o.getD 0 = x := ⟨_, rfl⟩
  obtain ⟨ob, hob⟩ : ∃ x, o.isSome = x := ⟨_, rfl⟩
  obtain ⟨pv, hpv⟩ : ∃ x, p.getD 0 = x := ⟨_, rfl⟩
  obtain ⟨pb, hpb⟩ : ∃ x, p.isSome = x := ⟨_, rfl⟩
  rw [hov, hob] at CO ⊢
  rw [hpv, hpb] at CP ⊢
  clear hov hob hpv hpb
  have hm := fun (W : World) (ts : Array TypeId) (t : TypeId) (x y : Int) => run_imax20 (P := Try.prog) W ts t x y
  have hn := fun (W : World) (ts : Array TypeId) (t : TypeId) (x y : Int) => run_imin20 (P := Try.prog) W ts t x y
  cases ob
  · simp only [Bool.false_eq_true, if_false]
    cases pb
    · simp only [Bool.false_eq_true, if_false]
      have hs1 : (w.alloc (.cells As.toArray 65)).heap.size = w.heap.size + 1 := by simp
      have hs2 : ((w.alloc (.cells As.toArray 65)).alloc (.cells #[.int .i64 lk, .int .i64 ln] 23)).heap.size = w.heap.size + 1 + 1 := by simp
      have hb1 := below_one7h (w.alloc (.cells As.toArray 65)) (.cells #[.int .i64 lk, .int .i64 ln] 23)
      have hb2 := below_one7h ((w.alloc (.cells As.toArray 65)).alloc (.cells #[.int .i64 lk, .int .i64 ln] 23)) (.cells #[.int .i64 mk, .int .i64 mn] 23)
      have hz := (hb2.block (w.alloc (.cells As.toArray 65)).heap.size (by omega)).trans (heap_alloc_new (w.alloc (.cells As.toArray 65)) (.cells #[.int .i64 lk, .int .i64 ln] 23))
      have hy := heap_alloc_new ((w.alloc (.cells As.toArray 65)).alloc (.cells #[.int .i64 lk, .int .i64 ln] 23)) (.cells #[.int .i64 mk, .int .i64 mn] 23)
      rw [hs1] at hz
      rw [hs2] at hy
      have hx := (hx.call hb1).call hb2
      clear hb1 hb2 hs1 hs2
      go_enter Try.func57, Try.ntmps57
      go_upto_region 1 with fail
      obtain ⟨W1, hW⟩ : ∃ W, (((w.alloc (.cells As.toArray 65)).alloc (.cells #[.int .i64 lk, .int .i64 ln] 23)).alloc (.cells #[.int .i64 mk, .int .i64 mn] 23)) = W := ⟨_, rfl⟩
      rw [hW] at hx hz hy ⊢
      clear hW
      obtain ⟨by_, hby⟩ : ∃ x, w.heap.size + 1 + 1 = x := ⟨_, rfl⟩
      obtain ⟨bz, hbz⟩ : ∃ x, w.heap.size + 1 = x := ⟨_, rfl⟩
      obtain ⟨b, hb⟩ : ∃ b, w.heap.size = b := ⟨_, rfl⟩
      rw [hby] at hy
      rw [hbz] at hz
      rw [hb] at hx
      rw [hby, hbz, hb]
      have HX := Lib.hid hx
      have HZ := Lib.hid hz
      have HY := Lib.hid hy
      clear hx hz hy hby hbz
      go_wp2_with fail
      refine (CH.out _).mono ?_
      rintro e wq ⟨rfl, rfl⟩
      go_upto_region 2 with fail
      refine wp_region_lit ?_
      go_step
      go_step
      rename_i K' hK'
      refine hK' _ _ ?_
      clear hK'
      refine wpList_load_mid rfl 65 _ rfl b 0 rfl As _ HX.out.rng Try.underlying65 rfl (by rw [size20b, HAL.out]) ?_
      have y0 := cell_of (k := 0) HY.out rfl
      have y1 := cell_of (k := 1) HY.out rfl
      go_wp2_with fail
      refine (CO.out _).mono ?_
      rintro e w2 ⟨rfl, hb2⟩
      have HX2 := Lib.hid (HX.out.call hb2)
      have HZ2 := Lib.hid ((hb2.block bz (Array.getElem?_eq_some_iff.1 HZ.out).1).trans HZ.out)
      clear hb2 HX HZ HY y0 y1
      have HX := HX2
      have HZ := HZ2
      clear HX2 HZ2
      go_upto_region 5 with fail
      refine wp_region_lit ?_
      go_step
      go_step
      rename_i K' hK'
      refine hK' _ _ ?_
      clear hK'
      refine wpList_load_mid rfl 65 _ rfl b 0 rfl As _ HX.out.rng Try.underlying65 rfl (by rw [size20b, HAL.out]) ?_
      have y0 := cell_of (k := 0) HZ.out rfl
      have y1 := cell_of (k := 1) HZ.out rfl
      go_wp2_with fail
      refine (CP.out _).mono ?_
      rintro e w3 ⟨rfl, hb2⟩
      have HX2 := Lib.hid (HX.out.call hb2)
      clear hb2 HX HZ y0 y1
      have HX := HX2
      clear HX2
      go_wp2_with fail
      go_ret
      exact ⟨rfl, hb ▸ HX.out.bel⟩
    · simp only [if_true]
      have hs1 : (w.alloc (.cells As.toArray 65)).heap.size = w.heap.size + 1 := by simp
      have hs2 : ((w.alloc (.cells As.toArray 65)).alloc (.cells #[.int .i64 lk, .int .i64 ln] 23)).heap.size = w.heap.size + 1 + 1 := by simp
      have hb1 := below_one7h (w.alloc (.cells As.toArray 65)) (.cells #[.int .i64 lk, .int .i64 ln] 23)
      have hb2 := below_one7h ((w.alloc (.cells As.toArray 65)).alloc (.cells #[.int .i64 lk, .int .i64 ln] 23)) (.cells #[.int .i64 mk, .int .i64 mn] 23)
      have hz := (hb2.block (w.alloc (.cells As.toArray 65)).heap.size (by omega)).trans (heap_alloc_new (w.alloc (.cells As.toArray 65)) (.cells #[.int .i64 lk, .int .i64 ln] 23))
      have hy := heap_alloc_new ((w.alloc (.cells As.toArray 65)).alloc (.cells #[.int .i64 lk, .int .i64 ln] 23)) (.cells #[.int .i64 mk, .int .i64 mn] 23)
      rw [hs1] at hz
      rw [hs2] at hy
      have hx := (hx.call hb1).call hb2
      clear hb1 hb2 hs1 hs2
      go_enter Try.func57, Try.ntmps57
      go_upto_region 1 with fail
      obtain ⟨W1, hW⟩ : ∃ W, (((w.alloc (.cells As.toArray 65)).alloc (.cells #[.int .i64 lk, .int .i64 ln] 23)).alloc (.cells #[.int .i64 mk, .int .i64 mn] 23)) = W := ⟨_, rfl⟩
      rw [hW] at hx hz hy ⊢
      clear hW
      obtain ⟨by_, hby⟩ : ∃ x, w.heap.size + 1 + 1 = x := ⟨_, rfl⟩
      obtain ⟨bz, hbz⟩ : ∃ x, w.heap.size + 1 = x := ⟨_, rfl⟩
      obtain ⟨b, hb⟩ : ∃ b, w.heap.size = b := ⟨_, rfl⟩
      rw [hby] at hy
      rw [hbz] at hz
      rw [hb] at hx
      rw [hby, hbz, hb]
      have HX := Lib.hid hx
      have HZ := Lib.hid hz
      have HY := Lib.hid hy
      clear hx hz hy hby hbz
      go_wp2_with fail
      refine (CH.out _).mono ?_
      rintro e wq ⟨rfl, rfl⟩
      go_upto_region 2 with fail
      refine wp_region_lit ?_
      go_step
      go_step
      rename_i K' hK'
      refine hK' _ _ ?_
      clear hK'
      refine wpList_load_mid rfl 65 _ rfl b 0 rfl As _ HX.out.rng Try.underlying65 rfl (by rw [size20b, HAL.out]) ?_
      have y0 := cell_of (k := 0) HY.out rfl
      have y1 := cell_of (k := 1) HY.out rfl
      go_wp2_with fail
      refine (CO.out _).mono ?_
      rintro e w2 ⟨rfl, hb2⟩
      have HX2 := Lib.hid (HX.out.call hb2)
      have HZ2 := Lib.hid ((hb2.block bz (Array.getElem?_eq_some_iff.1 HZ.out).1).trans HZ.out)
      clear hb2 HX HZ HY y0 y1
      have HX := HX2
      have HZ := HZ2
      clear HX2 HZ2
      go_upto_region 5 with fail
      refine wp_region_lit ?_
      go_step
      go_step
      rename_i K' hK'
      refine hK' _ _ ?_
      clear hK'
      refine wpList_load_mid rfl 65 _ rfl b 0 rfl As _ HX.out.rng Try.underlying65 rfl (by rw [size20b, HAL.out]) ?_
      have y0 := cell_of (k := 0) HZ.out rfl
      have y1 := cell_of (k := 1) HZ.out rfl
      go_wp2_with fail
      refine (CP.out _).mono ?_
      rintro e w3 ⟨rfl, hb2⟩
      have HX2 := Lib.hid (HX.out.call hb2)
      clear hb2 HX HZ y0 y1
      have HX := HX2
      clear HX2
      go_wp2_with fail
      go_ret
      exact ⟨rfl, hb ▸ HX.out.bel⟩
  · simp only [if_true]
    cases pb
    · simp only [Bool.false_eq_true, if_false]
      have hs1 : (w.alloc (.cells As.toArray 65)).heap.size = w.heap.size + 1 := by simp
      have hs2 : ((w.alloc (.cells As.toArray 65)).alloc (.cells #[.int .i64 lk, .int .i64 ln] 23)).heap.size = w.heap.size + 1 + 1 := by simp
      have hb1 := below_one7h (w.alloc (.cells As.toArray 65)) (.cells #[.int .i64 lk, .int .i64 ln] 23)
      have hb2 := below_one7h ((w.alloc (.cells As.toArray 65)).alloc (.cells #[.int .i64 lk, .int .i64 ln] 23)) (.cells #[.int .i64 mk, .int .i64 mn] 23)
      have hz := (hb2.block (w.alloc (.cells As.toArray 65)).heap.size (by omega)).trans (heap_alloc_new (w.alloc (.cells As.toArray 65)) (.cells #[.int .i64 lk, .int .i64 ln] 23))
      have hy := heap_alloc_new ((w.alloc (.cells As.toArray 65)).alloc (.cells #[.int .i64 lk, .int .i64 ln] 23)) (.cells #[.int .i64 mk, .int .i64 mn] 23)
      rw [hs1] at hz
      rw [hs2] at hy
      have hx := (hx.call hb1).call hb2
      clear hb1 hb2 hs1 hs2
      go_enter Try.func57, Try.ntmps57
      go_upto_region 1 with fail
      obtain ⟨W1, hW⟩ : ∃ W, (((w.alloc (.cells As.toArray 65)).alloc (.cells #[.int .i64 lk, .int .i64 ln] 23)).alloc (.cells #[.int .i64 mk, .int .i64 mn] 23)) = W := ⟨_, rfl⟩
      rw [hW] at hx hz hy ⊢
      clear hW
      obtain ⟨by_, hby⟩ : ∃ x, w.heap.size + 1 + 1 = x := ⟨_, rfl⟩
      obtain ⟨bz, hbz⟩ : ∃ x, w.heap.size + 1 = x := ⟨_, rfl⟩
      obtain ⟨b, hb⟩ : ∃ b, w.heap.size = b := ⟨_, rfl⟩
      rw [hby] at hy
      rw [hbz] at hz
      rw [hb] at hx
      rw [hby, hbz, hb]
      have HX := Lib.hid hx
      have HZ := Lib.hid hz
      have HY := Lib.hid hy
      clear hx hz hy hby hbz
      go_wp2_with fail
      refine (CH.out _).mono ?_
      rintro e wq ⟨rfl, rfl⟩
      go_upto_region 2 with fail
      refine wp_region_lit ?_
      go_step
      go_step
      rename_i K' hK'
      refine hK' _ _ ?_
      clear hK'
      refine wpList_load_mid rfl 65 _ rfl b 0 rfl As _ HX.out.rng Try.underlying65 rfl (by rw [size20b, HAL.out]) ?_
      have y0 := cell_of (k := 0) HY.out rfl
      have y1 := cell_of (k := 1) HY.out rfl
      go_wp2_with fail
      refine (CO.out _).mono ?_
      rintro e w2 ⟨rfl, hb2⟩
      have HX2 := Lib.hid (HX.out.call hb2)
      have HZ2 := Lib.hid ((hb2.block bz (Array.getElem?_eq_some_iff.1 HZ.out).1).trans HZ.out)
      clear hb2 HX HZ HY y0 y1
      have HX := HX2
      have HZ := HZ2
      clear HX2 HZ2
      go_upto_region 5 with fail
      refine wp_region_lit ?_
      go_step
      go_step
      rename_i K' hK'
      refine hK' _ _ ?_
      clear hK'
      refine wpList_load_mid rfl 65 _ rfl b 0 rfl As _ HX.out.rng Try.underlying65 rfl (by rw [size20b, HAL.out]) ?_
      have y0 := cell_of (k := 0) HZ.out rfl
      have y1 := cell_of (k := 1) HZ.out rfl
      go_wp2_with fail
      refine (CP.out _).mono ?_
      rintro e w3 ⟨rfl, hb2⟩
      have HX2 := Lib.hid (HX.out.call hb2)
      clear hb2 HX HZ y0 y1
      have HX := HX2
      clear HX2
      go_wp2_with fail
      go_ret
      exact ⟨rfl, hb ▸ HX.out.bel⟩
    · simp only [if_true]
      have hs1 : (w.alloc (.cells As.toArray 65)).heap.size = w.heap.size + 1 := by simp
      have hs2 : ((w.alloc (.cells As.toArray 65)).alloc (.cells #[.int .i64 lk, .int .i64 ln] 23)).heap.size = w.heap.size + 1 + 1 := by simp
      have hb1 := below_one7h (w.alloc (.cells As.toArray 65)) (.cells #[.int .i64 lk, .int .i64 ln] 23)
      have hb2 := below_one7h ((w.alloc (.cells As.toArray 65)).alloc (.cells #[.int .i64 lk, .int .i64 ln] 23)) (.cells #[.int .i64 mk, .int .i64 mn] 23)
      have hz := (hb2.block (w.alloc (.cells As.toArray 65)).heap.size (by omega)).trans (heap_alloc_new (w.alloc (.cells As.toArray 65)) (.cells #[.int .i64 lk, .int .i64 ln] 23))
      have hy := heap_alloc_new ((w.alloc (.cells As.toArray 65)).alloc (.cells #[.int .i64 lk, .int .i64 ln] 23)) (.cells #[.int .i64 mk, .int .i64 mn] 23)
      rw [hs1] at hz
      rw [hs2] at hy
      have hx := (hx.call hb1).call hb2
      clear hb1 hb2 hs1 hs2
      go_enter Try.func57, Try.ntmps57
      go_upto_region 1 with fail
      obtain ⟨W1, hW⟩ : ∃ W, (((w.alloc (.cells As.toArray 65)).alloc (.cells #[.int .i64 lk, .int .i64 ln] 23)).alloc (.cells #[.int .i64 mk, .int .i64 mn] 23)) = W := ⟨_, rfl⟩
      rw [hW] at hx hz hy ⊢
      clear hW
      obtain ⟨by_, hby⟩ : ∃ x, w.heap.size + 1 + 1 = x := ⟨_, rfl⟩
      obtain ⟨bz, hbz⟩ : ∃ x, w.heap.size + 1 = x := ⟨_, rfl⟩
      obtain ⟨b, hb⟩ : ∃ b, w.heap.size = b := ⟨_, rfl⟩
      rw [hby] at hy
      rw [hbz] at hz
      rw [hb] at hx
      rw [hby, hbz, hb]
      have HX := Lib.hid hx
      have HZ := Lib.hid hz
      have HY := Lib.hid hy
      clear hx hz hy hby hbz
      go_wp2_with fail
      refine (CH.out _).mono ?_
      rintro e wq ⟨rfl, rfl⟩
      go_upto_region 2 with fail
      refine wp_region_lit ?_
      go_step
      go_step
      rename_i K' hK'
      refine hK' _ _ ?_
      clear hK'
      refine wpList_load_mid rfl 65 _ rfl b 0 rfl As _ HX.out.rng Try.underlying65 rfl (by rw [size20b, HAL.out]) ?_
      have y0 := cell_of (k := 0) HY.out rfl
      have y1 := cell_of (k := 1) HY.out rfl
      go_wp2_with fail
      refine (CO.out _).mono ?_
      rintro e w2 ⟨rfl, hb2⟩
      have HX2 := Lib.hid (HX.out.call hb2)
      have HZ2 := Lib.hid ((hb2.block bz (Array.getElem?_eq_some_iff.1 HZ.out).1).trans HZ.out)
      clear hb2 HX HZ HY y0 y1
      have HX := HX2
      have HZ := HZ2
      clear HX2 HZ2
      go_upto_region 5 with fail
      refine wp_region_lit ?_
      go_step
      go_step
      rename_i K' hK'
      refine hK' _ _ ?_
      clear hK'
      refine wpList_load_mid rfl 65 _ rfl b 0 rfl As _ HX.out.rng Try.underlying65 rfl (by rw [size20b, HAL.out]) ?_
      have y0 := cell_of (k := 0) HZ.out rfl
      have y1 := cell_of (k := 1) HZ.out rfl
      go_wp2_with fail
      refine (CP.out _).mono ?_
      rintro e w3 ⟨rfl, hb2⟩
      have HX2 := Lib.hid (HX.out.call hb2)
      clear hb2 HX HZ y0 y1
      have HX := HX2
      clear HX2
      go_wp2_with fail
      go_ret
      exact ⟨rfl, hb ▸ HX.out.bel⟩
set_option maxRecDepth 100000 in
set_option maxHeartbeats 2000000 in
theorem betweenH_any (c : Cz) (n lk ln mk mn : Int) (w : World) : Calls Try.prog 57 #[.agg (boxL c).toArray, .int .i64 n, .agg #[.int .i64 lk, .int .i64 ln], .agg #[.int .i64 mk, .int .i64 mn], .func (.func 45) #[] #[]] w fun e w' => e = .returned (.int .i64 (betw n (c.saysH mk mn) (c.saysH lk ln))) ∧ Below w.heap.size w w' := by
  have HAL := Lib.hid (boxL_len c)
  have HCE := Lib.hid (fun i h => boxL_at c i h)
  have hx := Bx.new w (boxL c) 65
  have CS := Lib.hid (fun k n W => saysHB_any c k n W)
  generalize boxL c = As at *
  have hal := HAL.out
  obtain ⟨o, ho⟩ : ∃ o, c.saysH mk mn = o := ⟨_, rfl⟩
  obtain ⟨p, hp⟩ : ∃ p, c.saysH lk ln = p := ⟨_, rfl⟩
  have CO := Lib.hid (fun W => CS.out mk mn W)
  have CP := Lib.hid (fun W => CS.out lk ln W)
  rw [ho] at CO ⊢
  rw [hp] at CP ⊢
  clear CS ho hp
  obtain ⟨y, hy⟩ : ∃ y, H n = y := ⟨_, rfl⟩
  rw [betw_casesB, hy]
  have CH := Lib.hid (fun W => Hold_any n W)
  rw [hy] at CH
  clear hy
  obtain ⟨ov, hov⟩ : ∃ x, o.getD 0 = x := ⟨_, rfl⟩
  obtain ⟨ob, hob⟩ : ∃ x, o.isSome = x := ⟨_, rfl⟩
  obtain ⟨pv, hpv⟩ : ∃ x, p.getD 0 = x := ⟨_, rfl⟩
  obtain ⟨pb, hpb⟩ : ∃ x, p.isSome = x := ⟨_, rfl⟩
  rw [hov, hob] at CO ⊢
  rw [hpv, hpb] at CP ⊢
  clear hov hob hpv hpb
  have hm := fun (W : World) (ts : Array TypeId) (t : TypeId) (x y : Int) => run_imax20 (P := Try.prog) W ts t x y
  have hn := fun (W : World) (ts : Array TypeId) (t : TypeId) (x y : Int) => run_imin20 (P := Try.prog) W ts t x y
  cases ob
  · simp only [Bool.false_eq_true, if_false]
    cases pb
    · simp only [Bool.false_eq_true, if_false]
      have hs1 : (w.alloc (.cells As.toArray 65)).heap.size = w.heap.size + 1 := by simp
      have hs2 : ((w.alloc (.cells As.toArray 65)).alloc (.cells #[.int .i64 lk, .int .i64 ln] 23)).heap.size = w.heap.size + 1 + 1 := by simp
      have hb1 := below_one7h (w.alloc (.cells As.toArray 65)) (.cells #[.int .i64 lk, .int .i64 ln] 23)
      have hb2 := below_one7h ((w.alloc (.cells As.toArray 65)).alloc (.cells #[.int .i64 lk, .int .i64 ln] 23)) (.cells #[.int .i64 mk, .int .i64 mn] 23)
      have hz := (hb2.block (w.alloc (.cells As.toArray 65)).heap.size (by omega)).trans (heap_alloc_new (w.alloc (.cells As.toArray 65)) (.cells #[.int .i64 lk, .int .i64 ln] 23))
      have hy := heap_alloc_new ((w.alloc (.cells As.toArray 65)).alloc (.cells #[.int .i64 lk, .int .i64 ln] 23)) (.cells #[.int .i64 mk, .int .i64 mn] 23)
      rw [hs1] at hz
      rw [hs2] at hy
      have hx := (hx.call hb1).call hb2
      clear hb1 hb2 hs1 hs2
      go_enter Try.func57, Try.ntmps57
      go_upto_region 1 with fail
      obtain ⟨W1, hW⟩ : ∃ W, (((w.alloc (.cells As.toArray 65)).alloc (.cells #[.int .i64 lk, .int .i64 ln] 23)).alloc (.cells #[.int .i64 mk, .int .i64 mn] 23)) = W := ⟨_, rfl⟩
      rw [hW] at hx hz hy ⊢
      clear hW
      obtain ⟨by_, hby⟩ : ∃ x, w.heap.size + 1 + 1 = x := ⟨_, rfl⟩
      obtain ⟨bz, hbz⟩ : ∃ x, w.heap.size + 1 = x := ⟨_, rfl⟩
      obtain ⟨b, hb⟩ : ∃ b, w.heap.size = b := ⟨_, rfl⟩
      rw [hby] at hy
      rw [hbz] at hz
      rw [hb] at hx
      rw [hby, hbz, hb]
      have HX := Lib.hid hx
      have HZ := Lib.hid hz
      have HY := Lib.hid hy
      clear hx hz hy hby hbz
      go_wp2_with fail
      refine (CH.out _).mono ?_
      rintro e wq ⟨rfl, rfl⟩
      go_upto_region 2 with fail
      refine wp_region_lit ?_
      go_step
      go_step
      rename_i K' hK'
      refine hK' _ _ ?_
      clear hK'
      refine wpList_load_mid rfl 65 _ rfl b 0 rfl As _ HX.out.rng Try.underlying65 rfl (by rw [size20b, HAL.out]) ?_
      have y0 := cell_of (k := 0) HY.out rfl
      have y1 := cell_of (k := 1) HY.out rfl
      go_wp2_with fail
      refine (CO.out _).mono ?_
      rintro e w2 ⟨rfl, hb2⟩
      have HX2 := Lib.hid (HX.out.call hb2)
      have HZ2 := Lib.hid ((hb2.block bz (Array.getElem?_eq_some_iff.1 HZ.out).1).trans HZ.out)
      clear hb2 HX HZ HY y0 y1
      have HX := HX2
      have HZ := HZ2
      clear HX2 HZ2
      go_upto_region 5 with fail
      refine wp_region_lit ?_
      go_step
      go_step
      rename_i K' hK'
      refine hK' _ _ ?_
      clear hK'
      refine wpList_load_mid rfl 65 _ rfl b 0 rfl As _ HX.out.rng Try.underlying65 rfl (by rw [size20b, HAL.out]) ?_
      have y0 := cell_of (k := 0) HZ.out rfl
      have y1 := cell_of (k := 1) HZ.out rfl
      go_wp2_with fail
      refine (CP.out _).mono ?_
      rintro e w3 ⟨rfl, hb2⟩
      have HX2 := Lib.hid (HX.out.call hb2)
      clear hb2 HX HZ y0 y1
      have HX := HX2
      clear HX2
      go_wp2_with fail
      go_ret
      exact ⟨rfl, hb ▸ HX.out.bel⟩
    · simp only [if_true]
      have hs1 : (w.alloc (.cells As.toArray 65)).heap.size = w.heap.size + 1 := by simp
      have hs2 : ((w.alloc (.cells As.toArray 65)).alloc (.cells #[.int .i64 lk, .int .i64 ln] 23)).heap.size = w.heap.size + 1 + 1 := by simp
      have hb1 := below_one7h (w.alloc (.cells As.toArray 65)) (.cells #[.int .i64 lk, .int .i64 ln] 23)
      have hb2 := below_one7h ((w.alloc (.cells As.toArray 65)).alloc (.cells #[.int .i64 lk, .int .i64 ln] 23)) (.cells #[.int .i64 mk, .int .i64 mn] 23)
      have hz := (hb2.block (w.alloc (.cells As.toArray 65)).heap.size (by omega)).trans (heap_alloc_new (w.alloc (.cells As.toArray 65)) (.cells #[.int .i64 lk, .int .i64 ln] 23))
      have hy := heap_alloc_new ((w.alloc (.cells As.toArray 65)).alloc (.cells #[.int .i64 lk, .int .i64 ln] 23)) (.cells #[.int .i64 mk, .int .i64 mn] 23)
      rw [hs1] at hz
      rw [hs2] at hy
      have hx := (hx.call hb1).call hb2
      clear hb1 hb2 hs1 hs2
      go_enter Try.func57, Try.ntmps57
      go_upto_region 1 with fail
      obtain ⟨W1, hW⟩ : ∃ W, (((w.alloc (.cells As.toArray 65)).alloc (.cells #[.int .i64 lk, .int .i64 ln] 23)).alloc (.cells #[.int .i64 mk, .int .i64 mn] 23)) = W := ⟨_, rfl⟩
      rw [hW] at hx hz hy ⊢
      clear hW
      obtain ⟨by_, hby⟩ : ∃ x, w.heap.size + 1 + 1 = x := ⟨_, rfl⟩
      obtain ⟨bz, hbz⟩ : ∃ x, w.heap.size + 1 = x := ⟨_, rfl⟩
      obtain ⟨b, hb⟩ : ∃ b, w.heap.size = b := ⟨_, rfl⟩
      rw [hby] at hy
      rw [hbz] at hz
      rw [hb] at hx
      rw [hby, hbz, hb]
      have HX := Lib.hid hx
      have HZ := Lib.hid hz
      have HY := Lib.hid hy
      clear hx hz hy hby hbz
      go_wp2_with fail
      refine (CH.out _).mono ?_
      rintro e wq ⟨rfl, rfl⟩
      go_upto_region 2 with fail
      refine wp_region_lit ?_
      go_step
      go_step
      rename_i K' hK'
      refine hK' _ _ ?_
      clear hK'
      refine wpList_load_mid rfl 65 _ rfl b 0 rfl As _ HX.out.rng Try.underlying65 rfl (by rw [size20b, HAL.out]) ?_
      have y0 := cell_of (k := 0) HY.out rfl
      have y1 := cell_of (k := 1) HY.out rfl
      go_wp2_with fail
      refine (CO.out _).mono ?_
      rintro e w2 ⟨rfl, hb2⟩
      have HX2 := Lib.hid (HX.out.call hb2)
      have HZ2 := Lib.hid ((hb2.block bz (Array.getElem?_eq_some_iff.1 HZ.out).1).trans HZ.out)
      clear hb2 HX HZ HY y0 y1
      have HX := HX2
      have HZ := HZ2
      clear HX2 HZ2
      go_upto_region 5 with fail
      refine wp_region_lit ?_
      go_step
      go_step
      rename_i K' hK'
      refine hK' _ _ ?_
      clear hK'
      refine wpList_load_mid rfl 65 _ rfl b 0 rfl As _ HX.out.rng Try.underlying65 rfl (by rw [size20b, HAL.out]) ?_
      have y0 := cell_of (k := 0) HZ.out rfl
      have y1 := cell_of (k := 1) HZ.out rfl
      go_wp2_with fail
      refine (CP.out _).mono ?_
      rintro e w3 ⟨rfl, hb2⟩
      have HX2 := Lib.hid (HX.out.call hb2)
      clear hb2 HX HZ y0 y1
      have HX := HX2
      clear HX2
      go_wp2_with fail
      go_ret
      exact ⟨rfl, hb ▸ HX.out.bel⟩
  · simp only [if_true]
    cases pb
    · simp only [Bool.false_eq_true, if_false]
      have hs1 : (w.alloc (.cells As.toArray 65)).heap.size = w.heap.size + 1 := by simp
      have hs2 : ((w.alloc (.cells As.toArray 65)).alloc (.cells #[.int .i64 lk, .int .i64 ln] 23)).heap.size = w.heap.size + 1 + 1 := by simp
      have hb1 := below_one7h (w.alloc (.cells As.toArray 65)) (.cells #[.int .i64 lk, .int .i64 ln] 23)
      have hb2 := below_one7h ((w.alloc (.cells As.toArray 65)).alloc (.cells #[.int .i64 lk, .int .i64 ln] 23)) (.cells #[.int .i64 mk, .int .i64 mn] 23)
      have hz := (hb2.block (w.alloc (.cells As.toArray 65)).heap.size (by omega)).trans (heap_alloc_new (w.alloc (.cells As.toArray 65)) (.cells #[.int .i64 lk, .int .i64 ln] 23))
      have hy := heap_alloc_new ((w.alloc (.cells As.toArray 65)).alloc (.cells #[.int .i64 lk, .int .i64 ln] 23)) (.cells #[.int .i64 mk, .int .i64 mn] 23)
      rw [hs1] at hz
      rw [hs2] at hy
      have hx := (hx.call hb1).call hb2
      clear hb1 hb2 hs1 hs2
      go_enter Try.func57, Try.ntmps57
      go_upto_region 1 with fail
      obtain ⟨W1, hW⟩ : ∃ W, (((w.alloc (.cells As.toArray 65)).alloc (.cells #[.int .i64 lk, .int .i64 ln] 23)).alloc (.cells #[.int .i64 mk, .int .i64 mn] 23)) = W := ⟨_, rfl⟩
      rw [hW] at hx hz hy ⊢
      clear hW
      obtain ⟨by_, hby⟩ : ∃ x, w.heap.size + 1 + 1 = x := ⟨_, rfl⟩
      obtain ⟨bz, hbz⟩ : ∃ x, w.heap.size + 1 = x := ⟨_, rfl⟩
      obtain ⟨b, hb⟩ : ∃ b, w.heap.size = b := ⟨_, rfl⟩
      rw [hby] at hy
      rw [hbz] at hz
      rw [hb] at hx
      rw [hby, hbz, hb]
      have HX := Lib.hid hx
      have HZ := Lib.hid hz
      have HY := Lib.hid hy
      clear hx hz hy hby hbz
      go_wp2_with fail
      refine (CH.out _).mono ?_
      rintro e wq ⟨rfl, rfl⟩
      go_upto_region 2 with fail
      refine wp_region_lit ?_
      go_step
      go_step
      rename_i K' hK'
      refine hK' _ _ ?_
      clear hK'
      refine wpList_load_mid rfl 65 _ rfl b 0 rfl As _ HX.out.rng Try.underlying65 rfl (by rw [size20b, HAL.out]) ?_
      have y0 := cell_of (k := 0) HY.out rfl
      have y1 := cell_of (k := 1) HY.out rfl
      go_wp2_with fail
      refine (CO.out _).mono ?_
      rintro e w2 ⟨rfl, hb2⟩
      have HX2 := Lib.hid (HX.out.call hb2)
      have HZ2 := Lib.hid ((hb2.block bz (Array.getElem?_eq_some_iff.1 HZ.out).1).trans HZ.out)
      clear hb2 HX HZ HY y0 y1
      have HX := HX2
      have HZ := HZ2
      clear HX2 HZ2
      go_upto_region 5 with fail
      refine wp_region_lit ?_
      go_step
      go_step
      rename_i K' hK'
      refine hK' _ _ ?_
      clear hK'
      refine wpList_load_mid rfl 65 _ rfl b 0 rfl As _ HX.out.rng Try.underlying65 rfl (by rw [size20b, HAL.out]) ?_
      have y0 := cell_of (k := 0) HZ.out rfl
      have y1 := cell_of (k := 1) HZ.out rfl
      go_wp2_with fail
      refine (CP.out _).mono ?_
      rintro e w3 ⟨rfl, hb2⟩
      have HX2 := Lib.hid (HX.out.call hb2)
      clear hb2 HX HZ y0 y1
      have HX := HX2
      clear HX2
      go_wp2_with fail
      go_ret
      exact ⟨rfl, hb ▸ HX.out.bel⟩
    · simp only [if_true]
      have hs1 : (w.alloc (.cells As.toArray 65)).heap.size = w.heap.size + 1 := by simp
      have hs2 : ((w.alloc (.cells As.toArray 65)).alloc (.cells #[.int .i64 lk, .int .i64 ln] 23)).heap.size = w.heap.size + 1 + 1 := by simp
      have hb1 := below_one7h (w.alloc (.cells As.toArray 65)) (.cells #[.int .i64 lk, .int .i64 ln] 23)
      have hb2 := below_one7h ((w.alloc (.cells As.toArray 65)).alloc (.cells #[.int .i64 lk, .int .i64 ln] 23)) (.cells #[.int .i64 mk, .int .i64 mn] 23)
      have hz := (hb2.block (w.alloc (.cells As.toArray 65)).heap.size (by omega)).trans (heap_alloc_new (w.alloc (.cells As.toArray 65)) (.cells #[.int .i64 lk, .int .i64 ln] 23))
      have hy := heap_alloc_new ((w.alloc (.cells As.toArray 65)).alloc (.cells #[.int .i64 lk, .int .i64 ln] 23)) (.cells #[.int .i64 mk, .int .i64 mn] 23)
      rw [hs1] at hz
      rw [hs2] at hy
      have hx := (hx.call hb1).call hb2
      clear hb1 hb2 hs1 hs2
      go_enter Try.func57, Try.ntmps57
      go_upto_region 1 with fail
      obtain ⟨W1, hW⟩ : ∃ W, (((w.alloc (.cells As.toArray 65)).alloc (.cells #[.int .i64 lk, .int .i64 ln] 23)).alloc (.cells #[.int .i64 mk, .int .i64 mn] 23)) = W := ⟨_, rfl⟩
      rw [hW] at hx hz hy ⊢
      clear hW
      obtain ⟨by_, hby⟩ : ∃ x, w.heap.size + 1 + 1 = x := ⟨_, rfl⟩
      obtain ⟨bz, hbz⟩ : ∃ x, w.heap.size + 1 = x := ⟨_, rfl⟩
      obtain ⟨b, hb⟩ : ∃ b, w.heap.size = b := ⟨_, rfl⟩
      rw [hby] at hy
      rw [hbz] at hz
      rw [hb] at hx
      rw [hby, hbz, hb]
      have HX := Lib.hid hx
      have HZ := Lib.hid hz
      have HY := Lib.hid hy
      clear hx hz hy hby hbz
      go_wp2_with fail
      refine (CH.out _).mono ?_
      rintro e wq ⟨rfl, rfl⟩
      go_upto_region 2 with fail
      refine wp_region_lit ?_
      go_step
      go_step
      rename_i K' hK'
      refine hK' _ _ ?_
      clear hK'
      refine wpList_load_mid rfl 65 _ rfl b 0 rfl As _ HX.out.rng Try.underlying65 rfl (by rw [size20b, HAL.out]) ?_
      have y0 := cell_of (k := 0) HY.out rfl
      have y1 := cell_of (k := 1) HY.out rfl
      go_wp2_with fail
      refine (CO.out _).mono ?_
      rintro e w2 ⟨rfl, hb2⟩
      have HX2 := Lib.hid (HX.out.call hb2)
      have HZ2 := Lib.hid ((hb2.block bz (Array.getElem?_eq_some_iff.1 HZ.out).1).trans HZ.out)
      clear hb2 HX HZ HY y0 y1
      have HX := HX2
      have HZ := HZ2
      clear HX2 HZ2
      go_upto_region 5 with fail
      refine wp_region_lit ?_
      go_step
      go_step
      rename_i K' hK'
      refine hK' _ _ ?_
      clear hK'
      refine wpList_load_mid rfl 65 _ rfl b 0 rfl As _ HX.out.rng Try.underlying65 rfl (by rw [size20b, HAL.out]) ?_
      have y0 := cell_of (k := 0) HZ.out rfl
      have y1 := cell_of (k := 1) HZ.out rfl
      go_wp2_with fail
      refine (CP.out _).mono ?_
      rintro e w3 ⟨rfl, hb2⟩
      have HX2 := Lib.hid (HX.out.call hb2)
      clear hb2 HX HZ y0 y1
      have HX := HX2
      clear HX2
      go_wp2_with fail
      go_ret
      exact ⟨rfl, hb ▸ HX.out.bel⟩
end Go.Proofs.Ythfabalnioggcaa

namespace Go.Proofs.Ythfabalnioggcaa
open Go.RowKit TreN LexP FixP SynP ValP PropP FixM
set_option linter.unusedVariables false

set_option maxRecDepth 100000 in
set_option maxHeartbeats 2000000 in
theorem keepWB_any (c : Cz) (n : Int) (w : World) : Calls Try.prog 39 #[.agg (boxL c).toArray, .int .i64 n] w fun e w' => e = .returned (.int .i64 (c.keepW n)) ∧ Below w.heap.size w w' := by
  have HAL := Lib.hid (boxL_len c)
  have HCE := Lib.hid (fun i h => boxL_at c i h)
  have hx := Bx.new w (boxL c) 65
  have CT := Lib.hid (fun n lk ln mk mn W => betweenW_any c n lk ln mk mn W)
  generalize boxL c = As at *
  have hal := HAL.out
  go_enter Try.func39, Try.ntmps39
  go_upto_region 1 with fail
  obtain ⟨W1, hW⟩ : ∃ W, w.alloc (.cells As.toArray 65) = W := ⟨_, rfl⟩
  rw [hW] at hx ⊢
  clear hW
  obtain ⟨b, hb⟩ : ∃ b, w.heap.size = b := ⟨_, rfl⟩
  rw [hb] at hx ⊢
  have HX := Lib.hid hx
  clear hx
  have hS : Below W1.heap.size W1 W1.drew := (Below.refl _ _).drew
  refine wp_region_held_drew (S := fun w' => Below W1.heap.size W1 w') (by kernel_rfl) hS (fun hS => ?_)
  refine wpAnyH_take (i := 0) (v := .pointer (some ⟨b, 59, none⟩)) rfl (by kernel_rfl) (by kernel_rfl) (by kernel_rfl) (fun _ _ _ h => h) (Or.inl ⟨by kernel_rfl, fun w _ => by kernel_rfl⟩) hS ?_
  simp only [Act.put]
  try simp only [List.getElem_toArray]
  try simp only [List.getElem_cons_succ]
  try simp only [List.getElem_cons_zero]
  try simp only [List.setIfInBounds_toArray]
  try simp only [List.set_cons_succ]
  try simp only [List.set_cons_zero]
  refine wpAnyH_take (i := 1) (v := .pointer (some ⟨b, 62, none⟩)) rfl (by kernel_rfl) (by kernel_rfl) (by kernel_rfl) (fun _ _ _ h => h) (Or.inl ⟨by kernel_rfl, fun w _ => by kernel_rfl⟩) hS ?_
  simp only [Act.put]
  try simp only [List.getElem_toArray]
  try simp only [List.getElem_cons_succ]
  try simp only [List.getElem_cons_zero]
  try simp only [List.setIfInBounds_toArray]
  try simp only [List.set_cons_succ]
  try simp only [List.set_cons_zero]
  refine wpAnyH_take (i := 2) (v := .int .i64 c.x) rfl (by kernel_rfl) (by kernel_rfl) (by kernel_rfl) (fun _ _ _ h => h) (yieldsIf_load_one (by kernel_rfl) _ _ rfl b 62 (by kernel_rfl) _ (fun w h => (h.cell (p := ⟨b, 62, none⟩) HX.out.lt).trans (HX.out.at_ 62 _ (HCE.out 62 (by decide)))) (isAgg_int20)) hS ?_
  simp only [Act.put]
  try simp only [List.getElem_toArray]
  try simp only [List.getElem_cons_succ]
  try simp only [List.getElem_cons_zero]
  try simp only [List.setIfInBounds_toArray]
  try simp only [List.set_cons_succ]
  try simp only [List.set_cons_zero]
  refine wpAnyH_take (i := 3) (v := .agg As.toArray) rfl (by kernel_rfl) (by kernel_rfl) (by kernel_rfl) (fun _ _ _ h => h) (yieldsIf_load_mid (by kernel_rfl) _ _ rfl b 0 (by kernel_rfl) As _ (fun w h => rangeS_below HX.out.rng h HX.out.lt) Try.underlying65 rfl (by rw [size20b, HAL.out])) hS ?_
  simp only [Act.put]
  try simp only [List.getElem_toArray]
  try simp only [List.getElem_cons_succ]
  try simp only [List.getElem_cons_zero]
  try simp only [List.setIfInBounds_toArray]
  try simp only [List.set_cons_succ]
  try simp only [List.set_cons_zero]
  refine wpAnyH_take (i := 4) (v := .int .i64 n) rfl (by kernel_rfl) (by kernel_rfl) (by kernel_rfl) (fun _ _ _ h => h) (Or.inl ⟨by kernel_rfl, fun w _ => by kernel_rfl⟩) hS ?_
  simp only [Act.put]
  try simp only [List.getElem_toArray]
  try simp only [List.getElem_cons_succ]
  try simp only [List.getElem_cons_zero]
  try simp only [List.setIfInBounds_toArray]
  try simp only [List.set_cons_succ]
  try simp only [List.set_cons_zero]
  refine wpAnyH_take (i := 5) (v := .pointer (some ⟨b, 0, none⟩)) rfl (by kernel_rfl) (by kernel_rfl) (by kernel_rfl) (fun _ _ _ h => h) (Or.inl ⟨by kernel_rfl, fun w _ => by kernel_rfl⟩) hS ?_
  simp only [Act.put]
  try simp only [List.getElem_toArray]
  try simp only [List.getElem_cons_succ]
  try simp only [List.getElem_cons_zero]
  try simp only [List.setIfInBounds_toArray]
  try simp only [List.set_cons_succ]
  try simp only [List.set_cons_zero]
  refine wpAnyH_take (i := 6) (v := .pointer (some ⟨b, 0, none⟩)) rfl (by kernel_rfl) (by kernel_rfl) (by kernel_rfl) (fun _ _ _ h => h) (Or.inl ⟨by kernel_rfl, fun w _ => by kernel_rfl⟩) hS ?_
  simp only [Act.put]
  try simp only [List.getElem_toArray]
  try simp only [List.getElem_cons_succ]
  try simp only [List.getElem_cons_zero]
  try simp only [List.setIfInBounds_toArray]
  try simp only [List.set_cons_succ]
  try simp only [List.set_cons_zero]
  refine wpAnyH_take (i := 7) (v := .pointer (some ⟨b, 6, none⟩)) rfl (by kernel_rfl) (by kernel_rfl) (by kernel_rfl) (fun _ _ _ h => h) (Or.inl ⟨by kernel_rfl, fun w _ => by kernel_rfl⟩) hS ?_
  simp only [Act.put]
  try simp only [List.getElem_toArray]
  try simp only [List.getElem_cons_succ]
  try simp only [List.getElem_cons_zero]
  try simp only [List.setIfInBounds_toArray]
  try simp only [List.set_cons_succ]
  try simp only [List.set_cons_zero]
  refine wpAnyH_take (i := 8) (v := .agg #[.int .i64 (c.z 6), .int .i64 (c.z 7)]) rfl (by kernel_rfl) (by kernel_rfl) (by kernel_rfl) (fun _ _ _ h => h) (yieldsIf_load_mid (by kernel_rfl) _ _ rfl b 6 (by kernel_rfl) [.int .i64 (c.z 6), .int .i64 (c.z 7)] _ (fun w h => range2_below (HX.out.two 6 _ _ (HCE.out 6 (by decide)) (HCE.out 7 (by decide))) h HX.out.lt) Try.underlying23 rfl (by exact size20z)) hS ?_
  simp only [Act.put]
  try simp only [List.getElem_toArray]
  try simp only [List.getElem_cons_succ]
  try simp only [List.getElem_cons_zero]
  try simp only [List.setIfInBounds_toArray]
  try simp only [List.set_cons_succ]
  try simp only [List.set_cons_zero]
  refine wpAnyH_take (i := 9) (v := .pointer (some ⟨b, 0, none⟩)) rfl (by kernel_rfl) (by kernel_rfl) (by kernel_rfl) (fun _ _ _ h => h) (Or.inl ⟨by kernel_rfl, fun w _ => by kernel_rfl⟩) hS ?_
  simp only [Act.put]
  try simp only [List.getElem_toArray]
  try simp only [List.getElem_cons_succ]
  try simp only [List.getElem_cons_zero]
  try simp only [List.setIfInBounds_toArray]
  try simp only [List.set_cons_succ]
  try simp only [List.set_cons_zero]
  refine wpAnyH_take (i := 10) (v := .pointer (some ⟨b, 0, none⟩)) rfl (by kernel_rfl) (by kernel_rfl) (by kernel_rfl) (fun _ _ _ h => h) (Or.inl ⟨by kernel_rfl, fun w _ => by kernel_rfl⟩) hS ?_
  simp only [Act.put]
  try simp only [List.getElem_toArray]
  try simp only [List.getElem_cons_succ]
  try simp only [List.getElem_cons_zero]
  try simp only [List.setIfInBounds_toArray]
  try simp only [List.set_cons_succ]
  try simp only [List.set_cons_zero]
  refine wpAnyH_take (i := 11) (v := .pointer (some ⟨b, 10, none⟩)) rfl (by kernel_rfl) (by kernel_rfl) (by kernel_rfl) (fun _ _ _ h => h) (Or.inl ⟨by kernel_rfl, fun w _ => by kernel_rfl⟩) hS ?_
  simp only [Act.put]
  try simp only [List.getElem_toArray]
  try simp only [List.getElem_cons_succ]
  try simp only [List.getElem_cons_zero]
  try simp only [List.setIfInBounds_toArray]
  try simp only [List.set_cons_succ]
  try simp only [List.set_cons_zero]
  refine wpAnyH_take (i := 12) (v := .agg #[.int .i64 (c.z 10), .int .i64 (c.z 11)]) rfl (by kernel_rfl) (by kernel_rfl) (by kernel_rfl) (fun _ _ _ h => h) (yieldsIf_load_mid (by kernel_rfl) _ _ rfl b 10 (by kernel_rfl) [.int .i64 (c.z 10), .int .i64 (c.z 11)] _ (fun w h => range2_below (HX.out.two 10 _ _ (HCE.out 10 (by decide)) (HCE.out 11 (by decide))) h HX.out.lt) Try.underlying23 rfl (by exact size20z)) hS ?_
  simp only [Act.put]
  try simp only [List.getElem_toArray]
  try simp only [List.getElem_cons_succ]
  try simp only [List.getElem_cons_zero]
  try simp only [List.setIfInBounds_toArray]
  try simp only [List.set_cons_succ]
  try simp only [List.set_cons_zero]
  refine wpAnyH_ready (rs := [13]) (by kernel_rfl) (by simp) ?_
  refine AllReadyH.cons rfl (fun K hK => ?_) AllReadyH.nil
  go_simp
  refine (CT.out n (c.z 6) (c.z 7) (c.z 10) (c.z 11) _).mono ?_
  rintro e wq1 ⟨rfl, hb⟩
  have hT := hS.trans (hb.mono hS.size)
  clear hb hS
  dsimp only
  refine hK.out _ _ hT (fun hS => ?_)
  clear hK K hT
  refine wpAnyH_take (i := 14) (v := .int .i64 (max c.x (betw n (c.says (c.z 10) (c.z 11)) (c.says (c.z 6) (c.z 7))))) rfl (by kernel_rfl) (by kernel_rfl) (by kernel_rfl) (fun _ _ _ h => h) (Or.inl ⟨by kernel_rfl, fun w _ => (by have hm := fun (W : World) (ts : Array TypeId) (t : TypeId) (x y : Int) => run_imax20 (P := Try.prog) W ts t x y; go_simp)⟩) hS ?_
  simp only [Act.put]
  try simp only [List.getElem_toArray]
  try simp only [List.getElem_cons_succ]
  try simp only [List.getElem_cons_zero]
  try simp only [List.setIfInBounds_toArray]
  try simp only [List.set_cons_succ]
  try simp only [List.set_cons_zero]
  refine wpAnyH_take (i := 15) (v := .int .i64 (max c.x (betw n (c.says (c.z 10) (c.z 11)) (c.says (c.z 6) (c.z 7))))) rfl (by kernel_rfl) (by kernel_rfl) (by kernel_rfl) (fun _ _ _ h => h) (Or.inl ⟨by kernel_rfl, fun w _ => by kernel_rfl⟩) hS ?_
  simp only [Act.put]
  try simp only [List.getElem_toArray]
  try simp only [List.getElem_cons_succ]
  try simp only [List.getElem_cons_zero]
  try simp only [List.setIfInBounds_toArray]
  try simp only [List.set_cons_succ]
  try simp only [List.set_cons_zero]
  refine wpAnyH_done (by kernel_rfl) ?_ _
  have HE := Lib.hid (HX.out.bel.trans (hS.mono HX.out.bel.size))
  clear hS
  go_wp2_with fail
  go_ret
  exact ⟨by rw [Int.max_comm]; rfl, hb ▸ HE.out⟩
set_option maxRecDepth 100000 in
set_option maxHeartbeats 2000000 in
theorem keepHB_any (c : Cz) (n : Int) (w : World) : Calls Try.prog 40 #[.agg (boxL c).toArray, .int .i64 n] w fun e w' => e = .returned (.int .i64 (c.keepH n)) ∧ Below w.heap.size w w' := by
  have HAL := Lib.hid (boxL_len c)
  have HCE := Lib.hid (fun i h => boxL_at c i h)
  have hx := Bx.new w (boxL c) 65
  have CT := Lib.hid (fun n lk ln mk mn W => betweenH_any c n lk ln mk mn W)
  generalize boxL c = As at *
  have hal := HAL.out
  go_enter Try.func40, Try.ntmps40
  go_upto_region 1 with fail
  obtain ⟨W1, hW⟩ : ∃ W, w.alloc (.cells As.toArray 65) = W := ⟨_, rfl⟩
  rw [hW] at hx ⊢
  clear hW
  obtain ⟨b, hb⟩ : ∃ b, w.heap.size = b := ⟨_, rfl⟩
  rw [hb] at hx ⊢
  have HX := Lib.hid hx
  clear hx
  have hS : Below W1.heap.size W1 W1.drew := (Below.refl _ _).drew
  refine wp_region_held_drew (S := fun w' => Below W1.heap.size W1 w') (by kernel_rfl) hS (fun hS => ?_)
  refine wpAnyH_take (i := 0) (v := .pointer (some ⟨b, 63, none⟩)) rfl (by kernel_rfl) (by kernel_rfl) (by kernel_rfl) (fun _ _ _ h => h) (Or.inl ⟨by kernel_rfl, fun w _ => by kernel_rfl⟩) hS ?_
  simp only [Act.put]
  try simp only [List.getElem_toArray]
  try simp only [List.getElem_cons_succ]
  try simp only [List.getElem_cons_zero]
  try simp only [List.setIfInBounds_toArray]
  try simp only [List.set_cons_succ]
  try simp only [List.set_cons_zero]
  refine wpAnyH_take (i := 1) (v := .pointer (some ⟨b, 66, none⟩)) rfl (by kernel_rfl) (by kernel_rfl) (by kernel_rfl) (fun _ _ _ h => h) (Or.inl ⟨by kernel_rfl, fun w _ => by kernel_rfl⟩) hS ?_
  simp only [Act.put]
  try simp only [List.getElem_toArray]
  try simp only [List.getElem_cons_succ]
  try simp only [List.getElem_cons_zero]
  try simp only [List.setIfInBounds_toArray]
  try simp only [List.set_cons_succ]
  try simp only [List.set_cons_zero]
  refine wpAnyH_take (i := 2) (v := .int .i64 c.y) rfl (by kernel_rfl) (by kernel_rfl) (by kernel_rfl) (fun _ _ _ h => h) (yieldsIf_load_one (by kernel_rfl) _ _ rfl b 66 (by kernel_rfl) _ (fun w h => (h.cell (p := ⟨b, 66, none⟩) HX.out.lt).trans (HX.out.at_ 66 _ (HCE.out 66 (by decide)))) (isAgg_int20)) hS ?_
  simp only [Act.put]
  try simp only [List.getElem_toArray]
  try simp only [List.getElem_cons_succ]
  try simp only [List.getElem_cons_zero]
  try simp only [List.setIfInBounds_toArray]
  try simp only [List.set_cons_succ]
  try simp only [List.set_cons_zero]
  refine wpAnyH_take (i := 3) (v := .agg As.toArray) rfl (by kernel_rfl) (by kernel_rfl) (by kernel_rfl) (fun _ _ _ h => h) (yieldsIf_load_mid (by kernel_rfl) _ _ rfl b 0 (by kernel_rfl) As _ (fun w h => rangeS_below HX.out.rng h HX.out.lt) Try.underlying65 rfl (by rw [size20b, HAL.out])) hS ?_
  simp only [Act.put]
  try simp only [List.getElem_toArray]
  try simp only [List.getElem_cons_succ]
  try simp only [List.getElem_cons_zero]
  try simp only [List.setIfInBounds_toArray]
  try simp only [List.set_cons_succ]
  try simp only [List.set_cons_zero]
  refine wpAnyH_take (i := 4) (v := .int .i64 n) rfl (by kernel_rfl) (by kernel_rfl) (by kernel_rfl) (fun _ _ _ h => h) (Or.inl ⟨by kernel_rfl, fun w _ => by kernel_rfl⟩) hS ?_
  simp only [Act.put]
  try simp only [List.getElem_toArray]
  try simp only [List.getElem_cons_succ]
  try simp only [List.getElem_cons_zero]
  try simp only [List.setIfInBounds_toArray]
  try simp only [List.set_cons_succ]
  try simp only [List.set_cons_zero]
  refine wpAnyH_take (i := 5) (v := .pointer (some ⟨b, 0, none⟩)) rfl (by kernel_rfl) (by kernel_rfl) (by kernel_rfl) (fun _ _ _ h => h) (Or.inl ⟨by kernel_rfl, fun w _ => by kernel_rfl⟩) hS ?_
  simp only [Act.put]
  try simp only [List.getElem_toArray]
  try simp only [List.getElem_cons_succ]
  try simp only [List.getElem_cons_zero]
  try simp only [List.setIfInBounds_toArray]
  try simp only [List.set_cons_succ]
  try simp only [List.set_cons_zero]
  refine wpAnyH_take (i := 6) (v := .pointer (some ⟨b, 0, none⟩)) rfl (by kernel_rfl) (by kernel_rfl) (by kernel_rfl) (fun _ _ _ h => h) (Or.inl ⟨by kernel_rfl, fun w _ => by kernel_rfl⟩) hS ?_
  simp only [Act.put]
  try simp only [List.getElem_toArray]
  try simp only [List.getElem_cons_succ]
  try simp only [List.getElem_cons_zero]
  try simp only [List.setIfInBounds_toArray]
  try simp only [List.set_cons_succ]
  try simp only [List.set_cons_zero]
  refine wpAnyH_take (i := 7) (v := .pointer (some ⟨b, 8, none⟩)) rfl (by kernel_rfl) (by kernel_rfl) (by kernel_rfl) (fun _ _ _ h => h) (Or.inl ⟨by kernel_rfl, fun w _ => by kernel_rfl⟩) hS ?_
  simp only [Act.put]
  try simp only [List.getElem_toArray]
  try simp only [List.getElem_cons_succ]
  try simp only [List.getElem_cons_zero]
  try simp only [List.setIfInBounds_toArray]
  try simp only [List.set_cons_succ]
  try simp only [List.set_cons_zero]
  refine wpAnyH_take (i := 8) (v := .agg #[.int .i64 (c.z 8), .int .i64 (c.z 9)]) rfl (by kernel_rfl) (by kernel_rfl) (by kernel_rfl) (fun _ _ _ h => h) (yieldsIf_load_mid (by kernel_rfl) _ _ rfl b 8 (by kernel_rfl) [.int .i64 (c.z 8), .int .i64 (c.z 9)] _ (fun w h => range2_below (HX.out.two 8 _ _ (HCE.out 8 (by decide)) (HCE.out 9 (by decide))) h HX.out.lt) Try.underlying23 rfl (by exact size20z)) hS ?_
  simp only [Act.put]
  try simp only [List.getElem_toArray]
  try simp only [List.getElem_cons_succ]
  try simp only [List.getElem_cons_zero]
  try simp only [List.setIfInBounds_toArray]
  try simp only [List.set_cons_succ]
  try simp only [List.set_cons_zero]
  refine wpAnyH_take (i := 9) (v := .pointer (some ⟨b, 0, none⟩)) rfl (by kernel_rfl) (by kernel_rfl) (by kernel_rfl) (fun _ _ _ h => h) (Or.inl ⟨by kernel_rfl, fun w _ => by kernel_rfl⟩) hS ?_
  simp only [Act.put]
  try simp only [List.getElem_toArray]
  try simp only [List.getElem_cons_succ]
  try simp only [List.getElem_cons_zero]
  try simp only [List.setIfInBounds_toArray]
  try simp only [List.set_cons_succ]
  try simp only [List.set_cons_zero]
  refine wpAnyH_take (i := 10) (v := .pointer (some ⟨b, 0, none⟩)) rfl (by kernel_rfl) (by kernel_rfl) (by kernel_rfl) (fun _ _ _ h => h) (Or.inl ⟨by kernel_rfl, fun w _ => by kernel_rfl⟩) hS ?_
  simp only [Act.put]
  try simp only [List.getElem_toArray]
  try simp only [List.getElem_cons_succ]
  try simp only [List.getElem_cons_zero]
  try simp only [List.setIfInBounds_toArray]
  try simp only [List.set_cons_succ]
  try simp only [List.set_cons_zero]
  refine wpAnyH_take (i := 11) (v := .pointer (some ⟨b, 12, none⟩)) rfl (by kernel_rfl) (by kernel_rfl) (by kernel_rfl) (fun _ _ _ h => h) (Or.inl ⟨by kernel_rfl, fun w _ => by kernel_rfl⟩) hS ?_
  simp only [Act.put]
  try simp only [List.getElem_toArray]
  try simp only [List.getElem_cons_succ]
  try simp only [List.getElem_cons_zero]
  try simp only [List.setIfInBounds_toArray]
  try simp only [List.set_cons_succ]
  try simp only [List.set_cons_zero]
  refine wpAnyH_take (i := 12) (v := .agg #[.int .i64 (c.z 12), .int .i64 (c.z 13)]) rfl (by kernel_rfl) (by kernel_rfl) (by kernel_rfl) (fun _ _ _ h => h) (yieldsIf_load_mid (by kernel_rfl) _ _ rfl b 12 (by kernel_rfl) [.int .i64 (c.z 12), .int .i64 (c.z 13)] _ (fun w h => range2_below (HX.out.two 12 _ _ (HCE.out 12 (by decide)) (HCE.out 13 (by decide))) h HX.out.lt) Try.underlying23 rfl (by exact size20z)) hS ?_
  simp only [Act.put]
  try simp only [List.getElem_toArray]
  try simp only [List.getElem_cons_succ]
  try simp only [List.getElem_cons_zero]
  try simp only [List.setIfInBounds_toArray]
  try simp only [List.set_cons_succ]
  try simp only [List.set_cons_zero]
  refine wpAnyH_ready (rs := [13]) (by kernel_rfl) (by simp) ?_
  refine AllReadyH.cons rfl (fun K hK => ?_) AllReadyH.nil
  go_simp
  refine (CT.out n (c.z 8) (c.z 9) (c.z 12) (c.z 13) _).mono ?_
  rintro e wq1 ⟨rfl, hb⟩
  have hT := hS.trans (hb.mono hS.size)
  clear hb hS
  dsimp only
  refine hK.out _ _ hT (fun hS => ?_)
  clear hK K hT
  refine wpAnyH_take (i := 14) (v := .int .i64 (max c.y (betw n (c.saysH (c.z 12) (c.z 13)) (c.saysH (c.z 8) (c.z 9))))) rfl (by kernel_rfl) (by kernel_rfl) (by kernel_rfl) (fun _ _ _ h => h) (Or.inl ⟨by kernel_rfl, fun w _ => (by have hm := fun (W : World) (ts : Array TypeId) (t : TypeId) (x y : Int) => run_imax20 (P := Try.prog) W ts t x y; go_simp)⟩) hS ?_
  simp only [Act.put]
  try simp only [List.getElem_toArray]
  try simp only [List.getElem_cons_succ]
  try simp only [List.getElem_cons_zero]
  try simp only [List.setIfInBounds_toArray]
  try simp only [List.set_cons_succ]
  try simp only [List.set_cons_zero]
  refine wpAnyH_take (i := 15) (v := .int .i64 (max c.y (betw n (c.saysH (c.z 12) (c.z 13)) (c.saysH (c.z 8) (c.z 9))))) rfl (by kernel_rfl) (by kernel_rfl) (by kernel_rfl) (fun _ _ _ h => h) (Or.inl ⟨by kernel_rfl, fun w _ => by kernel_rfl⟩) hS ?_
  simp only [Act.put]
  try simp only [List.getElem_toArray]
  try simp only [List.getElem_cons_succ]
  try simp only [List.getElem_cons_zero]
  try simp only [List.setIfInBounds_toArray]
  try simp only [List.set_cons_succ]
  try simp only [List.set_cons_zero]
  refine wpAnyH_done (by kernel_rfl) ?_ _
  have HE := Lib.hid (HX.out.bel.trans (hS.mono HX.out.bel.size))
  clear hS
  go_wp2_with fail
  go_ret
  exact ⟨by rw [Int.max_comm]; rfl, hb ▸ HE.out⟩
set_option maxRecDepth 100000 in
set_option maxHeartbeats 2000000 in
theorem givenB_any (c : Cz) (w : World) : Calls Try.prog 41 #[.agg (boxL c).toArray] w fun e w' => e = .returned (.tuple #[.int .i64 (c.given.getD 0), .bool c.given.isSome]) ∧ Below w.heap.size w w' := by
  have HAL := Lib.hid (boxL_len c)
  have HCE := Lib.hid (fun i h => boxL_at c i h)
  have hx := Bx.new w (boxL c) 65
  have CT := Lib.hid (fun k n W => saysHB_any c k n W)
  have CK := Lib.hid (fun n W => keepHB_any c n W)
  generalize boxL c = As at *
  have hal := HAL.out
  unfold Cz.given
  have CS := Lib.hid (fun W => CT.out (c.z 4) (c.z 5) W)
  clear CT
  cases ho : c.saysH (c.z 4) (c.z 5) with
  | none =>
    rw [ho] at CS
    simp only [Option.map_none, Option.getD_none, Option.isSome_none] at CS ⊢
    go_enter Try.func41, Try.ntmps41
    go_upto_region 1 with fail
    obtain ⟨W1, hW⟩ : ∃ W, w.alloc (.cells As.toArray 65) = W := ⟨_, rfl⟩
    rw [hW] at hx ⊢
    clear hW
    obtain ⟨b, hb⟩ : ∃ b, w.heap.size = b := ⟨_, rfl⟩
    rw [hb] at hx ⊢
    have HX := Lib.hid hx
    clear hx
    refine wp_region_lit ?_
    refine wpList_load_mid rfl 65 _ rfl b 0 rfl As _ HX.out.rng Try.underlying65 rfl (by rw [size20b, HAL.out]) ?_
    have q4 : W1.cell? ⟨b, 4, none⟩ = some (.int .i64 (c.z 4)) := HX.out.at_ 4 _ (HCE.out 4 (by decide))
    have q5 : W1.cell? ⟨b, 5, none⟩ = some (.int .i64 (c.z 5)) := HX.out.at_ 5 _ (HCE.out 5 (by decide))
    go_wp2_with fail
    refine (CS.out _).mono ?_
    rintro e w2 ⟨rfl, hb2⟩
    have HX2 := Lib.hid (HX.out.call hb2)
    clear hb2 HX
    have HX := HX2
    clear HX2
    clear q4 q5
    go_wp2_with fail
    exact bodyPost_ret (results_tmp2 rfl _ _ _) rfl ⟨rfl, hb ▸ HX.out.bel⟩
  | some h =>
    rw [ho] at CS
    simp only [Option.map_some, Option.getD_some, Option.isSome_some] at CS ⊢
    go_enter Try.func41, Try.ntmps41
    go_upto_region 1 with fail
    obtain ⟨W1, hW⟩ : ∃ W, w.alloc (.cells As.toArray 65) = W := ⟨_, rfl⟩
    rw [hW] at hx ⊢
    clear hW
    obtain ⟨b, hb⟩ : ∃ b, w.heap.size = b := ⟨_, rfl⟩
    rw [hb] at hx ⊢
    have HX := Lib.hid hx
    clear hx
    refine wp_region_lit ?_
    refine wpList_load_mid rfl 65 _ rfl b 0 rfl As _ HX.out.rng Try.underlying65 rfl (by rw [size20b, HAL.out]) ?_
    have q4 : W1.cell? ⟨b, 4, none⟩ = some (.int .i64 (c.z 4)) := HX.out.at_ 4 _ (HCE.out 4 (by decide))
    have q5 : W1.cell? ⟨b, 5, none⟩ = some (.int .i64 (c.z 5)) := HX.out.at_ 5 _ (HCE.out 5 (by decide))
    go_wp2_with fail
    refine (CS.out _).mono ?_
    rintro e w2 ⟨rfl, hb2⟩
    have HX2 := Lib.hid (HX.out.call hb2)
    clear hb2 HX
    have HX := HX2
    clear HX2
    clear q4 q5
    go_upto_region 4 with fail
    refine wp_region_lit ?_
    refine wpList_load_mid rfl 65 _ rfl b 0 rfl As _ HX.out.rng Try.underlying65 rfl (by rw [size20b, HAL.out]) ?_
    go_wp2_with fail
    refine (CK.out h _).mono ?_
    rintro e w3 ⟨rfl, hb2⟩
    have HX2 := Lib.hid (HX.out.call hb2)
    clear hb2 HX
    have HX := HX2
    clear HX2
    go_wp2_with fail
    exact bodyPost_ret (results_tmp2 rfl _ _ _) rfl ⟨rfl, hb ▸ HX.out.bel⟩
theorem ratio_is (bb : Bool) (h x y n d : Int) : (if bb = true then max (PT (if bb = true then h else max (subZ h y) 0) n d) x else addZ (max (PT (if bb = true then h else max (subZ h y) 0) n d) 0) x) = boxZ bb (PT (sizZ bb h y) n d) x := by
  have hp := fun a => H_id (PT_bd20 a n d).1 (PT_bd20 a n d).2
  unfold boxZ sizZ
  cases bb
  · simp
  · simp only [if_true]
    rw [hp, PT_H]
set_option maxRecDepth 100000 in
set_option maxHeartbeats 2000000 in
theorem wideB_a (c : Cz) (v : Int) (hs : c.says (c.z 2) (c.z 3) = some v) (w : World) : Calls Try.prog 50 #[.agg (boxL c).toArray] w fun e w' => e = .returned (.int .i64 v) ∧ Below w.heap.size w w' := by
  have HAL := Lib.hid (boxL_len c)
  have HCE := Lib.hid (fun i h => boxL_at c i h)
  have hx := Bx.new w (boxL c) 65
  have CS := Lib.hid (fun W => saysWB_any c (c.z 2) (c.z 3) W)
  generalize boxL c = As at *
  have hal := HAL.out
  rw [hs] at CS
  simp only [Option.getD_some, Option.isSome_some] at CS
  go_enter Try.func50, Try.ntmps50
  go_upto_region 1 with fail
  obtain ⟨W1, hW⟩ : ∃ W, w.alloc (.cells As.toArray 65) = W := ⟨_, rfl⟩
  rw [hW] at hx ⊢
  clear hW
  obtain ⟨b, hb⟩ : ∃ b, w.heap.size = b := ⟨_, rfl⟩
  rw [hb] at hx ⊢
  have HX := Lib.hid hx
  clear hx
  refine wp_region_lit ?_
  refine wpList_load_mid rfl 65 _ rfl b 0 rfl As _ HX.out.rng Try.underlying65 rfl (by rw [size20b, HAL.out]) ?_
  have q2 : W1.cell? ⟨b, 2, none⟩ = some (.int .i64 (c.z 2)) := HX.out.at_ 2 _ (HCE.out 2 (by decide))
  have q3 : W1.cell? ⟨b, 3, none⟩ = some (.int .i64 (c.z 3)) := HX.out.at_ 3 _ (HCE.out 3 (by decide))
  go_wp2_with fail
  refine (CS.out _).mono ?_
  rintro e w2 ⟨rfl, hb2⟩
  have HX2 := Lib.hid (HX.out.call hb2)
  clear hb2 HX
  have HX := HX2
  clear HX2
  clear q2 q3
  go_wp2_with fail
  go_ret
  exact ⟨rfl, hb ▸ HX.out.bel⟩
set_option maxRecDepth 100000 in
set_option maxHeartbeats 2000000 in
theorem wideB_b (c : Cz) (hs : c.says (c.z 2) (c.z 3) = none) (hg : c.given = none) (w : World) : Calls Try.prog 50 #[.agg (boxL c).toArray] w fun e w' => e = .returned (.int .i64 c.free) ∧ Below w.heap.size w w' := by
  have HAL := Lib.hid (boxL_len c)
  have HCE := Lib.hid (fun i h => boxL_at c i h)
  have hx := Bx.new w (boxL c) 65
  have CS := Lib.hid (fun W => saysWB_any c (c.z 2) (c.z 3) W)
  have CG := Lib.hid (fun W => givenB_any c W)
  have CF := Lib.hid (fun W => freeB_any c W)
  generalize boxL c = As at *
  have hal := HAL.out
  rw [hs] at CS
  simp only [Option.getD_none, Option.isSome_none] at CS
  rw [hg] at CG
  simp only [Option.getD_none, Option.isSome_none] at CG
  go_enter Try.func50, Try.ntmps50
  go_upto_region 1 with fail
  obtain ⟨W1, hW⟩ : ∃ W, w.alloc (.cells As.toArray 65) = W := ⟨_, rfl⟩
  rw [hW] at hx ⊢
  clear hW
  obtain ⟨b, hb⟩ : ∃ b, w.heap.size = b := ⟨_, rfl⟩
  rw [hb] at hx ⊢
  have HX := Lib.hid hx
  clear hx
  refine wp_region_lit ?_
  refine wpList_load_mid rfl 65 _ rfl b 0 rfl As _ HX.out.rng Try.underlying65 rfl (by rw [size20b, HAL.out]) ?_
  have q2 : W1.cell? ⟨b, 2, none⟩ = some (.int .i64 (c.z 2)) := HX.out.at_ 2 _ (HCE.out 2 (by decide))
  have q3 : W1.cell? ⟨b, 3, none⟩ = some (.int .i64 (c.z 3)) := HX.out.at_ 3 _ (HCE.out 3 (by decide))
  go_wp2_with fail
  refine (CS.out _).mono ?_
  rintro e w2 ⟨rfl, hb2⟩
  have HX2 := Lib.hid (HX.out.call hb2)
  clear hb2 HX
  have HX := HX2
  clear HX2
  clear q2 q3
  go_upto_region 4 with fail
  refine wp_region_lit ?_
  refine wpList_load_mid rfl 65 _ rfl b 0 rfl As _ HX.out.rng Try.underlying65 rfl (by rw [size20b, HAL.out]) ?_
  go_wp2_with fail
  refine (CG.out _).mono ?_
  rintro e w3 ⟨rfl, hb2⟩
  have HX2 := Lib.hid (HX.out.call hb2)
  clear hb2 HX
  have HX := HX2
  clear HX2
  go_upto_region 7 with fail
  refine wp_region_lit ?_
  refine wpList_load_mid rfl 65 _ rfl b 0 rfl As _ HX.out.rng Try.underlying65 rfl (by rw [size20b, HAL.out]) ?_
  go_wp2_with fail
  refine (CF.out _).mono ?_
  rintro e w4 ⟨rfl, hb2⟩
  have HX2 := Lib.hid (HX.out.call hb2)
  clear hb2 HX
  have HX := HX2
  clear HX2
  go_wp2_with fail
  go_ret
  exact ⟨rfl, hb ▸ HX.out.bel⟩
set_option maxRecDepth 100000 in
set_option maxHeartbeats 2000000 in
theorem wideB_c (c : Cz) (h : Int) (hs : c.says (c.z 2) (c.z 3) = none) (hg : c.given = some h) (hr : c.rated = false) (w : World) : Calls Try.prog 50 #[.agg (boxL c).toArray] w fun e w' => e = .returned (.int .i64 c.free) ∧ Below w.heap.size w w' := by
  have HAL := Lib.hid (boxL_len c)
  have HCE := Lib.hid (fun i h => boxL_at c i h)
  have hx := Bx.new w (boxL c) 65
  have CS := Lib.hid (fun W => saysWB_any c (c.z 2) (c.z 3) W)
  have CG := Lib.hid (fun W => givenB_any c W)
  have CF := Lib.hid (fun W => freeB_any c W)
  have CR := Lib.hid (fun W => ratioB_any c W)
  generalize boxL c = As at *
  have hal := HAL.out
  rw [hs] at CS
  simp only [Option.getD_none, Option.isSome_none] at CS
  rw [hg] at CG
  simp only [Option.getD_some, Option.isSome_some] at CG
  rw [hr] at CR
  go_enter Try.func50, Try.ntmps50
  go_upto_region 1 with fail
  obtain ⟨W1, hW⟩ : ∃ W, w.alloc (.cells As.toArray 65) = W := ⟨_, rfl⟩
  rw [hW] at hx ⊢
  clear hW
  obtain ⟨b, hb⟩ : ∃ b, w.heap.size = b := ⟨_, rfl⟩
  rw [hb] at hx ⊢
  have HX := Lib.hid hx
  clear hx
  refine wp_region_lit ?_
  refine wpList_load_mid rfl 65 _ rfl b 0 rfl As _ HX.out.rng Try.underlying65 rfl (by rw [size20b, HAL.out]) ?_
  have q2 : W1.cell? ⟨b, 2, none⟩ = some (.int .i64 (c.z 2)) := HX.out.at_ 2 _ (HCE.out 2 (by decide))
  have q3 : W1.cell? ⟨b, 3, none⟩ = some (.int .i64 (c.z 3)) := HX.out.at_ 3 _ (HCE.out 3 (by decide))
  go_wp2_with fail
  refine (CS.out _).mono ?_
  rintro e w2 ⟨rfl, hb2⟩
  have HX2 := Lib.hid (HX.out.call hb2)
  clear hb2 HX
  have HX := HX2
  clear HX2
  clear q2 q3
  go_upto_region 4 with fail
  refine wp_region_lit ?_
  refine wpList_load_mid rfl 65 _ rfl b 0 rfl As _ HX.out.rng Try.underlying65 rfl (by rw [size20b, HAL.out]) ?_
  go_wp2_with fail
  refine (CG.out _).mono ?_
  rintro e w3 ⟨rfl, hb2⟩
  have HX2 := Lib.hid (HX.out.call hb2)
  clear hb2 HX
  have HX := HX2
  clear HX2
  go_upto_region 5 with fail
  refine wp_region_lit ?_
  go_step
  go_step
  rename_i K' hK'
  refine hK' _ _ ?_
  clear hK'
  go_step
  go_step
  rename_i K' hK'
  refine hK' _ _ ?_
  clear hK'
  refine wpList_step (fun K hK => ?_)
  rw [if_pos (by kernel_rfl)]
  refine wp_load_mid 65 _ rfl b 0 (by kernel_rfl) As _ HX.out.rng Try.underlying65 rfl (by rw [size20b, HAL.out]) ?_
  refine hK _ _ ?_
  clear hK
  go_wp2_with fail
  refine (CR.out _).mono ?_
  rintro e w4 ⟨rfl, hb2⟩
  have HX2 := Lib.hid (HX.out.call hb2)
  clear hb2 HX
  have HX := HX2
  clear HX2
  go_upto_region 7 with fail
  refine wp_region_lit ?_
  refine wpList_load_mid rfl 65 _ rfl b 0 rfl As _ HX.out.rng Try.underlying65 rfl (by rw [size20b, HAL.out]) ?_
  go_wp2_with fail
  refine (CF.out _).mono ?_
  rintro e w5 ⟨rfl, hb2⟩
  have HX2 := Lib.hid (HX.out.call hb2)
  clear hb2 HX
  have HX := HX2
  clear HX2
  go_wp2_with fail
  go_ret
  exact ⟨rfl, hb ▸ HX.out.bel⟩
set_option maxRecDepth 100000 in
set_option maxHeartbeats 2000000 in
theorem highB_a (c : Cz) (n k h : Int) (hg : c.given = some h) (w : World) : Calls Try.prog 46 #[.agg (boxL c).toArray, .int .i64 n, .int .i64 k] w fun e w' => e = .returned (.int .i64 h) ∧ Below w.heap.size w w' := by
  have HAL := Lib.hid (boxL_len c)
  have HCE := Lib.hid (fun i h => boxL_at c i h)
  have hx := Bx.new w (boxL c) 65
  have CG := Lib.hid (fun W => givenB_any c W)
  generalize boxL c = As at *
  have hal := HAL.out
  rw [hg] at CG
  simp only [Option.getD_some, Option.isSome_some] at CG
  go_enter Try.func46, Try.ntmps46
  go_upto_region 1 with fail
  obtain ⟨W1, hW⟩ : ∃ W, w.alloc (.cells As.toArray 65) = W := ⟨_, rfl⟩
  rw [hW] at hx ⊢
  clear hW
  obtain ⟨b, hb⟩ : ∃ b, w.heap.size = b := ⟨_, rfl⟩
  rw [hb] at hx ⊢
  have HX := Lib.hid hx
  clear hx
  refine wp_region_lit ?_
  refine wpList_load_mid rfl 65 _ rfl b 0 rfl As _ HX.out.rng Try.underlying65 rfl (by rw [size20b, HAL.out]) ?_
  go_wp2_with fail
  refine (CG.out _).mono ?_
  rintro e w2 ⟨rfl, hb2⟩
  have HX2 := Lib.hid (HX.out.call hb2)
  clear hb2 HX
  have HX := HX2
  clear HX2
  go_wp2_with fail
  go_ret
  exact ⟨rfl, hb ▸ HX.out.bel⟩
set_option maxRecDepth 100000 in
set_option maxHeartbeats 2000000 in
theorem highB_b (c : Cz) (n k : Int) (hg : c.given = none) (hr : c.rated = false) (w : World) : Calls Try.prog 46 #[.agg (boxL c).toArray, .int .i64 n, .int .i64 k] w fun e w' => e = .returned (.int .i64 (addZ (max k 0) c.y)) ∧ Below w.heap.size w w' := by
  have HAL := Lib.hid (boxL_len c)
  have HCE := Lib.hid (fun i h => boxL_at c i h)
  have hx := Bx.new w (boxL c) 65
  have CG := Lib.hid (fun W => givenB_any c W)
  have CR := Lib.hid (fun W => ratioB_any c W)
  generalize boxL c = As at *
  have hal := HAL.out
  rw [hg] at CG
  simp only [Option.getD_none, Option.isSome_none] at CG
  rw [hr] at CR
  have hm := fun (W : World) (ts : Array TypeId) (t : TypeId) (x y : Int) => run_imax20 (P := Try.prog) W ts t x y
  rw [show max k 0 = max 0 k from Int.max_comm _ _]
  go_enter Try.func46, Try.ntmps46
  go_upto_region 1 with fail
  obtain ⟨W1, hW⟩ : ∃ W, w.alloc (.cells As.toArray 65) = W := ⟨_, rfl⟩
  rw [hW] at hx ⊢
  clear hW
  obtain ⟨b, hb⟩ : ∃ b, w.heap.size = b := ⟨_, rfl⟩
  rw [hb] at hx ⊢
  have HX := Lib.hid hx
  clear hx
  refine wp_region_lit ?_
  refine wpList_load_mid rfl 65 _ rfl b 0 rfl As _ HX.out.rng Try.underlying65 rfl (by rw [size20b, HAL.out]) ?_
  go_wp2_with fail
  refine (CG.out _).mono ?_
  rintro e w2 ⟨rfl, hb2⟩
  have HX2 := Lib.hid (HX.out.call hb2)
  clear hb2 HX
  have HX := HX2
  clear HX2
  go_upto_region 4 with fail
  refine wp_region_lit ?_
  refine wpList_load_mid rfl 65 _ rfl b 0 rfl As _ HX.out.rng Try.underlying65 rfl (by rw [size20b, HAL.out]) ?_
  go_wp2_with fail
  refine (CR.out _).mono ?_
  rintro e w3 ⟨rfl, hb2⟩
  have HX2 := Lib.hid (HX.out.call hb2)
  clear hb2 HX
  have HX := HX2
  clear HX2
  have q66 : w3.cell? ⟨b, 66, none⟩ = some (.int .i64 c.y) := HX.out.at_ 66 _ (HCE.out 66 (by decide))
  go_wp2_with (go_at_call 54; refine (AddC_any _ _ _).mono ?_; rintro e wq ⟨rfl, rfl⟩)
  go_ret
  exact ⟨rfl, hb ▸ HX.out.bel⟩
end Go.Proofs.Ythfabalnioggcaa

namespace Go.Proofs.Ythfabalnioggcaa
open Go.RowKit TreN LexP FixP SynP ValP PropP FixM
set_option linter.unusedVariables false

set_option maxRecDepth 100000 in
set_option maxHeartbeats 2000000 in
theorem wideB_d (c : Cz) (h : Int) (hs : c.says (c.z 2) (c.z 3) = none) (hg : c.given = some h) (hr : c.rated = true) (w : World) : Calls Try.prog 50 #[.agg (boxL c).toArray] w fun e w' => e = .returned (.int .i64 (boxZ c.b (PT (sizZ c.b h c.y) (c.z 34) (c.z 35)) c.x)) ∧ Below w.heap.size w w' := by
  have HAL := Lib.hid (boxL_len c)
  have HCE := Lib.hid (fun i h => boxL_at c i h)
  have hx := Bx.new w (boxL c) 65
  have CS := Lib.hid (fun W => saysWB_any c (c.z 2) (c.z 3) W)
  have CG := Lib.hid (fun W => givenB_any c W)
  have CR := Lib.hid (fun W => ratioB_any c W)
  generalize boxL c = As at *
  have hal := HAL.out
  rw [hs] at CS
  simp only [Option.getD_none, Option.isSome_none] at CS
  rw [hg] at CG
  simp only [Option.getD_some, Option.isSome_some] at CG
  rw [hr] at CR
  have hres := ratio_is c.b h c.x c.y (c.z 34) (c.z 35)
  rw [← hres]
  clear hres
  have C1 := fun W => asSize_any c.bs (.func (.func 56) #[] #[]) c.b c.y h W rfl
  generalize (if c.b = true then h else max (subZ h c.y) 0) = s at *
  have C2 := fun W => Part_any s (c.z 34) (c.z 35) W
  generalize PT s (c.z 34) (c.z 35) = p at *
  have C3 := fun W => asBox_any c.av (.func (.func 51) #[] #[]) c.b c.x p W rfl
  generalize (if c.b = true then max p c.x else addZ (max p 0) c.x) = r at *
  have D1 := Lib.hid C1
  have D2 := Lib.hid C2
  have D3 := Lib.hid C3
  clear C1 C2 C3
  go_enter Try.func50, Try.ntmps50
  go_upto_region 1 with fail
  obtain ⟨W1, hW⟩ : ∃ W, w.alloc (.cells As.toArray 65) = W := ⟨_, rfl⟩
  rw [hW] at hx ⊢
  clear hW
  obtain ⟨b, hb⟩ : ∃ b, w.heap.size = b := ⟨_, rfl⟩
  rw [hb] at hx ⊢
  have HX := Lib.hid hx
  clear hx
  refine wp_region_lit ?_
  refine wpList_load_mid rfl 65 _ rfl b 0 rfl As _ HX.out.rng Try.underlying65 rfl (by rw [size20b, HAL.out]) ?_
  have q2 : W1.cell? ⟨b, 2, none⟩ = some (.int .i64 (c.z 2)) := HX.out.at_ 2 _ (HCE.out 2 (by decide))
  have q3 : W1.cell? ⟨b, 3, none⟩ = some (.int .i64 (c.z 3)) := HX.out.at_ 3 _ (HCE.out 3 (by decide))
  go_wp2_with fail
  refine (CS.out _).mono ?_
  rintro e w2 ⟨rfl, hb2⟩
  have HX2 := Lib.hid (HX.out.call hb2)
  clear hb2 HX
  have HX := HX2
  clear HX2
  clear q2 q3
  go_upto_region 4 with fail
  refine wp_region_lit ?_
  refine wpList_load_mid rfl 65 _ rfl b 0 rfl As _ HX.out.rng Try.underlying65 rfl (by rw [size20b, HAL.out]) ?_
  go_wp2_with fail
  refine (CG.out _).mono ?_
  rintro e w3 ⟨rfl, hb2⟩
  have HX2 := Lib.hid (HX.out.call hb2)
  clear hb2 HX
  have HX := HX2
  clear HX2
  go_upto_region 5 with fail
  refine wp_region_lit ?_
  go_step
  go_step
  rename_i K' hK'
  refine hK' _ _ ?_
  clear hK'
  go_step
  go_step
  rename_i K' hK'
  refine hK' _ _ ?_
  clear hK'
  refine wpList_step (fun K hK => ?_)
  rw [if_pos (by kernel_rfl)]
  refine wp_load_mid 65 _ rfl b 0 (by kernel_rfl) As _ HX.out.rng Try.underlying65 rfl (by rw [size20b, HAL.out]) ?_
  refine hK _ _ ?_
  clear hK
  go_wp2_with fail
  refine (CR.out _).mono ?_
  rintro e w4 ⟨rfl, hb2⟩
  have HX2 := Lib.hid (HX.out.call hb2)
  clear hb2 HX
  have HX := HX2
  clear HX2
  go_upto_region 6 with fail
  have hS : Below w4.heap.size w4 w4.drew := (Below.refl _ _).drew
  refine wp_region_held_drew (S := fun w' => Below w4.heap.size w4 w') (by kernel_rfl) hS (fun hS => ?_)
  refine wpAnyH_take (i := 0) (v := .pointer (some ⟨b, 59, none⟩)) rfl (by kernel_rfl) (by kernel_rfl) (by kernel_rfl) (fun _ _ _ h => h) (Or.inl ⟨by kernel_rfl, fun w _ => by kernel_rfl⟩) hS ?_
  simp only [Act.put]
  try simp only [List.getElem_toArray]
  try simp only [List.getElem_cons_succ]
  try simp only [List.getElem_cons_zero]
  try simp only [List.setIfInBounds_toArray]
  try simp only [List.set_cons_succ]
  try simp only [List.set_cons_zero]
  refine wpAnyH_take (i := 1) (v := .agg #[.int .i64 c.av, .func (.func 51) #[] #[], .bool c.b, .int .i64 c.x]) rfl (by kernel_rfl) (by kernel_rfl) (by kernel_rfl) (fun _ _ _ h => h) (yieldsIf_load_mid (by kernel_rfl) _ _ rfl b 59 (by kernel_rfl) [.int .i64 c.av, .func (.func 51) #[] #[], .bool c.b, .int .i64 c.x] _ (fun w h => range2_below (HX.out.four 59 _ _ _ _ (HCE.out 59 (by decide)) (HCE.out 60 (by decide)) (HCE.out 61 (by decide)) (HCE.out 62 (by decide))) h HX.out.lt) Try.underlying63 rfl (by kernel_rfl)) hS ?_
  simp only [Act.put]
  try simp only [List.getElem_toArray]
  try simp only [List.getElem_cons_succ]
  try simp only [List.getElem_cons_zero]
  try simp only [List.setIfInBounds_toArray]
  try simp only [List.set_cons_succ]
  try simp only [List.set_cons_zero]
  refine wpAnyH_take (i := 2) (v := .pointer (some ⟨b, 63, none⟩)) rfl (by kernel_rfl) (by kernel_rfl) (by kernel_rfl) (fun _ _ _ h => h) (Or.inl ⟨by kernel_rfl, fun w _ => by kernel_rfl⟩) hS ?_
  simp only [Act.put]
  try simp only [List.getElem_toArray]
  try simp only [List.getElem_cons_succ]
  try simp only [List.getElem_cons_zero]
  try simp only [List.setIfInBounds_toArray]
  try simp only [List.set_cons_succ]
  try simp only [List.set_cons_zero]
  refine wpAnyH_take (i := 3) (v := .agg #[.int .i64 c.bs, .func (.func 56) #[] #[], .bool c.b, .int .i64 c.y]) rfl (by kernel_rfl) (by kernel_rfl) (by kernel_rfl) (fun _ _ _ h => h) (yieldsIf_load_mid (by kernel_rfl) _ _ rfl b 63 (by kernel_rfl) [.int .i64 c.bs, .func (.func 56) #[] #[], .bool c.b, .int .i64 c.y] _ (fun w h => range2_below (HX.out.four 63 _ _ _ _ (HCE.out 63 (by decide)) (HCE.out 64 (by decide)) (HCE.out 65 (by decide)) (HCE.out 66 (by decide))) h HX.out.lt) Try.underlying63 rfl (by kernel_rfl)) hS ?_
  simp only [Act.put]
  try simp only [List.getElem_toArray]
  try simp only [List.getElem_cons_succ]
  try simp only [List.getElem_cons_zero]
  try simp only [List.setIfInBounds_toArray]
  try simp only [List.set_cons_succ]
  try simp only [List.set_cons_zero]
  refine wpAnyH_take (i := 4) (v := .int .i64 h) rfl (by kernel_rfl) (by kernel_rfl) (by kernel_rfl) (fun _ _ _ h => h) (Or.inl ⟨by kernel_rfl, fun w _ => by kernel_rfl⟩) hS ?_
  simp only [Act.put]
  try simp only [List.getElem_toArray]
  try simp only [List.getElem_cons_succ]
  try simp only [List.getElem_cons_zero]
  try simp only [List.setIfInBounds_toArray]
  try simp only [List.set_cons_succ]
  try simp only [List.set_cons_zero]
  refine wpAnyH_take (i := 6) (v := .pointer (some ⟨b, 0, none⟩)) rfl (by kernel_rfl) (by kernel_rfl) (by kernel_rfl) (fun _ _ _ h => h) (Or.inl ⟨by kernel_rfl, fun w _ => by kernel_rfl⟩) hS ?_
  simp only [Act.put]
  try simp only [List.getElem_toArray]
  try simp only [List.getElem_cons_succ]
  try simp only [List.getElem_cons_zero]
  try simp only [List.setIfInBounds_toArray]
  try simp only [List.set_cons_succ]
  try simp only [List.set_cons_zero]
  refine wpAnyH_take (i := 7) (v := .pointer (some ⟨b, 0, none⟩)) rfl (by kernel_rfl) (by kernel_rfl) (by kernel_rfl) (fun _ _ _ h => h) (Or.inl ⟨by kernel_rfl, fun w _ => by kernel_rfl⟩) hS ?_
  simp only [Act.put]
  try simp only [List.getElem_toArray]
  try simp only [List.getElem_cons_succ]
  try simp only [List.getElem_cons_zero]
  try simp only [List.setIfInBounds_toArray]
  try simp only [List.set_cons_succ]
  try simp only [List.set_cons_zero]
  refine wpAnyH_take (i := 8) (v := .pointer (some ⟨b, 34, none⟩)) rfl (by kernel_rfl) (by kernel_rfl) (by kernel_rfl) (fun _ _ _ h => h) (Or.inl ⟨by kernel_rfl, fun w _ => by kernel_rfl⟩) hS ?_
  simp only [Act.put]
  try simp only [List.getElem_toArray]
  try simp only [List.getElem_cons_succ]
  try simp only [List.getElem_cons_zero]
  try simp only [List.setIfInBounds_toArray]
  try simp only [List.set_cons_succ]
  try simp only [List.set_cons_zero]
  refine wpAnyH_take (i := 9) (v := .int .i64 (c.z 34)) rfl (by kernel_rfl) (by kernel_rfl) (by kernel_rfl) (fun _ _ _ h => h) (yieldsIf_load_one (by kernel_rfl) _ _ rfl b 34 (by kernel_rfl) _ (fun w h => (h.cell (p := ⟨b, 34, none⟩) HX.out.lt).trans (HX.out.at_ 34 _ (HCE.out 34 (by decide)))) (isAgg_int20)) hS ?_
  simp only [Act.put]
  try simp only [List.getElem_toArray]
  try simp only [List.getElem_cons_succ]
  try simp only [List.getElem_cons_zero]
  try simp only [List.setIfInBounds_toArray]
  try simp only [List.set_cons_succ]
  try simp only [List.set_cons_zero]
  refine wpAnyH_take (i := 10) (v := .pointer (some ⟨b, 0, none⟩)) rfl (by kernel_rfl) (by kernel_rfl) (by kernel_rfl) (fun _ _ _ h => h) (Or.inl ⟨by kernel_rfl, fun w _ => by kernel_rfl⟩) hS ?_
  simp only [Act.put]
  try simp only [List.getElem_toArray]
  try simp only [List.getElem_cons_succ]
  try simp only [List.getElem_cons_zero]
  try simp only [List.setIfInBounds_toArray]
  try simp only [List.set_cons_succ]
  try simp only [List.set_cons_zero]
  refine wpAnyH_take (i := 11) (v := .pointer (some ⟨b, 0, none⟩)) rfl (by kernel_rfl) (by kernel_rfl) (by kernel_rfl) (fun _ _ _ h => h) (Or.inl ⟨by kernel_rfl, fun w _ => by kernel_rfl⟩) hS ?_
  simp only [Act.put]
  try simp only [List.getElem_toArray]
  try simp only [List.getElem_cons_succ]
  try simp only [List.getElem_cons_zero]
  try simp only [List.setIfInBounds_toArray]
  try simp only [List.set_cons_succ]
  try simp only [List.set_cons_zero]
  refine wpAnyH_take (i := 12) (v := .pointer (some ⟨b, 35, none⟩)) rfl (by kernel_rfl) (by kernel_rfl) (by kernel_rfl) (fun _ _ _ h => h) (Or.inl ⟨by kernel_rfl, fun w _ => by kernel_rfl⟩) hS ?_
  simp only [Act.put]
  try simp only [List.getElem_toArray]
  try simp only [List.getElem_cons_succ]
  try simp only [List.getElem_cons_zero]
  try simp only [List.setIfInBounds_toArray]
  try simp only [List.set_cons_succ]
  try simp only [List.set_cons_zero]
  refine wpAnyH_take (i := 13) (v := .int .i64 (c.z 35)) rfl (by kernel_rfl) (by kernel_rfl) (by kernel_rfl) (fun _ _ _ h => h) (yieldsIf_load_one (by kernel_rfl) _ _ rfl b 35 (by kernel_rfl) _ (fun w h => (h.cell (p := ⟨b, 35, none⟩) HX.out.lt).trans (HX.out.at_ 35 _ (HCE.out 35 (by decide)))) (isAgg_int20)) hS ?_
  simp only [Act.put]
  try simp only [List.getElem_toArray]
  try simp only [List.getElem_cons_succ]
  try simp only [List.getElem_cons_zero]
  try simp only [List.setIfInBounds_toArray]
  try simp only [List.set_cons_succ]
  try simp only [List.set_cons_zero]
  refine wpAnyH_ready (rs := [5]) (by kernel_rfl) (by simp) ?_
  refine AllReadyH.cons rfl (fun K hK => ?_) AllReadyH.nil
  go_simp
  refine (D1.out _).mono ?_
  rintro e wq1 ⟨rfl, hb⟩
  have hT := hS.trans (hb.mono hS.size)
  clear hb hS
  dsimp only
  refine hK.out _ _ hT (fun hS => ?_)
  clear hK K hT
  refine wpAnyH_ready (rs := [14]) (by kernel_rfl) (by simp) ?_
  refine AllReadyH.cons rfl (fun K hK => ?_) AllReadyH.nil
  go_simp
  refine (D2.out _).mono ?_
  rintro e wq ⟨rfl, rfl⟩
  refine hK.out _ _ hS (fun hS => ?_)
  clear hK K
  refine wpAnyH_ready (rs := [15]) (by kernel_rfl) (by simp) ?_
  refine AllReadyH.cons rfl (fun K hK => ?_) AllReadyH.nil
  go_simp
  refine (D3.out _).mono ?_
  rintro e wq3 ⟨rfl, hb⟩
  have hT := hS.trans (hb.mono hS.size)
  clear hb hS
  dsimp only
  refine hK.out _ _ hT (fun hS => ?_)
  clear hK K hT
  refine wpAnyH_take (i := 16) (v := .int .i64 r) rfl (by kernel_rfl) (by kernel_rfl) (by kernel_rfl) (fun _ _ _ h => h) (Or.inl ⟨by kernel_rfl, fun w _ => by kernel_rfl⟩) hS ?_
  simp only [Act.put]
  try simp only [List.getElem_toArray]
  try simp only [List.getElem_cons_succ]
  try simp only [List.getElem_cons_zero]
  try simp only [List.setIfInBounds_toArray]
  try simp only [List.set_cons_succ]
  try simp only [List.set_cons_zero]
  refine wpAnyH_done (by kernel_rfl) ?_ _
  have HE := Lib.hid (HX.out.bel.trans (hS.mono HX.out.bel.size))
  clear hS
  go_wp2_with fail
  go_ret
  exact ⟨rfl, hb ▸ HE.out⟩
theorem wide0_a {c : Cz} {v : Int} (hs : c.says (c.z 2) (c.z 3) = some v) : c.wide0 = v := by unfold Cz.wide0; rw [hs]
theorem wide0_b {c : Cz} (hs : c.says (c.z 2) (c.z 3) = none) (hg : c.given = none) : c.wide0 = c.free := by unfold Cz.wide0; rw [hs, hg]
theorem wide0_c {c : Cz} {h : Int} (hs : c.says (c.z 2) (c.z 3) = none) (hg : c.given = some h) (hr : c.rated = false) : c.wide0 = c.free := by
  unfold Cz.wide0
  rw [hs, hg]
  simp only [hr, Bool.false_eq_true, if_false]
theorem wide0_d {c : Cz} {h : Int} (hs : c.says (c.z 2) (c.z 3) = none) (hg : c.given = some h) (hr : c.rated = true) : c.wide0 = boxZ c.b (PT (sizZ c.b h c.y) (c.z 34) (c.z 35)) c.x := by
  unfold Cz.wide0
  rw [hs, hg]
  simp only [hr, if_true]
theorem wideB_any (c : Cz) (w : World) : Calls Try.prog 50 #[.agg (boxL c).toArray] w fun e w' => e = .returned (.int .i64 c.wide0) ∧ Below w.heap.size w w' := by
  cases hs : c.says (c.z 2) (c.z 3) with
  | some v => rw [wide0_a hs]; exact wideB_a c v hs w
  | none =>
    cases hg : c.given with
    | none => rw [wide0_b hs hg]; exact wideB_b c hs hg w
    | some h =>
      cases hr : c.rated with
      | true => rw [wide0_d hs hg hr]; exact wideB_d c h hs hg hr w
      | false => rw [wide0_c hs hg hr]; exact wideB_c c h hs hg hr w
set_option maxRecDepth 100000 in
set_option maxHeartbeats 2000000 in
theorem highB_c (c : Cz) (n k : Int) (hg : c.given = none) (hr : c.rated = true) (w : World) : Calls Try.prog 46 #[.agg (boxL c).toArray, .int .i64 n, .int .i64 k] w fun e w' => e = .returned (.int .i64 (boxZ c.b (PT (sizZ c.b n c.x) (c.z 35) (c.z 34)) c.y)) ∧ Below w.heap.size w w' := by
  have HAL := Lib.hid (boxL_len c)
  have HCE := Lib.hid (fun i h => boxL_at c i h)
  have hx := Bx.new w (boxL c) 65
  have CG := Lib.hid (fun W => givenB_any c W)
  have CR := Lib.hid (fun W => ratioB_any c W)
  generalize boxL c = As at *
  have hal := HAL.out
  rw [hg] at CG
  simp only [Option.getD_none, Option.isSome_none] at CG
  rw [hr] at CR
  have hres := ratio_is c.b n c.y c.x (c.z 35) (c.z 34)
  rw [← hres]
  clear hres
  have C1 := fun W => asSize_any c.av (.func (.func 51) #[] #[]) c.b c.x n W rfl
  generalize (if c.b = true then n else max (subZ n c.x) 0) = s at *
  have C2 := fun W => Part_any s (c.z 35) (c.z 34) W
  generalize PT s (c.z 35) (c.z 34) = p at *
  have C3 := fun W => asBox_any c.bs (.func (.func 56) #[] #[]) c.b c.y p W rfl
  generalize (if c.b = true then max p c.y else addZ (max p 0) c.y) = r at *
  have D1 := Lib.hid C1
  have D2 := Lib.hid C2
  have D3 := Lib.hid C3
  clear C1 C2 C3
  go_enter Try.func46, Try.ntmps46
  go_upto_region 1 with fail
  obtain ⟨W1, hW⟩ : ∃ W, w.alloc (.cells As.toArray 65) = W := ⟨_, rfl⟩
  rw [hW] at hx ⊢
  clear hW
  obtain ⟨b, hb⟩ : ∃ b, w.heap.size = b := ⟨_, rfl⟩
  rw [hb] at hx ⊢
  have HX := Lib.hid hx
  clear hx
  refine wp_region_lit ?_
  refine wpList_load_mid rfl 65 _ rfl b 0 rfl As _ HX.out.rng Try.underlying65 rfl (by rw [size20b, HAL.out]) ?_
  go_wp2_with fail
  refine (CG.out _).mono ?_
  rintro e w2 ⟨rfl, hb2⟩
  have HX2 := Lib.hid (HX.out.call hb2)
  clear hb2 HX
  have HX := HX2
  clear HX2
  go_upto_region 4 with fail
  refine wp_region_lit ?_
  refine wpList_load_mid rfl 65 _ rfl b 0 rfl As _ HX.out.rng Try.underlying65 rfl (by rw [size20b, HAL.out]) ?_
  go_wp2_with fail
  refine (CR.out _).mono ?_
  rintro e w3 ⟨rfl, hb2⟩
  have HX2 := Lib.hid (HX.out.call hb2)
  clear hb2 HX
  have HX := HX2
  clear HX2
  go_upto_region 5 with fail
  have hS : Below w3.heap.size w3 w3.drew := (Below.refl _ _).drew
  refine wp_region_held_drew (S := fun w' => Below w3.heap.size w3 w') (by kernel_rfl) hS (fun hS => ?_)
  refine wpAnyH_take (i := 0) (v := .pointer (some ⟨b, 63, none⟩)) rfl (by kernel_rfl) (by kernel_rfl) (by kernel_rfl) (fun _ _ _ h => h) (Or.inl ⟨by kernel_rfl, fun w _ => by kernel_rfl⟩) hS ?_
  simp only [Act.put]
  try simp only [List.getElem_toArray]
  try simp only [List.getElem_cons_succ]
  try simp only [List.getElem_cons_zero]
  try simp only [List.setIfInBounds_toArray]
  try simp only [List.set_cons_succ]
  try simp only [List.set_cons_zero]
  refine wpAnyH_take (i := 1) (v := .agg #[.int .i64 c.bs, .func (.func 56) #[] #[], .bool c.b, .int .i64 c.y]) rfl (by kernel_rfl) (by kernel_rfl) (by kernel_rfl) (fun _ _ _ h => h) (yieldsIf_load_mid (by kernel_rfl) _ _ rfl b 63 (by kernel_rfl) [.int .i64 c.bs, .func (.func 56) #[] #[], .bool c.b, .int .i64 c.y] _ (fun w h => range2_below (HX.out.four 63 _ _ _ _ (HCE.out 63 (by decide)) (HCE.out 64 (by decide)) (HCE.out 65 (by decide)) (HCE.out 66 (by decide))) h HX.out.lt) Try.underlying63 rfl (by kernel_rfl)) hS ?_
  simp only [Act.put]
  try simp only [List.getElem_toArray]
  try simp only [List.getElem_cons_succ]
  try simp only [List.getElem_cons_zero]
  try simp only [List.setIfInBounds_toArray]
  try simp only [List.set_cons_succ]
  try simp only [List.set_cons_zero]
  refine wpAnyH_take (i := 2) (v := .pointer (some ⟨b, 59, none⟩)) rfl (by kernel_rfl) (by kernel_rfl) (by kernel_rfl) (fun _ _ _ h => h) (Or.inl ⟨by kernel_rfl, fun w _ => by kernel_rfl⟩) hS ?_
  simp only [Act.put]
  try simp only [List.getElem_toArray]
  try simp only [List.getElem_cons_succ]
  try simp only [List.getElem_cons_zero]
  try simp only [List.setIfInBounds_toArray]
  try simp only [List.set_cons_succ]
  try simp only [List.set_cons_zero]
  refine wpAnyH_take (i := 3) (v := .agg #[.int .i64 c.av, .func (.func 51) #[] #[], .bool c.b, .int .i64 c.x]) rfl (by kernel_rfl) (by kernel_rfl) (by kernel_rfl) (fun _ _ _ h => h) (yieldsIf_load_mid (by kernel_rfl) _ _ rfl b 59 (by kernel_rfl) [.int .i64 c.av, .func (.func 51) #[] #[], .bool c.b, .int .i64 c.x] _ (fun w h => range2_below (HX.out.four 59 _ _ _ _ (HCE.out 59 (by decide)) (HCE.out 60 (by decide)) (HCE.out 61 (by decide)) (HCE.out 62 (by decide))) h HX.out.lt) Try.underlying63 rfl (by kernel_rfl)) hS ?_
  simp only [Act.put]
  try simp only [List.getElem_toArray]
  try simp only [List.getElem_cons_succ]
  try simp only [List.getElem_cons_zero]
  try simp only [List.setIfInBounds_toArray]
  try simp only [List.set_cons_succ]
  try simp only [List.set_cons_zero]
  refine wpAnyH_take (i := 4) (v := .int .i64 n) rfl (by kernel_rfl) (by kernel_rfl) (by kernel_rfl) (fun _ _ _ h => h) (Or.inl ⟨by kernel_rfl, fun w _ => by kernel_rfl⟩) hS ?_
  simp only [Act.put]
  try simp only [List.getElem_toArray]
  try simp only [List.getElem_cons_succ]
  try simp only [List.getElem_cons_zero]
  try simp only [List.setIfInBounds_toArray]
  try simp only [List.set_cons_succ]
  try simp only [List.set_cons_zero]
  refine wpAnyH_take (i := 6) (v := .pointer (some ⟨b, 0, none⟩)) rfl (by kernel_rfl) (by kernel_rfl) (by kernel_rfl) (fun _ _ _ h => h) (Or.inl ⟨by kernel_rfl, fun w _ => by kernel_rfl⟩) hS ?_
  simp only [Act.put]
  try simp only [List.getElem_toArray]
  try simp only [List.getElem_cons_succ]
  try simp only [List.getElem_cons_zero]
  try simp only [List.setIfInBounds_toArray]
  try simp only [List.set_cons_succ]
  try simp only [List.set_cons_zero]
  refine wpAnyH_take (i := 7) (v := .pointer (some ⟨b, 0, none⟩)) rfl (by kernel_rfl) (by kernel_rfl) (by kernel_rfl) (fun _ _ _ h => h) (Or.inl ⟨by kernel_rfl, fun w _ => by kernel_rfl⟩) hS ?_
  simp only [Act.put]
  try simp only [List.getElem_toArray]
  try simp only [List.getElem_cons_succ]
  try simp only [List.getElem_cons_zero]
  try simp only [List.setIfInBounds_toArray]
  try simp only [List.set_cons_succ]
  try simp only [List.set_cons_zero]
  refine wpAnyH_take (i := 8) (v := .pointer (some ⟨b, 35, none⟩)) rfl (by kernel_rfl) (by kernel_rfl) (by kernel_rfl) (fun _ _ _ h => h) (Or.inl ⟨by kernel_rfl, fun w _ => by kernel_rfl⟩) hS ?_
  simp only [Act.put]
  try simp only [List.getElem_toArray]
  try simp only [List.getElem_cons_succ]
  try simp only [List.getElem_cons_zero]
  try simp only [List.setIfInBounds_toArray]
  try simp only [List.set_cons_succ]
  try simp only [List.set_cons_zero]
  refine wpAnyH_take (i := 9) (v := .int .i64 (c.z 35)) rfl (by kernel_rfl) (by kernel_rfl) (by kernel_rfl) (fun _ _ _ h => h) (yieldsIf_load_one (by kernel_rfl) _ _ rfl b 35 (by kernel_rfl) _ (fun w h => (h.cell (p := ⟨b, 35, none⟩) HX.out.lt).trans (HX.out.at_ 35 _ (HCE.out 35 (by decide)))) (isAgg_int20)) hS ?_
  simp only [Act.put]
  try simp only [List.getElem_toArray]
  try simp only [List.getElem_cons_succ]
  try simp only [List.getElem_cons_zero]
  try simp only [List.setIfInBounds_toArray]
  try simp only [List.set_cons_succ]
  try simp only [List.set_cons_zero]
  refine wpAnyH_take (i := 10) (v := .pointer (some ⟨b, 0, none⟩)) rfl (by kernel_rfl) (by kernel_rfl) (by kernel_rfl) (fun _ _ _ h => h) (Or.inl ⟨by kernel_rfl, fun w _ => by kernel_rfl⟩) hS ?_
  simp only [Act.put]
  try simp only [List.getElem_toArray]
  try simp only [List.getElem_cons_succ]
  try simp only [List.getElem_cons_zero]
  try simp only [List.setIfInBounds_toArray]
  try simp only [List.set_cons_succ]
  try simp only [List.set_cons_zero]
  refine wpAnyH_take (i := 11) (v := .pointer (some ⟨b, 0, none⟩)) rfl (by kernel_rfl) (by kernel_rfl) (by kernel_rfl) (fun _ _ _ h => h) (Or.inl ⟨by kernel_rfl, fun w _ => by kernel_rfl⟩) hS ?_
  simp only [Act.put]
  try simp only [List.getElem_toArray]
  try simp only [List.getElem_cons_succ]
  try simp only [List.getElem_cons_zero]
  try simp only [List.setIfInBounds_toArray]
  try simp only [List.set_cons_succ]
  try simp only [List.set_cons_zero]
  refine wpAnyH_take (i := 12) (v := .pointer (some ⟨b, 34, none⟩)) rfl (by kernel_rfl) (by kernel_rfl) (by kernel_rfl) (fun _ _ _ h => h) (Or.inl ⟨by kernel_rfl, fun w _ => by kernel_rfl⟩) hS ?_
  simp only [Act.put]
  try simp only [List.getElem_toArray]
  try simp only [List.getElem_cons_succ]
  try simp only [List.getElem_cons_zero]
  try simp only [List.setIfInBounds_toArray]
  try simp only [List.set_cons_succ]
  try simp only [List.set_cons_zero]
  refine wpAnyH_take (i := 13) (v := .int .i64 (c.z 34)) rfl (by kernel_rfl) (by kernel_rfl) (by kernel_rfl) (fun _ _ _ h => h) (yieldsIf_load_one (by kernel_rfl) _ _ rfl b 34 (by kernel_rfl) _ (fun w h => (h.cell (p := ⟨b, 34, none⟩) HX.out.lt).trans (HX.out.at_ 34 _ (HCE.out 34 (by decide)))) (isAgg_int20)) hS ?_
  simp only [Act.put]
  try simp only [List.getElem_toArray]
  try simp only [List.getElem_cons_succ]
  try simp only [List.getElem_cons_zero]
  try simp only [List.setIfInBounds_toArray]
  try simp only [List.set_cons_succ]
  try simp only [List.set_cons_zero]
  refine wpAnyH_ready (rs := [5]) (by kernel_rfl) (by simp) ?_
  refine AllReadyH.cons rfl (fun K hK => ?_) AllReadyH.nil
  go_simp
  refine (D1.out _).mono ?_
  rintro e wq1 ⟨rfl, hb⟩
  have hT := hS.trans (hb.mono hS.size)
  clear hb hS
  dsimp only
  refine hK.out _ _ hT (fun hS => ?_)
  clear hK K hT
  refine wpAnyH_ready (rs := [14]) (by kernel_rfl) (by simp) ?_
  refine AllReadyH.cons rfl (fun K hK => ?_) AllReadyH.nil
  go_simp
  refine (D2.out _).mono ?_
  rintro e wq ⟨rfl, rfl⟩
  refine hK.out _ _ hS (fun hS => ?_)
  clear hK K
  refine wpAnyH_ready (rs := [15]) (by kernel_rfl) (by simp) ?_
  refine AllReadyH.cons rfl (fun K hK => ?_) AllReadyH.nil
  go_simp
  refine (D3.out _).mono ?_
  rintro e wq3 ⟨rfl, hb⟩
  have hT := hS.trans (hb.mono hS.size)
  clear hb hS
  dsimp only
  refine hK.out _ _ hT (fun hS => ?_)
  clear hK K hT
  refine wpAnyH_take (i := 16) (v := .int .i64 r) rfl (by kernel_rfl) (by kernel_rfl) (by kernel_rfl) (fun _ _ _ h => h) (Or.inl ⟨by kernel_rfl, fun w _ => by kernel_rfl⟩) hS ?_
  simp only [Act.put]
  try simp only [List.getElem_toArray]
  try simp only [List.getElem_cons_succ]
  try simp only [List.getElem_cons_zero]
  try simp only [List.setIfInBounds_toArray]
  try simp only [List.set_cons_succ]
  try simp only [List.set_cons_zero]
  refine wpAnyH_done (by kernel_rfl) ?_ _
  have HE := Lib.hid (HX.out.bel.trans (hS.mono HX.out.bel.size))
  clear hS
  go_wp2_with fail
  go_ret
  exact ⟨rfl, hb ▸ HE.out⟩
theorem high0_a {c : Cz} {h : Int} (n k : Int) (hg : c.given = some h) : c.high0 n k = h := by unfold Cz.high0; rw [hg]
theorem high0_b {c : Cz} (n k : Int) (hg : c.given = none) (hr : c.rated = false) : c.high0 n k = addZ (max k 0) c.y := by
  unfold Cz.high0
  rw [hg]
  simp only [hr, Bool.false_eq_true, if_false]
theorem high0_c {c : Cz} (n k : Int) (hg : c.given = none) (hr : c.rated = true) : c.high0 n k = boxZ c.b (PT (sizZ c.b n c.x) (c.z 35) (c.z 34)) c.y := by
  unfold Cz.high0
  rw [hg]
  simp only [hr, if_true]
theorem highB_any (c : Cz) (n k : Int) (w : World) : Calls Try.prog 46 #[.agg (boxL c).toArray, .int .i64 n, .int .i64 k] w fun e w' => e = .returned (.int .i64 (c.high0 n k)) ∧ Below w.heap.size w w' := by
  cases hg : c.given with
  | some h => rw [high0_a n k hg]; exact highB_a c n k h hg w
  | none =>
    cases hr : c.rated with
    | true => rw [high0_c n k hg hr]; exact highB_c c n k hg hr w
    | false => rw [high0_b n k hg hr]; exact highB_b c n k hg hr w
end Go.Proofs.Ythfabalnioggcaa
