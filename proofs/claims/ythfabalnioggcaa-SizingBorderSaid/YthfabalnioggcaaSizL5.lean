/- Layer 20, the code: SizingBorder. (Written by gen_sizc3.py.) -/
import Derived.Test.YthfabalnioggcaaSizKq
namespace Go.Proofs.Ythfabalnioggcaa
open Go.RowKit TreN LexP FixP SynP ValP PropP FixM
set_option linter.unusedVariables false

/-- the case of a fixed width -/
def bz (c : Cz) (n : Int) (i : Nat) : Int := if i = 2 then 1 else if i = 3 then n else if i = 6 then 0 else if i = 7 then 0 else if i = 10 then 6 else if i = 11 then 0 else c.z i
def bc (c : Cz) (n : Int) (b : Bool) : Cz := { c with z := bz c n, b := b }
theorem bc_x (c : Cz) (n : Int) (b : Bool) : (bc c n b).x = c.x := rfl
theorem bc_says (c : Cz) (n : Int) (b : Bool) : (bc c n b).says ((bc c n b).z 2) ((bc c n b).z 3) = some (boxZ b (H n) c.x) := by
  show (bc c n b).says 1 n = _
  unfold Cz.says
  rw [if_pos (Or.inl rfl)]
  rfl
theorem bc_keep (c : Cz) (n : Int) (b : Bool) (u : Int) : (bc c n b).keepW u = max (H u) c.x := by
  have h1 : (bc c n b).says ((bc c n b).z 10) ((bc c n b).z 11) = none := by
    show (bc c n b).says 6 0 = _
    unfold Cz.says
    rw [if_neg (by decide), if_neg (by decide), if_neg (by decide), if_neg (by decide)]
  have h2 : (bc c n b).says ((bc c n b).z 6) ((bc c n b).z 7) = none := by
    show (bc c n b).says 0 0 = _
    unfold Cz.says
    rw [if_neg (by decide), if_neg (by decide), if_neg (by decide), if_neg (by decide)]
  unfold Cz.keepW
  rw [h1, h2, bc_x]
  rfl
theorem bc_true (c : Cz) (n : Int) (h1 : c.x ≤ n) (h2 : n ≤ 536870912) : (bc c n true).wide = n := by
  have h0 := x_nonneg c
  have hn : H n = n := H_id (by omega) (by omega)
  have hd := hd_x c
  unfold Cz.wide
  rw [wide0_a (bc_says c n true), bc_keep]
  unfold boxZ
  simp only [if_true]
  rw [hn, hn, show max n c.x = n by omega, hn]
  omega
theorem bc_false (c : Cz) (n : Int) (h1 : c.x ≤ n) (h2 : n ≤ 536870912) (h3 : c.x ≤ 536870912) : (bc c n false).wide = n + c.x := by
  have h0 := x_nonneg c
  have hn : H n = n := H_id (by omega) (by omega)
  have hx : H c.x = c.x := H_id (by omega) (by omega)
  have hs : H (n + c.x) = n + c.x := H_id (by omega) (by omega)
  unfold Cz.wide
  rw [wide0_a (bc_says c n false), bc_keep]
  unfold boxZ
  simp only [Bool.false_eq_true, if_false]
  unfold addZ
  rw [hn, show max n 0 = n by omega, hn, hx, hs, hs]
  omega
theorem bc_set (c : Cz) (n : Int) : (((((((caseL c).set 2 (.int .i64 1)).set 3 (.int .i64 n)).set 6 (.int .i64 0)).set 7 (.int .i64 0)).set 10 (.int .i64 6)).set 11 (.int .i64 0)).set 1 (.bool true) = caseL (bc c n true) := by kernel_rfl
theorem bc_set2 (c : Cz) (n : Int) : (caseL (bc c n true)).set 1 (.bool false) = caseL (bc c n false) := by kernel_rfl
/-- a case's variable -/
structure Vx (w W : World) (b : Nat) (As : List Value) : Prop where
  bel : Below w.heap.size w W
  rng : W.rangeAt b 0 As
  th : W.there b 0 59
  lt : b < W.heap.size
  hb : w.heap.size ≤ b
theorem Vx.call {w W W' : World} {b : Nat} {Ls : List Value} (h : Vx w W b Ls) (hb : Below W.heap.size W W') : Vx w W' b Ls :=
  ⟨h.bel.trans (hb.mono h.bel.size), rangeS_below h.rng hb h.lt, thereS_below h.th hb h.lt, Nat.lt_of_lt_of_le h.lt hb.size, h.hb⟩
theorem Vx.set {w W : World} {b : Nat} {Ls : List Value} (h : Vx w W b Ls) (j : Nat) (v : Value) : Vx w (W.setCell ⟨b, j, none⟩ v) b (Ls.set j v) :=
  ⟨h.bel.setCell (p := ⟨b, j, none⟩) h.hb v, rangeS_set h.rng j v, thereS_set h.th j v, by simpa using h.lt, h.hb⟩
theorem Vx.c {w W : World} {b : Nat} {Ls : List Value} (h : Vx w W b Ls) (i : Nat) (hi : i < 59) : ∃ v, W.cell? ⟨b, i, none⟩ = some v ∧ W.frozen? ⟨b, i, none⟩ = false := by
  have := h.th i hi
  rw [Nat.zero_add] at this
  obtain ⟨v, hv⟩ := Option.isSome_iff_exists.1 this.1
  exact ⟨v, hv, this.2⟩
set_option maxRecDepth 100000 in
set_option maxHeartbeats 2000000 in
theorem SizingBorder_walk (c : Cz) (n : Int) (w : World) : Calls Try.prog 8 #[.agg (caseL c).toArray, .int .i64 n] w fun e w' => e = .returned (.bool true) ∧ Below w.heap.size w w' := by
  have HAL := Lib.hid (caseL_len c)
  have HCE := Lib.hid (fun i h => caseL_at c i h)
  have hx := Bx.new w (caseL c) 29
  have CA := Lib.hid (fun W => Around_any c W)
  have hset := bc_set c n
  have hset2 := bc_set2 c n
  generalize caseL c = As at *
  have hal := HAL.out
  have hw1 := bc_true c n
  have hw2 := bc_false c n
  have h0 := x_nonneg c
  have E1 := caseL_len (bc c n true)
  have E2 := caseL_len (bc c n false)
  have D1 := fun W => Wide_any (bc c n true) W
  have D2 := fun W => Wide_any (bc c n false) W
  generalize (bc c n true).wide = u1 at *
  generalize (bc c n false).wide = u2 at *
  generalize caseL (bc c n true) = A1 at *
  generalize caseL (bc c n false) = A2 at *
  generalize c.x = x at *
  generalize c.y = y at *
  have HD1 := Lib.hid D1
  have HD2 := Lib.hid D2
  have HSET := Lib.hid hset
  have HSET2 := Lib.hid hset2
  have HW1 := Lib.hid hw1
  have HW2 := Lib.hid hw2
  clear D1 D2 hset hset2 hw1 hw2
  have hth := thereS_of_block (heap_alloc_new w (.cells As.toArray 29))
  rw [show As.toArray.size = 59 from by simpa using HAL.out] at hth
  have KN := Lib.hid (fun W => known20_any W)
  by_cases hg : n < x ∨ 536870912 < n ∨ 536870912 < x
  · rcases Int.lt_or_le n x with h1 | h1
    · clear hg
      go_enter Try.func8, Try.ntmps8
      go_upto_region 1 with fail
      obtain ⟨W1, hW⟩ : ∃ W, w.alloc (.cells As.toArray 29) = W := ⟨_, rfl⟩
      rw [hW] at hx hth ⊢
      clear hW
      obtain ⟨b, hb⟩ : ∃ b, w.heap.size = b := ⟨_, rfl⟩
      rw [hb] at hx hth ⊢
      have HV : Hid (Vx w W1 b As) := Lib.hid ⟨hx.bel, hx.rng, hth, hx.lt, Nat.le_of_eq hb⟩
      clear hx hth
      refine wp_region_lit ?_
      refine wpList_step (fun K hK => ?_)
      rw [if_pos (by kernel_rfl)]
      refine wp_load_mid 29 _ rfl b 0 (by kernel_rfl) As _ HV.out.rng Try.underlying29 rfl (by rw [size20c, HAL.out]) ?_
      refine hK _ _ ?_
      clear hK
      refine wpList_step (fun K hK => ?_)
      go_simp
      refine (CA.out _).mono ?_
      rintro e w2 ⟨rfl, hb2⟩
      have HV2 := Lib.hid (HV.out.call hb2)
      clear hb2 HV
      have HV := HV2
      clear HV2
      dsimp only
      refine hK _ _ ?_
      clear hK
      refine wpList_step (fun K hK => ?_)
      go_simp
      refine hK _ _ ?_
      clear hK
      refine wpList_step (fun K hK => ?_)
      go_simp
      refine hK _ _ ?_
      clear hK
      refine wpList_step (fun K hK => ?_)
      go_simp
      refine hK _ _ ?_
      clear hK
      refine wpList_step (fun K hK => ?_)
      go_simp
      refine hK _ _ ?_
      clear hK
      refine wpList_step (fun K hK => ?_)
      go_simp
      refine hK _ _ ?_
      clear hK
      go_wp2_with fail
      refine (KN.out _).mono ?_
      rintro e w3 ⟨rfl, hb2⟩
      have HV2 := Lib.hid (HV.out.call hb2)
      clear hb2 HV
      have HV := HV2
      clear HV2
      go_wp2_with fail
      go_ret
      exact ⟨rfl, hb ▸ HV.out.bel⟩
    · have h1' : ¬ n < x := by omega
      rcases Int.lt_or_le 536870912 n with h2 | h2
      · clear hg
        go_enter Try.func8, Try.ntmps8
        go_upto_region 1 with fail
        obtain ⟨W1, hW⟩ : ∃ W, w.alloc (.cells As.toArray 29) = W := ⟨_, rfl⟩
        rw [hW] at hx hth ⊢
        clear hW
        obtain ⟨b, hb⟩ : ∃ b, w.heap.size = b := ⟨_, rfl⟩
        rw [hb] at hx hth ⊢
        have HV : Hid (Vx w W1 b As) := Lib.hid ⟨hx.bel, hx.rng, hth, hx.lt, Nat.le_of_eq hb⟩
        clear hx hth
        refine wp_region_lit ?_
        refine wpList_step (fun K hK => ?_)
        rw [if_pos (by kernel_rfl)]
        refine wp_load_mid 29 _ rfl b 0 (by kernel_rfl) As _ HV.out.rng Try.underlying29 rfl (by rw [size20c, HAL.out]) ?_
        refine hK _ _ ?_
        clear hK
        refine wpList_step (fun K hK => ?_)
        go_simp
        refine (CA.out _).mono ?_
        rintro e w2 ⟨rfl, hb2⟩
        have HV2 := Lib.hid (HV.out.call hb2)
        clear hb2 HV
        have HV := HV2
        clear HV2
        dsimp only
        refine hK _ _ ?_
        clear hK
        refine wpList_step (fun K hK => ?_)
        go_simp
        refine hK _ _ ?_
        clear hK
        refine wpList_step (fun K hK => ?_)
        go_simp
        refine hK _ _ ?_
        clear hK
        refine wpList_step (fun K hK => ?_)
        go_simp
        refine hK _ _ ?_
        clear hK
        refine wpList_step (fun K hK => ?_)
        go_simp
        refine hK _ _ ?_
        clear hK
        refine wpList_step (fun K hK => ?_)
        go_simp
        refine hK _ _ ?_
        clear hK
        go_wp2_with fail
        refine (KN.out _).mono ?_
        rintro e w3 ⟨rfl, hb2⟩
        have HV2 := Lib.hid (HV.out.call hb2)
        clear hb2 HV
        have HV := HV2
        clear HV2
        go_wp2_with fail
        go_ret
        exact ⟨rfl, hb ▸ HV.out.bel⟩
      · have h2' : ¬ 536870912 < n := by omega
        have h3 : 536870912 < x := by omega
        clear hg
        go_enter Try.func8, Try.ntmps8
        go_upto_region 1 with fail
        obtain ⟨W1, hW⟩ : ∃ W, w.alloc (.cells As.toArray 29) = W := ⟨_, rfl⟩
        rw [hW] at hx hth ⊢
        clear hW
        obtain ⟨b, hb⟩ : ∃ b, w.heap.size = b := ⟨_, rfl⟩
        rw [hb] at hx hth ⊢
        have HV : Hid (Vx w W1 b As) := Lib.hid ⟨hx.bel, hx.rng, hth, hx.lt, Nat.le_of_eq hb⟩
        clear hx hth
        refine wp_region_lit ?_
        refine wpList_step (fun K hK => ?_)
        rw [if_pos (by kernel_rfl)]
        refine wp_load_mid 29 _ rfl b 0 (by kernel_rfl) As _ HV.out.rng Try.underlying29 rfl (by rw [size20c, HAL.out]) ?_
        refine hK _ _ ?_
        clear hK
        refine wpList_step (fun K hK => ?_)
        go_simp
        refine (CA.out _).mono ?_
        rintro e w2 ⟨rfl, hb2⟩
        have HV2 := Lib.hid (HV.out.call hb2)
        clear hb2 HV
        have HV := HV2
        clear HV2
        dsimp only
        refine hK _ _ ?_
        clear hK
        refine wpList_step (fun K hK => ?_)
        go_simp
        refine hK _ _ ?_
        clear hK
        refine wpList_step (fun K hK => ?_)
        go_simp
        refine hK _ _ ?_
        clear hK
        refine wpList_step (fun K hK => ?_)
        go_simp
        refine hK _ _ ?_
        clear hK
        refine wpList_step (fun K hK => ?_)
        go_simp
        refine hK _ _ ?_
        clear hK
        refine wpList_step (fun K hK => ?_)
        go_simp
        refine hK _ _ ?_
        clear hK
        go_wp2_with fail
        refine (KN.out _).mono ?_
        rintro e w3 ⟨rfl, hb2⟩
        have HV2 := Lib.hid (HV.out.call hb2)
        clear hb2 HV
        have HV := HV2
        clear HV2
        go_wp2_with fail
        go_ret
        exact ⟨rfl, hb ▸ HV.out.bel⟩
  · skip
    have h1 : ¬ n < x := fun q => hg (Or.inl q)
    have h2 : ¬ 536870912 < n := fun q => hg (Or.inr (Or.inl q))
    have h3 : ¬ 536870912 < x := fun q => hg (Or.inr (Or.inr q))
    clear hg
    have g1 : x ≤ n := by omega
    have g2 : n ≤ 536870912 := by omega
    have g3 : x ≤ 536870912 := by omega
    have hwr : IntKind.i64.wrap (n + x) = n + x := IntWalk.i64_in _ (by omega)
    have e1 := HW1.out (by omega) (by omega)
    have e2 := HW2.out (by omega) (by omega) (by omega)
    rw [e1] at HD1
    rw [e2] at HD2
    clear HW1 HW2 e1 e2
    go_enter Try.func8, Try.ntmps8
    go_upto_region 1 with fail
    obtain ⟨W1, hW⟩ : ∃ W, w.alloc (.cells As.toArray 29) = W := ⟨_, rfl⟩
    rw [hW] at hx hth ⊢
    clear hW
    obtain ⟨b, hb⟩ : ∃ b, w.heap.size = b := ⟨_, rfl⟩
    rw [hb] at hx hth ⊢
    have HV : Hid (Vx w W1 b As) := Lib.hid ⟨hx.bel, hx.rng, hth, hx.lt, Nat.le_of_eq hb⟩
    clear hx hth
    refine wp_region_lit ?_
    refine wpList_step (fun K hK => ?_)
    rw [if_pos (by kernel_rfl)]
    refine wp_load_mid 29 _ rfl b 0 (by kernel_rfl) As _ HV.out.rng Try.underlying29 rfl (by rw [size20c, HAL.out]) ?_
    refine hK _ _ ?_
    clear hK
    refine wpList_step (fun K hK => ?_)
    go_simp
    refine (CA.out _).mono ?_
    rintro e w2 ⟨rfl, hb2⟩
    have HV2 := Lib.hid (HV.out.call hb2)
    clear hb2 HV
    have HV := HV2
    clear HV2
    dsimp only
    refine hK _ _ ?_
    clear hK
    refine wpList_step (fun K hK => ?_)
    go_simp
    refine hK _ _ ?_
    clear hK
    refine wpList_step (fun K hK => ?_)
    go_simp
    refine hK _ _ ?_
    clear hK
    refine wpList_step (fun K hK => ?_)
    go_simp
    refine hK _ _ ?_
    clear hK
    refine wpList_step (fun K hK => ?_)
    go_simp
    refine hK _ _ ?_
    clear hK
    refine wpList_step (fun K hK => ?_)
    go_simp
    refine hK _ _ ?_
    clear hK
    go_upto_region 4 with fail
    obtain ⟨v2, c2, f2⟩ := HV.out.c 2 (by decide)
    obtain ⟨v3, c3, f3⟩ := HV.out.c 3 (by decide)
    obtain ⟨v6, c6, f6⟩ := HV.out.c 6 (by decide)
    obtain ⟨v7, c7, f7⟩ := HV.out.c 7 (by decide)
    obtain ⟨v10, c10, f10⟩ := HV.out.c 10 (by decide)
    obtain ⟨v11, c11, f11⟩ := HV.out.c 11 (by decide)
    go_upto_region 5 with fail
    have hv := ((((((HV.out.set 2 (.int .i64 1)).set 3 (.int .i64 n)).set 6 (.int .i64 0)).set 7 (.int .i64 0)).set 10 (.int .i64 6)).set 11 (.int .i64 0))
    obtain ⟨W3, hW⟩ : ∃ X, ((((((w2.setCell ⟨b, 2, none⟩ (.int .i64 1)).setCell ⟨b, 3, none⟩ (.int .i64 n)).setCell ⟨b, 6, none⟩ (.int .i64 0)).setCell ⟨b, 7, none⟩ (.int .i64 0)).setCell ⟨b, 10, none⟩ (.int .i64 6)).setCell ⟨b, 11, none⟩ (.int .i64 0)) = X := ⟨_, rfl⟩
    rw [hW] at hv ⊢
    clear hW HV c2 f2 v2 c3 f3 v3 c6 f6 v6 c7 f7 v7 c10 f10 v10 c11 f11 v11
    have HV := Lib.hid hv
    clear hv
    obtain ⟨v1, c1, f1⟩ := HV.out.c 1 (by decide)
    go_upto_region 6 with fail
    have hv := (HV.out.set 1 (.bool true))
    obtain ⟨W4, hW⟩ : ∃ X, (W3.setCell ⟨b, 1, none⟩ (.bool true)) = X := ⟨_, rfl⟩
    rw [hW] at hv ⊢
    clear hW HV c1 f1 v1
    have HV := Lib.hid hv
    clear hv
    have hv := HV.out
    rw [HSET.out] at hv
    clear HV
    have HV := Lib.hid hv
    clear hv
    refine wp_region_lit ?_
    refine wpList_step (fun K hK => ?_)
    rw [if_pos (by kernel_rfl)]
    refine wp_load_mid 29 _ rfl b 0 (by kernel_rfl) A1 _ HV.out.rng Try.underlying29 rfl (by rw [size20c, E1]) ?_
    refine hK _ _ ?_
    clear hK
    refine wpList_step (fun K hK => ?_)
    go_simp
    refine (HD1.out _).mono ?_
    rintro e w5 ⟨rfl, hb2⟩
    have HV2 := Lib.hid (HV.out.call hb2)
    clear hb2 HV
    have HV := HV2
    clear HV2
    dsimp only
    refine hK _ _ ?_
    clear hK
    go_upto_region 7 with fail
    obtain ⟨v1, c1, f1⟩ := HV.out.c 1 (by decide)
    go_upto_region 8 with fail
    have hv := (HV.out.set 1 (.bool false))
    obtain ⟨W6, hW⟩ : ∃ X, (w5.setCell ⟨b, 1, none⟩ (.bool false)) = X := ⟨_, rfl⟩
    rw [hW] at hv ⊢
    clear hW HV c1 f1 v1
    have HV := Lib.hid hv
    clear hv
    have hv := HV.out
    rw [HSET2.out] at hv
    clear HV
    have HV := Lib.hid hv
    clear hv
    refine wp_region_lit ?_
    refine wpList_step (fun K hK => ?_)
    go_simp
    refine hK _ _ ?_
    clear hK
    refine wpList_step (fun K hK => ?_)
    go_simp
    refine hK _ _ ?_
    clear hK
    refine wpList_step (fun K hK => ?_)
    go_simp
    refine hK _ _ ?_
    clear hK
    refine wpList_step (fun K hK => ?_)
    go_simp
    refine hK _ _ ?_
    clear hK
    refine wpList_step (fun K hK => ?_)
    rw [if_pos (by kernel_rfl)]
    refine wp_load_mid 29 _ rfl b 0 (by kernel_rfl) A2 _ HV.out.rng Try.underlying29 rfl (by rw [size20c, E2]) ?_
    refine hK _ _ ?_
    clear hK
    refine wpList_step (fun K hK => ?_)
    go_simp
    refine (HD2.out _).mono ?_
    rintro e w7 ⟨rfl, hb2⟩
    have HV2 := Lib.hid (HV.out.call hb2)
    clear hb2 HV
    have HV := HV2
    clear HV2
    dsimp only
    refine hK _ _ ?_
    clear hK
    refine wpList_step (fun K hK => ?_)
    go_simp
    refine hK _ _ ?_
    clear hK
    refine wpList_step (fun K hK => ?_)
    go_simp
    refine hK _ _ ?_
    clear hK
    refine wpList_step (fun K hK => ?_)
    go_simp
    refine hK _ _ ?_
    clear hK
    refine wpList_step (fun K hK => ?_)
    go_simp
    refine hK _ _ ?_
    clear hK
    refine wpList_step (fun K hK => ?_)
    go_simp
    refine hK _ _ ?_
    clear hK
    refine wpList_step (fun K hK => ?_)
    go_simp
    refine hK _ _ ?_
    clear hK
    refine wpList_step (fun K hK => ?_)
    go_simp
    refine (KN.out _).mono ?_
    rintro e w8 ⟨rfl, hb2⟩
    have HV2 := Lib.hid (HV.out.call hb2)
    clear hb2 HV
    have HV := HV2
    clear HV2
    dsimp only
    refine hK _ _ ?_
    clear hK
    go_wp2_with fail
    go_ret
    exact ⟨rfl, hb ▸ HV.out.bel⟩
end Go.Proofs.Ythfabalnioggcaa
