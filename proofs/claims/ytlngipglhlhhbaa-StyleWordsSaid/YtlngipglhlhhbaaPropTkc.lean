/- What a property takes: takes, Takes. -/
import Derived.Test.YtlngipglhlhhbaaPropTkb
import Derived.Deep.RegionHeld
import Derived.Deep.RegionHeld3
import Derived.Deep.CutBlock
namespace Go.Proofs.Ytlngipglhlhhbaa
open Go.RowKit TreN LexP FixP SynP ValP PropP FixM
set_option linter.unusedVariables false

set_option maxRecDepth 100000 in
set_option maxHeartbeats 4000000 in
theorem takes_nat (p : Nat) (h1 : 1 ≤ p) (h2 : p ≤ 37) (k n d : Int) (nm : List UInt8) (w : World) : Calls Try.prog 47 #[.int .i64 (p : Int), .agg #[.int .i64 k, .int .i64 n, .int .i64 d, .string ⟨nm.toArray⟩]] w fun e w' => e = .returned (.bool (ownB p ⟨k, n, d, nm⟩)) ∧ Below w.heap.size w w' := by
  have PWI := Lib.hid (fun W => pWords_is p h1 h2 k n d nm W)
  have BS := Lib.hid (fun W => beside_any p h1 h2 k n d nm W)
  rw [ownB_eq]
  have HB := Lib.hid (below_oneP w (.cells #[.int .i64 k, .int .i64 n, .int .i64 d, .string ⟨nm.toArray⟩] 34))
  generalize hW : w.alloc (.cells #[.int .i64 k, .int .i64 n, .int .i64 d, .string ⟨nm.toArray⟩] 34) = W at *
  have hfx : W.heap[w.heap.size]? = some (.cells #[.int .i64 k, .int .i64 n, .int .i64 d, .string ⟨nm.toArray⟩] 34 (0, 0)) := by rw [← hW]; exact heap_alloc_new w _
  have hl := blk_ltP hfx
  have HX := Lib.hid hfx
  have d0 : W.cell? ⟨w.heap.size, 0, none⟩ = some (.int .i64 k) := cell_of hfx rfl
  have d1 : W.cell? ⟨w.heap.size, 1, none⟩ = some (.int .i64 n) := cell_of hfx rfl
  have d2 : W.cell? ⟨w.heap.size, 2, none⟩ = some (.int .i64 d) := cell_of hfx rfl
  have d3 : W.cell? ⟨w.heap.size, 3, none⟩ = some (.string ⟨nm.toArray⟩) := cell_of hfx rfl
  clear hfx
  generalize isB ⟨k, n, d, nm⟩ (wrdsP p) = ib at *
  generalize othB (othP p) ⟨k, n, d, nm⟩ = ob at *
  cases ib
  case false =>
    go_enter Try.func47, Try.ntmps47
    go_upto_region 1 with (fail)
    refine wp_region_held_drew (S := fun w' => w'.cell? ⟨w.heap.size, 0, none⟩ = some (.int .i64 k) ∧ w'.cell? ⟨w.heap.size, 1, none⟩ = some (.int .i64 n) ∧ w'.cell? ⟨w.heap.size, 2, none⟩ = some (.int .i64 d) ∧ w'.cell? ⟨w.heap.size, 3, none⟩ = some (.string ⟨nm.toArray⟩)) (by kernel_rfl) ⟨d0, d1, d2, d3⟩ (fun hS0 => ?_)
    refine wpAnyH_take (i := 0) (v := ?_) rfl (by kernel_rfl) (by kernel_rfl) (by kernel_rfl) (fun _ _ _ h => h) (Or.inl ⟨by rfl, ?_⟩) hS0 ?_
    rotate_left
    · (intro w hSw; (try dsimp only at hSw); go_simp; (try with_reducible rfl))
    try simp only [Act.put, List.setIfInBounds_toArray]
    refine wpAnyH_take (i := 1) (v := ?_) rfl (by kernel_rfl) (by kernel_rfl) (by kernel_rfl) (fun _ _ _ h => h) (Or.inl ⟨by rfl, ?_⟩) hS0 ?_
    rotate_left
    · (intro w hSw; (try dsimp only at hSw); go_simp; (try with_reducible rfl))
    try simp only [Act.put]
    refine wpAnyH_ready (rs := [2]) (by kernel_rfl) (by simp) ?_
    refine AllReadyH.cons rfl (fun K hK => ?_) AllReadyH.nil
    go_simp
    go_at_call 41
    refine (PWI.out _).mono ?_
    rintro e w1 ⟨a, m, c, rfl, hb1, hI⟩
    have hx1 := (hb1.block _ (by have := hl; simp at this ⊢; first | exact this | omega)).trans HX.out
    have HB1 := Lib.hid (HB.out.drew.trans (hb1.mono HB.out.size))
    have HX1 := Lib.hid hx1
    have HI := Lib.hid hI
    clear hb1 hI
    refine hK.out _ _ ⟨cell_of hx1 rfl, cell_of hx1 rfl, cell_of hx1 rfl, cell_of hx1 rfl⟩ (fun hS1 => ?_)
    clear hK K hx1
    refine wpAnyH_ready (rs := [3]) (by kernel_rfl) (by simp) ?_
    refine AllReadyH.cons rfl (fun K hK => ?_) AllReadyH.nil
    go_simp
    go_at_call 57
    refine HI.out.mono ?_
    rintro e w2 ⟨rfl, hb2⟩
    have hx2 := (hb2.block _ (blk_ltP HX1.out)).trans HX1.out
    have HB2 := Lib.hid (HB1.out.trans (hb2.mono HB1.out.size))
    have HX2 := Lib.hid hx2
    clear hb2
    refine hK.out _ _ ⟨cell_of hx2 rfl, cell_of hx2 rfl, cell_of hx2 rfl, cell_of hx2 rfl⟩ (fun hS2 => ?_)
    clear hK K hx2 HI
    refine wpAnyH_take (i := 4) (v := ?_) rfl (by kernel_rfl) (by kernel_rfl) (by kernel_rfl) (fun _ _ _ h => h) (Or.inl ⟨by rfl, ?_⟩) hS2 ?_
    rotate_left
    · (intro w hSw; (try dsimp only at hSw); go_simp; (try with_reducible rfl))
    try simp only [Act.put, List.setIfInBounds_toArray]
    refine wpAnyH_take (i := 5) (v := ?_) rfl (by kernel_rfl) (by kernel_rfl) (by kernel_rfl) (fun _ _ _ h => h) (Or.inl ⟨by rfl, ?_⟩) hS2 ?_
    rotate_left
    · (intro w hSw; (try dsimp only at hSw); go_simp; (try with_reducible rfl))
    try simp only [Act.put]
    refine wpAnyH_take (i := 6) (v := ?_) rfl (by kernel_rfl) (by kernel_rfl) (by kernel_rfl) (fun _ _ _ h => h) (Or.inl ⟨by rfl, ?_⟩) hS2 ?_
    rotate_left
    · (intro w hSw; (try dsimp only at hSw); go_simp; (try with_reducible rfl))
    try simp only [Act.put]
    refine wpAnyH_ready (rs := [7]) (by kernel_rfl) (by simp) ?_
    refine AllReadyH.cons rfl (fun K hK => ?_) AllReadyH.nil
    go_simp
    go_at_call 58
    refine (BS.out _).mono ?_
    rintro e w3 ⟨rfl, hb3⟩
    have hx3 := (hb3.block _ (blk_ltP HX2.out)).trans HX2.out
    have HB3 := Lib.hid (HB2.out.trans (hb3.mono HB2.out.size))
    clear hb3
    refine hK.out _ _ ⟨cell_of hx3 rfl, cell_of hx3 rfl, cell_of hx3 rfl, cell_of hx3 rfl⟩ (fun hS3 => ?_)
    clear hK K hx3
    refine wpAnyH_take (i := 8) (v := ?_) rfl (by kernel_rfl) (by kernel_rfl) (by kernel_rfl) (fun _ _ _ h => h) (Or.inl ⟨by rfl, ?_⟩) hS3 ?_
    rotate_left
    · (intro w hSw; (try dsimp only at hSw); go_simp; (try with_reducible rfl))
    try simp only [Act.put]
    refine wpAnyH_take (i := 9) (v := ?_) rfl (by kernel_rfl) (by kernel_rfl) (by kernel_rfl) (fun _ _ _ h => h) (Or.inl ⟨by rfl, ?_⟩) hS3 ?_
    rotate_left
    · (intro w hSw; (try dsimp only at hSw); go_simp; (try with_reducible rfl))
    try simp only [Act.put]
    refine wpAnyH_done (by kernel_rfl) ?_ _
    go_simp
    go_wp2_with fail
    go_ret
    first
      | exact ⟨ret_bool (by simp), HB3.out⟩
      | exact ⟨by simp, HB3.out⟩
      | exact ⟨by simp [Array.setIfInBounds], HB3.out⟩
      | exact ⟨by cases ob <;> rfl, HB3.out⟩
      | exact ⟨rfl, HB3.out⟩
  case true =>
    go_enter Try.func47, Try.ntmps47
    go_upto_region 1 with (fail)
    refine wp_region_held_drew (S := fun w' => w'.cell? ⟨w.heap.size, 0, none⟩ = some (.int .i64 k) ∧ w'.cell? ⟨w.heap.size, 1, none⟩ = some (.int .i64 n) ∧ w'.cell? ⟨w.heap.size, 2, none⟩ = some (.int .i64 d) ∧ w'.cell? ⟨w.heap.size, 3, none⟩ = some (.string ⟨nm.toArray⟩)) (by kernel_rfl) ⟨d0, d1, d2, d3⟩ (fun hS0 => ?_)
    refine wpAnyH_take (i := 0) (v := ?_) rfl (by kernel_rfl) (by kernel_rfl) (by kernel_rfl) (fun _ _ _ h => h) (Or.inl ⟨by rfl, ?_⟩) hS0 ?_
    rotate_left
    · (intro w hSw; (try dsimp only at hSw); go_simp; (try with_reducible rfl))
    try simp only [Act.put, List.setIfInBounds_toArray]
    refine wpAnyH_take (i := 1) (v := ?_) rfl (by kernel_rfl) (by kernel_rfl) (by kernel_rfl) (fun _ _ _ h => h) (Or.inl ⟨by rfl, ?_⟩) hS0 ?_
    rotate_left
    · (intro w hSw; (try dsimp only at hSw); go_simp; (try with_reducible rfl))
    try simp only [Act.put]
    refine wpAnyH_ready (rs := [2]) (by kernel_rfl) (by simp) ?_
    refine AllReadyH.cons rfl (fun K hK => ?_) AllReadyH.nil
    go_simp
    go_at_call 41
    refine (PWI.out _).mono ?_
    rintro e w1 ⟨a, m, c, rfl, hb1, hI⟩
    have hx1 := (hb1.block _ (by have := hl; simp at this ⊢; first | exact this | omega)).trans HX.out
    have HB1 := Lib.hid (HB.out.drew.trans (hb1.mono HB.out.size))
    have HX1 := Lib.hid hx1
    have HI := Lib.hid hI
    clear hb1 hI
    refine hK.out _ _ ⟨cell_of hx1 rfl, cell_of hx1 rfl, cell_of hx1 rfl, cell_of hx1 rfl⟩ (fun hS1 => ?_)
    clear hK K hx1
    refine wpAnyH_ready (rs := [3]) (by kernel_rfl) (by simp) ?_
    refine AllReadyH.cons rfl (fun K hK => ?_) AllReadyH.nil
    go_simp
    go_at_call 57
    refine HI.out.mono ?_
    rintro e w2 ⟨rfl, hb2⟩
    have hx2 := (hb2.block _ (blk_ltP HX1.out)).trans HX1.out
    have HB2 := Lib.hid (HB1.out.trans (hb2.mono HB1.out.size))
    have HX2 := Lib.hid hx2
    clear hb2
    refine hK.out _ _ ⟨cell_of hx2 rfl, cell_of hx2 rfl, cell_of hx2 rfl, cell_of hx2 rfl⟩ (fun hS2 => ?_)
    clear hK K hx2 HI
    refine wpAnyH_take (i := 4) (v := ?_) rfl (by kernel_rfl) (by kernel_rfl) (by kernel_rfl) (fun _ _ _ h => h) (Or.inl ⟨by rfl, ?_⟩) hS2 ?_
    rotate_left
    · (intro w hSw; (try dsimp only at hSw); go_simp; (try with_reducible rfl))
    try simp only [Act.put, List.setIfInBounds_toArray]
    refine wpAnyH_take (i := 5) (v := undef) rfl (by kernel_rfl) (by kernel_rfl) (by kernel_rfl) (fun _ _ _ h => h) (Or.inr ⟨by rfl, rfl⟩) hS2 ?_
    try simp only [Act.put]
    refine wpAnyH_take (i := 6) (v := undef) rfl (by kernel_rfl) (by kernel_rfl) (by kernel_rfl) (fun _ _ _ h => h) (Or.inr ⟨by rfl, rfl⟩) hS2 ?_
    try simp only [Act.put]
    refine wpAnyH_take (i := 7) (v := undef) rfl (by kernel_rfl) (by kernel_rfl) (by kernel_rfl) (fun _ _ _ h => h) (Or.inr ⟨by rfl, rfl⟩) hS2 ?_
    try simp only [Act.put]
    refine wpAnyH_take (i := 8) (v := ?_) rfl (by kernel_rfl) (by kernel_rfl) (by kernel_rfl) (fun _ _ _ h => h) (Or.inl ⟨by rfl, ?_⟩) hS2 ?_
    rotate_left
    · (intro w hSw; (try dsimp only at hSw); go_simp; (try with_reducible rfl))
    try simp only [Act.put]
    refine wpAnyH_take (i := 9) (v := ?_) rfl (by kernel_rfl) (by kernel_rfl) (by kernel_rfl) (fun _ _ _ h => h) (Or.inl ⟨by rfl, ?_⟩) hS2 ?_
    rotate_left
    · (intro w hSw; (try dsimp only at hSw); go_simp; (try with_reducible rfl))
    try simp only [Act.put]
    refine wpAnyH_done (by kernel_rfl) ?_ _
    go_simp
    go_wp2_with fail
    go_ret
    first
      | exact ⟨ret_bool (by simp), HB2.out⟩
      | exact ⟨by simp, HB2.out⟩
      | exact ⟨by simp [Array.setIfInBounds], HB2.out⟩
      | exact ⟨by cases ob <;> rfl, HB2.out⟩
      | exact ⟨rfl, HB2.out⟩

theorem takes_any (p : Int) (h1 : 1 ≤ p) (h2 : p ≤ 37) (k n d : Int) (nm : List UInt8) (w : World) : Calls Try.prog 47 #[.int .i64 p, .agg #[.int .i64 k, .int .i64 n, .int .i64 d, .string ⟨nm.toArray⟩]] w fun e w' => e = .returned (.bool (ownB p.toNat ⟨k, n, d, nm⟩)) ∧ Below w.heap.size w w' := by
  obtain ⟨q, rfl⟩ : ∃ q : Nat, p = (q : Int) := ⟨p.toNat, by omega⟩
  exact takes_nat q (by omega) (by omega) k n d nm w
end Go.Proofs.Ytlngipglhlhhbaa

namespace Go.Proofs.Ytlngipglhlhhbaa
open Go.RowKit TreN LexP FixP SynP ValP PropP FixM
set_option linter.unusedVariables false

theorem names_ne : ∀ k : Fin 37, namesL.getD k.val [] ≠ [] := by decide +kernel
theorem nameOf_ne {p : Int} (h1 : 1 ≤ p) (h2 : p ≤ 37) : txtP namesL p ≠ [] := by
  unfold txtP
  rw [if_pos ⟨h1, by rw [names_len]; omega⟩]
  exact names_ne ⟨p.toNat - 1, by omega⟩
theorem nameOf_no {p : Int} (h : ¬ (1 ≤ p ∧ p ≤ 37)) : txtP namesL p = [] := by
  unfold txtP
  rw [if_neg (by rw [names_len]; omega)]
set_option maxRecDepth 100000 in
set_option maxHeartbeats 1000000 in
theorem Takes10_any (p k n d : Int) (nm : List UInt8) (w : World) (hs : nm.length ≤ maxLen) : Calls Try.prog 34 #[.int .i64 p, .agg #[.int .i64 k, .int .i64 n, .int .i64 d, .string ⟨nm.toArray⟩]] w fun e w' => e = .returned (.bool (takesP p ⟨k, n, d, nm⟩)) ∧ Below w.heap.size w w' := by
  have HB := Lib.hid (below_oneP w (.cells #[.int .i64 k, .int .i64 n, .int .i64 d, .string ⟨nm.toArray⟩] 34))
  have N := Lib.hid (fun W => Name10_any p W)
  generalize hW : w.alloc (.cells #[.int .i64 k, .int .i64 n, .int .i64 d, .string ⟨nm.toArray⟩] 34) = W at *
  have hfx : W.heap[w.heap.size]? = some (.cells #[.int .i64 k, .int .i64 n, .int .i64 d, .string ⟨nm.toArray⟩] 34 (0, 0)) := by rw [← hW]; exact heap_alloc_new w _
  have hl := blk_ltP hfx
  have HX := Lib.hid hfx
  have d0 : W.cell? ⟨w.heap.size, 0, none⟩ = some (.int .i64 k) := cell_of hfx rfl
  have d1 : W.cell? ⟨w.heap.size, 1, none⟩ = some (.int .i64 n) := cell_of hfx rfl
  have d2 : W.cell? ⟨w.heap.size, 2, none⟩ = some (.int .i64 d) := cell_of hfx rfl
  have d3 : W.cell? ⟨w.heap.size, 3, none⟩ = some (.string ⟨nm.toArray⟩) := cell_of hfx rfl
  clear hfx
  by_cases hp : 1 ≤ p ∧ p ≤ 37
  · have hne := nameOf_ne hp.1 hp.2
    have R := Lib.hid (fun W => Right9_any k n d nm W hs)
    have G := Lib.hid (fun W => general_any k n d nm W)
    have T := Lib.hid (fun W => takes_any p hp.1 hp.2 k n d nm W)
    have hg : rightV ⟨k, n, d, nm⟩ = true → isB ⟨k, n, d, nm⟩ genW = genB ⟨k, n, d, nm⟩ := gen_is
    have ho : takesP p ⟨k, n, d, nm⟩ = (rightV ⟨k, n, d, nm⟩ && (genB ⟨k, n, d, nm⟩ || ownB p.toNat ⟨k, n, d, nm⟩)) := by unfold takesP; rw [decide_eq_true hp, Bool.true_and]
    rw [ho]
    clear ho hs
    generalize txtP namesL p = x at *
    generalize rightV ⟨k, n, d, nm⟩ = rv at *
    generalize isB ⟨k, n, d, nm⟩ genW = ig at *
    generalize genB ⟨k, n, d, nm⟩ = gb at *
    generalize ownB p.toNat ⟨k, n, d, nm⟩ = ob at *
    obtain ⟨c, r, rfl⟩ : ∃ c r, x = c :: r := by cases x with | nil => exact absurd rfl hne | cons c r => exact ⟨c, r, rfl⟩
    clear hne hp
    cases rv
    · clear hg G T
      go_enter Try.func34, Try.ntmps34
      go_wp2_with fail
      refine (N.out _).mono ?_
      rintro e w1 ⟨rfl, hb1⟩
      have HB1 := Lib.hid (HB.out.trans (hb1.mono HB.out.size))
      have hx1 := (hb1.block _ hl).trans HX.out
      have d0 : w1.cell? ⟨w.heap.size, 0, none⟩ = some (.int .i64 k) := cell_of hx1 rfl
      have d1 : w1.cell? ⟨w.heap.size, 1, none⟩ = some (.int .i64 n) := cell_of hx1 rfl
      have d2 : w1.cell? ⟨w.heap.size, 2, none⟩ = some (.int .i64 d) := cell_of hx1 rfl
      have d3 : w1.cell? ⟨w.heap.size, 3, none⟩ = some (.string ⟨nm.toArray⟩) := cell_of hx1 rfl
      clear hb1 hx1
      go_wp2_with fail
      refine (R.out _).mono ?_
      rintro e w2 ⟨rfl, hb2⟩
      have HB2 := Lib.hid (HB1.out.trans (hb2.mono HB1.out.size))
      clear hb2
      go_wp2_with fail
      go_ret
      exact ⟨ret_bool (by simp), HB2.out⟩
    · have hg := hg rfl
      subst hg
      cases ig
      · go_enter Try.func34, Try.ntmps34
        go_wp2_with fail
        refine (N.out _).mono ?_
        rintro e w1 ⟨rfl, hb1⟩
        have HB1 := Lib.hid (HB.out.trans (hb1.mono HB.out.size))
        have HX1 := Lib.hid ((hb1.block _ hl).trans HX.out)
        have hl1 := blk_ltP HX1.out
        have hx1 := HX1.out
        have d0 : w1.cell? ⟨w.heap.size, 0, none⟩ = some (.int .i64 k) := cell_of hx1 rfl
        have d1 : w1.cell? ⟨w.heap.size, 1, none⟩ = some (.int .i64 n) := cell_of hx1 rfl
        have d2 : w1.cell? ⟨w.heap.size, 2, none⟩ = some (.int .i64 d) := cell_of hx1 rfl
        have d3 : w1.cell? ⟨w.heap.size, 3, none⟩ = some (.string ⟨nm.toArray⟩) := cell_of hx1 rfl
        clear hb1 hx1
        go_wp2_with fail
        refine (R.out _).mono ?_
        rintro e w2 ⟨rfl, hb2⟩
        have HB2 := Lib.hid (HB1.out.trans (hb2.mono HB1.out.size))
        have HX2 := Lib.hid ((hb2.block _ hl1).trans HX1.out)
        have hl2 := blk_ltP HX2.out
        have hx2 := HX2.out
        have d0 : w2.cell? ⟨w.heap.size, 0, none⟩ = some (.int .i64 k) := cell_of hx2 rfl
        have d1 : w2.cell? ⟨w.heap.size, 1, none⟩ = some (.int .i64 n) := cell_of hx2 rfl
        have d2 : w2.cell? ⟨w.heap.size, 2, none⟩ = some (.int .i64 d) := cell_of hx2 rfl
        have d3 : w2.cell? ⟨w.heap.size, 3, none⟩ = some (.string ⟨nm.toArray⟩) := cell_of hx2 rfl
        clear hb2 hx2
        go_wp2_with fail
        refine (G.out _).mono ?_
        rintro e w3 ⟨rfl, hb3⟩
        have HB3 := Lib.hid (HB2.out.trans (hb3.mono HB2.out.size))
        have hx3 := (hb3.block _ hl2).trans HX2.out
        have d0 : w3.cell? ⟨w.heap.size, 0, none⟩ = some (.int .i64 k) := cell_of hx3 rfl
        have d1 : w3.cell? ⟨w.heap.size, 1, none⟩ = some (.int .i64 n) := cell_of hx3 rfl
        have d2 : w3.cell? ⟨w.heap.size, 2, none⟩ = some (.int .i64 d) := cell_of hx3 rfl
        have d3 : w3.cell? ⟨w.heap.size, 3, none⟩ = some (.string ⟨nm.toArray⟩) := cell_of hx3 rfl
        clear hb3 hx3
        go_wp2_with fail
        refine (T.out _).mono ?_
        rintro e w4 ⟨rfl, hb4⟩
        have HB4 := Lib.hid (HB3.out.trans (hb4.mono HB3.out.size))
        clear hb4
        go_wp2_with fail
        go_ret
        exact ⟨ret_bool (by simp), HB4.out⟩
      · clear T
        go_enter Try.func34, Try.ntmps34
        go_wp2_with fail
        refine (N.out _).mono ?_
        rintro e w1 ⟨rfl, hb1⟩
        have HB1 := Lib.hid (HB.out.trans (hb1.mono HB.out.size))
        have HX1 := Lib.hid ((hb1.block _ hl).trans HX.out)
        have hl1 := blk_ltP HX1.out
        have hx1 := HX1.out
        have d0 : w1.cell? ⟨w.heap.size, 0, none⟩ = some (.int .i64 k) := cell_of hx1 rfl
        have d1 : w1.cell? ⟨w.heap.size, 1, none⟩ = some (.int .i64 n) := cell_of hx1 rfl
        have d2 : w1.cell? ⟨w.heap.size, 2, none⟩ = some (.int .i64 d) := cell_of hx1 rfl
        have d3 : w1.cell? ⟨w.heap.size, 3, none⟩ = some (.string ⟨nm.toArray⟩) := cell_of hx1 rfl
        clear hb1 hx1
        go_wp2_with fail
        refine (R.out _).mono ?_
        rintro e w2 ⟨rfl, hb2⟩
        have HB2 := Lib.hid (HB1.out.trans (hb2.mono HB1.out.size))
        have hx2 := (hb2.block _ hl1).trans HX1.out
        have d0 : w2.cell? ⟨w.heap.size, 0, none⟩ = some (.int .i64 k) := cell_of hx2 rfl
        have d1 : w2.cell? ⟨w.heap.size, 1, none⟩ = some (.int .i64 n) := cell_of hx2 rfl
        have d2 : w2.cell? ⟨w.heap.size, 2, none⟩ = some (.int .i64 d) := cell_of hx2 rfl
        have d3 : w2.cell? ⟨w.heap.size, 3, none⟩ = some (.string ⟨nm.toArray⟩) := cell_of hx2 rfl
        clear hb2 hx2
        go_wp2_with fail
        refine (G.out _).mono ?_
        rintro e w3 ⟨rfl, hb3⟩
        have HB3 := Lib.hid (HB2.out.trans (hb3.mono HB2.out.size))
        clear hb3
        go_wp2_with fail
        go_ret
        exact ⟨ret_bool (by simp), HB3.out⟩
  · have ho : takesP p ⟨k, n, d, nm⟩ = false := by unfold takesP; rw [decide_eq_false hp, Bool.false_and]
    rw [ho]
    rw [nameOf_no hp] at N
    clear ho hp hs
    go_enter Try.func34, Try.ntmps34
    go_wp2_with fail
    refine (N.out _).mono ?_
    rintro e w1 ⟨rfl, hb1⟩
    have HB1 := Lib.hid (HB.out.trans (hb1.mono HB.out.size))
    clear hb1
    go_wp2_with fail
    go_ret
    exact ⟨ret_bool (by simp), HB1.out⟩
end Go.Proofs.Ytlngipglhlhhbaa
