/- What must come of fixed calls, of layer 4. -/
import Derived.Test.YtijhneadfagehaaTreW11
namespace Go.Proofs.Ytijhneadfagehaa
open Go.RowKit TreN TreP

def nd4 (p : Int) (tag tx : ByteArray) : Nd := ⟨p, tag, ByteArray.empty, none, 0, 0, none, 0, 0, tx, fun _ => ByteArray.empty, fun _ => ByteArray.empty, fun _ => ByteArray.empty⟩
def L4 (i : Nat) : Nd := [nd4 (-1) ⟨#[97]⟩ ByteArray.empty, nd4 0 ⟨#[98]⟩ ByteArray.empty, nd4 1 ByteArray.empty ⟨#[120]⟩, nd4 0 ⟨#[99]⟩ ByteArray.empty].getD i (nd4 0 ByteArray.empty ByteArray.empty)
def cells4 : Array Value := #[.int .i64 (-1), .string ⟨#[97]⟩, .string ByteArray.empty, .slice none 0 0, .slice none 0 0, .string ByteArray.empty,
  .int .i64 0, .string ⟨#[98]⟩, .string ByteArray.empty, .slice none 0 0, .slice none 0 0, .string ByteArray.empty,
  .int .i64 1, .string ByteArray.empty, .string ByteArray.empty, .slice none 0 0, .slice none 0 0, .string ⟨#[120]⟩,
  .int .i64 0, .string ⟨#[99]⟩, .string ByteArray.empty, .slice none 0 0, .slice none 0 0, .string ByteArray.empty]
def four4 (w : World) : World := w.alloc (.cells cells4 41)
set_option maxRecDepth 100000 in
theorem four4_at (w : World) : NAt (four4 w) w.heap.size 0 4 L4 := by
  refine ⟨by unfold four4; simp, fun i hi => ?_⟩
  have hcell : ∀ o, (four4 w).cell? ⟨w.heap.size, o, none⟩ = cells4[o]? := fun o => by unfold four4; rw [World.cell?_alloc_at _ _ _ _ rfl]
  have hin : ∀ p tag tx, tag.size ≤ 1 → tx.size ≤ 1 → NdIn (four4 w) (nd4 p tag tx) := fun p tag tx h1 h2 =>
    ⟨by show tag.size ≤ _; unfold maxLen; omega, by show ByteArray.empty.size ≤ _; exact Nat.zero_le _, by show tx.size ≤ _; unfold maxLen; omega, Nat.zero_le _, Nat.zero_le _, fun i hi => absurd hi (Nat.not_lt_zero i), fun i hi => absurd hi (Nat.not_lt_zero i), fun i hi => absurd hi (Nat.not_lt_zero i), Or.inl rfl, Or.inl rfl⟩
  have hc : i = 0 ∨ i = 1 ∨ i = 2 ∨ i = 3 := by omega
  rcases hc with rfl | rfl | rfl | rfl
  · exact ⟨⟨hcell 0, hcell 1, hcell 2, hcell 3, hcell 4, hcell 5⟩, hin _ _ _ (by decide) (by decide)⟩
  · exact ⟨⟨hcell 6, hcell 7, hcell 8, hcell 9, hcell 10, hcell 11⟩, hin _ _ _ (by decide) (by decide)⟩
  · exact ⟨⟨hcell 12, hcell 13, hcell 14, hcell 15, hcell 16, hcell 17⟩, hin _ _ _ (by decide) (by decide)⟩
  · exact ⟨⟨hcell 18, hcell 19, hcell 20, hcell 21, hcell 22, hcell 23⟩, hin _ _ _ (by decide) (by decide)⟩

set_option maxRecDepth 100000 in
set_option maxHeartbeats 400000 in
theorem four_any (w : World) : Calls Try.prog 14 #[] w fun e w' => e = .returned (.slice (some ⟨w.heap.size, 0, none⟩) 4 4) ∧ four4 w = w' := by
  go_enter Try.func14, Try.ntmps14
  go_wp2_with fail
  go_ret
  exact ⟨rfl, rfl⟩

set_option maxRecDepth 100000 in
theorem ups4_0 : ups (parOf L4) 0 = [] := ups_none _ _ (by decide)
set_option maxRecDepth 100000 in
theorem ups4_1 : ups (parOf L4) 1 = [0] := by rw [ups_some (parOf L4) 1 0 (by decide), ups4_0]
set_option maxRecDepth 100000 in
theorem ups4_2 : ups (parOf L4) 2 = [1, 0] := by rw [ups_some (parOf L4) 2 1 (by decide), ups4_1]
set_option maxRecDepth 100000 in
theorem ups4_3 : ups (parOf L4) 3 = [0] := by rw [ups_some (parOf L4) 3 0 (by decide), ups4_0]
set_option maxRecDepth 100000 in
theorem node4 (k : Nat) (hr : rightB (L4 k) = true) (hs : stB L4 k = true) (hu : (ups (parOf L4) k).length ≤ 3) : nodeS L4 k = 0 := by
  unfold nodeS; rw [hr, hs, Bool.and_self, if_pos rfl, if_neg (by omega)]
set_option maxRecDepth 100000 in
theorem check4 : checkS L4 4 = 0 := by
  unfold checkS
  rw [if_neg (by omega), if_neg (by omega)]
  refine chk_zero L4 4 fun j hj => ?_
  have hc : j = 0 ∨ j = 1 ∨ j = 2 ∨ j = 3 := by omega
  rcases hc with rfl | rfl | rfl | rfl
  · exact node4 0 (by decide +kernel) (by decide +kernel) (by rw [ups4_0]; decide)
  · exact node4 1 (by decide +kernel) (by rw [st_fnd L4 1 (by omega), ups4_0]; decide +kernel) (by rw [ups4_1]; decide)
  · exact node4 2 (by decide +kernel) (by rw [st_fnd L4 2 (by omega), ups4_1]; decide +kernel) (by rw [ups4_2]; decide)
  · exact node4 3 (by decide +kernel) (by rw [st_fnd L4 3 (by omega), ups4_2]; decide +kernel) (by rw [ups4_3]; decide)
set_option maxRecDepth 100000 in
theorem end4 : EndIs (parOf L4) 4 1 3 := by
  refine ⟨by omega, by omega, fun k h1 h2 => ?_, fun _ => ?_⟩
  · have : k = 2 := by omega
    subst this; rw [ups4_2]; decide
  · rw [ups4_3]; decide

set_option maxRecDepth 100000 in
theorem below_drewN' {B : Nat} {a w : World} (h : Below B a w) (q : Nat) : Below B a (w.drewN q) := ⟨h.os, h.tape, h.output, h.size, h.block⟩
set_option maxRecDepth 100000 in
theorem NL.alloc {w : World} {a : Option Addr} {xs : List Nat} (h : NL w a xs) (o : Obj) : NL (w.alloc o) a xs := by
  rcases h with rfl | ⟨g, e, hg, hc⟩
  · exact Or.inl rfl
  · refine Or.inr ⟨g, e, by simp; omega, fun j u hu => ?_⟩
    rw [World.cell?_alloc_past _ _ _ hg]; exact hc j u hu
set_option maxRecDepth 100000 in
theorem NL.below {w w' : World} {a : Option Addr} {xs : List Nat} (h : NL w a xs) (hb : Below w.heap.size w w') : NL w' a xs := by
  rcases h with rfl | ⟨g, e, hg, hc⟩
  · exact Or.inl rfl
  · refine Or.inr ⟨g, e, Nat.lt_of_lt_of_le hg hb.size, fun j u hu => ?_⟩
    rw [hb.cell (p := ⟨g, j, none⟩) hg]; exact hc j u hu

set_option maxRecDepth 100000 in
set_option maxHeartbeats 4000000 in
theorem known4_any (w : World) : Calls Try.prog 4 #[] w fun e w' => e = .returned (.bool true) ∧ Below w.heap.size w w' := by
  have n1 : nameB ⟨#[97, 45, 49]⟩ = true := by decide +kernel
  have n2 : nameB ⟨#[45]⟩ = false := by decide +kernel
  have N1 := Lib.hid n1
  have N2 := Lib.hid n2
  clear n1 n2
  go_enter Try.func4, Try.ntmps4
  go_wp2_with fail
  refine (four_any w).mono ?_
  rintro e w0 ⟨rfl, rfl⟩
  have hA := four4_at w
  have hB : Below w.heap.size w (four4 w) := (Below.refl _ _).alloc (Nat.le_refl _) _
  obtain ⟨B, hBB⟩ : ∃ B, B = w.heap.size := ⟨_, rfl⟩
  rw [← hBB] at hA hB ⊢
  generalize four4 w = w0 at hA hB ⊢
  have HA := Lib.hid hA
  have HB := Lib.hid hB
  have HBB := Lib.hid hBB
  clear hA hB hBB
  go_wp2_with fail
  refine (Check_any (some ⟨B, 0, none⟩) 4 4 L4 w0 HA.out.nods).mono ?_
  rintro e w1 ⟨rfl, hb1⟩
  rw [check4]
  have HA1 := Lib.hid (HA.out.below hb1)
  have H1 := Lib.hid (HB.out.trans (hb1.mono (by have := HB.out.size; have := HBB.out; omega)))
  clear hb1
  go_wp2_with fail
  refine (Depth_any (some ⟨B, 0, none⟩) 4 4 (parOf L4) 2 w1 (by omega) (by omega) HA1.out.nods.pars).mono ?_
  rintro e w2 ⟨rfl, hb2⟩
  rw [ups4_2]
  have HA2 := Lib.hid (HA1.out.below hb2)
  have H2 := Lib.hid (H1.out.trans (hb2.mono (by have := H1.out.size; have := HBB.out; omega)))
  clear hb2
  go_wp2_with fail
  refine (Kids_any (some ⟨B, 0, none⟩) 4 4 (parOf L4) 0 w2 (by omega) (by omega) HA2.out.nods.pars).mono ?_
  rintro e w3 ⟨ad, c, rfl, hb3, hnl⟩
  have hk : kidsF (kidB (parOf L4) 0) (0 + 1) (4 - (0 + 1)) = [1, 3] := by decide
  rw [hk] at hnl ⊢
  have HA3 := Lib.hid (HA2.out.below hb3)
  have H3 := Lib.hid (H2.out.trans (hb3.mono (by have := H2.out.size; have := HBB.out; omega)))
  have HNL := Lib.hid hnl
  clear hb3 hk hnl
  go_wp2_with fail
  have hn1 : NL (w3.alloc (.cells #[.int .i64 1, .int .i64 3] 3)) ad [1, 3] := HNL.out.alloc _
  have hn2 : NL (w3.alloc (.cells #[.int .i64 1, .int .i64 3] 3)) (some ⟨w3.heap.size, 0, none⟩) [1, 3] := by
    refine Or.inr ⟨w3.heap.size, rfl, by simp, fun j u hu => ?_⟩
    rw [World.cell?_alloc_at _ _ _ _ rfl]
    match j, hu with
    | 0, hu => simp at hu; subst hu; rfl
    | 1, hu => simp at hu; subst hu; rfl
    | j + 2, hu => simp at hu
  have hb4 : Below w3.heap.size w3 (w3.alloc (.cells #[.int .i64 1, .int .i64 3] 3)) := (Below.refl _ _).alloc (Nat.le_refl _) _
  have HA4 := Lib.hid (HA3.out.below hb4)
  have H4 := Lib.hid (H3.out.trans (hb4.mono (by have := H3.out.size; have := HBB.out; omega)))
  have CI := Lib.hid (Ints_lst ad (some ⟨w3.heap.size, 0, none⟩) c 2 [1, 3] _ (by decide) hn1 hn2)
  generalize w3.alloc (.cells #[.int .i64 1, .int .i64 3] 3) = w4 at HA4 H4 CI ⊢
  clear hn1 hn2 hb4
  refine CI.out.mono ?_
  rintro e w5 ⟨rfl, q, rfl⟩
  have HA5 : Hid (NAt (w4.drewN q) B 0 4 L4) := Lib.hid (HA4.out.below (below_drewN' (Below.refl _ _) q))
  have H5 := Lib.hid (below_drewN' H4.out q)
  generalize w4.drewN q = w5 at HA5 H5 ⊢
  go_wp2_with fail
  refine (End_any (some ⟨B, 0, none⟩) 4 4 (parOf L4) 1 w5 (by omega) (by omega) HA5.out.nods.pars).mono ?_
  rintro e w' ⟨k, rfl, hk, rfl⟩
  obtain rfl : k = 3 := EndIs.uniq hk end4
  clear hk
  go_wp2_with fail
  refine (Name_any ⟨#[97, 45, 49]⟩ (by decide) w5).mono ?_
  rintro e w' ⟨rfl, rfl⟩
  rw [N1.out]
  go_wp2_with fail
  refine (Name_any ⟨#[45]⟩ (by decide) w5).mono ?_
  rintro e w' ⟨rfl, rfl⟩
  rw [N2.out]
  go_wp2_with fail
  go_ret
  have h := H5.out
  rw [HBB.out] at h
  exact ⟨rfl, h⟩
end Go.Proofs.Ytijhneadfagehaa
