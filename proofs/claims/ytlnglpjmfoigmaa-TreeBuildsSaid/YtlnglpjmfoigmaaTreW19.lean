/- The walk of layer 4's Graft where it refuses. -/
import Derived.Test.YtlnglpjmfoigmaaTreW18
import Derived.Test.YtlnglpjmfoigmaaTreW11
namespace Go.Proofs.Ytlnglpjmfoigmaa
open Go.RowKit TreN TreP

/-- the boxes of Graft's i and m -/
def gbox (w : World) (i : Int) (ma : Option Addr) (m mc : Nat) : World := (w.alloc (.cells #[.int .i64 i] 3)).alloc (.cells #[.slice ma m mc] 24)
set_option maxRecDepth 100000 in
theorem gbox_below (w : World) (i : Int) (ma : Option Addr) (m mc : Nat) : Below w.heap.size w (gbox w i ma m mc) := ((Below.refl _ _).alloc (Nat.le_refl _) _).alloc (by simp) _
set_option maxRecDepth 100000 in
theorem gbox_size (w : World) (i : Int) (ma : Option Addr) (m mc : Nat) : (gbox w i ma m mc).heap.size = w.heap.size + 2 := by simp [gbox]
set_option maxRecDepth 100000 in
theorem gbox_i (w : World) (i : Int) (ma : Option Addr) (m mc : Nat) : (gbox w i ma m mc).cell? ⟨w.heap.size, 0, none⟩ = some (.int .i64 i) := by
  unfold gbox
  rw [World.cell?_alloc_past _ _ _ (by simp), World.cell?_alloc_at _ _ _ _ rfl]; rfl
set_option maxRecDepth 100000 in
theorem gbox_m (w : World) (i : Int) (ma : Option Addr) (m mc : Nat) : (gbox w i ma m mc).cell? ⟨w.heap.size + 1, 0, none⟩ = some (.slice ma m mc) := by
  unfold gbox
  rw [World.cell?_alloc_at _ _ _ _ (by simp)]; rfl

set_option maxRecDepth 100000 in
set_option maxHeartbeats 4000000 in
theorem Graft_tree (la : Option Addr) (l lc : Nat) (i : Int) (ma : Option Addr) (m mc : Nat) (L M : Nat → Nd) (w : World) (hL : Nods w la l L) (hM : Nods w ma m M) (h : checkS L l ≠ 0 ∨ (checkS L l = 0 ∧ checkS M m ≠ 0)) :
    Calls Try.prog 28 #[.slice la l lc, .int .i64 i, .slice ma m mc] w fun e w' => e = .returned (.tuple #[.slice none 0 0, .int .i64 34]) ∧ Below w.heap.size w w' := by
  have hb := gbox_below w i ma m mc
  have hz := gbox_size w i ma m mc
  have cm := gbox_m w i ma m mc
  have hbx : ((w.alloc (.cells #[.int .i64 i] 3)).alloc (.cells #[.slice ma m mc] 24)) = gbox w i ma m mc := rfl
  generalize gbox w i ma m mc = wb at hb hz cm hbx
  have C := Lib.hid (Check_any la l lc L wb (hL.below hb))
  have HB := Lib.hid hb
  have HM := Lib.hid (hM.below hb)
  have HZ := Lib.hid hz
  have HCM := Lib.hid cm
  clear hL hM hb hz cm
  rcases h with h | ⟨h, h2⟩
  · obtain ⟨c, hc⟩ : ∃ c, checkS L l = c := ⟨_, rfl⟩
    have C2 : Hid (Calls Try.prog 16 #[.slice la l lc] wb fun e w' => e = .returned (.int .i64 c) ∧ Below wb.heap.size wb w') := by rw [← hc]; exact C
    rw [hc] at h
    have hcb : (c != 0) = true := by simp [bne, h]
    clear C h hc
    go_enter Try.func28, Try.ntmps28
    go_wp2_with fail
    refine C2.out.mono ?_
    rintro e w1 ⟨rfl, hb1⟩
    have H1 := Lib.hid (HB.out.trans (hb1.mono HB.out.size))
    clear hb1
    go_wp2_with fail
    go_ret2
    exact ⟨rfl, H1.out⟩
  · have C2 : Hid (Calls Try.prog 16 #[.slice la l lc] wb fun e w' => e = .returned (.int .i64 0) ∧ Below wb.heap.size wb w') := by rw [← h]; exact C
    clear C h
    obtain ⟨c, hc⟩ : ∃ c, checkS M m = c := ⟨_, rfl⟩
    rw [hc] at h2
    have hcb : (c != 0) = true := by simp [bne, h2]
    have HC := Lib.hid hc
    clear h2 hc
    go_enter Try.func28, Try.ntmps28
    go_wp2_with fail
    refine C2.out.mono ?_
    rintro e w1 ⟨rfl, hb1⟩
    have H1 := Lib.hid (HB.out.trans (hb1.mono HB.out.size))
    have c1 := (hb1.cell (p := ⟨w.heap.size + 1, 0, none⟩) (by have := HZ.out; show w.heap.size + 1 < wb.heap.size; omega)).trans HCM.out
    have C3 : Hid (Calls Try.prog 16 #[.slice ma m mc] w1 fun e w' => e = .returned (.int .i64 c) ∧ Below w1.heap.size w1 w') := by rw [← HC.out]; exact Lib.hid (Check_any ma m mc M w1 (HM.out.below hb1))
    clear hb1
    go_wp2_with fail
    refine C3.out.mono ?_
    rintro e w2 ⟨rfl, hb2⟩
    have H2 := Lib.hid (H1.out.trans (hb2.mono H1.out.size))
    clear hb2
    go_wp2_with fail
    go_ret2
    exact ⟨rfl, H2.out⟩

set_option maxRecDepth 100000 in
set_option maxHeartbeats 4000000 in
theorem Graft_arg (la : Option Addr) (l lc : Nat) (i : Int) (ma : Option Addr) (m mc : Nat) (L M : Nat → Nd) (w : World) (hL : Nods w la l L) (hM : Nods w ma m M) (h1 : checkS L l = 0) (h2 : checkS M m = 0)
    (h : (i < 0 ∨ (l : Int) ≤ i) ∨ ∃ k : Nat, i = (k : Int) ∧ k < l ∧ emB (L k).tag = true) :
    Calls Try.prog 28 #[.slice la l lc, .int .i64 i, .slice ma m mc] w fun e w' => e = .returned (.tuple #[.slice none 0 0, .int .i64 1]) ∧ Below w.heap.size w w' := by
  have hb := gbox_below w i ma m mc
  have hz := gbox_size w i ma m mc
  have cm := gbox_m w i ma m mc
  have ci := gbox_i w i ma m mc
  have hbx : ((w.alloc (.cells #[.int .i64 i] 3)).alloc (.cells #[.slice ma m mc] 24)) = gbox w i ma m mc := rfl
  generalize gbox w i ma m mc = wb at hb hz cm ci hbx
  have C := Lib.hid (Check_any la l lc L wb (hL.below hb))
  have HB := Lib.hid hb
  have HL := Lib.hid (hL.below hb)
  have HM := Lib.hid (hM.below hb)
  have HZ := Lib.hid hz
  have HCM := Lib.hid cm
  have HCI := Lib.hid ci
  clear hL hM hb hz cm ci
  have C2 : Hid (Calls Try.prog 16 #[.slice la l lc] wb fun e w' => e = .returned (.int .i64 0) ∧ Below wb.heap.size wb w') := by rw [← h1]; exact C
  have H2 := Lib.hid h2
  clear C h1 h2
  go_enter Try.func28, Try.ntmps28
  go_wp2_with fail
  refine C2.out.mono ?_
  rintro e w1 ⟨rfl, hb1⟩
  have H1 := Lib.hid (HB.out.trans (hb1.mono HB.out.size))
  have c1 := (hb1.cell (p := ⟨w.heap.size + 1, 0, none⟩) (by have := HZ.out; show w.heap.size + 1 < wb.heap.size; omega)).trans HCM.out
  have d1 := Lib.hid ((hb1.cell (p := ⟨w.heap.size, 0, none⟩) (by have := HZ.out; show w.heap.size < wb.heap.size; omega)).trans HCI.out)
  have C3 : Hid (Calls Try.prog 16 #[.slice ma m mc] w1 fun e w' => e = .returned (.int .i64 0) ∧ Below w1.heap.size w1 w') := by rw [← H2.out]; exact Lib.hid (Check_any ma m mc M w1 (HM.out.below hb1))
  have HL1 := Lib.hid (HL.out.below hb1)
  have hz1 : w.heap.size < w1.heap.size := by have := hb1.size; have := HZ.out; omega
  clear hb1
  go_wp2_with fail
  clear c1
  refine C3.out.mono ?_
  rintro e w2 ⟨rfl, hb2⟩
  have d2 := (hb2.cell (p := ⟨w.heap.size, 0, none⟩) hz1).trans d1.out
  have H3 := Lib.hid (H1.out.trans (hb2.mono H1.out.size))
  have HL2 := Lib.hid (HL1.out.below hb2)
  clear hb2
  rcases h with h | ⟨k, rfl, hk, he⟩
  · have CH := Lib.hid (has_no la l lc i w2 h)
    clear h
    go_wp2_with fail
    refine CH.out.mono ?_
    rintro e w3 ⟨rfl, rfl⟩
    go_wp2_with fail
    go_ret2
    exact ⟨rfl, H3.out⟩
  · have CH := Lib.hid (has_yes la l lc k w2 hk)
    obtain ⟨b, off, rfl, ⟨c0, c1, c2, c3, c4, c5⟩, hin⟩ := HL2.out.at_ hk
    have hE := element_any (L k) w2
    rw [Nd.val_eq, he] at hE
    have HE := Lib.hid hE
    have hkz : (k : Int) < (l : Int) := by omega
    clear hE hin he
    go_wp2_with fail
    refine CH.out.mono ?_
    rintro e w3 ⟨rfl, rfl⟩
    go_wp2_with fail
    refine HE.out.mono ?_
    rintro e w3 ⟨rfl, hb3⟩
    have H4 := Lib.hid (H3.out.trans (hb3.mono H3.out.size))
    clear hb3
    go_wp2_with fail
    go_ret2
    exact ⟨rfl, H4.out⟩
end Go.Proofs.Ytlnglpjmfoigmaa
