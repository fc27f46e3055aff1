/- Layer 17: StyleInherits. (Written by gen_stll2.py.) -/
import Derived.Test.YtodicpnnpeboeaaStlL1
namespace Go.Proofs.Ytodicpnnpeboeaa
open Go.RowKit TreN LexP FixP SynP ValP PropP FixM
set_option linter.unusedVariables false

def hv17 : Val := ⟨1, 28, 0, []⟩
def hF (k i : Nat) : Val := if i < k then hv17 else zeroV
set_option maxRecDepth 100000 in
theorem inherits_is (z : Nat → Int) (b : Bool) (nm : ByteArray) (x y : Int) : cells17 (tyL z b nm) (hasS ((List.range 37).map (hF 37))) (z 53) x y = tyL z b nm := by kernel_rfl
theorem hF_nm (k : Nat) : ∀ i, i < 37 → (hF k i).name.length ≤ maxLen := fun i _ => by
  unfold hF
  split <;> exact Nat.zero_le _

set_option maxRecDepth 100000 in
set_option maxHeartbeats 4000000 in
theorem StyleInherits_walk (z : Nat → Int) (bb : Bool) (nm : ByteArray) (x y : Int) (w : World) (hz : ∀ i, WfI (z i)) (hn : nm.size ≤ maxLen) :
    Calls Try.prog 4 #[.agg (tyL z bb nm).toArray, .int .i64 x, .int .i64 y] w fun e w' => e = .returned (.bool true) ∧ Below w.heap.size w w' := by
  have hinh := inherits_is z bb nm x y
  have heq := fun W => eql17 z bb nm hz hn W
  have hone := tyL_one z bb nm
  have hgu := fun (x y : Operand) (A B : Array Value) (W : World) => guard17 x y A B W
  have h53 : (tyL z bb nm).getD 53 undef = .int .i64 (z 53) := rfl
  have hal : (tyL z bb nm).length = 55 := rfl
  generalize tyL z bb nm = As at *
  obtain ⟨f, hf⟩ : ∃ f, z 53 = f := ⟨_, rfl⟩
  rw [hf] at hinh h53
  have CC := Lib.hid (fun a W (hT : Td W a 37 ((List.range 37).map (hF 37))) => (by have := compute17_any a 37 37 _ As f x y W hal hone h53 hT; rw [hinh] at this; exact this : Calls Try.prog 9 #[.slice a 37 37, .agg As.toArray, .int .i64 x, .int .i64 y] W fun e w' => e = .returned (.agg As.toArray) ∧ Below W.heap.size W w'))
  have hmk := fun u => make_vals u
  have hr0 := range_of_block (heap_alloc_new w (.cells As.toArray 27))
  have hb0 := below_one7h w (.cells As.toArray 27)
  have hz0 : (w.alloc (.cells As.toArray 27)).heap.size = w.heap.size + 1 := by simp
  have hv0 := Rv.made (heap_alloc_new (w.alloc (.cells As.toArray 27)) (.cells (madeCells zv17 148) 34))
  have hb1 := below_one7h (w.alloc (.cells As.toArray 27)) (.cells (madeCells zv17 148) 34)
  have hr1 := range_below17 hr0 hb1 (by rw [hz0]; omega)
  have hb2 := hb0.trans (hb1.mono (by rw [hz0]; omega))
  rw [hz0] at hv0
  clear hinh hz hn hone h53 hr0 hb0 hb1 hz0
  go_enter Try.func4, Try.ntmps4
  go_upto_region 2 with fail
  generalize (w.alloc (.cells As.toArray 27)).alloc (.cells (madeCells zv17 148) 34) = W1 at *
  obtain ⟨bp, hbp⟩ : ∃ bp, w.heap.size = bp := ⟨_, rfl⟩
  rw [hbp] at hr1 hb2 hv0 ⊢
  obtain ⟨g, hg⟩ : ∃ g, bp + 1 = g := ⟨_, rfl⟩
  rw [hg] at hv0 ⊢
  have HR := Lib.hid hr1
  have HB := Lib.hid hb2
  have HV : Hid (Rv W1 g (hF 0)) := hv0
  clear hr1 hb2 hv0 hmk
  go_wp2_with fail
  go_loopw [8] (fun vi wr => ∃ k : Nat, vi = .int .i64 k ∧ k ≤ 37 ∧ Hid (Below bp w wr) ∧ Hid (wr.rangeAt bp 0 As) ∧ Hid (Rv wr g (hF k))) (fun vi _ => 37 - (intOf vi).toNat)
  case atStart => exact ⟨0, rfl, by omega, HB, HR, HV⟩
  case round =>
    clear HB HR HV
    obtain ⟨k, rfl, hk, HB, HR, HV⟩ := hrel
    by_cases hlt : k < 37
    · have hltz : (k : Int) < 37 := by omega
      obtain ⟨⟨a0, a1, a2, a3⟩, ⟨f0, f1, f2, f3⟩⟩ := HV.out.cells k hlt
      have HV2 : Hid (Rv ((((wr.setCell ⟨g, k * 4, none⟩ (.int .i64 1)).setCell ⟨g, k * 4 + 1, none⟩ (.int .i64 28)).setCell ⟨g, k * 4 + 2, none⟩ (.int .i64 0)).setCell ⟨g, k * 4 + 3, none⟩ (.string ⟨#[]⟩)) g (hF (k + 1))) := (HV.out.set k hlt hv17).ext (fun i _ => by
        unfold hF
        by_cases c : i = k
        · rw [if_pos c, if_pos (by omega)]
        · rw [if_neg c]
          by_cases c2 : i < k
          · rw [if_pos c2, if_pos (by omega)]
          · rw [if_neg c2, if_neg (by omega)])
      have HB2 := Lib.hid (setCells_below HB.out g (by omega) k (.int .i64 1) (.int .i64 28) (.int .i64 0) (.string ⟨#[]⟩))
      have HR2 := Lib.hid (range_other17 (range_other17 (range_other17 (range_other17 HR.out (show g ≠ bp by omega) (k * 4) (.int .i64 1)) (show g ≠ bp by omega) (k * 4 + 1) (.int .i64 28)) (show g ≠ bp by omega) (k * 4 + 2) (.int .i64 0)) (show g ≠ bp by omega) (k * 4 + 3) (.string ⟨#[]⟩))
      clear HB HR HV
      go_wp2_with fail
      go_roundw
      case rel => exact ⟨k + 1, by go_num, by omega, HB2, HR2, HV2⟩
      case measure => (simp [intOf] <;> omega)
    · have hkn : k = 37 := by omega
      subst hkn
      have n1 : bp < wr.drew.heap.size := World.block_lt_of_cell? wr ⟨bp, 0 + 0, none⟩ (HR.out 0 As[0] (List.getElem?_eq_getElem (by omega)))
      have r1 : wr.drew.rangeAt bp 0 As := HR.out
      have hv1 : Rv wr.drew g (hF 37) := HV.out
      have HBQ : Hid (Below bp w wr.drew) := HB.out.drew
      have CC1 := Lib.hid (CC.out (some ⟨g, 0, none⟩) wr.drew (hv1.td (hF_nm 37)))
      clear HB HR HV hv1 CC
      go_upto_region 6 with fail
      refine wp_region_held_drew (S := fun w' => w'.rangeAt bp 0 As) (by kernel_rfl) r1 (fun hH => ?_)
      refine wpAnyH_take (i := 0) (v := .slice (some ⟨g, 0, none⟩) 37 37) rfl (by kernel_rfl) (by kernel_rfl) (by kernel_rfl) (fun _ _ _ h => h) (Or.inl ⟨by rfl, fun w _ => rfl⟩) hH ?_
      simp only [Act.put]
      refine wpAnyH_take (i := 1) (v := .agg As.toArray) rfl (by kernel_rfl) (by kernel_rfl) (by kernel_rfl) (fun _ _ _ h => h) (yieldsIf_load_mid (by rfl) _ _ rfl bp 0 rfl As _ (fun w h => h) Try.underlying27 rfl (by rw [size17, hal])) hH ?_
      simp only [Act.put]
      refine wpAnyH_take (i := 2) (v := .int .i64 x) rfl (by kernel_rfl) (by kernel_rfl) (by kernel_rfl) (fun _ _ _ h => h) (Or.inl ⟨by rfl, fun w _ => rfl⟩) hH ?_
      simp only [Act.put]
      refine wpAnyH_take (i := 3) (v := .int .i64 y) rfl (by kernel_rfl) (by kernel_rfl) (by kernel_rfl) (fun _ _ _ h => h) (Or.inl ⟨by rfl, fun w _ => rfl⟩) hH ?_
      simp only [Act.put]
      refine wpAnyH_take (i := 5) (v := .agg As.toArray) rfl (by kernel_rfl) (by kernel_rfl) (by kernel_rfl) (fun _ _ _ h => h) (yieldsIf_load_mid (by rfl) _ _ rfl bp 0 rfl As _ (fun w h => h) Try.underlying27 rfl (by rw [size17, hal])) hH ?_
      simp only [Act.put]
      refine wpAnyH_ready (rs := [4]) (by kernel_rfl) (by simp) ?_
      refine AllReadyH.cons rfl (fun K hK => ?_) AllReadyH.nil
      go_simp
      refine CC1.out.mono ?_
      rintro e w6 ⟨rfl, hb6⟩
      have r3 := range_below17 r1 hb6 n1
      have HB6 := Lib.hid (HBQ.out.trans (hb6.mono (Nat.le_of_lt n1)))
      have n3 := Nat.lt_of_lt_of_le n1 hb6.size
      clear hb6
      dsimp only
      refine hK.out _ _ r3 (fun hH2 => ?_)
      clear hK K
      refine wpAnyH_ready (rs := [6]) (by kernel_rfl) (by simp) ?_
      refine AllReadyH.cons rfl (fun K hK => ?_) AllReadyH.nil
      go_simp
      refine hK.out _ _ r3 (fun hI6 => ?_)
      clear hK K
      refine wpAnyH_ready (rs := [7]) (by kernel_rfl) (by simp) ?_
      refine AllReadyH.cons rfl (fun K hK => ?_) AllReadyH.nil
      go_simp
      refine hK.out _ _ r3 (fun hI7 => ?_)
      clear hK K
      refine wpAnyH_ready (rs := [8]) (by kernel_rfl) (by simp) ?_
      refine AllReadyH.cons rfl (fun K hK => ?_) AllReadyH.nil
      go_simp
      refine (known17_any _).mono ?_
      rintro e w7 ⟨rfl, hb7⟩
      have r5 := range_below17 r3 hb7 n3
      have HB7 := Lib.hid (HB6.out.trans (hb7.mono (Nat.le_of_lt n3)))
      clear hb7
      dsimp only
      refine hK.out _ _ r5 (fun hH3 => ?_)
      clear hK K
      refine wpAnyH_ready (rs := [9]) (by kernel_rfl) (by simp) ?_
      refine AllReadyH.cons rfl (fun K hK => ?_) AllReadyH.nil
      go_simp
      refine hK.out _ _ r5 (fun hI9 => ?_)
      clear hK K
      refine wpAnyH_ready (rs := [10]) (by kernel_rfl) (by simp) ?_
      refine AllReadyH.cons rfl (fun K hK => ?_) AllReadyH.nil
      go_simp
      refine hK.out _ _ r5 (fun hI10 => ?_)
      clear hK K
      refine wpAnyH_done (by kernel_rfl) ?_ _
      go_wp2_with fail
      go_ret
      exact ⟨rfl, hbp ▸ HB7.out⟩
end Go.Proofs.Ytodicpnnpeboeaa
