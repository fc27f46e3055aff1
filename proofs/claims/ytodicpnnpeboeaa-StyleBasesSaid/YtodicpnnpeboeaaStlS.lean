/- Layer 17: the style of nothing. (Written by gen_stl9.py.) -/
import Derived.Test.YtodicpnnpeboeaaStlR
namespace Go.Proofs.Ytodicpnnpeboeaa
open Go.RowKit TreN LexP FixP SynP ValP PropP FixM
set_option linter.unusedVariables false

def z55 : List Value := [Value.int .i64 0, Value.bool false, Value.int .i64 0, Value.int .i64 0, Value.int .i64 0, Value.int .i64 0, Value.int .i64 0, Value.int .i64 0, Value.int .i64 0, Value.int .i64 0, Value.int .i64 0, Value.int .i64 0, Value.int .i64 0, Value.int .i64 0, Value.int .i64 0, Value.int .i64 0, Value.int .i64 0, Value.int .i64 0, Value.int .i64 0, Value.int .i64 0, Value.int .i64 0, Value.int .i64 0, Value.int .i64 0, Value.int .i64 0, Value.int .i64 0, Value.int .i64 0, Value.int .i64 0, Value.int .i64 0, Value.int .i64 0, Value.int .i64 0, Value.int .i64 0, Value.int .i64 0, Value.int .i64 0, Value.int .i64 0, Value.int .i64 0, Value.int .i64 0, Value.int .i64 0, Value.int .i64 0, Value.int .i64 0, Value.int .i64 0, Value.int .i64 0, Value.int .i64 0, Value.int .i64 0, Value.int .i64 0, Value.int .i64 0, Value.int .i64 0, Value.int .i64 0, Value.int .i64 0, Value.int .i64 0, Value.int .i64 0, Value.int .i64 0, Value.int .i64 0, Value.string ⟨#[]⟩, Value.int .i64 0, Value.int .i64 0]
def sL : List Value := [Value.int .i64 0, Value.bool false, Value.int .i64 0, Value.int .i64 0, Value.int .i64 0, Value.int .i64 0, Value.int .i64 0, Value.int .i64 0, Value.int .i64 0, Value.int .i64 0, Value.int .i64 6, Value.int .i64 0, Value.int .i64 6, Value.int .i64 0, Value.int .i64 1, Value.int .i64 0, Value.int .i64 1, Value.int .i64 0, Value.int .i64 1, Value.int .i64 0, Value.int .i64 1, Value.int .i64 0, Value.int .i64 1, Value.int .i64 0, Value.int .i64 1, Value.int .i64 0, Value.int .i64 1, Value.int .i64 0, Value.int .i64 1, Value.int .i64 0, Value.int .i64 0, Value.int .i64 0, Value.int .i64 0, Value.int .i64 0, Value.int .i64 0, Value.int .i64 0, Value.int .i64 0, Value.int .i64 0, Value.int .i64 0, Value.int .i64 1000, Value.int .i64 0, Value.int .i64 0, Value.int .i64 0, Value.int .i64 0, Value.int .i64 0, Value.int .i64 0, Value.int .i64 0, Value.int .i64 1, Value.int .i64 0, Value.int .i64 1, Value.int .i64 0, Value.int .i64 0, Value.string ⟨#[]⟩, Value.int .i64 1024, Value.int .i64 1200]
theorem cells17_congr (As : List Value) (G G' : Nat → Option Val) (pf x y : Int) (h : ∀ p, 1 ≤ p → p ≤ 37 → G p = G' p) : cells17 As G pf x y = cells17 As G' pf x y := by
  unfold cells17
  rw [h 36 (by decide) (by decide)]
  refine List.map_congr_left (fun c hc => ?_)
  have hb := cells_pof ⟨c, List.mem_range.1 hc⟩
  simp only at hb
  unfold stS
  rw [h (pofC c) hb.2.2.1 hb.2.2.2]
set_option maxRecDepth 100000 in
theorem start_is : cells17 z55 (fun p => some (firstZ (p : Int))) 0 0 0 = sL := by kernel_rfl
def iv : Val := ⟨1, 29, 0, []⟩
theorem iv_takes : ∀ p : Fin 38, 1 ≤ p.val → takesP (p.val : Int) iv = true := by decide
theorem iv_word : wordS iv = iniT := by decide
theorem ini_word : wordP iniT = 29 := by decide
theorem hasS_iv (p : Nat) (h1 : 1 ≤ p) (h2 : p ≤ 37) : hasS (List.replicate 37 iv) p = some (firstZ (p : Int)) := by
  have ht : tellS (List.replicate 37 iv) p = some iv := by
    unfold tellS
    rw [List.getElem?_replicate, if_pos (by omega)]
    simp only
    have := iv_takes ⟨p, by omega⟩ h1
    simp only at this
    rw [if_pos this]
  unfold hasS
  rw [ht]
  exact hasO_ini iv p iv_word
theorem Rp.td {W : World} {g : Nat} (hg : g < W.heap.size) (h : Rp W g 37 iv) : Td W (some ⟨g, 0, none⟩) 37 (List.replicate 37 iv) := by
  refine ⟨by simp, Or.inr ⟨g, 0, rfl, hg, fun i hi => ?_⟩, fun v hv => by rw [List.eq_of_mem_replicate hv]; exact Nat.zero_le _⟩
  have hi2 : i < 37 := by simpa using hi
  have e : (List.replicate 37 iv)[i] = iv := List.eq_of_mem_replicate (List.getElem_mem hi)
  rw [e, Nat.zero_add]
  have c0 := h.at_ (i * 4) (by omega)
  have c1 := h.at_ (i * 4 + 1) (by omega)
  have c2 := h.at_ (i * 4 + 2) (by omega)
  have c3 := h.at_ (i * 4 + 3) (by omega)
  rw [show (i * 4) % 4 = 0 by omega] at c0
  rw [show (i * 4 + 1) % 4 = 1 by omega] at c1
  rw [show (i * 4 + 2) % 4 = 2 by omega] at c2
  rw [show (i * 4 + 3) % 4 = 3 by omega] at c3
  exact ⟨c0, c1, c2, c3⟩
theorem z55_one : ∀ v, v ∈ z55 → v.oneCell' = true := by
  intro v hv
  unfold z55 at hv
  simp only [List.mem_cons, List.not_mem_nil, or_false] at hv
  repeat' (rcases hv with rfl | hv; · rfl)

theorem sL_one : ∀ v, v ∈ sL → v.oneCell' = true := by
  intro v hv
  unfold sL at hv
  simp only [List.mem_cons, List.not_mem_nil, or_false] at hv
  repeat' (rcases hv with rfl | hv; · rfl)

set_option maxRecDepth 100000 in
set_option maxHeartbeats 4000000 in
theorem start17_any (w : World) : Calls Try.prog 8 #[] w fun e w' => e = .returned (.agg sL.toArray) ∧ Below w.heap.size w w' := by
  have CW0 : ∀ W, Calls Try.prog 12 #[.string ⟨#[105, 110, 105, 116, 105, 97, 108]⟩] W fun e w' => e = .returned (.int .i64 29) ∧ Below W.heap.size W w' := fun W => by
    have h := Word_any iniT W
    rw [ini_word] at h
    exact h
  have CW := Lib.hid CW0
  clear CW0
  have CR := Lib.hid (fun b cap W => repeat_37 b cap iv W)
  unfold iv at CR
  simp only at CR
  have CC := Lib.hid (fun a n cap L W (hT : Td W a n L) => compute17_any a n cap L z55 0 0 0 W rfl z55_one rfl hT)
  obtain ⟨Cs, hCs⟩ : ∃ Cs, sL = Cs := ⟨_, rfl⟩
  have HCS : Hid (cells17 z55 (fun p => some (firstZ (p : Int))) 0 0 0 = Cs) := start_is.trans hCs
  have HCL : Hid (Cs.length = 55) := by rw [← hCs]; rfl
  have HC1 : Hid (∀ v, v ∈ Cs → v.oneCell' = true) := by rw [← hCs]; exact sL_one
  rw [hCs]
  clear hCs
  have hr0 := there_of_block (heap_alloc_new w (.cells z55.toArray 27))
  have hb0 := below_one7h w (.cells z55.toArray 27)
  have hz : w.heap.size < (w.alloc (.cells z55.toArray 27)).heap.size := by simp
  have hr1 : (w.alloc (.cells z55.toArray 27)).there w.heap.size 0 55 := hr0
  have HR := Lib.hid hr1
  have HB := Lib.hid hb0
  have HZ := Lib.hid hz
  clear hr0 hb0 hz hr1
  unfold z55 at HR HB HZ CC HCS
  go_enter Try.func8, Try.ntmps8
  go_upto_region 1 with fail
  generalize w.alloc (.cells #[Value.int .i64 0, Value.bool false, Value.int .i64 0, Value.int .i64 0, Value.int .i64 0, Value.int .i64 0, Value.int .i64 0, Value.int .i64 0, Value.int .i64 0, Value.int .i64 0, Value.int .i64 0, Value.int .i64 0, Value.int .i64 0, Value.int .i64 0, Value.int .i64 0, Value.int .i64 0, Value.int .i64 0, Value.int .i64 0, Value.int .i64 0, Value.int .i64 0, Value.int .i64 0, Value.int .i64 0, Value.int .i64 0, Value.int .i64 0, Value.int .i64 0, Value.int .i64 0, Value.int .i64 0, Value.int .i64 0, Value.int .i64 0, Value.int .i64 0, Value.int .i64 0, Value.int .i64 0, Value.int .i64 0, Value.int .i64 0, Value.int .i64 0, Value.int .i64 0, Value.int .i64 0, Value.int .i64 0, Value.int .i64 0, Value.int .i64 0, Value.int .i64 0, Value.int .i64 0, Value.int .i64 0, Value.int .i64 0, Value.int .i64 0, Value.int .i64 0, Value.int .i64 0, Value.int .i64 0, Value.int .i64 0, Value.int .i64 0, Value.int .i64 0, Value.int .i64 0, Value.string ⟨#[]⟩, Value.int .i64 0, Value.int .i64 0] 27) = W0 at *
  go_wp2_with fail
  refine (CW.out _).mono ?_
  rintro e w1 ⟨rfl, hb1⟩
  have HB1 := Lib.hid (HB.out.trans (hb1.mono HB.out.size))
  have HR1 := Lib.hid (there_below17 HR.out hb1 HZ.out)
  have hz1 := Nat.lt_of_lt_of_le HZ.out hb1.size
  have hb2 := below_one7h w1 (.cells #[.int .i64 1, .int .i64 29, .int .i64 0, .string ⟨#[]⟩] 34)
  have HB2 := Lib.hid (HB1.out.trans (hb2.mono HB1.out.size))
  have HR2 := Lib.hid (there_below17 HR1.out hb2 hz1)
  have hz2 := Nat.lt_of_lt_of_le hz1 hb2.size
  have HZ2 := Lib.hid hz2
  clear hb1 hb2 hz1 hz2 HB HR HZ HB1 HR1
  go_upto_region 2 with fail
  go_wp2_with fail
  have hz3 : (w1.alloc (.cells #[.int .i64 1, .int .i64 29, .int .i64 0, .string ⟨#[]⟩] 34)).heap.size = w1.heap.size + 1 := by simp
  have hx3 := heap_alloc_new (w1.alloc (.cells #[.int .i64 1, .int .i64 29, .int .i64 0, .string ⟨#[]⟩] 34)) (.cells #[.int .i64 1, .int .i64 29, .int .i64 0, .string ⟨#[]⟩] 34)
  rw [hz3] at hx3
  have hb3 := below_one7h (w1.alloc (.cells #[.int .i64 1, .int .i64 29, .int .i64 0, .string ⟨#[]⟩] 34)) (.cells #[.int .i64 1, .int .i64 29, .int .i64 0, .string ⟨#[]⟩] 34)
  refine (CR.out (w1.heap.size + 1) 1 _ (cell_of hx3 rfl) (cell_of hx3 rfl) (cell_of hx3 rfl) (cell_of hx3 rfl)).mono ?_
  have HB3 := Lib.hid (HB2.out.trans (hb3.mono HB2.out.size))
  have HR3 := Lib.hid (there_below17 HR2.out hb3 HZ2.out)
  have hz4 := Nat.lt_of_lt_of_le HZ2.out hb3.size
  rintro e w4 ⟨g, rfl, hg1, hg2, hb4, hrp⟩
  have HB4 := Lib.hid (HB3.out.trans (hb4.mono HB3.out.size))
  have HR4 := Lib.hid (there_below17 HR3.out hb4 hz4)
  have hz5 := Nat.lt_of_lt_of_le hz4 hb4.size
  have HZ4 := Lib.hid hz5
  have hC := CC.out _ _ 37 _ w4 (Rp.td hg2 hrp)
  rw [cells17_congr _ _ _ _ _ _ hasS_iv] at hC
  have hC2 : Calls Try.prog 9 #[.slice (some ⟨g, 0, none⟩) 37 37, .agg #[Value.int .i64 0, Value.bool false, Value.int .i64 0, Value.int .i64 0, Value.int .i64 0, Value.int .i64 0, Value.int .i64 0, Value.int .i64 0, Value.int .i64 0, Value.int .i64 0, Value.int .i64 0, Value.int .i64 0, Value.int .i64 0, Value.int .i64 0, Value.int .i64 0, Value.int .i64 0, Value.int .i64 0, Value.int .i64 0, Value.int .i64 0, Value.int .i64 0, Value.int .i64 0, Value.int .i64 0, Value.int .i64 0, Value.int .i64 0, Value.int .i64 0, Value.int .i64 0, Value.int .i64 0, Value.int .i64 0, Value.int .i64 0, Value.int .i64 0, Value.int .i64 0, Value.int .i64 0, Value.int .i64 0, Value.int .i64 0, Value.int .i64 0, Value.int .i64 0, Value.int .i64 0, Value.int .i64 0, Value.int .i64 0, Value.int .i64 0, Value.int .i64 0, Value.int .i64 0, Value.int .i64 0, Value.int .i64 0, Value.int .i64 0, Value.int .i64 0, Value.int .i64 0, Value.int .i64 0, Value.int .i64 0, Value.int .i64 0, Value.int .i64 0, Value.int .i64 0, Value.string ⟨#[]⟩, Value.int .i64 0, Value.int .i64 0], .int .i64 0, .int .i64 0] w4 fun e w' => e = .returned (.agg Cs.toArray) ∧ Below w4.heap.size w4 w' := by
    rw [← HCS.out]
    exact hC
  have HC := Lib.hid hC2
  clear hC hC2 hx3 hb3 hz3 hg1 hb4 hrp hz4 hz5 HB2 HR2 HZ2 HB3 HR3 CC CR CW
  go_wp2_with fail
  refine HC.out.mono ?_
  rintro e w5 ⟨rfl, hb5⟩
  have HB5 := Lib.hid (HB4.out.trans (hb5.mono HB4.out.size))
  have hts := there_below17 HR4.out hb5 HZ4.out
  clear hb5 HC
  dsimp only
  rename_i K' hK'
  refine hK' _ _ ?_
  clear hK'
  have hcl := HCL.out
  have hcs : Cs.toArray.size = 55 := by simpa using hcl
  refine wpList_store_mid rfl 27 _ _ rfl w.heap.size 0 Cs.toArray rfl rfl (by rw [hcs]; exact hts) (by rw [hcs]; exact size17) (all_oneCell_toArray HC1.out) ?_
  have hrr := World.rangeAt_setCells_same w5 w.heap.size 0 Cs (by rw [hcl]; exact hts)
  have hbf := below_setCells HB5.out w.heap.size (Nat.le_refl _) Cs 0
  have e55 : Cs.toArray.toList = Cs := rfl
  rw [e55]
  generalize w5.setCells w.heap.size 0 Cs = wf at *
  clear e55 hts
  go_step
  go_wp2_with fail
  exact bodyPost_ret (results_style rfl _ _ w.heap.size Cs hcl rfl hrr) rfl ⟨rfl, hbf⟩
end Go.Proofs.Ytodicpnnpeboeaa
