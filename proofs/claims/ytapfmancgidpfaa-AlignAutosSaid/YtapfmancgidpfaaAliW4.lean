/- The walks of layer 22: spaces of the other text, lines. -/
import Derived.Test.YtapfmancgidpfaaAliP
namespace Go.Proofs.Ytapfmancgidpfaa
open Go.RowKit FixM ShaD ShaM Go.Sort
set_option linter.unusedVariables false

/-- what a list of spaces is told as -/
def SpIs (w : World) (N : Nat) (f : Nat → Int) (e : Ending) (w' : World) : Prop :=
  ∃ b, w.heap.size ≤ b ∧ e = .returned (.slice (some ⟨b, 0, none⟩) (N + 1 : Nat) (N + 1 : Nat)) ∧ Below w.heap.size w w' ∧ Row w' b (N + 1) f

set_option maxRecDepth 100000 in
set_option maxHeartbeats 2000000 in
theorem refSpaces22_deal (t n way en iw : Int) (N : Nat) (w : World) (hn : CN n = N) (hN : N ≤ 999) (h0 : 0 < N) (hF : 0 ≤ H t)
    (hw : way = 3 ∧ en = 0 ∧ iw = 1 ∧ 1 < N ∨ way = 4 ∧ en = 1 ∧ iw = 2 ∨ way = 5 ∧ en = 1 ∧ iw = 1) :
    Calls Try.prog 11 #[.int .i64 t, .int .i64 n, .int .i64 way] w (SpIs w N (spS (H t) N way)) := by
  have hsp : ∀ i, shareS (H t) ((List.range (N + 1)).map (wts22 en iw N)) i = spS (H t) N way i := fun i => spS_deal N way en iw (by rcases hw with ⟨rfl, rfl, rfl, h⟩ | ⟨rfl, rfl, rfl⟩ | ⟨rfl, rfl, rfl⟩ <;> rfl) (by rcases hw with ⟨rfl, rfl, rfl, h⟩ | ⟨rfl, rfl, rfl⟩ | ⟨rfl, rfl, rfl⟩ <;> rfl) hF (by omega) i
  have hFb := H_bd t
  have hHH := H_H t
  obtain ⟨F, hFe⟩ : ∃ F, H t = F := ⟨_, rfl⟩
  rw [hFe] at hsp hF hFb hHH
  obtain ⟨sp, hspe⟩ : ∃ sp, spS F N way = sp := ⟨_, rfl⟩
  rw [hFe, hspe]
  rw [hspe] at hsp
  have HFE := Lib.hid hFe
  have HHH := Lib.hid hHH
  have HSP := Lib.hid hsp
  have HN := Lib.hid hn
  obtain ⟨M, hM⟩ : ∃ M, N + 1 = M := ⟨_, rfl⟩
  have hmk := make_ints M (by omega)
  have e1 : (M : Int) = (N : Int) + 1 := by omega
  rw [e1] at hmk
  have hM4 : (M : Int) ≤ 1000 := by omega
  have hz1 : (0 : Int) < N := by omega
  have bN : ((N : Int) == 0) = false := by simp; omega
  have hb0 := below_mk0 w M
  have hW := Lib.hid hb0
  have HM := Lib.hid hM
  clear hFe hspe hsp hHH hb0 hM e1 hn
  unfold SpIs
  rw [HM.out]
  generalize hW0 : mk0 w M = W0 at hW hmk
  have HW0 := Lib.hid hW0
  have RW1 : ∀ e o, Hid (Calls Try.prog 28 #[.int .i64 (N : Int), .int .i64 e, .int .i64 o] W0 fun x w' => x = .returned (.slice (some ⟨W0.heap.size, 0, none⟩) M M) ∧ Below W0.heap.size W0 w' ∧ Row w' W0.heap.size M (wts22 e o N) ∧ Calls Try.prog 27 #[.int .i64 F, .slice (some ⟨W0.heap.size, 0, none⟩) M M] w' fun x w2 => x = .returned (.slice (some ⟨w'.heap.size, 0, none⟩) M M) ∧ Below w'.heap.size w' w2 ∧ Row w2 w'.heap.size M (shareS F ((List.range M).map (wts22 e o N)))) := fun e o => by
    have h := refWeights22_any N e o W0 hN
    rw [HM.out] at h
    refine h.mono ?_
    rintro x w' ⟨rfl, hz, hb, hr⟩
    have hl : ((List.range M).map (wts22 e o N)).length = M := len_row M _
    have D := refDeal_told F (some ⟨W0.heap.size, 0, none⟩) M ((List.range M).map (wts22 e o N)) w' (by rw [hl]; omega) (Lst_row hr)
    rw [hl, HHH.out] at D
    exact ⟨rfl, hb, hr, D⟩
  have RW := Lib.hid RW1
  clear RW1
  rcases hw with ⟨rfl, rfl, rfl, h⟩ | ⟨rfl, rfl, rfl⟩ | ⟨rfl, rfl, rfl⟩
  all_goals
    go_enter Try.func11, Try.ntmps11
    go_wp2_with (first
      | (go_at_call 18; refine (refHold_any _ _).mono ?_; rw [HFE.out]; rintro e w' ⟨rfl, rfl⟩)
      | (go_at_call 25; refine (refMany_any _ _).mono ?_; rw [HN.out]; rintro e w' ⟨rfl, rfl⟩))
    refine (RW.out _ _).out.mono ?_
    rintro e w1 ⟨rfl, hb1, hr1, D⟩
    have DD := Lib.hid D
    have HB1 := Lib.hid hb1
    clear D hb1 hr1
    go_wp2_with fail
    refine DD.out.mono ?_
    rintro e w2 ⟨rfl, hb2, hr2⟩
    have HB2 := Lib.hid hb2
    have HR2 : Hid (Row w2 w1.heap.size M sp) := hr2.ext (fun i _ => by have := HSP.out i; rw [HM.out] at this; exact this)
    clear hb2 hr2
    go_wp2_with fail
    go_ret
    have s1 := hW.out.size
    have s2 := HB1.out.size
    exact ⟨w1.heap.size, by omega, rfl, (hW.out.trans (HB1.out.mono s1)).trans (HB2.out.mono (by omega)), HR2.out⟩

theorem row_one {w w' : World} {b M k : Nat} {v : Int} {f : Nat → Int} (h : Row w b M (fun _ => 0)) (hk : k < M) (hw : w.setCell ⟨b, k, none⟩ (.int .i64 v) = w') (hf : ∀ i, i < M → (if i = k then v else 0) = f i) : Row w' b M f := by
  subst hw
  intro i hi
  have := h.set hk v i hi
  rw [← hf i hi]
  exact this

set_option maxRecDepth 100000 in
set_option maxHeartbeats 2000000 in
theorem refSpaces22_one (t n way : Int) (N k : Nat) (v : Int) (w : World) (hn : CN n = N) (hN : N ≤ 999) (hk : k ≤ N)
    (hc : N = 0 ∧ k = 0 ∧ v = H t ∨ 0 < N ∧ way = 1 ∧ k = 0 ∧ v = H t ∨ 0 < N ∧ way ≠ 1 ∧ way ≠ 2 ∧ k = N ∧ v = H t ∧ (H t < 0 ∨ 0 ≤ H t ∧ way ≠ 3 ∧ way ≠ 4 ∧ way ≠ 5 ∨ 0 ≤ H t ∧ way = 3 ∧ N ≤ 1))
    (hsp : ∀ i, i < N + 1 → (if i = k then v else 0) = spS (H t) N way i) :
    Calls Try.prog 11 #[.int .i64 t, .int .i64 n, .int .i64 way] w (SpIs w N (spS (H t) N way)) := by
  have hFb := H_bd t
  obtain ⟨F, hFe⟩ : ∃ F, H t = F := ⟨_, rfl⟩
  rw [hFe] at hsp hFb hc
  obtain ⟨sp, hspe⟩ : ∃ sp, spS F N way = sp := ⟨_, rfl⟩
  rw [hFe, hspe]
  rw [hspe] at hsp
  have HFE := Lib.hid hFe
  have HSP := Lib.hid hsp
  have HN := Lib.hid hn
  obtain ⟨M, hM⟩ : ∃ M, N + 1 = M := ⟨_, rfl⟩
  have hmk := make_ints M (by omega)
  have e1 : (M : Int) = (N : Int) + 1 := by omega
  rw [e1] at hmk
  have hM4 : (M : Int) ≤ 1000 := by omega
  have hM0 : 0 < M := by omega
  have hM1 : (0 : Int) < (M : Int) := by omega
  have hM2 : (N : Int) < (M : Int) := by omega
  have hM3 : N < M := by omega
  have hkM : k < M := by omega
  have hb0 := below_mk0 w M
  have hr0 := row_mk0 w M
  have HM := Lib.hid hM
  unfold SpIs
  rw [HM.out]
  rw [HM.out] at HSP
  generalize hW0 : mk0 w M = W0 at hb0 hr0
  have c1 := (hr0 0 hM0).1
  have c2 := (hr0 0 hM0).2
  have c3 := (hr0 N hM3).1
  have c4 := (hr0 N hM3).2
  obtain ⟨W1, hW1⟩ : ∃ W1, W0.setCell ⟨w.heap.size, k, none⟩ (.int .i64 v) = W1 := ⟨_, rfl⟩
  have HR : Hid (Row W1 w.heap.size M sp) := row_one hr0 hkM hW1 HSP.out
  have HB : Hid (Below w.heap.size w W1) := by rw [← hW1]; exact hb0.setCell (p := ⟨w.heap.size, k, none⟩) (Nat.le_refl w.heap.size) _
  have HW1 := Lib.hid hW1
  clear hFe hspe hsp HSP hb0 hr0 hM e1 hn hW1
  rcases hc with ⟨h0, rfl, rfl⟩ | ⟨h0, rfl, rfl, rfl⟩ | ⟨h0, h1, h2, hkN, rfl, hc⟩
  · have bN : ((N : Int) == 0) = true := by simp; omega
    clear h0
    go_enter Try.func11, Try.ntmps11
    go_wp2_with (first
      | (go_at_call 18; refine (refHold_any _ _).mono ?_; rw [HFE.out]; rintro e w' ⟨rfl, rfl⟩)
      | (go_at_call 25; refine (refMany_any _ _).mono ?_; rw [HN.out]; rintro e w' ⟨rfl, rfl⟩))
    go_ret
    rw [HW1.out]
    exact ⟨w.heap.size, Nat.le_refl _, rfl, HB.out, HR.out⟩
  · have bN : ((N : Int) == 0) = false := by simp; omega
    go_enter Try.func11, Try.ntmps11
    go_wp2_with (first
      | (go_at_call 18; refine (refHold_any _ _).mono ?_; rw [HFE.out]; rintro e w' ⟨rfl, rfl⟩)
      | (go_at_call 25; refine (refMany_any _ _).mono ?_; rw [HN.out]; rintro e w' ⟨rfl, rfl⟩))
    go_ret
    rw [HW1.out]
    exact ⟨w.heap.size, Nat.le_refl _, rfl, HB.out, HR.out⟩
  · obtain rfl := hkN.symm
    have bN : ((N : Int) == 0) = false := by simp; omega
    have b1 : (way == 1) = false := by simp [h1]
    have b2 : (way == 2) = false := by simp [h2]
    rcases hc with hc | ⟨f0, h3, h4, h5⟩ | ⟨f0, rfl, h4⟩
    · go_enter Try.func11, Try.ntmps11
      go_wp2_with (first
        | (go_at_call 18; refine (refHold_any _ _).mono ?_; rw [HFE.out]; rintro e w' ⟨rfl, rfl⟩)
        | (go_at_call 25; refine (refMany_any _ _).mono ?_; rw [HN.out]; rintro e w' ⟨rfl, rfl⟩))
      go_ret
      rw [HW1.out]
      exact ⟨w.heap.size, Nat.le_refl _, rfl, HB.out, HR.out⟩
    · have b3 : (way == 3) = false := by simp [h3]
      have b4 : (way == 4) = false := by simp [h4]
      have b5 : (way == 5) = false := by simp [h5]
      go_enter Try.func11, Try.ntmps11
      go_wp2_with (first
        | (go_at_call 18; refine (refHold_any _ _).mono ?_; rw [HFE.out]; rintro e w' ⟨rfl, rfl⟩)
        | (go_at_call 25; refine (refMany_any _ _).mono ?_; rw [HN.out]; rintro e w' ⟨rfl, rfl⟩))
      go_ret
      rw [HW1.out]
      exact ⟨w.heap.size, Nat.le_refl _, rfl, HB.out, HR.out⟩
    · have h4z : (N : Int) ≤ 1 := by omega
      go_enter Try.func11, Try.ntmps11
      go_wp2_with (first
        | (go_at_call 18; refine (refHold_any _ _).mono ?_; rw [HFE.out]; rintro e w' ⟨rfl, rfl⟩)
        | (go_at_call 25; refine (refMany_any _ _).mono ?_; rw [HN.out]; rintro e w' ⟨rfl, rfl⟩))
      go_ret
      rw [HW1.out]
      exact ⟨w.heap.size, Nat.le_refl _, rfl, HB.out, HR.out⟩

set_option maxRecDepth 100000 in
set_option maxHeartbeats 2000000 in
theorem refSpaces22_half (t n : Int) (N : Nat) (w : World) (hn : CN n = N) (hN : N ≤ 999) (h0 : 0 < N) :
    Calls Try.prog 11 #[.int .i64 t, .int .i64 n, .int .i64 2] w (SpIs w N (spS (H t) N 2)) := by
  have hFb := H_bd t
  have hsp : ∀ i, i < N + 1 → (if i = N then H t - FL (H t) 2 else if i = 0 then FL (H t) 2 else 0) = spS (H t) N 2 i := fun i _ => by
    rw [spS_rest N 2 (by unfold EN IW; simp)]
    have e : AH (H t) 2 = FL (H t) 2 := by unfold AH; rw [if_neg (by decide), if_pos rfl, half22 hFb.1 hFb.2]
    rw [e]
    (repeat' split) <;> omega
  have hfl := FL_pos (H t) 2 (by decide)
  obtain ⟨F, hFe⟩ : ∃ F, H t = F := ⟨_, rfl⟩
  rw [hFe] at hsp hFb hfl
  obtain ⟨x, hx⟩ : ∃ x, FL F 2 = x := ⟨_, rfl⟩
  rw [hx] at hsp hfl
  obtain ⟨sp, hspe⟩ : ∃ sp, spS F N 2 = sp := ⟨_, rfl⟩
  rw [hFe, hspe]
  rw [hspe] at hsp
  have x0 : -1073741824 ≤ x := by omega
  have x1 : x ≤ 1073741824 := by omega
  have HFE := Lib.hid hFe
  have HSP := Lib.hid hsp
  have HN := Lib.hid hn
  have HX := Lib.hid hx
  have FLR : Hid (∀ w, Calls Try.prog 26 #[.int .i64 F, .int .i64 2] w fun e w' => e = .returned (.int .i64 x) ∧ w = w') := fun w => by
    have := Floor_pos F 2 w (by omega) (by omega) (by omega) (by omega)
    rwa [hx] at this
  obtain ⟨M, hM⟩ : ∃ M, N + 1 = M := ⟨_, rfl⟩
  have hmk := make_ints M (by omega)
  have e1 : (M : Int) = (N : Int) + 1 := by omega
  rw [e1] at hmk
  have hM4 : (M : Int) ≤ 1000 := by omega
  have hM0 : 0 < M := by omega
  have hM1 : (0 : Int) < (M : Int) := by omega
  have hM2 : (N : Int) < (M : Int) := by omega
  have hM3 : N < M := by omega
  have hb0 := below_mk0 w M
  have hr0 := row_mk0 w M
  have HM := Lib.hid hM
  unfold SpIs
  rw [HM.out]
  rw [HM.out] at HSP
  generalize hW0 : mk0 w M = W0 at hb0 hr0
  have c1 := (hr0 0 hM0).1
  have c2 := (hr0 0 hM0).2
  have hr1 := hr0.set hM0 x
  have d1 : (W0.setCell ⟨w.heap.size, 0, none⟩ (.int .i64 x)).cell? ⟨w.heap.size, 0, none⟩ = some (.int .i64 x) := by have := (hr1 0 hM0).1; simpa using this
  have d2 : (W0.setCell ⟨w.heap.size, 0, none⟩ (.int .i64 x)).cell? ⟨w.heap.size, N, none⟩ = some (.int .i64 0) := by
    have := (hr1 N hM3).1
    simp only [show ¬ N = 0 from by omega, if_false] at this
    exact this
  have d3 := (hr1 N hM3).2
  have hb1 : Below w.heap.size w (W0.setCell ⟨w.heap.size, 0, none⟩ (.int .i64 x)) := hb0.setCell (p := ⟨w.heap.size, 0, none⟩) (Nat.le_refl w.heap.size) _
  have bN : ((N : Int) == 0) = false := by simp; omega
  have HR2 := Lib.hid (hr1.set hM3 (F - x))
  have HB2 := Lib.hid (hb1.setCell (p := ⟨w.heap.size, N, none⟩) (Nat.le_refl w.heap.size) (.int .i64 (F - x)))
  have HW0 := Lib.hid hW0
  clear hFe hspe hsp hb0 hr0 hM e1 hn hb1 hr1 hx hfl
  go_enter Try.func11, Try.ntmps11
  go_upto_region 11 with (first
    | (go_at_call 18; refine (refHold_any _ _).mono ?_; rw [HFE.out]; rintro e w' ⟨rfl, rfl⟩)
    | (go_at_call 26; refine (FLR.out _).mono ?_; rintro e w' ⟨rfl, rfl⟩)
    | (go_at_call 25; refine (refMany_any _ _).mono ?_; rw [HN.out]; rintro e w' ⟨rfl, rfl⟩))
  clear hmk c1 c2
  go_wp2_with fail
  go_ret
  exact ⟨w.heap.size, Nat.le_refl _, rfl, HB2.out, HR2.out.ext (fun i hi => HSP.out i hi)⟩

theorem refSpaces22_any (t n way : Int) (N : Nat) (w : World) (hn : CN n = N) (hN : N ≤ 999) :
    Calls Try.prog 11 #[.int .i64 t, .int .i64 n, .int .i64 way] w (SpIs w N (spS (H t) N way)) := by
  by_cases h0 : N = 0
  · subst h0
    exact refSpaces22_one t n way 0 0 (H t) w hn hN (Nat.le_refl _) (Or.inl ⟨rfl, rfl, rfl⟩) (fun i hi => by
      obtain rfl : i = 0 := by omega
      rw [spS_none, if_pos rfl])
  · by_cases h1 : way = 1
    · subst h1
      exact refSpaces22_one t n 1 N 0 (H t) w hn hN (by omega) (Or.inr (Or.inl ⟨by omega, rfl, rfl, rfl⟩)) (fun i hi => by
        rw [spS_rest N 1 (by unfold EN IW; simp)]
        have e : AH (H t) 1 = H t := by unfold AH; rw [if_pos rfl]
        rw [e]
        (repeat' split) <;> omega)
    · by_cases h2 : way = 2
      · subst h2; exact refSpaces22_half t n N w hn hN (by omega)
      · by_cases hd : 0 ≤ H t ∧ (way = 3 ∧ 1 < N ∨ way = 4 ∨ way = 5)
        · obtain ⟨f0, hd⟩ := hd
          rcases hd with ⟨h3, h4⟩ | h3 | h3
          · exact refSpaces22_deal t n way 0 1 N w hn hN (by omega) f0 (Or.inl ⟨h3, rfl, rfl, h4⟩)
          · exact refSpaces22_deal t n way 1 2 N w hn hN (by omega) f0 (Or.inr (Or.inl ⟨h3, rfl, rfl⟩))
          · exact refSpaces22_deal t n way 1 1 N w hn hN (by omega) f0 (Or.inr (Or.inr ⟨h3, rfl, rfl⟩))
        · have hc : H t < 0 ∨ 0 ≤ H t ∧ way ≠ 3 ∧ way ≠ 4 ∧ way ≠ 5 ∨ 0 ≤ H t ∧ way = 3 ∧ N ≤ 1 := by omega
          refine refSpaces22_one t n way N N (H t) w hn hN (Nat.le_refl _) (Or.inr (Or.inr ⟨by omega, h1, h2, rfl, rfl, hc⟩)) (fun i hi => ?_)
          have hnb : ¬ (0 < H t ∧ (0 < EN way ∨ 0 < IW way ∧ 1 < N)) := by
            rintro ⟨f0, hb⟩
            rcases hc with hc | ⟨_, h3, h4, h5⟩ | ⟨_, h3, h4⟩
            · omega
            · unfold EN IW at hb
              rw [if_neg (by omega), if_neg (by omega), if_neg (by omega)] at hb
              omega
            · unfold EN at hb
              rw [if_neg (by omega)] at hb
              omega
          rw [spS_rest N way hnb]
          have e : AH (H t) way = 0 := by unfold AH; rw [if_neg h1, if_neg h2]
          rw [e]
          (repeat' split) <;> omega
end Go.Proofs.Ytapfmancgidpfaa
