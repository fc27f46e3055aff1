/- The walks of layer 22: spaces. -/
import Derived.Test.YtapfmancgidpfaaAliW2
import Derived.Deep.CutBlock
import Derived.Deep.DeepCutAuto
namespace Go.Proofs.Ytapfmancgidpfaa
open Go.RowKit FixM ShaD ShaM Go.Sort

set_option maxRecDepth 100000 in
set_option maxHeartbeats 400000 in
theorem Spaces1_any (i n en iw : Int) (B : Nat) (w : World) (c0 : w.cell? ⟨B, 0, none⟩ = some (.int .i64 n)) (c1 : w.cell? ⟨B + 1, 0, none⟩ = some (.int .i64 en)) (c2 : w.cell? ⟨B + 1 + 1, 0, none⟩ = some (.int .i64 iw)) :
    Calls Try.prog 23 #[.int .i64 i, .pointer (some ⟨B, 0, none⟩), .pointer (some ⟨B + 1, 0, none⟩), .pointer (some ⟨B + 1 + 1, 0, none⟩)] w fun e w' => e = .returned (.int .i64 (if i = 0 ∨ i = n then en else iw)) ∧ w = w' := by
  go_enter Try.func23, Try.ntmps23
  by_cases h0 : i = 0
  · have b0 : (i == 0) = true := by simp [h0]
    have hz : (if i = 0 ∨ i = n then en else iw) = en := if_pos (Or.inl h0)
    rw [hz]
    clear h0 hz
    go_wp2_with fail
    go_ret
    exact ⟨rfl, rfl⟩
  · have b0 : (i == 0) = false := by simp [h0]
    by_cases h1 : i = n
    · have b1 : (i == n) = true := by simp [h1]
      have hz : (if i = 0 ∨ i = n then en else iw) = en := if_pos (Or.inr h1)
      rw [hz]
      clear h0 hz h1
      go_wp2_with fail
      go_ret
      exact ⟨rfl, rfl⟩
    · have b1 : (i == n) = false := by simp [h1]
      have hz : (if i = 0 ∨ i = n then en else iw) = iw := if_neg (by omega)
      rw [hz]
      clear h0 hz h1
      go_wp2_with fail
      go_ret
      exact ⟨rfl, rfl⟩

theorem enters_sp1 : ∀ args w, (callFunc 23 args).run Try.prog w = .ok (.enter 23 args) w := enters_of Try.func23 (by kernel_rfl) rfl

/-- a space -/
def spS (free : Int) (N : Nat) (way : Int) (i : Nat) : Int :=
  if 0 < free ∧ (0 < EN way ∨ 0 < IW way ∧ 1 < N) then shareS free ((List.range (N + 1)).map (wts22 (EN way) (IW way) N)) i
  else (if i = 0 then AH free way else 0) + (if i = N then free - AH free way else 0)

theorem PT_bd22 (a n d : Int) : -1073741824 ≤ PT a n d ∧ PT a n d ≤ 1073741824 := by
  unfold PT
  split
  · omega
  · exact H_bd _
theorem AH_bd (x way : Int) : -1073741824 ≤ AH (H x) way ∧ AH (H x) way ≤ 1073741824 := by
  have h := H_bd x
  have h2 := PT_bd22 (H x) 1 2
  unfold AH
  repeat' split <;> omega

set_option maxRecDepth 100000 in
set_option maxHeartbeats 2000000 in
theorem Spaces22_any (t n way : Int) (N : Nat) (w : World) (hn : CN n = N) (hN : N ≤ 999) :
    Calls Try.prog 10 #[.int .i64 t, .int .i64 n, .int .i64 way] w fun e w' =>
      ∃ b, w.heap.size ≤ b ∧ e = .returned (.slice (some ⟨b, 0, none⟩) (N + 1 : Nat) (N + 1 : Nat)) ∧ Below w.heap.size w w' ∧ Row w' b (N + 1) (spS (H t) N way) := by
  have hF := H_bd t
  have hHH := H_H t
  have hA := AH_bd t way
  have hsp : ∀ i, spS (H t) N way i = if 0 < H t ∧ (0 < EN way ∨ 0 < IW way ∧ 1 < N) then shareS (H t) ((List.range (N + 1)).map (wts22 (EN way) (IW way) N)) i
      else (if i = 0 then AH (H t) way else 0) + (if i = N then H t - AH (H t) way else 0) := fun i => rfl
  obtain ⟨F, hFe⟩ : ∃ F, H t = F := ⟨_, rfl⟩
  obtain ⟨sp, hspe⟩ : ∃ sp, spS F N way = sp := ⟨_, rfl⟩
  rw [hFe] at hF hHH hA hsp ⊢
  rw [hspe] at hsp ⊢
  obtain ⟨en, hen⟩ : ∃ en, EN way = en := ⟨_, rfl⟩
  obtain ⟨iw, hiw⟩ : ∃ iw, IW way = iw := ⟨_, rfl⟩
  obtain ⟨ah, hah⟩ : ∃ ah, AH F way = ah := ⟨_, rfl⟩
  rw [hen, hiw, hah] at hsp
  rw [hah] at hA
  have HFE := Lib.hid hFe
  have HEN := Lib.hid hen
  have HIW := Lib.hid hiw
  have HAH := Lib.hid hah
  have HSP := Lib.hid hsp
  have HHH := Lib.hid hHH
  have ⟨F0, F1⟩ := hF
  have ⟨A0, A1⟩ := hA
  obtain ⟨M, hM⟩ : ∃ M, N + 1 = M := ⟨_, rfl⟩
  rw [hM]
  have HM := Lib.hid hM
  clear hFe hspe hen hiw hah hsp hHH hF hA hM
  go_enter Try.func10, Try.ntmps10
  go_upto_region 1 with fail
  go_cut [0] (fun v0 wx => v0 = .int .i64 F ∧ Hid (Below w.heap.size w wx ∧ wx.heap.size = w.heap.size + 1 ∧ wx.cell? ⟨w.heap.size, 0, none⟩ = some (.int .i64 (N : Int))))
  case first =>
    go_region_with (first
      | (go_at_call 19; refine (Hold_any _ _).mono ?_; rw [HFE.out]; rintro e w' ⟨rfl, rfl⟩)
      | (go_at_call 20; refine (count22_any _ _).mono ?_; rintro e w' ⟨rfl, rfl⟩))
    all_goals go_wp2_with fail
    all_goals go_meet
    all_goals exact ⟨rfl, Lib.hid ⟨((Below.refl _ _).alloc (Nat.le_refl _) _).drew, by simp, by simp⟩⟩
  case rest =>
    obtain ⟨rfl, HX⟩ := hcut
    obtain ⟨S, hS⟩ : ∃ S, S = w.heap.size := ⟨_, rfl⟩
    rw [← hS] at HX ⊢
    have HS := Lib.hid hS
    have hxs := HX.out.2.1
    clear hS
    go_upto_region 3 with (go_at_call 21; refine (spread_any _ _).mono ?_; rw [HEN.out, HIW.out]; rintro e w' ⟨rfl, rfl⟩)
    generalize hW3 : ((wc.alloc (.cells #[.int .i64 en] 3)).alloc (.cells #[.int .i64 iw] 3)) = W3
    have hz3 : W3.heap.size = S + 1 + 1 + 1 := by rw [← hW3]; simp [hxs]
    have hB3 : Below S w W3 := by rw [← hW3]; exact (HX.out.1.alloc (by omega) _).alloc (by simp; omega) _
    have k0 : W3.cell? ⟨S, 0, none⟩ = some (.int .i64 (N : Int)) := by rw [← hW3, World.cell?_alloc_past _ _ _ (by simp [hxs]; omega), World.cell?_alloc_past _ _ _ (by simp [hxs])]; exact HX.out.2.2
    have k1 : W3.cell? ⟨S + 1, 0, none⟩ = some (.int .i64 en) := by rw [← hW3, World.cell?_alloc_past _ _ _ (by simp [hxs]), World.cell?_alloc_at _ _ _ _ hxs.symm]; rfl
    have k2 : W3.cell? ⟨S + 1 + 1, 0, none⟩ = some (.int .i64 iw) := by rw [← hW3, World.cell?_alloc_at _ _ _ _ (by simp [hxs])]; rfl
    have HZ3 := Lib.hid hz3
    have HB3 := Lib.hid hB3
    clear hW3 hxs hz3 hB3 HX
    by_cases hbig : 0 < F ∧ (0 < en ∨ 0 < iw ∧ 1 < N)
    · have D := deal22_any F (N + 1) 23 #[.pointer (some ⟨S, 0, none⟩), .pointer (some ⟨S + 1, 0, none⟩), .pointer (some ⟨S + 1 + 1, 0, none⟩)] (wts22 en iw N) W3 (by omega) enters_sp1
        (fun W hW i hi => by
          have hc : wts22 en iw N i = if (i : Int) = 0 ∨ (i : Int) = (N : Int) then en else iw := by
            unfold wts22
            by_cases c : i = 0 ∨ i = N
            · rw [if_pos c, if_pos (by omega)]
            · rw [if_neg c, if_neg (by omega)]
          rw [hc]
          rw [HZ3.out] at hW
          exact Spaces1_any (i : Int) (N : Int) en iw S W (by rw [hW.cell (p := ⟨S, 0, none⟩) (by show S < S + 1 + 1 + 1; omega)]; exact k0) (by rw [hW.cell (p := ⟨S + 1, 0, none⟩) (by show S + 1 < S + 1 + 1 + 1; omega)]; exact k1) (by rw [hW.cell (p := ⟨S + 1 + 1, 0, none⟩) (by show S + 1 + 1 < S + 1 + 1 + 1; omega)]; exact k2))
      have e1 : ((N + 1 : Nat) : Int) = (N : Int) + 1 := by omega
      rw [e1, HHH.out, HZ3.out, HM.out] at D
      have DD := Lib.hid D
      have hfin : ∀ i, shareS F ((List.range M).map (wts22 en iw N)) i = sp i := fun i => by rw [HSP.out i, if_pos hbig, HM.out]
      have HFIN := Lib.hid hfin
      clear D hfin e1
      obtain ⟨f0, hor⟩ := hbig
      have hor2 : 0 < en ∨ en ≤ 0 ∧ 0 < iw ∧ 1 < (N : Int) := by omega
      clear hor
      rcases hor2 with h1 | ⟨h1, h2, h3⟩
      all_goals
        go_wp2_with fail
        refine DD.out.mono ?_
        rintro e w9 ⟨rfl, hb, hr⟩
        have HB := Lib.hid hb
        have HR := Lib.hid (hr.ext (fun i _ => HFIN.out i))
        clear hb hr
        go_wp2_with fail
        go_ret
        exact ⟨S + 1 + 1 + 1 + 1, by have := HS.out; omega, rfl, by rw [← HS.out]; exact HB3.out.trans (HB.out.mono (by omega)), HR.out⟩
    · have hM := HM.out
      have hmk := make_ints M (by omega)
      have e1 : (M : Int) = (N : Int) + 1 := by omega
      rw [e1] at hmk
      have hM0 : 0 < M := by omega
      have hM1 : (0 : Int) < (M : Int) := by omega
      have hM2 : (N : Int) < (M : Int) := by omega
      have hM3 : N < M := by omega
      have hM4 : (M : Int) ≤ 1000 := by omega
      -- the row
      have hr0 : Row (mk0 W3 M) (S + 1 + 1 + 1) M (fun _ => 0) := by have := row_mk0 W3 M; rwa [HZ3.out] at this
      have hb0 : Below S w (mk0 W3 M) := HB3.out.trans ((below_mk0 W3 M).mono (by have := HZ3.out; omega))
      have hc0 : (mk0 W3 M).cell? ⟨S, 0, none⟩ = some (.int .i64 (N : Int)) := by rw [(below_mk0 W3 M).cell (p := ⟨S, 0, none⟩) (by have := HZ3.out; show S < _; omega)]; exact k0
      have hfin : ∀ i, sp i = (if i = 0 then ah else 0) + (if i = N then F - ah else 0) := fun i => by rw [HSP.out i, if_neg hbig]
      have hcase : F ≤ 0 ∨ 0 < F ∧ en ≤ 0 ∧ iw ≤ 0 ∨ 0 < F ∧ en ≤ 0 ∧ 0 < iw ∧ (N : Int) ≤ 1 := by omega
      have HFIN := Lib.hid hfin
      have HR0 := Lib.hid hr0
      have HB0 := Lib.hid hb0
      have HC0 := Lib.hid hc0
      clear hr0 hb0 hc0 hfin hM hbig e1
      go_cut [32] (fun v wx => v = .bool false ∧ wx = W3)
      case first =>
        clear hmk
        rcases hcase with h1 | ⟨h1, h2, h3⟩ | ⟨h1, h2, h3, h4⟩
        all_goals go_wp2_with fail
        all_goals go_meet
        all_goals exact ⟨by first | rfl | exact congrArg Value.bool (by simp; omega), rfl⟩
      case rest =>
        obtain ⟨rfl, hw⟩ := hcut
        have hw' := hw.symm
        subst hw'
        go_upto_region 6 with fail
        rw [HZ3.out]
        clear hmk k0 k1 k2
        generalize mk0 W3 M = W4 at HR0 HB0 HC0 ⊢
        obtain ⟨r1, r2⟩ := HR0.out 0 hM0
        have HR1 := Lib.hid (HR0.out.set hM0 ah)
        have HB1 := Lib.hid (HB0.out.setCell (p := ⟨S + 1 + 1 + 1, 0, none⟩) (by show S ≤ S + 1 + 1 + 1; omega) (.int .i64 ah))
        have HC1 : Hid ((W4.setCell ⟨S + 1 + 1 + 1, 0, none⟩ (.int .i64 ah)).cell? ⟨S, 0, none⟩ = some (.int .i64 (N : Int))) := by unfold Hid; rw [World.cell?_setCell_other (h := by intro e; injection e; omega)]; exact HC0.out
        go_upto_region 7 with (go_at_call 24; refine (ahead_any _ _ _).mono ?_; rw [HAH.out]; rintro e w' ⟨rfl, rfl⟩)
        clear r1 r2
        generalize W4.setCell ⟨S + 1 + 1 + 1, 0, none⟩ (.int .i64 ah) = W5 at HR1 HB1 HC1 ⊢
        have k0 := HC1.out
        have r1 : W5.cell? ⟨S + 1 + 1 + 1, N, none⟩ = some (.int .i64 (if N = 0 then ah else 0)) := (HR1.out N hM3).1
        have r2 := (HR1.out N hM3).2
        obtain ⟨x, hx⟩ : ∃ x, (if N = 0 then ah else 0) = x := ⟨_, rfl⟩
        have hxb : -1073741824 ≤ x ∧ x ≤ 1073741824 := by rw [← hx]; split <;> omega
        have x0 := hxb.1
        have x1 := hxb.2
        rw [hx] at r1
        have HX2 := Lib.hid hx
        have HR2 := Lib.hid (HR1.out.set hM3 (x + (F - ah)))
        have HB2 := Lib.hid (HB1.out.setCell (p := ⟨S + 1 + 1 + 1, N, none⟩) (by show S ≤ S + 1 + 1 + 1; omega) (.int .i64 (x + (F - ah))))
        have hrel : Hid (Row ((W5.setCell ⟨S + 1 + 1 + 1, N, none⟩ (.int .i64 (x + (F - ah)))).drew) (S + 1 + 1 + 1) M sp) := fun i hi => by
          have h := HR2.out i hi
          have e : (if i = N then x + (F - ah) else if i = 0 then ah else 0) = sp i := by
            rw [HFIN.out i]
            have := HX2.out
            by_cases c : i = N
            · rw [if_pos c, if_pos c]
              by_cases c2 : i = 0
              · rw [if_pos c2, ← this, if_pos (by omega)]
              · rw [if_neg c2, ← this, if_neg (by omega)]
            · rw [if_neg c, if_neg c]; omega
          rw [← e]
          exact h
        have y1 : IntKind.i64.wrap (F - ah) = F - ah := IntWalk.i64_in _ (by omega)
        have y2 : IntKind.i64.wrap (x + (F - ah)) = x + (F - ah) := IntWalk.i64_in _ (by omega)
        clear hx hxb
        go_region_with (go_at_call 24; refine (ahead_any _ _ _).mono ?_; rw [HAH.out]; rintro e w' ⟨rfl, rfl⟩)
        all_goals go_wp2_with fail
        all_goals go_ret
        all_goals exact ⟨S + 1 + 1 + 1, by have := HS.out; omega, rfl, by rw [← HS.out]; exact HB2.out.drew, hrel.out⟩
end Go.Proofs.Ytapfmancgidpfaa
