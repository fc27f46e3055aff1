/- The walk of layer 4's Graft where it grafts. -/
import Derived.Test.YtlnglpjmfoigmaaTreS
namespace Go.Proofs.Ytlnglpjmfoigmaa
open Go.RowKit TreN TreP

/-- what Graft answers where both are trees and i is an element -/
def GraftTold (L M : Nat → Nd) (l i m : Nat) (w : World) (e : Ending) (w' : World) : Prop := ∃ E, EndIs (parOf L) l i E ∧ Below w.heap.size w w' ∧
  ((checkS (GR L M l i E m) (GN l i E m) ≠ 0 ∧ e = .returned (.tuple #[.slice none 0 0, .int .i64 (checkS (GR L M l i E m) (GN l i E m))])) ∨
   (checkS (GR L M l i E m) (GN l i E m) = 0 ∧ ∃ g cap B, e = .returned (.tuple #[.slice (some ⟨g, 0, none⟩) (GN l i E m) cap, .int .i64 0]) ∧ NAt w' g 0 (GN l i E m) B ∧ EqL (GR L M l i E m) B (GN l i E m)))

set_option maxRecDepth 100000 in
set_option maxHeartbeats 8000000 in
theorem Graft_do (b off l lc i b' off' m mc : Nat) (L M : Nat → Nd) (w : World) (hl : l ≤ 1000) (hm : m ≤ 1000) (hlc : l ≤ lc ∧ lc ≤ maxLen) (hmc : m ≤ mc ∧ mc ≤ maxLen) (hL : Nods w (some ⟨b, off, none⟩) l L) (hM : Nods w (some ⟨b', off', none⟩) m M) (h1 : checkS L l = 0) (h2 : checkS M m = 0)
    (hi : i < l) (he : emB (L i).tag = false) :
    Calls Try.prog 28 #[.slice (some ⟨b, off, none⟩) l lc, .int .i64 (i : Int), .slice (some ⟨b', off', none⟩) m mc] w (GraftTold L M l i m w) := by
  have hb := gbox_below w i (some ⟨b', off', none⟩) m mc
  have hz := gbox_size w i (some ⟨b', off', none⟩) m mc
  have cm := gbox_m w i (some ⟨b', off', none⟩) m mc
  have ci := gbox_i w i (some ⟨b', off', none⟩) m mc
  have hbx : ((w.alloc (.cells #[.int .i64 (i : Int)] 3)).alloc (.cells #[.slice (some ⟨b', off', none⟩) m mc] 24)) = gbox w i (some ⟨b', off', none⟩) m mc := rfl
  generalize gbox w i (some ⟨b', off', none⟩) m mc = wb at hb hz cm ci hbx
  have C := Lib.hid (Check_any (some ⟨b, off, none⟩) l lc L wb (hL.below hb))
  have HB := Lib.hid hb
  have HL := Lib.hid (hL.below hb)
  have HM := Lib.hid (hM.below hb)
  have HZ := Lib.hid hz
  have HCM := Lib.hid cm
  have HCI := Lib.hid ci
  clear hL hM hb hz cm ci
  have C2 : Hid (Calls Try.prog 16 #[.slice (some ⟨b, off, none⟩) l lc] wb fun e w' => e = .returned (.int .i64 0) ∧ Below wb.heap.size wb w') := by rw [← h1]; exact C
  have K1 := Lib.hid h1
  have K2 := Lib.hid h2
  obtain ⟨hlc1, hlc2⟩ := hlc
  obtain ⟨hmc1, hmc2⟩ := hmc
  unfold maxLen at hlc2 hmc2
  have hm0 := (check_ok M m h2).1
  clear C h1 h2
  go_enter Try.func28, Try.ntmps28
  go_wp2_with fail
  refine C2.out.mono ?_
  rintro e w1 ⟨rfl, hb1⟩
  have H1 := Lib.hid (HB.out.trans (hb1.mono HB.out.size))
  have c1 := (hb1.cell (p := ⟨w.heap.size + 1, 0, none⟩) (by have := HZ.out; show w.heap.size + 1 < wb.heap.size; omega)).trans HCM.out
  have d1 := Lib.hid ((hb1.cell (p := ⟨w.heap.size, 0, none⟩) (by have := HZ.out; show w.heap.size < wb.heap.size; omega)).trans HCI.out)
  have C3 : Hid (Calls Try.prog 16 #[.slice (some ⟨b', off', none⟩) m mc] w1 fun e w' => e = .returned (.int .i64 0) ∧ Below w1.heap.size w1 w') := by rw [← K2.out]; exact Lib.hid (Check_any (some ⟨b', off', none⟩) m mc M w1 (HM.out.below hb1))
  have HL1 := Lib.hid (HL.out.below hb1)
  have HM1 := Lib.hid (HM.out.below hb1)
  have hz1 : w.heap.size + 1 < w1.heap.size := by have := hb1.size; have := HZ.out; omega
  clear hb1
  go_wp2_with fail
  have e1 := Lib.hid c1
  clear c1
  refine C3.out.mono ?_
  rintro e w2 ⟨rfl, hb2⟩
  have d2 := (hb2.cell (p := ⟨w.heap.size, 0, none⟩) (show w.heap.size < w1.heap.size by omega)).trans d1.out
  have e2 := Lib.hid ((hb2.cell (p := ⟨w.heap.size + 1, 0, none⟩) hz1).trans e1.out)
  have H3 := Lib.hid (H1.out.trans (hb2.mono H1.out.size))
  have HL2 := Lib.hid (HL1.out.below hb2)
  have HM2 := Lib.hid (HM1.out.below hb2)
  have hz2 : w.heap.size + 1 < w2.heap.size := by have := hb2.size; omega
  clear hb2 hz1
  have CH := Lib.hid (has_yes (some ⟨b, off, none⟩) l lc i w2 hi)
  obtain ⟨b9, off9, e9, ⟨c0, c1, c2, c3, c4, c5⟩, hin⟩ := HL2.out.at_ hi
  injection e9 with e9
  injection e9 with e9 e10
  subst e9; subst e10
  have hE := element_any (L i) w2
  rw [Nd.val_eq, he] at hE
  have HE := Lib.hid hE
  have hkz : (i : Int) < (l : Int) := by omega
  clear hE hin he
  go_wp2_with fail
  refine CH.out.mono ?_
  rintro e w3 ⟨rfl, rfl⟩
  go_wp2_with fail
  clear c0 c1 c2 c3 c4 c5
  refine HE.out.mono ?_
  rintro e w3 ⟨rfl, hb3⟩
  have d3 := (hb3.cell (p := ⟨w.heap.size, 0, none⟩) (show w.heap.size < w2.heap.size by omega)).trans d2
  have e3 := Lib.hid ((hb3.cell (p := ⟨w.heap.size + 1, 0, none⟩) hz2).trans e2.out)
  have H4 := Lib.hid (H3.out.trans (hb3.mono H3.out.size))
  have HL3 := Lib.hid (HL2.out.below hb3)
  have HM3 := Lib.hid (HM2.out.below hb3)
  have hz3 : w.heap.size + 1 < w3.heap.size := by have := hb3.size; omega
  clear hb3 hz2 d2
  have CE := Lib.hid (End_any (some ⟨b, off, none⟩) l lc (parOf L) i w3 (by omega) hi HL3.out.pars)
  go_wp2_with fail
  refine CE.out.mono ?_
  rintro e w' ⟨E, rfl, hE, rfl⟩
  have HEI := Lib.hid hE
  have hE1 := hE.1
  have hE2 := hE.2.1
  clear hE CE
  obtain ⟨a2, s1, s2, -, sN2⟩ := slice_suf b' off' m mc 1 hm0 hmc1
  have s1' : ∀ W : World, (Instr.slice 24 (.slice (some ⟨b', off', none⟩) m mc) (some (.int .i64 1)) none none).run Try.prog W = .ok (.slice a2 (m - 1) (mc - 1)) W := fun W => s1 W
  have s2' : ∀ W : World, (Instr.sliceAt 24 (.slice (some ⟨b', off', none⟩) m mc) (some (.int .i64 1)) none none).run Try.prog W = .ok (.slice a2 (m - 1) (mc - 1)) W := fun W => s2 W
  clear s1 s2
  obtain ⟨s5, s6⟩ := slice_pre b off l lc i (by omega)
  obtain ⟨a3, s3, s4, -, sN3⟩ := slice_suf b off l lc E hE2 hlc1
  go_wp2_with fail
  have hzb : Below w3.heap.size w3 (w3.alloc (.cells #[.int .i64 (E : Int)] 3)) := (Below.refl _ _).alloc (Nat.le_refl _) _
  have hzc : (w3.alloc (.cells #[.int .i64 (E : Int)] 3)).cell? ⟨w3.heap.size, 0, none⟩ = some (.int .i64 (E : Int)) := by
    rw [World.cell?_alloc_at _ _ _ _ rfl]; rfl
  have hzs : (w3.alloc (.cells #[.int .i64 (E : Int)] 3)).heap.size = w3.heap.size + 1 := by simp
  generalize (w3.alloc (.cells #[.int .i64 (E : Int)] 3)) = wz at hzb hzc hzs ⊢
  have HL4 := Lib.hid (HL3.out.below hzb)
  have HM4 := Lib.hid (HM3.out.below hzb)
  have H5 := Lib.hid (H4.out.trans (hzb.mono H4.out.size))
  have k1 := (hzb.cell (p := ⟨w.heap.size, 0, none⟩) (show w.heap.size < w3.heap.size by omega)).trans d3
  have k2 := (hzb.cell (p := ⟨w.heap.size + 1, 0, none⟩) hz3).trans e3.out
  have k3 := hzc
  have J1 : ∀ W, Below wz.heap.size wz W → W.cell? ⟨w.heap.size, 0, none⟩ = some (.int .i64 (i : Int)) := fun W h => (h.cell (p := ⟨w.heap.size, 0, none⟩) (show w.heap.size < wz.heap.size by omega)).trans k1
  have J2 : ∀ W, Below wz.heap.size wz W → W.cell? ⟨w.heap.size + 1, 0, none⟩ = some (.slice (some ⟨b', off', none⟩) m mc) := fun W h => (h.cell (p := ⟨w.heap.size + 1, 0, none⟩) (show w.heap.size + 1 < wz.heap.size by omega)).trans k2
  have J3 : ∀ W, Below wz.heap.size wz W → W.cell? ⟨w3.heap.size, 0, none⟩ = some (.int .i64 (E : Int)) := fun W h => (h.cell (p := ⟨w3.heap.size, 0, none⟩) (show w3.heap.size < wz.heap.size by omega)).trans k3
  have HJ1 := Lib.hid J1
  have HJ2 := Lib.hid J2
  have HJ3 := Lib.hid J3
  have SN2 := Lib.hid sN2
  have SN3 := Lib.hid sN3
  have HBW := Lib.hid (Below.refl wz.heap.size wz)
  have hEz : (E : Int) ≤ (l : Int) := by omega
  clear J1 J2 J3 sN2 sN3 hzb hzc hzs d3 hz3 hbx
  have hw1 : IntKind.i64.wrap ((i : Int) + 1) = (i : Int) + 1 := IntWalk.i64_in _ (by omega)
  have hq1 : (0 : Int) ≤ (i : Int) + 1 := by omega
  have hq2 : (i : Int) + 1 ≤ (lc : Int) := by omega
  have hq3 : ¬ (i : Int) + 1 < 0 := by omega
  have hq4 : (1 : Int) ≤ (m : Int) := by omega
  have hcm1 : ∀ W, Below wz.heap.size wz W → Calls Try.prog 55 #[.slice (some ⟨b, off, none⟩) (i + 1) lc, .func (.func 53) #[] #[.pointer (some ⟨w3.heap.size, 0, none⟩), .pointer (some ⟨w.heap.size, 0, none⟩), .pointer (some ⟨w.heap.size + 1, 0, none⟩)]] W
      fun e w' => ∃ g, e = .returned (.slice (some ⟨g, 0, none⟩) (i + 1) (i + 1)) ∧ PartAt w' g (i + 1) (gR L M i E m 0) ∧ Below W.heap.size W w' ∧ Below wz.heap.size wz w' := by
    intro W hW
    refine (moved_part _ _ (lS i E m) (enters_of Try.func53 (by kernel_rfl) rfl) _ (i + 1) lc L (gR L M i E m 0) W (fun k hk W' hb' => ?_) (by omega) ((HL4.out.below hW).pre (by omega)) (fun k hk => small_of L l K1.out k (by omega)) (fun k _ => rfl)).mono ?_
    · have hbd := par_bd L l K1.out k (by omega)
      have hW' := hW.trans (hb'.mono hW.size)
      exact ofL_any (L k).par i E m mc _ _ _ _ W' ⟨hbd.1, hbd.2.2⟩ (by omega) (by omega) (by omega) (HJ3.out W' hW') (HJ1.out W' hW') (HJ2.out W' hW')
    · rintro e w' ⟨g, h1, h2, h3⟩
      exact ⟨g, h1, h2, h3, hW.trans (h3.mono hW.size)⟩
  have hcm3 : ∀ W, Below wz.heap.size wz W → Calls Try.prog 55 #[.slice a3 (l - E) (lc - E), .func (.func 53) #[] #[.pointer (some ⟨w3.heap.size, 0, none⟩), .pointer (some ⟨w.heap.size, 0, none⟩), .pointer (some ⟨w.heap.size + 1, 0, none⟩)]] W
      fun e w' => ∃ g, e = .returned (.slice (some ⟨g, 0, none⟩) (l - E) (l - E)) ∧ PartAt w' g (l - E) (gR L M i E m 2) ∧ Below W.heap.size W w' ∧ Below wz.heap.size wz w' := by
    intro W hW
    refine (moved_part _ _ (lS i E m) (enters_of Try.func53 (by kernel_rfl) rfl) _ (l - E) (lc - E) (fun j => L (j + E)) (gR L M i E m 2) W (fun k hk W' hb' => ?_) (by omega) (SN3.out W L (HL4.out.below hW)) (fun k hk => small_of L l K1.out (k + E) (by omega)) (fun k _ => rfl)).mono ?_
    · have hbd := par_bd L l K1.out (k + E) (by omega)
      have hW' := hW.trans (hb'.mono hW.size)
      exact ofL_any (L (k + E)).par i E m mc _ _ _ _ W' ⟨hbd.1, hbd.2.2⟩ (by omega) (by omega) (by omega) (HJ3.out W' hW') (HJ1.out W' hW') (HJ2.out W' hW')
    · rintro e w' ⟨g, h1, h2, h3⟩
      exact ⟨g, h1, h2, h3, hW.trans (h3.mono hW.size)⟩
  have hcm2 : ∀ W, Below wz.heap.size wz W → Calls Try.prog 55 #[.slice a2 (m - 1) (mc - 1), .func (.func 52) #[] #[.pointer (some ⟨w.heap.size, 0, none⟩)]] W
      fun e w' => ∃ g, e = .returned (.slice (some ⟨g, 0, none⟩) (m - 1) (m - 1)) ∧ PartAt w' g (m - 1) (gR L M i E m 1) ∧ Below W.heap.size W w' ∧ Below wz.heap.size wz w' := by
    intro W hW
    refine (moved_part _ _ (mS i) (enters_of Try.func52 (by kernel_rfl) rfl) _ (m - 1) (mc - 1) (fun j => M (j + 1)) (gR L M i E m 1) W (fun k hk W' hb' => ?_) (by omega) (SN2.out W M (HM4.out.below hW)) (fun k hk => small_of M m K2.out (k + 1) (by omega)) (fun k _ => rfl)).mono ?_
    · have hbd := par_bd M m K2.out (k + 1) (by omega)
      have hW' := hW.trans (hb'.mono hW.size)
      exact ofM_any (M (k + 1)).par i _ W' ⟨hbd.1, hbd.2.2⟩ (by omega) (HJ1.out W' hW')
    · rintro e w' ⟨g, h1, h2, h3⟩
      exact ⟨g, h1, h2, h3, hW.trans (h3.mono hW.size)⟩
  have hcc : ∀ (W : World) (g1 g2 g3 : Nat), Below wz.heap.size wz W → PartAt W g1 (i + 1) (gR L M i E m 0) → PartAt W g2 (m - 1) (gR L M i E m 1) → PartAt W g3 (l - E) (gR L M i E m 2) →
      Calls Try.prog 54 #[.slice (some ⟨W.heap.size, 0, none⟩) 3 3] (W.alloc (.cells #[.slice (some ⟨g1, 0, none⟩) (i + 1) (i + 1), .slice (some ⟨g2, 0, none⟩) (m - 1) (m - 1), .slice (some ⟨g3, 0, none⟩) (l - E) (l - E)] 24))
        fun e w' => ∃ g cap, e = .returned (.slice (some ⟨g, 0, none⟩) (GN l i E m) cap) ∧ PartAt w' g (GN l i E m) (GR L M l i E m) ∧ Below wz.heap.size wz w' := by
    intro W g1 g2 g3 hW p1 p2 p3
    refine (concat_parts g1 g2 g3 (i + 1) (m - 1) (l - E) _ _ _ W (by omega) (by omega) (by omega) p1 p2 p3 (gR L M i E m) (gn l i E m) rfl rfl rfl rfl rfl rfl).mono ?_
    rintro e w' ⟨g, cap, h1, h2, h3⟩
    exact ⟨g, cap, h1, h2, hW.trans (h3.mono hW.size)⟩
  have CM1 := Lib.hid hcm1
  have CM2 := Lib.hid hcm2
  have CM3 := Lib.hid hcm3
  have CC := Lib.hid hcc
  clear hcm1 hcm2 hcm3 hcc
  go_region_with (first
    | (go_at_call_of 55 off; refine (CM1.out _ ?_).mono ?_; (first | exact HBW.out | exact HBW.out.drew); rintro e W1 ⟨g1, rfl, hP1, hb, hw⟩; have HP1 := Lib.hid hP1; have HBW := Lib.hid hw; have k1 := HJ1.out _ hw; have k2 := HJ2.out _ hw; have k3 := HJ3.out _ hw; clear hP1 hb hw)
    | (go_at_call_of 55 a2; refine (CM2.out _ ?_).mono ?_; (first | exact HBW.out | exact HBW.out.drew); rintro e W2 ⟨g2, rfl, hP2, hb, hw⟩; have HP2 := Lib.hid hP2; have HP1 := Lib.hid (HP1.out.below hb); have HBW := Lib.hid hw; have k1 := HJ1.out _ hw; have k2 := HJ2.out _ hw; have k3 := HJ3.out _ hw; clear hP2 hb hw)
    | (go_at_call_of 55 a3; refine (CM3.out _ ?_).mono ?_; (first | exact HBW.out | exact HBW.out.drew); rintro e W3 ⟨g3, rfl, hP3, hb, hw⟩; have HP3 := Lib.hid hP3; have HP1 := Lib.hid (HP1.out.below hb); have HP2 := Lib.hid (HP2.out.below hb); have HBW := Lib.hid hw; clear hP3 hb hw)
    | (go_at_call 54; refine (CC.out _ _ _ _ HBW.out HP1.out HP2.out HP3.out).mono ?_; rintro e W4 ⟨g4, cap4, rfl, hP4, hw⟩; have HP4 := Lib.hid hP4; have HBW := Lib.hid hw; clear hP4 hw))
  all_goals
    obtain ⟨B, hN, hq⟩ := HP4.out
    have hck := Check_any (some ⟨g4, 0, none⟩) (GN l i E m) cap4 B W4 hN.nods
    unfold ToldC at hck
    rw [checkS_eq _ _ _ hq] at hck
    obtain ⟨c, hc⟩ : ∃ c, checkS (GR L M l i E m) (GN l i E m) = c := ⟨_, rfl⟩
    rw [hc] at hck
    have HCK := Lib.hid hck
    have HNB := Lib.hid hN
    have HQ := Lib.hid hq
    have HC := Lib.hid hc
    have HBF := Lib.hid (H5.out.trans (HBW.out.mono H5.out.size))
    clear hck hN hq hc CM1 CM2 CM3 CC s1' s2' s3 s4 s5 s6 k1 k2 k3 HJ1 HJ2 HJ3 hw1 hq1 hq2 hq4
    by_cases hz0 : c = 0
    · subst hz0
      go_wp2_with fail
      refine HCK.out.mono ?_
      rintro e W5 ⟨rfl, hb5⟩
      have HN5 := Lib.hid (HNB.out.below hb5)
      have HB5 := Lib.hid (HBF.out.trans (hb5.mono HBF.out.size))
      clear hb5
      go_wp2_with fail
      go_ret2
      exact ⟨E, HEI.out, HB5.out, Or.inr ⟨HC.out, g4, cap4, B, rfl, HN5.out, HQ.out⟩⟩
    · have hcb : (c != 0) = true := by simp [bne, hz0]
      have HZ0 := Lib.hid hz0
      clear hz0
      go_wp2_with fail
      refine HCK.out.mono ?_
      rintro e W5 ⟨rfl, hb5⟩
      have HB5 := Lib.hid (HBF.out.trans (hb5.mono HBF.out.size))
      clear hb5
      go_wp2_with fail
      go_ret2
      exact ⟨E, HEI.out, HB5.out, Or.inl ⟨by rw [HC.out]; exact HZ0.out, by rw [HC.out]; rfl⟩⟩
end Go.Proofs.Ytlnglpjmfoigmaa
