/- The walk of layer 4's law of Graft, where it grafts. -/
import Derived.Test.YtlnglpjmfoigmaaTreL5
import Derived.Test.YtlnglpjmfoigmaaTreW20
import Derived.Test.YtlnglpjmfoigmaaTreO2
namespace Go.Proofs.Ytlnglpjmfoigmaa
open Go.RowKit TreN TreP

set_option maxRecDepth 100000 in
theorem Eqn.symm {A B : Nd} (h : Eqn A B) : Eqn B A := ⟨h.tag.symm, h.id.symm, h.tx.symm, h.cl.symm, h.al.symm, fun i hi => (h.cs i (by rw [← h.cl]; exact hi)).symm, fun i hi => (h.an i (by rw [← h.al]; exact hi)).symm, fun i hi => (h.av i (by rw [← h.al]; exact hi)).symm⟩

set_option maxRecDepth 100000 in
set_option maxHeartbeats 8000000 in
theorem Grafts_do (b off l lc i b' off' m mc : Nat) (L M : Nat → Nd) (w : World) (hl : l ≤ 100) (hm : m ≤ 100) (hlc : l ≤ lc ∧ lc ≤ maxLen) (hmc : m ≤ mc ∧ mc ≤ maxLen) (hL : Nods w (some ⟨b, off, none⟩) l L) (hM : Nods w (some ⟨b', off', none⟩) m M) (h1 : checkS L l = 0) (h2 : checkS M m = 0)
    (hi : i < l) (he : emB (L i).tag = false) : GraftsOK (some ⟨b, off, none⟩) l lc (i : Int) (some ⟨b', off', none⟩) m mc w := by
  unfold GraftsOK
  have hz : ¬ (100 : Int) < (l : Int) := by omega
  have hz2 : ¬ (100 : Int) < (m : Int) := by omega
  have hkz : ¬ (l : Int) ≤ (i : Int) := by omega
  have HG := Lib.hid (Graft_do b off l lc i b' off' m mc L M w (by omega) (by omega) hlc hmc hL hM h1 h2 hi he)
  have HL := Lib.hid hL
  have HM := Lib.hid hM
  have K1 := Lib.hid h1
  have K2 := Lib.hid h2
  have HE := Lib.hid he
  have hm0 := (check_ok M m h2).1
  clear hL hM h1 h2 he hlc hmc
  go_enter Try.func7, Try.ntmps7
  go_wp2_with fail
  refine HG.out.mono ?_
  rintro e w1 ⟨E, hEI, hb1, hor⟩
  have H1 := Lib.hid hb1
  have HEI := Lib.hid hEI
  have C2 : Hid (Calls Try.prog 17 #[.slice (some ⟨b, off, none⟩) l lc] w1 fun e w' => e = .returned (.int .i64 0) ∧ Below w1.heap.size w1 w') := by rw [← K1.out]; exact Lib.hid (refCheck_any _ l lc L w1 (HL.out.below hb1))
  have HM1 := Lib.hid (HM.out.below hb1)
  have hgn : GN l i E m ≤ 400 := by rw [GN_eq]; omega
  clear hb1 hEI HG
  rcases hor with ⟨hne, rfl⟩ | ⟨h0, g, cap, B, rfl, hN, hq⟩
  · obtain ⟨c, hc⟩ : ∃ c, checkS (GR L M l i E m) (GN l i E m) = c := ⟨_, rfl⟩
    rw [hc] at hne ⊢
    have hcb : (c != 0) = true := by simp [bne, hne]
    have hcc : (c == c) = true := by simp
    have HC := Lib.hid hc
    clear hne hc
    go_wp2_with fail
    refine C2.out.mono ?_
    rintro e w2 ⟨rfl, hb2⟩
    have H2 := Lib.hid (H1.out.trans (hb2.mono H1.out.size))
    have C3 : Hid (Calls Try.prog 17 #[.slice (some ⟨b', off', none⟩) m mc] w2 fun e w' => e = .returned (.int .i64 0) ∧ Below w2.heap.size w2 w') := by rw [← K2.out]; exact Lib.hid (refCheck_any _ m mc M w2 (HM1.out.below hb2))
    clear hb2
    go_wp2_with fail
    refine C3.out.mono ?_
    rintro e w3 ⟨rfl, hb3⟩
    have H3 := Lib.hid (H2.out.trans (hb3.mono H2.out.size))
    obtain ⟨b9, off9, e9, ⟨c0, c1, c2, c3, c4, c5⟩, hin⟩ := (HL.out.below H3.out).at_ hi
    injection e9 with e9
    injection e9 with e9 e10
    subst e9; subst e10
    have het : (L i).tag.toList.isEmpty = false := HE.out
    have CG := Lib.hid (refGraft_any b off l lc i b' off' m mc E L M w3 (by omega) (by omega) (HL.out.below H3.out) (HM.out.below H3.out) K1.out K2.out hi HEI.out)
    clear hb3 hin
    go_wp2_with fail
    clear c0 c1 c2 c3 c4 c5
    refine CG.out.mono ?_
    rintro e w4 ⟨g, cap, rfl, hN4, hb4⟩
    have H4 := Lib.hid (H3.out.trans (hb4.mono H3.out.size))
    have C5 : Hid (Calls Try.prog 17 #[.slice (some ⟨g, 0, none⟩) (GN l i E m) cap] w4 fun e w' => e = .returned (.int .i64 c) ∧ Below w4.heap.size w4 w') := by rw [← HC.out]; exact Lib.hid (refCheck_any _ _ cap _ w4 hN4.nods)
    clear hb4 hN4 CG
    go_wp2_with fail
    refine C5.out.mono ?_
    rintro e w5 ⟨rfl, hb5⟩
    have H5 := Lib.hid (H4.out.trans (hb5.mono H4.out.size))
    clear hb5
    go_wp2_with fail
    refine (known4_any _).mono ?_
    rintro e w6 ⟨rfl, hb6⟩
    have H6 := Lib.hid (H5.out.trans (hb6.mono H5.out.size))
    clear hb6
    go_wp2_with fail
    go_ret
    exact ⟨rfl, H6.out⟩
  · have HC := Lib.hid h0
    have HN := Lib.hid hN
    have HQ := Lib.hid hq
    clear h0 hN hq
    go_wp2_with fail
    refine C2.out.mono ?_
    rintro e w2 ⟨rfl, hb2⟩
    have H2 := Lib.hid (H1.out.trans (hb2.mono H1.out.size))
    have C3 : Hid (Calls Try.prog 17 #[.slice (some ⟨b', off', none⟩) m mc] w2 fun e w' => e = .returned (.int .i64 0) ∧ Below w2.heap.size w2 w') := by rw [← K2.out]; exact Lib.hid (refCheck_any _ m mc M w2 (HM1.out.below hb2))
    have HN2 := Lib.hid (HN.out.below hb2)
    clear hb2
    go_wp2_with fail
    refine C3.out.mono ?_
    rintro e w3 ⟨rfl, hb3⟩
    have H3 := Lib.hid (H2.out.trans (hb3.mono H2.out.size))
    have HN3 := Lib.hid (HN2.out.below hb3)
    obtain ⟨b9, off9, e9, ⟨c0, c1, c2, c3, c4, c5⟩, hin⟩ := (HL.out.below H3.out).at_ hi
    injection e9 with e9
    injection e9 with e9 e10
    subst e9; subst e10
    have het : (L i).tag.toList.isEmpty = false := HE.out
    have CG := Lib.hid (refGraft_any b off l lc i b' off' m mc E L M w3 (by omega) (by omega) (HL.out.below H3.out) (HM.out.below H3.out) K1.out K2.out hi HEI.out)
    clear hb3 hin
    go_wp2_with fail
    clear c0 c1 c2 c3 c4 c5
    refine CG.out.mono ?_
    rintro e w4 ⟨g4, cap4, rfl, hN4, hb4⟩
    have H4 := Lib.hid (H3.out.trans (hb4.mono H3.out.size))
    have HN4 := Lib.hid (HN3.out.below hb4)
    have HR4 := Lib.hid hN4
    have C5 : Hid (Calls Try.prog 17 #[.slice (some ⟨g4, 0, none⟩) (GN l i E m) cap4] w4 fun e w' => e = .returned (.int .i64 0) ∧ Below w4.heap.size w4 w') := by rw [← HC.out]; exact Lib.hid (refCheck_any _ _ cap4 _ w4 hN4.nods)
    clear hb4 hN4 CG
    go_wp2_with fail
    refine C5.out.mono ?_
    rintro e w5 ⟨rfl, hb5⟩
    have H5 := Lib.hid (H4.out.trans (hb5.mono H4.out.size))
    have CS := Lib.hid (Same_eq g 0 g4 0 (GN l i E m) cap cap4 B (GR L M l i E m) w5 (by omega) (HN4.out.below hb5) (HR4.out.below hb5) (fun k hk => by
      have hs := small_of _ _ HC.out k hk
      obtain ⟨q1, q2⟩ := HQ.out k hk
      exact ⟨q1.symm, q2.symm, by rw [q1.cl]; exact hs.1, by rw [q1.al]; exact hs.2⟩))
    clear hb5
    go_wp2_with fail
    refine CS.out.mono ?_
    rintro e w6 ⟨rfl, hb6⟩
    have H6 := Lib.hid (H5.out.trans (hb6.mono H5.out.size))
    clear hb6
    go_wp2_with fail
    refine (known4_any _).mono ?_
    rintro e w7 ⟨rfl, hb7⟩
    have H7 := Lib.hid (H6.out.trans (hb7.mono H6.out.size))
    clear hb7
    go_wp2_with fail
    go_ret
    exact ⟨rfl, H7.out⟩

set_option maxRecDepth 100000 in
theorem TreeGrafts_walk (la : Option Addr) (l lc : Nat) (i : Int) (ma : Option Addr) (m mc : Nat) (L M : Nat → Nd) (w : World) (hlc : l ≤ lc ∧ lc ≤ maxLen) (hmc : m ≤ mc ∧ mc ≤ maxLen) (hL : Nods w la l L) (hM : Nods w ma m M) : GraftsOK la l lc i ma m mc w := by
  by_cases g1 : 100 < l
  · exact Grafts_many _ _ _ _ _ _ _ _ (Or.inl g1)
  · by_cases g2 : 100 < m
    · exact Grafts_many _ _ _ _ _ _ _ _ (Or.inr ⟨g1, g2⟩)
    · by_cases h1 : checkS L l = 0
      · by_cases h2 : checkS M m = 0
        · by_cases h3 : i < 0 ∨ (l : Int) ≤ i
          · exact Grafts_arg _ _ _ _ _ _ _ L M w (by omega) (by omega) hL hM h1 h2 (Or.inl h3)
          · obtain ⟨k, rfl⟩ := Int.eq_ofNat_of_zero_le (show 0 ≤ i by omega)
            have hk : k < l := by omega
            cases he : emB (L k).tag with
            | true => exact Grafts_arg _ _ _ _ _ _ _ L M w (by omega) (by omega) hL hM h1 h2 (Or.inr ⟨k, rfl, hk, he⟩)
            | false =>
              have hm0 := (check_ok M m h2).1
              obtain ⟨b, off, rfl, _⟩ := hL.lies (show 0 < l by omega)
              obtain ⟨b', off', rfl, _⟩ := hM.lies hm0
              exact Grafts_do b off l lc k b' off' m mc L M w (by omega) (by omega) hlc hmc hL hM h1 h2 hk he
        · exact Grafts_tree _ _ _ _ _ _ _ L M w (by omega) (by omega) hL hM (Or.inr ⟨h1, h2⟩)
      · exact Grafts_tree _ _ _ _ _ _ _ L M w (by omega) (by omega) hL hM (Or.inl h1)
end Go.Proofs.Ytlnglpjmfoigmaa
