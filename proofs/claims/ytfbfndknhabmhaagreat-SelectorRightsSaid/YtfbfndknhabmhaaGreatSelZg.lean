/- Layer 7: SelectorRights: the walk. (gen_sele.py) -/
import Derived.Test.YtfbfndknhabmhaaGreatSelL2
import Derived.Test.YtfbfndknhabmhaaGreatSelZf
import Derived.Test.YtfbfndknhabmhaaGreatSelZc
import Derived.Test.YtfbfndknhabmhaaGreatSelZe
import Derived.Test.YtfbfndknhabmhaaGreatSelRr
import Derived.Lib.QuietBelow
namespace Go.Proofs.YtfbfndknhabmhaaGreat
open Go.RowKit TreN LexP FixP SynP ValP SelP FixM Go.Sort
set_option linter.unusedVariables false

theorem one_sel7 {W : World} {K : Nat} {s : SelV} {t : Nat} (h0 : W.heap[K]? = some (.cells #[s.val] t (0, 0))) (hs : SelOk W s) : Sls W (some ⟨K, 0, none⟩) [s] := by
  refine Or.inr ⟨K, 0, rfl, (Array.getElem?_eq_some_iff.1 h0).1, fun i h => ?_⟩
  obtain rfl : i = 0 := by simp at h; omega
  exact ⟨cell_of (k := 0) (cur := #[s.val]) h0 rfl, hs⟩
theorem dec_one7 (p q : List Prt) : decide ([p] = [q]) = decide (p = q) := by
  by_cases h : p = q
  · subst h; simp
  · simp [h]

set_option maxRecDepth 100000 in
set_option maxHeartbeats 32000000 in
theorem SelectorRights_walk (ps qs : List PtV) (a b : Option Addr) (c d : Nat) (w : World) (hok : SelOk w ⟨ps, a, c⟩) (hok2 : SelOk w ⟨qs, b, d⟩) : Calls Tryz.prog 3 #[.agg #[.slice a ps.length c], .agg #[.slice b qs.length d]] w fun e w' => e = .returned (.bool true) ∧ Below w.heap.size w w' := by
  obtain ⟨hl, hc, hp⟩ := hok
  obtain ⟨hl', hc', hp'⟩ := hok2
  simp only at hl hc hp hl' hc' hp'
  obtain ⟨n, hn⟩ : ∃ n, ps.length = n := ⟨_, rfl⟩
  obtain ⟨m, hm⟩ : ∃ m, qs.length = m := ⟨_, rfl⟩
  rw [hn] at hl ⊢
  rw [hm] at hl' ⊢
  have hbw : Below w.heap.size w ((w.alloc (.cells #[.slice a n c] 24)).alloc (.cells #[.slice b m d] 24)) := (below_one7 w _).alloc (by simp) _
  have hx1 : ((w.alloc (.cells #[.slice a n c] 24)).alloc (.cells #[.slice b m d] 24)).heap[w.heap.size]? = some (.cells #[.slice a n c] 24 (0, 0)) := ((below_one7 _ _).block w.heap.size (by simp)).trans (heap_alloc_new w _)
  have hx2 : ((w.alloc (.cells #[.slice a n c] 24)).alloc (.cells #[.slice b m d] 24)).heap[w.heap.size + 1]? = some (.cells #[.slice b m d] 24 (0, 0)) := by
    have h := heap_alloc_new (w.alloc (.cells #[.slice a n c] 24)) (.cells #[.slice b m d] 24)
    rwa [show (w.alloc (.cells #[.slice a n c] 24)).heap.size = w.heap.size + 1 by simp] at h
  have HN := Lib.hid hn
  have HM := Lib.hid hm
  have hnm : n ≤ maxLen := Nat.le_trans hl hc
  have hmm : m ≤ maxLen := Nat.le_trans hl' hc'
  have HLN := Lib.hid (And.intro hnm hmm)
  clear hn hm
  obtain ⟨P, hP⟩ : ∃ P, ps.map PtV.p = P := ⟨_, rfl⟩
  obtain ⟨Q, hQ⟩ : ∃ Q, qs.map PtV.p = Q := ⟨_, rfl⟩
  obtain ⟨⟨x1, x2, x3⟩, hxx⟩ : ∃ x, wI (wS P) = x := ⟨_, rfl⟩
  obtain ⟨⟨y1, y2, y3⟩, hyy⟩ : ∃ x, wI (wS Q) = x := ⟨_, rfl⟩
  obtain ⟨rt, hrt⟩ : ∃ r, rightS P = r := ⟨_, rfl⟩
  obtain ⟨sm, hsm⟩ : ∃ r, decide (P = Q) = r := ⟨_, rfl⟩
  obtain ⟨T, hT⟩ : ∃ T, cmpT (x1, x2, x3) (y1, y2, y3) = T := ⟨_, rfl⟩
  obtain ⟨NT, hNT⟩ : ∃ NT, -T = NT := ⟨_, rfl⟩
  have hT2 : cmpT (y1, y2, y3) (x1, x2, x3) = NT := by rw [cmpT_neg, hT, hNT]
  have hTb := cmpT_bd (x1, x2, x3) (y1, y2, y3)
  rw [hT] at hTb
  have TA := Lib.hid hT
  have TB := Lib.hid hT2
  have hw2 : IntKind.i64.wrap (-T) = NT := by rw [← hNT]; rw [wrap64_eq]; omega
  have hw1 : wrap64 (-T) = NT := by rw [← wrapEq7]; exact hw2
  have HNT := Lib.hid hNT
  have HSM := Lib.hid hsm
  have HPQ := Lib.hid (And.intro hP hQ)
  clear hT hT2 hTb hNT hsm
  have KN := Lib.hid (known7_any)
  have CA : Hid (∀ W : World, Pts W a ps → Calls Tryz.prog 4 #[.agg #[.slice a n c]] W fun e w' => e = .returned (.agg #[.int .i64 x1, .int .i64 x2, .int .i64 x3]) ∧ Below W.heap.size W w') := Lib.hid fun W hW => weight_said ps a n c P x1 x2 x3 W HN.out hP hxx hl hc hW
  have CB : Hid (∀ W : World, Pts W b qs → Calls Tryz.prog 4 #[.agg #[.slice b m d]] W fun e w' => e = .returned (.agg #[.int .i64 y1, .int .i64 y2, .int .i64 y3]) ∧ Below W.heap.size W w') := Lib.hid fun W hW => weight_said qs b m d Q y1 y2 y3 W HM.out hQ hyy hl' hc' hW
  have CW : Hid (∀ W : World, Pts W a ps → Calls Tryz.prog 8 #[.agg #[.slice a n c]] W fun e w' => e = .returned (.agg #[.int .i64 x1, .int .i64 x2, .int .i64 x3]) ∧ Below W.heap.size W w') := Lib.hid fun W hW => by
    have h := refWeight7 a ps n c W HN.out hnm hW
    rw [hP, hxx] at h
    exact h
  have CR : Hid (∀ W : World, Pts W a ps → Calls Tryz.prog 6 #[.agg #[.slice a n c]] W fun e w' => e = .returned (.bool rt) ∧ Below W.heap.size W w') := Lib.hid fun W hW => by
    have h := RightS_any ⟨ps, a, c⟩ W ⟨by show ps.length ≤ c; rw [HN.out]; exact hl, hc, hW⟩
    rw [show (SelV.pure ⟨ps, a, c⟩) = P from hP, hrt, show (SelV.val ⟨ps, a, c⟩) = .slice a n c from by unfold SelV.val; rw [HN.out]] at h
    exact h
  have CS : Hid (∀ W : World, Pts W a ps → Calls Tryz.prog 7 #[.agg #[.slice a n c]] W fun e w' => e = .returned (.bool rt) ∧ Below W.heap.size W w') := Lib.hid fun W hW => by
    have h := refRight7 a ps n c W HN.out hnm hW
    rw [hP, hrt] at h
    exact h
  have CO : Hid (∀ W : World, Pts W a ps → Pts W b qs → Calls Tryz.prog 11 #[.agg #[.slice a n c], .agg #[.slice b m d]] W fun e w' => e = .returned (.bool sm) ∧ Below W.heap.size W w') := Lib.hid fun W h1 h2 => by
    have h := refSameOne7_gen a b ps qs n m c d W HN.out HM.out hnm hmm h1 h2
    rw [hP, hQ, HSM.out] at h
    exact h
  have CC : Hid (∀ W : World, Calls Tryz.prog 9 #[.agg #[.int .i64 x1, .int .i64 x2, .int .i64 x3], .agg #[.int .i64 y1, .int .i64 y2, .int .i64 y3]] W fun e w' => e = .returned (.int .i64 T) ∧ Below W.heap.size W w') := Lib.hid fun W => by
    have h := Compare7_any x1 x2 x3 y1 y2 y3 W
    rw [TA.out] at h
    exact h
  have CD : Hid (∀ W : World, Calls Tryz.prog 9 #[.agg #[.int .i64 y1, .int .i64 y2, .int .i64 y3], .agg #[.int .i64 x1, .int .i64 x2, .int .i64 x3]] W fun e w' => e = .returned (.int .i64 NT) ∧ Below W.heap.size W w') := Lib.hid fun W => by
    have h := Compare7_any y1 y2 y3 x1 x2 x3 W
    rw [TB.out] at h
    exact h
  have CE : Hid (∀ W : World, Calls Tryz.prog 10 #[.agg #[.int .i64 x1, .int .i64 x2, .int .i64 x3], .agg #[.int .i64 y1, .int .i64 y2, .int .i64 y3]] W fun e w' => e = .returned (.int .i64 T) ∧ Below W.heap.size W w') := Lib.hid fun W => by
    have h := refCompare7 x1 x2 x3 y1 y2 y3 W
    rw [TA.out] at h
    exact h
  have CM : Hid (∀ (W : World) (X Y : Addr), Sls W (some X) [⟨ps, a, c⟩] → Sls W (some Y) [⟨qs, b, d⟩] → Calls Tryz.prog 5 #[.slice (some X) 1 1, .slice (some Y) 1 1] W fun e w' => e = .returned (.bool sm) ∧ Below W.heap.size W w') := Lib.hid fun W X Y h1 h2 => by
    have h := Same7_any (some X) (some Y) [⟨ps, a, c⟩] [⟨qs, b, d⟩] 1 1 1 1 W rfl rfl (by decide) (by decide) h1 h2
    rw [show ([⟨ps, a, c⟩] : List SelV).map SelV.pure = [P] from congrArg (fun z => [z]) hP, show ([⟨qs, b, d⟩] : List SelV).map SelV.pure = [Q] from congrArg (fun z => [z]) hQ, dec_one7, HSM.out] at h
    exact h
  have hSA : ∀ W, Pts W a ps → SelOk W ⟨ps, a, c⟩ := fun W hW => ⟨by show ps.length ≤ c; rw [HN.out]; exact hl, hc, hW⟩
  have hSB : ∀ W, Pts W b qs → SelOk W ⟨qs, b, d⟩ := fun W hW => ⟨by show qs.length ≤ d; rw [HM.out]; exact hl', hc', hW⟩
  have HSA := Lib.hid hSA
  have HSB := Lib.hid hSB
  clear hP hQ hxx hyy hrt hSA hSB
  have hp1 := hp.below hbw
  have hp2 := hp'.below hbw
  unfold maxLen at hnm hmm
  go_enter Tryz.func3, Tryz.ntmps3
  go_upto_region 1 with fail
  obtain ⟨B, hB⟩ : ∃ B, w.heap.size = B := ⟨_, rfl⟩
  rw [hB] at hbw hx1 hx2
  simp only [hB] at ⊢
  have HB := Lib.hid hB
  clear hB
  have hBl : B + 1 < ((w.alloc (.cells #[.slice a n c] 24)).alloc (.cells #[.slice b m d] 24)).heap.size := (Array.getElem?_eq_some_iff.1 hx2).1
  generalize (w.alloc (.cells #[.slice a n c] 24)).alloc (.cells #[.slice b m d] 24) = W1 at *
  have HX1 := Lib.hid hx1
  have HB1 := Lib.hid hbw
  have HP1 := Lib.hid hp1
  have HP2 := Lib.hid hp2
  have HBW := Lib.hid (Below.drew (Below.refl W1.heap.size W1))
  have hc2 : ∀ W2, Below W1.heap.size W1 W2 → W2.cell? ⟨B, 0, none⟩ = some (.slice a n c) ∧ W2.cell? ⟨B + 1, 0, none⟩ = some (.slice b m d) := fun W2 h => ⟨(h.cell (p := ⟨B, 0, none⟩) (Nat.lt_trans (Nat.lt_succ_self B) hBl)).trans (cell_of hx1 rfl), (h.cell (p := ⟨B + 1, 0, none⟩) hBl).trans (cell_of hx2 rfl)⟩
  have HC2 := Lib.hid hc2
  obtain ⟨c1, c2⟩ := HC2.out _ HBW.out
  clear hbw hp1 hp2 hx1 hx2 hl hc hl' hc' hc2 hp hp'
  have c1a : ∀ ob, (W1.drew.alloc ob).cell? ⟨B, 0, none⟩ = some (.slice a n c) := fun ob => (HC2.out _ (HBW.out.alloc HBW.out.size ob)).1
  have c2a : ∀ ob, (W1.drew.alloc ob).cell? ⟨B + 1, 0, none⟩ = some (.slice b m d) := fun ob => (HC2.out _ (HBW.out.alloc HBW.out.size ob)).2
  have CA2 : Hid (∀ W : World, Below W1.heap.size W1 W → Calls Tryz.prog 4 #[.agg #[.slice a n c]] W fun e w' => e = .returned (.agg #[.int .i64 x1, .int .i64 x2, .int .i64 x3]) ∧ Below W1.heap.size W1 w' ∧ Below W.heap.size W w') := Lib.hid fun W hW => (CA.out W (HP1.out.below hW)).mono fun e w' h => ⟨h.1, hW.trans (h.2.mono hW.size), h.2⟩
  have CB2 : Hid (∀ W : World, Below W1.heap.size W1 W → Calls Tryz.prog 4 #[.agg #[.slice b m d]] W fun e w' => e = .returned (.agg #[.int .i64 y1, .int .i64 y2, .int .i64 y3]) ∧ Below W1.heap.size W1 w' ∧ Below W.heap.size W w') := Lib.hid fun W hW => (CB.out W (HP2.out.below hW)).mono fun e w' h => ⟨h.1, hW.trans (h.2.mono hW.size), h.2⟩
  go_cut [5, 6] (fun v5 v6 wc => ∃ S5 S6 : Nat, v5 = .pointer (some ⟨S5, 0, none⟩) ∧ v6 = .pointer (some ⟨S6, 0, none⟩) ∧ Hid (BoxAt wc S5 x1 x2 x3 ∧ BoxAt wc S6 y1 y2 y3 ∧ Below W1.heap.size W1 wc))
  case first =>
    have hS1 : Below W1.heap.size W1 W1.drew := HBW.out
    have hS0 : Below W1.heap.size W1 W1 := Below.refl _ _
    have HKS : Hid (∀ W2, Below W1.heap.size W1 W2 → Below W1.heap.size W1 W2 ∧ W2.cell? ⟨B, 0, none⟩ = some (.slice a n c) ∧ W2.cell? ⟨B + 1, 0, none⟩ = some (.slice b m d)) := Lib.hid fun W2 h => ⟨h, HC2.out _ h⟩
    go_region_held3 (fun w' => Below W1.heap.size W1 w' ∧ w'.cell? ⟨B, 0, none⟩ = some (.slice a n c) ∧ w'.cell? ⟨B + 1, 0, none⟩ = some (.slice b m d))
      (((try go_split_ands); refine HKS.out _ ?_; with_reducible first
        | assumption
        | (apply below_set3; assumption; first | (apply Below.size; assumption) | exact Nat.le_refl _ | exact Nat.le_succ _ | (apply Nat.le_succ_of_le; apply Below.size; assumption))
        | (apply below_al; assumption)
        | (apply below_al; apply below_al; assumption)
        | (apply Below.drew; apply below_al; assumption)
        | (apply Below.drew; apply below_al; apply below_al; assumption)))
      ((first
        | (go_at_call_of 4 a; (try go_split_ands); refine (CA2.out _ (by with_reducible assumption)).mono ?_; rintro e w4 ⟨rfl, hw4, hb4⟩; obtain ⟨d0, d1⟩ := HC2.out _ hw4; (first | (with_reducible (have z12 := box_two_d hb4); obtain ⟨z1, z2⟩ := z12; have z2 : BoxAt w4 (W1.heap.size + 1) 0 0 0 := z2; have z1 : BoxAt w4 W1.heap.size 0 0 0 := z1; have ne12 := Nat.ne_of_lt (Nat.lt_succ_self W1.heap.size)) | (with_reducible (have z1 := box_one_d hb4); have z1 : BoxAt w4 W1.heap.size 0 0 0 := z1) | skip); clear hb4)
        | (go_at_call_of 4 b; (try go_split_ands); refine (CB2.out _ (by with_reducible assumption)).mono ?_; rintro e w5 ⟨rfl, hw5, hb5⟩; obtain ⟨d0, d1⟩ := HC2.out _ hw5; (first | (with_reducible (have v1 := blk_box hb5 z1; have v2 := blk_box hb5 z2); have r1 := v1.ready x1 x2; have r2 := v2.ready x1 x2; have g1 := (v2.other (ne12).symm (.int .i64 x1) (.int .i64 x2) (.int .i64 x3)).ready y1 y2; have g2 := (v1.other (ne12) (.int .i64 x1) (.int .i64 x2) (.int .i64 x3)).ready y1 y2) | (with_reducible (have v1 := blk_box hb5 z1); have ro := v1.old; have r1 := v1.ready x1 x2; have r1a := fun ob => (v1.al ob).ready x1 x2; have q1a := fun ob => (v1.al ob).ready y1 y2; have h1 := (BoxAt.other (box_made w5 0 0 0) ro.symm (.int .i64 x1) (.int .i64 x2) (.int .i64 x3)).ready y1 y2) | (with_reducible (have v1 := blk_box hb5 (z1.al _); have v2 := box_one hb5); have ne34 := z1.old; have r1 := v1.ready x1 x2; have r2 := v2.ready x1 x2; have g1 := (v2.other (ne34).symm (.int .i64 x1) (.int .i64 x2) (.int .i64 x3)).ready y1 y2; have g2 := (v1.other (ne34) (.int .i64 x1) (.int .i64 x2) (.int .i64 x3)).ready y1 y2) | (with_reducible (have v12 := box_two hb5); obtain ⟨v1, v2⟩ := v12; have ne34 := Nat.ne_of_lt (Nat.lt_succ_self w4.heap.size); have r1 := v1.ready x1 x2; have r2 := v2.ready x1 x2; have g1 := (v2.other (ne34).symm (.int .i64 x1) (.int .i64 x2) (.int .i64 x3)).ready y1 y2; have g2 := (v1.other (ne34) (.int .i64 x1) (.int .i64 x2) (.int .i64 x3)).ready y1 y2) | (with_reducible (have v1 := box_one hb5); have ro := v1.old; have r1 := v1.ready x1 x2; have r1a := fun ob => (v1.al ob).ready x1 x2; have q1a := fun ob => (v1.al ob).ready y1 y2; have h1 := (BoxAt.other (box_made w5 0 0 0) ro.symm (.int .i64 x1) (.int .i64 x2) (.int .i64 x3)).ready y1 y2) | (skip)); clear hb5)))
    all_goals
      go_wp2_with fail
      go_meet
      (try go_split_ands)
      refine ⟨_, _, rfl, rfl, Lib.hid ⟨?_, ?_, ?_⟩⟩
      · with_reducible (first | (first | exact v1 | exact v2 | apply box_made | (apply BoxAt.al; exact v1) | (apply BoxAt.al; apply box_made) | apply box_made2) | (apply BoxAt.set; (first | (first | exact v1 | exact v2 | apply box_made | (apply BoxAt.al; exact v1) | (apply BoxAt.al; apply box_made) | apply box_made2) | (apply BoxAt.other; (first | exact v1 | exact v2 | apply box_made | (apply BoxAt.al; exact v1) | (apply BoxAt.al; apply box_made) | apply box_made2); (first | assumption | (apply Ne.symm; assumption))))) | (apply BoxAt.other; (first | (first | exact v1 | exact v2 | apply box_made | (apply BoxAt.al; exact v1) | (apply BoxAt.al; apply box_made) | apply box_made2) | (apply BoxAt.set; (first | exact v1 | exact v2 | apply box_made | (apply BoxAt.al; exact v1) | (apply BoxAt.al; apply box_made) | apply box_made2))); (first | assumption | (apply Ne.symm; assumption))))
      · with_reducible (first | (first | exact v1 | exact v2 | apply box_made | (apply BoxAt.al; exact v1) | (apply BoxAt.al; apply box_made) | apply box_made2) | (apply BoxAt.set; (first | (first | exact v1 | exact v2 | apply box_made | (apply BoxAt.al; exact v1) | (apply BoxAt.al; apply box_made) | apply box_made2) | (apply BoxAt.other; (first | exact v1 | exact v2 | apply box_made | (apply BoxAt.al; exact v1) | (apply BoxAt.al; apply box_made) | apply box_made2); (first | assumption | (apply Ne.symm; assumption))))) | (apply BoxAt.other; (first | (first | exact v1 | exact v2 | apply box_made | (apply BoxAt.al; exact v1) | (apply BoxAt.al; apply box_made) | apply box_made2) | (apply BoxAt.set; (first | exact v1 | exact v2 | apply box_made | (apply BoxAt.al; exact v1) | (apply BoxAt.al; apply box_made) | apply box_made2))); (first | assumption | (apply Ne.symm; assumption))))
      · with_reducible assumption
  case rest =>
    obtain ⟨S5, S6, rfl, rfl, HQ⟩ := hcut
    have HBc : Hid (Below w.heap.size w wc) := Lib.hid (by rw [HB.out]; exact HB1.out.trans (HQ.out.2.2.mono (by rw [← HB.out]; exact HB1.out.size)))
    have HB2 : Hid (Below wc.heap.size wc ((wc.alloc (.cells #[.slice a n c] 24)).alloc (.cells #[.slice b m d] 24))) := Lib.hid ((below_one7 wc _).alloc (by simp) _)
    have hs1 : ((wc.alloc (.cells #[.slice a n c] 24)).alloc (.cells #[.slice b m d] 24)).heap[wc.heap.size]? = some (.cells #[.slice a n c] 24 (0, 0)) := ((below_one7 _ _).block wc.heap.size (by simp)).trans (heap_alloc_new wc _)
    have hs2 : ((wc.alloc (.cells #[.slice a n c] 24)).alloc (.cells #[.slice b m d] 24)).heap[wc.heap.size + 1]? = some (.cells #[.slice b m d] 24 (0, 0)) := by
      have h := heap_alloc_new (wc.alloc (.cells #[.slice a n c] 24)) (.cells #[.slice b m d] 24)
      rwa [show (wc.alloc (.cells #[.slice a n c] 24)).heap.size = wc.heap.size + 1 by simp] at h
    have HSV : Hid (Sls ((wc.alloc (.cells #[.slice a n c] 24)).alloc (.cells #[.slice b m d] 24)) (some ⟨wc.heap.size, 0, none⟩) [⟨ps, a, c⟩] ∧ Sls ((wc.alloc (.cells #[.slice a n c] 24)).alloc (.cells #[.slice b m d] 24)) (some ⟨wc.heap.size + 1, 0, none⟩) [⟨qs, b, d⟩]) := Lib.hid (by
      have hbc := HQ.out.2.2.trans (HB2.out.mono HQ.out.2.2.size)
      refine ⟨one_sel7 (t := 24) ?_ (HSA.out _ (HP1.out.below hbc)), one_sel7 (t := 24) ?_ (HSB.out _ (HP2.out.below hbc))⟩
      · unfold SelV.val; rw [HN.out]; exact hs1
      · unfold SelV.val; rw [HM.out]; exact hs2)
    clear hs1 hs2
    obtain ⟨k1, k2⟩ := HC2.out _ HQ.out.2.2
    obtain ⟨j1, j2⟩ := HC2.out _ (HQ.out.2.2.trans ((below_one7 wc (.cells #[.slice a n c] 24)).mono HQ.out.2.2.size))
    go_wp2_with fail
    refine (CM.out _ _ _ HSV.out.1 HSV.out.2).mono ?_
    rintro e w3 ⟨rfl, hw3⟩
    have hb3 : Below W1.heap.size W1 w3 := HQ.out.2.2.trans ((HB2.out.trans (hw3.mono HB2.out.size)).mono HQ.out.2.2.size)
    have b5 := blk_box (HB2.out.trans (hw3.mono HB2.out.size)) HQ.out.1
    have b6 := blk_box (HB2.out.trans (hw3.mono HB2.out.size)) HQ.out.2.1
    have HW3 : Hid (Below w.heap.size w w3) := Lib.hid (HBc.out.trans ((HB2.out.trans (hw3.mono HB2.out.size)).mono HBc.out.size))
    obtain ⟨g1, g2⟩ := HC2.out _ hb3
    have k0 := cell_regrown g1
    have k1 := cell_regrown g2
    have k2 : ∀ dd os, (grow (redrawn w3 dd) os).cell? ⟨S5, 0, none⟩ = some (.int .i64 x1) := cell_regrown (cell_of b5 rfl)
    have k3 : ∀ dd os, (grow (redrawn w3 dd) os).cell? ⟨S5, 1, none⟩ = some (.int .i64 x2) := cell_regrown (cell_of b5 rfl)
    have k4 : ∀ dd os, (grow (redrawn w3 dd) os).cell? ⟨S5, 2, none⟩ = some (.int .i64 x3) := cell_regrown (cell_of b5 rfl)
    have k5 : ∀ dd os, (grow (redrawn w3 dd) os).cell? ⟨S6, 0, none⟩ = some (.int .i64 y1) := cell_regrown (cell_of b6 rfl)
    have k6 : ∀ dd os, (grow (redrawn w3 dd) os).cell? ⟨S6, 1, none⟩ = some (.int .i64 y2) := cell_regrown (cell_of b6 rfl)
    have k7 : ∀ dd os, (grow (redrawn w3 dd) os).cell? ⟨S6, 2, none⟩ = some (.int .i64 y3) := cell_regrown (cell_of b6 rfl)
    have bel : ∀ dd os, Below W1.heap.size W1 (grow (redrawn w3 dd) os) := fun dd os => hb3.trans ((below_regrown w3 dd os).mono hb3.size)
    have PA := Lib.hid fun dd os => HP1.out.below (bel dd os)
    have PB := Lib.hid fun dd os => HP2.out.below (bel dd os)
    have cR : ∀ dd os, Calls Tryz.prog 6 #[.agg #[.slice a n c]] (grow (redrawn w3 dd) os) fun e w'' => e = .returned (.bool rt) ∧ ∃ p : Regrown, w'' = grow (redrawn w3 p.d) p.os := fun dd os => Calls.regrown_of (CR.out _ (PA.out dd os))
    have cS : ∀ dd os, Calls Tryz.prog 7 #[.agg #[.slice a n c]] (grow (redrawn w3 dd) os) fun e w'' => e = .returned (.bool rt) ∧ ∃ p : Regrown, w'' = grow (redrawn w3 p.d) p.os := fun dd os => Calls.regrown_of (CS.out _ (PA.out dd os))
    have cW : ∀ dd os, Calls Tryz.prog 8 #[.agg #[.slice a n c]] (grow (redrawn w3 dd) os) fun e w'' => e = .returned (.agg #[.int .i64 x1, .int .i64 x2, .int .i64 x3]) ∧ ∃ p : Regrown, w'' = grow (redrawn w3 p.d) p.os := fun dd os => Calls.regrown_of (CW.out _ (PA.out dd os))
    have cC : ∀ dd os, Calls Tryz.prog 9 #[.agg #[.int .i64 x1, .int .i64 x2, .int .i64 x3], .agg #[.int .i64 y1, .int .i64 y2, .int .i64 y3]] (grow (redrawn w3 dd) os) fun e w'' => e = .returned (.int .i64 T) ∧ ∃ p : Regrown, w'' = grow (redrawn w3 p.d) p.os := fun dd os => Calls.regrown_of (CC.out _)
    have cD : ∀ dd os, Calls Tryz.prog 9 #[.agg #[.int .i64 y1, .int .i64 y2, .int .i64 y3], .agg #[.int .i64 x1, .int .i64 x2, .int .i64 x3]] (grow (redrawn w3 dd) os) fun e w'' => e = .returned (.int .i64 NT) ∧ ∃ p : Regrown, w'' = grow (redrawn w3 p.d) p.os := fun dd os => Calls.regrown_of (CD.out _)
    have cE : ∀ dd os, Calls Tryz.prog 10 #[.agg #[.int .i64 x1, .int .i64 x2, .int .i64 x3], .agg #[.int .i64 y1, .int .i64 y2, .int .i64 y3]] (grow (redrawn w3 dd) os) fun e w'' => e = .returned (.int .i64 T) ∧ ∃ p : Regrown, w'' = grow (redrawn w3 p.d) p.os := fun dd os => Calls.regrown_of (CE.out _)
    have cO : ∀ dd os, Calls Tryz.prog 11 #[.agg #[.slice a n c], .agg #[.slice b m d]] (grow (redrawn w3 dd) os) fun e w'' => e = .returned (.bool sm) ∧ ∃ p : Regrown, w'' = grow (redrawn w3 p.d) p.os := fun dd os => Calls.regrown_of (CO.out _ (PA.out dd os) (PB.out dd os))
    have cK : ∀ dd os, Calls Tryz.prog 12 #[] (grow (redrawn w3 dd) os) fun e w'' => e = .returned (.bool true) ∧ ∃ p : Regrown, w'' = grow (redrawn w3 p.d) p.os := fun dd os => Calls.regrown_of (KN.out _)
    have ae := arr_self7 x1 x2 x3
    clear hw3 hb3 b5 b6 bel g1 g2 j1 j2 c1 c2 c1a c2a
    go_wp2_with fail
    refine wp_region_quiet_below (by kernel_rfl) (by kernel_rfl) ?_
    repeat (quiet_step (first | with_reducible exact cR _ _ | with_reducible exact cS _ _ | with_reducible exact cW _ _ | with_reducible exact cC _ _ | with_reducible exact cD _ _ | with_reducible exact cE _ _ | with_reducible exact cO _ _ | with_reducible exact cK _ _))
    refine wpQuiet_nil ?_
    intro _ hw'
    obtain ⟨⟨dq, osq⟩, hw''⟩ := hw'
    subst hw''
    go_wp2_with fail
    go_ret
    exact ⟨rfl, HW3.out.trans ((below_regrown w3 dq osq).mono HW3.out.size)⟩
end Go.Proofs.YtfbfndknhabmhaaGreat
