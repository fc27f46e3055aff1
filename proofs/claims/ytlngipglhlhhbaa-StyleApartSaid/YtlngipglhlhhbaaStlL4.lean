/- Layer 17: StyleApart. (Written by gen_stll4.py.) -/
import Derived.Test.YtlngipglhlhhbaaStlAu
import Derived.Deep.DeepCutAuto
namespace Go.Proofs.Ytlngipglhlhhbaa
open Go.RowKit TreN LexP FixP SynP ValP PropP FixM
set_option linter.unusedVariables false

set_option maxRecDepth 100000 in
set_option maxHeartbeats 4000000 in
theorem StyleApart_walk (ta : Option Addr) (tn tc : Nat) (L : List Val) (z : Nat → Int) (bb : Bool) (nm : ByteArray) (v : Val) (a b : Int) (w : World) (hT : Td w ta tn L) (hm : tn ≤ maxLen) (hmb : tn * 40 ≤ 140737488355328) (hz : ∀ i, WfI (z i)) (hn : nm.size ≤ maxLen) (hvn : v.name.length ≤ maxLen) :
    Calls Try.prog 6 #[.slice ta tn tc, .agg (tyL z bb nm).toArray, .agg #[.int .i64 v.kind, .int .i64 v.n, .int .i64 v.d, .string ⟨v.name.toArray⟩], .int .i64 a, .int .i64 b] w fun e w' => e = .returned (.bool true) ∧ Below w.heap.size w w' := by
  have hty := Lib.hid (typed17 z bb nm hz hn (hasS L) (fun p v h1 h2 h => has_vb L hT.nm p v h1 h2 h) a b)
  have hone := tyL_one z bb nm
  have hgu := fun (x y : Operand) (A B : Array Value) (W : World) => guard17 x y A B W
  have h53 : (tyL z bb nm).getD 53 undef = .int .i64 (z 53) := rfl
  have hal : (tyL z bb nm).length = 55 := rfl
  generalize tyL z bb nm = As at *
  obtain ⟨f, hf⟩ : ∃ f, z 53 = f := ⟨_, rfl⟩
  rw [hf] at hty h53
  have CC := Lib.hid (fun (t : Option Addr) (n c : Nat) (M : List Val) W (hT : Td W t n M) => compute17_any t n c M As f a b W hal hone h53 hT)
  have hr0 := range_of_block (heap_alloc_new w (.cells As.toArray 27))
  have hb0 := below_one7h w (.cells As.toArray 27)
  have hmz : (tn : Int) ≤ 9223372036854775807 := by unfold maxLen at hm; omega
  have HT := Lib.hid hT
  have KN := Lib.hid (fun W => known17_any W)
  have BY := Lib.hid (fun v W => by17_any v true W)
  have HONE := Lib.hid hone
  have HAL := Lib.hid hal
  have HNM := Lib.hid hT.nm
  have HTY2 := Lib.hid (fun (M : List Val) (hM : ∀ u, u ∈ M → u.name.length ≤ maxLen) => typed17 z bb nm hz hn (hasS M) (fun p u h1 h2 h => has_vb M hM p u h1 h2 h) a b)
  clear hT hz hn hone h53
  obtain ⟨W1, hW1⟩ : ∃ W1, w.alloc (.cells As.toArray 27) = W1 := ⟨_, rfl⟩
  rw [hW1] at hr0 hb0
  have hs1 : W1.heap.size = w.heap.size + 1 := by rw [← hW1]; simp
  have hx0 := heap_alloc_new W1 (.cells #[.int .i64 v.kind, .int .i64 v.n, .int .i64 v.d, .string ⟨v.name.toArray⟩] 34)
  have hb1 := below_one7h W1 (.cells #[.int .i64 v.kind, .int .i64 v.n, .int .i64 v.d, .string ⟨v.name.toArray⟩] 34)
  have hr1 := range_below17 hr0 hb1 (by omega)
  have hb2 := hb0.trans (hb1.mono hb0.size)
  have hs2 : (W1.alloc (.cells #[.int .i64 v.kind, .int .i64 v.n, .int .i64 v.d, .string ⟨v.name.toArray⟩] 34)).heap.size = w.heap.size + 2 := by simp; omega
  rw [hs1] at hx0
  clear hr0 hb0 hb1
  have HW1 := Lib.hid hW1
  clear hW1
  go_enter Try.func6, Try.ntmps6
  go_upto_region 1 with fail
  rw [HW1.out]
  generalize W1.alloc (.cells #[.int .i64 v.kind, .int .i64 v.n, .int .i64 v.d, .string ⟨v.name.toArray⟩] 34) = W2 at *
  obtain ⟨bp, hbp⟩ : ∃ bp, w.heap.size = bp := ⟨_, rfl⟩
  rw [hbp] at hr1 hx0 hb2 hs2 hs1 ⊢
  have HR := Lib.hid hr1
  have HX := Lib.hid hx0
  have HB := Lib.hid hb2
  have HS := Lib.hid hs2
  clear hr1 hx0 hb2 hs2 hs1
  by_cases h37 : tn < 37
  · have h37z : (tn : Int) < 37 := by omega
    go_wp2_with fail
    refine (KN.out _).mono ?_
    rintro e w4 ⟨rfl, hb4⟩
    have HB4 := Lib.hid (HB.out.trans (hb4.mono (hbp ▸ HB.out.size)))
    clear hb4
    go_wp2_with fail
    go_ret
    exact ⟨rfl, hbp ▸ HB4.out⟩
  have h37z : ¬ (tn : Int) < 37 := by omega
  go_wp2_with fail
  go_loopw [11] (fun vi wr => ∃ k : Nat, vi = .int .i64 k ∧ k ≤ 35 ∧ Hid (∀ i u, i < k → L[i]? = some u → byB u true = false) ∧ Hid (Below bp w wr) ∧ Hid (wr.rangeAt bp 0 As) ∧ Hid (wr.heap[bp + 1]? = some (.cells #[.int .i64 v.kind, .int .i64 v.n, .int .i64 v.d, .string ⟨v.name.toArray⟩] 34 (0, 0))) ∧ Hid (bp + 2 ≤ wr.heap.size)) (fun vi _ => 35 - (intOf vi).toNat)
  case atStart => exact ⟨0, rfl, by omega, fun i u hi => by omega, HB, HR, HX, Nat.le_of_eq HS.out.symm⟩
  case round =>
    clear HB HR HX HS
    obtain ⟨k, rfl, hk, HN, HB, HR, HX, HS⟩ := hrel
    have HTr := Lib.hid (HT.out.below (hbp ▸ HB.out))
    by_cases hlt : k < 35
    · have hltz : (k : Int) < 35 := by omega
      have hkt : (k : Int) < (tn : Int) := by omega
      obtain ⟨b2, o2, u, ha2, hb2, hv, _, c0, c1, c2, c3⟩ := HTr.out.at_ k (by omega)
      subst ha2
      obtain ⟨q, hq⟩ : ∃ q, byB u true = q := ⟨_, rfl⟩
      have BV := BY.out u
      rw [hq] at BV
      unfold vlV at BV
      have HBV := Lib.hid BV
      cases q
      · have HN2 : Hid (∀ i u, i < k + 1 → L[i]? = some u → byB u true = false) := fun i t hi ht => by
          by_cases e : i = k
          · subst e
            rw [hv] at ht
            injection ht with ht
            rw [← ht]; exact hq
          · exact HN.out i t (by omega) ht
        clear hq hv BV HTr
        go_wp2_with fail
        refine (HBV.out _).mono ?_
        rintro e w3 ⟨rfl, hb3⟩
        have HB3 := Lib.hid (HB.out.trans (hb3.mono (by have := HS.out; omega)))
        have HR3 := Lib.hid (range_below17 HR.out hb3 (by have := HS.out; omega))
        have HX3 := Lib.hid ((hb3.block (bp + 1) (by have := HS.out; omega)).trans HX.out)
        have HS3 := Lib.hid (Nat.le_trans HS.out hb3.size)
        clear hb3 c0 c1 c2 c3 HB HR HX HS
        go_wp2_with fail
        go_roundw
        case rel => exact ⟨k + 1, by go_num, by omega, HN2, HB3, HR3, HX3, HS3⟩
        case measure => (simp [intOf] <;> omega)
      · clear hq hv BV HTr
        go_wp2_with fail
        refine (HBV.out _).mono ?_
        rintro e w3 ⟨rfl, hb3⟩
        have HB3 := Lib.hid (HB.out.trans (hb3.mono (by have := HS.out; omega)))
        clear hb3 c0 c1 c2 c3 HB HR HX HS
        go_wp2_with fail
        refine (KN.out _).mono ?_
        rintro e w4 ⟨rfl, hb4⟩
        have HB4 := Lib.hid (HB3.out.trans (hb4.mono (hbp ▸ HB3.out.size)))
        clear hb4
        go_wp2_with fail
        go_ret
        exact ⟨rfl, hbp ▸ HB4.out⟩
    · have hk35 : k = 35 := by omega
      subst hk35
      clear hlt hk
      go_upto_region 9 with fail
      obtain ⟨bt, ot, u0, hta, _⟩ := HTr.out.at_ 0 (by omega)
      subst hta
      obtain ⟨i0, hi, hz0, hz1, hz2⟩ := info_parts info_valA
      have hS9 := HS.out
      go_wp2_with (at_builtin; refine wpList_append_own _ rfl _ _ 32 rfl wr.heap.size 34 i0 (.agg #[.int .i64 0, .int .i64 0, .int .i64 0, .string ⟨#[]⟩]) 4 40 Try.underlying32 hi hz0 hz1 hz2 rfl (by decide) (.slice none 0 0) 0 [] rfl (World.ownsRow_nil _ _ _ _) ⟨bt, ot, none⟩ tn tc (vrs17 L) rfl ?c0 ?c1 ?c2 ?c3 ?c4 ?c5 ?_)
      case c0 => rw [vrs17_length, HTr.out.len]
      case c1 => exact vrs17_news HTr.out
      case c2 => exact vrs17_one L
      case c3 => omega
      case c4 => omega
      case c5 => exact Nat.le_refl _
      intro v' w2 hown' hgrow _
      have hb2 : Below wr.heap.size wr w2 := below_grownA hgrow (fun g hg => by cases hg) (Nat.le_refl _)
      clear hgrow
      rcases hown'.2 with ⟨_, h0⟩ | ⟨g, cp, cur, rfl, hbg, hgb, hc1, hc2, hcs, htk⟩
      · omega
      have htk2 : cur.toList.take (tn * 4) = vrs17 L := htk
      clear hown' htk
      have hvn1 := hvn
      have hb3 : Below bp w w2 := HB.out.trans (hb2.mono (by omega))
      have x2 := (hb2.block (bp + 1) (by omega)).trans HX.out
      have e0 := cell_of (k := 0) x2 rfl
      have e1 := cell_of (k := 1) x2 rfl
      have e2 := cell_of (k := 2) x2 rfl
      have e3 := cell_of (k := 3) x2 rfl
      obtain ⟨x1, x2', x3, x4, v0, v1, v2, v3, ⟨p0, q0, r0⟩, ⟨p1, q1, r1⟩, ⟨p2, q2, r2⟩, ⟨p3, q3, r3⟩, h4, hb4⟩ := four_store17 w2 g 34 cur 8 (.int .i64 v.kind) (.int .i64 v.n) (.int .i64 v.d) (.string ⟨v.name.toArray⟩) hgb (by omega)
      have HL := Lib.hid (td_set (kk := 2) (by omega) (by omega) HTr.out.len htk2 HTr.out.nm hvn h4)
      have HB4 := Lib.hid (hb4 wr.heap.size wr hbg hb2)
      have HW4 := Lib.hid (HB.out.trans (HB4.out.mono (by omega)))
      have HR4 := Lib.hid (range_below17 HR.out HB4.out (by omega))
      have HX4 := Lib.hid ((HB4.out.block (bp + 1) (by omega)).trans HX.out)
      have HS4 := Lib.hid (Nat.le_trans HS.out HB4.out.size)
      clear hb4 h4 htk2 hgb hbg hb2 hb3 x2 HB HR HX HS hS9 HTr HB4
      simp only [Nat.reduceAdd] at p1 p2 p3 q1 q2 q3 r1 r2 r3
      go_upto_region 11 with fail
      obtain ⟨Xs, hXs⟩ : ∃ Xs, cells17 As (hasS L) f a b = Xs := ⟨_, rfl⟩
      obtain ⟨Ys, hYs⟩ : ∃ Ys, cells17 As (hasS (L.set 2 v)) f a b = Ys := ⟨_, rfl⟩
      have HXL : Hid (Xs.length = 55) := Lib.hid (by rw [← hXs]; exact cells17_len _ _ _ _ _)
      have HYL : Hid (Ys.length = 55) := Lib.hid (by rw [← hYs]; exact cells17_len _ _ _ _ _)
      have HXZ : Hid (Xs.toArray.size = 55) := Lib.hid (by simpa using HXL.out)
      have HYZ : Hid (Ys.toArray.size = 55) := Lib.hid (by simpa using HYL.out)
      have HXO : Hid (∀ u, u ∈ Xs → u.oneCell' = true) := Lib.hid (by rw [← hXs]; exact cells17_one _ HAL.out HONE.out _ _ _ _)
      have HYO : Hid (∀ u, u ∈ Ys → u.oneCell' = true) := Lib.hid (by rw [← hYs]; exact cells17_one _ HAL.out HONE.out _ _ _ _)
      have HR0 : Hid (x4.rangeAt bp 0 As) := HR4
      have HL0 : Hid (bp < x4.heap.size) := Lib.hid (by have h := HS4.out; omega)
      have HB0 := HW4
      have HZ4 := HW4
      have CA : Hid (∀ W, Below x4.heap.size x4 W → Calls Try.prog 9 #[.slice (some ⟨bt, ot, none⟩) tn tc, .agg As.toArray, .int .i64 a, .int .i64 b] W fun e w' => e = .returned (.agg Xs.toArray) ∧ Below W.heap.size W w') := Lib.hid (fun W h => by have q := CC.out (some ⟨bt, ot, none⟩) tn tc L W (HT.out.below (hbp ▸ (HB0.out.trans (h.mono (Nat.le_of_lt HL0.out))))); rw [hXs] at q; exact q)
      have CB : Hid (∀ W, Below x4.heap.size x4 W → Calls Try.prog 9 #[.slice (some ⟨g, 0, none⟩) tn cp, .agg As.toArray, .int .i64 a, .int .i64 b] W fun e w' => e = .returned (.agg Ys.toArray) ∧ Below W.heap.size W w') := Lib.hid (fun W h => by have q := CC.out (some ⟨g, 0, none⟩) tn cp (L.set 2 v) W (HL.out.below h); rw [hYs] at q; exact q)
      have HXS := Lib.hid hXs
      have HYS := Lib.hid hYs
      clear hXs hYs
      go_cut [13, 14] (fun v13 v14 wx => ∃ x y, v13 = .pointer (some ⟨x, 0, none⟩) ∧ v14 = .pointer (some ⟨y, 0, none⟩) ∧ Hid (Pw x4 wx x y Xs Ys))
      case first =>
        have T0 := (Ps.start x4).drew
        have hS := T0.bel
        refine wp_region_held_drew (S := fun w' => Below x4.heap.size x4 w') (by kernel_rfl) hS (fun hS => ?_)
        generalize x4.drew = X0 at T0 hS ⊢
        refine wpAnyH_take (i := 0) (v := .slice (some ⟨bt, ot, none⟩) tn tc) rfl (by kernel_rfl) (by kernel_rfl) (by kernel_rfl) (fun _ _ _ h => h) (Or.inl ⟨by kernel_rfl, fun w _ => by kernel_rfl⟩) hS ?_
        simp only [Act.put]
        try simp only [List.setIfInBounds_toArray]
        try simp only [List.set_cons_succ]
        try simp only [List.set_cons_zero]
        refine wpAnyH_take (i := 1) (v := .agg As.toArray) rfl (by kernel_rfl) (by kernel_rfl) (by kernel_rfl) (fun _ _ _ h => h) (yieldsIf_load_mid (by kernel_rfl) _ _ rfl bp 0 rfl As _ (fun w h => range_below17 HR0.out h HL0.out) Try.underlying27 rfl (by rw [size17, HAL.out])) hS ?_
        simp only [Act.put]
        try simp only [List.setIfInBounds_toArray]
        try simp only [List.set_cons_succ]
        try simp only [List.set_cons_zero]
        refine wpAnyH_take (i := 2) (v := .int .i64 a) rfl (by kernel_rfl) (by kernel_rfl) (by kernel_rfl) (fun _ _ _ h => h) (Or.inl ⟨by kernel_rfl, fun w _ => by kernel_rfl⟩) hS ?_
        simp only [Act.put]
        try simp only [List.setIfInBounds_toArray]
        try simp only [List.set_cons_succ]
        try simp only [List.set_cons_zero]
        refine wpAnyH_take (i := 3) (v := .int .i64 b) rfl (by kernel_rfl) (by kernel_rfl) (by kernel_rfl) (fun _ _ _ h => h) (Or.inl ⟨by kernel_rfl, fun w _ => by kernel_rfl⟩) hS ?_
        simp only [Act.put]
        try simp only [List.setIfInBounds_toArray]
        try simp only [List.set_cons_succ]
        try simp only [List.set_cons_zero]
        refine wpAnyH_take (i := 5) (v := .slice (some ⟨g, 0, none⟩) tn cp) rfl (by kernel_rfl) (by kernel_rfl) (by kernel_rfl) (fun _ _ _ h => h) (Or.inl ⟨by kernel_rfl, fun w _ => by kernel_rfl⟩) hS ?_
        simp only [Act.put]
        try simp only [List.setIfInBounds_toArray]
        try simp only [List.set_cons_succ]
        try simp only [List.set_cons_zero]
        refine wpAnyH_take (i := 6) (v := .agg As.toArray) rfl (by kernel_rfl) (by kernel_rfl) (by kernel_rfl) (fun _ _ _ h => h) (yieldsIf_load_mid (by kernel_rfl) _ _ rfl bp 0 rfl As _ (fun w h => range_below17 HR0.out h HL0.out) Try.underlying27 rfl (by rw [size17, HAL.out])) hS ?_
        simp only [Act.put]
        try simp only [List.setIfInBounds_toArray]
        try simp only [List.set_cons_succ]
        try simp only [List.set_cons_zero]
        refine wpAnyH_take (i := 7) (v := .int .i64 a) rfl (by kernel_rfl) (by kernel_rfl) (by kernel_rfl) (fun _ _ _ h => h) (Or.inl ⟨by kernel_rfl, fun w _ => by kernel_rfl⟩) hS ?_
        simp only [Act.put]
        try simp only [List.setIfInBounds_toArray]
        try simp only [List.set_cons_succ]
        try simp only [List.set_cons_zero]
        refine wpAnyH_take (i := 8) (v := .int .i64 b) rfl (by kernel_rfl) (by kernel_rfl) (by kernel_rfl) (fun _ _ _ h => h) (Or.inl ⟨by kernel_rfl, fun w _ => by kernel_rfl⟩) hS ?_
        simp only [Act.put]
        try simp only [List.setIfInBounds_toArray]
        try simp only [List.set_cons_succ]
        try simp only [List.set_cons_zero]
        refine wpAnyH_ready (rs := [4, 10, 11]) (by kernel_rfl) (by simp) ?_
        refine AllReadyH.cons rfl (fun K hK => ?_) (AllReadyH.cons rfl (fun K hK => ?_) (AllReadyH.cons rfl (fun K hK => ?_) AllReadyH.nil))
        · go_simp
          refine (CA.out _ T0.bel).mono ?_
          rintro e w1 ⟨rfl, hb⟩
          have T2 := T0.call hb
          clear hb
          dsimp only
          refine hK.out _ _ T2.bel (fun _ => ?_)
          clear hK K
          refine wpAnyH_ready (rs := [9, 10, 11]) (by kernel_rfl) (by simp) ?_
          refine AllReadyH.cons rfl (fun K hK => ?_) (AllReadyH.cons rfl (fun K hK => ?_) (AllReadyH.cons rfl (fun K hK => ?_) AllReadyH.nil))
          · go_simp
            refine (CB.out _ T2.bel).mono ?_
            rintro e w3 ⟨rfl, hb⟩
            have T4 := T2.call hb
            clear hb
            dsimp only
            refine hK.out _ _ T4.bel (fun _ => ?_)
            clear hK K
            refine wpAnyH_ready (rs := [10, 11]) (by kernel_rfl) (by simp) ?_
            refine AllReadyH.cons rfl (fun K hK => ?_) (AllReadyH.cons rfl (fun K hK => ?_) AllReadyH.nil)
            · go_simp
              have T6 := T4.ax
              obtain ⟨V5, hW⟩ : ∃ W, w3.alloc (.cells #[Value.int .i64 0, Value.bool false, Value.int .i64 0, Value.int .i64 0, Value.int .i64 0, Value.int .i64 0, Value.int .i64 0, Value.int .i64 0, Value.int .i64 0, Value.int .i64 0, Value.int .i64 0, Value.int .i64 0, Value.int .i64 0, Value.int .i64 0, Value.int .i64 0, Value.int .i64 0, Value.int .i64 0, Value.int .i64 0, Value.int .i64 0, Value.int .i64 0, Value.int .i64 0, Value.int .i64 0, Value.int .i64 0, Value.int .i64 0, Value.int .i64 0, Value.int .i64 0, Value.int .i64 0, Value.int .i64 0, Value.int .i64 0, Value.int .i64 0, Value.int .i64 0, Value.int .i64 0, Value.int .i64 0, Value.int .i64 0, Value.int .i64 0, Value.int .i64 0, Value.int .i64 0, Value.int .i64 0, Value.int .i64 0, Value.int .i64 0, Value.int .i64 0, Value.int .i64 0, Value.int .i64 0, Value.int .i64 0, Value.int .i64 0, Value.int .i64 0, Value.int .i64 0, Value.int .i64 0, Value.int .i64 0, Value.int .i64 0, Value.int .i64 0, Value.int .i64 0, Value.string ⟨#[]⟩, Value.int .i64 0, Value.int .i64 0] 27) = W := ⟨_, rfl⟩
              rw [hW] at T6 ⊢
              clear hW
              refine hK.out _ _ T6.bel (fun _ => ?_)
              clear hK K
              refine wpAnyH_ready (rs := [11]) (by kernel_rfl) (by simp) ?_
              refine AllReadyH.cons rfl (fun K hK => ?_) AllReadyH.nil
              · go_simp
                have T8 := T6.ay
                obtain ⟨V7, hW⟩ : ∃ W, V5.alloc (.cells #[Value.int .i64 0, Value.bool false, Value.int .i64 0, Value.int .i64 0, Value.int .i64 0, Value.int .i64 0, Value.int .i64 0, Value.int .i64 0, Value.int .i64 0, Value.int .i64 0, Value.int .i64 0, Value.int .i64 0, Value.int .i64 0, Value.int .i64 0, Value.int .i64 0, Value.int .i64 0, Value.int .i64 0, Value.int .i64 0, Value.int .i64 0, Value.int .i64 0, Value.int .i64 0, Value.int .i64 0, Value.int .i64 0, Value.int .i64 0, Value.int .i64 0, Value.int .i64 0, Value.int .i64 0, Value.int .i64 0, Value.int .i64 0, Value.int .i64 0, Value.int .i64 0, Value.int .i64 0, Value.int .i64 0, Value.int .i64 0, Value.int .i64 0, Value.int .i64 0, Value.int .i64 0, Value.int .i64 0, Value.int .i64 0, Value.int .i64 0, Value.int .i64 0, Value.int .i64 0, Value.int .i64 0, Value.int .i64 0, Value.int .i64 0, Value.int .i64 0, Value.int .i64 0, Value.int .i64 0, Value.int .i64 0, Value.int .i64 0, Value.int .i64 0, Value.int .i64 0, Value.string ⟨#[]⟩, Value.int .i64 0, Value.int .i64 0] 27) = W := ⟨_, rfl⟩
                rw [hW] at T8 ⊢
                clear hW
                refine hK.out _ _ T8.bel (fun _ => ?_)
                clear hK K
                refine wpAnyH_ready (rs := [12]) (by kernel_rfl) (by simp) ?_
                refine AllReadyH.cons rfl (fun K hK => ?_) AllReadyH.nil
                rw [if_pos (by kernel_rfl)]
                refine wp_store_mid 27 _ _ rfl _ 0 Xs.toArray rfl rfl (by rw [HXZ.out]; exact (T8.hx _ rfl).2.2) (by rw [HXZ.out]; exact size17) (all_oneCell_toArray HXO.out) ?_
                simp only [Act.put]
                try simp only [List.setIfInBounds_toArray]
                try simp only [List.set_cons_succ]
                try simp only [List.set_cons_zero]
                refine hK.out _ _ (below_setCells T8.bel _ (T8.hx _ rfl).1 _ 0) (fun _ => ?_)
                clear hK K
                refine wpAnyH_ready (rs := [13]) (by kernel_rfl) (by simp) ?_
                refine AllReadyH.cons rfl (fun K hK => ?_) AllReadyH.nil
                rw [if_pos (by kernel_rfl)]
                refine wp_store_mid 27 _ _ rfl _ 0 Ys.toArray rfl rfl (by rw [HYZ.out]; exact World.there_setCells (T8.hy _ rfl).2.2 _ 0 _) (by rw [HYZ.out]; exact size17) (all_oneCell_toArray HYO.out) ?_
                simp only [Act.put]
                try simp only [List.setIfInBounds_toArray]
                try simp only [List.set_cons_succ]
                try simp only [List.set_cons_zero]
                refine hK.out _ _ (below_setCells (below_setCells T8.bel _ (T8.hx _ rfl).1 _ 0) _ (T8.hy _ rfl).1 _ 0) (fun _ => ?_)
                clear hK K
                refine wpAnyH_done (by kernel_rfl) ?_ _
                go_wp2_with fail
                go_meet
                exact ⟨_, _, rfl, rfl, Lib.hid (T8.two HXL.out HYL.out)⟩
            · go_simp
              have T10 := T4.ay
              obtain ⟨V9, hW⟩ : ∃ W, w3.alloc (.cells #[Value.int .i64 0, Value.bool false, Value.int .i64 0, Value.int .i64 0, Value.int .i64 0, Value.int .i64 0, Value.int .i64 0, Value.int .i64 0, Value.int .i64 0, Value.int .i64 0, Value.int .i64 0, Value.int .i64 0, Value.int .i64 0, Value.int .i64 0, Value.int .i64 0, Value.int .i64 0, Value.int .i64 0, Value.int .i64 0, Value.int .i64 0, Value.int .i64 0, Value.int .i64 0, Value.int .i64 0, Value.int .i64 0, Value.int .i64 0, Value.int .i64 0, Value.int .i64 0, Value.int .i64 0, Value.int .i64 0, Value.int .i64 0, Value.int .i64 0, Value.int .i64 0, Value.int .i64 0, Value.int .i64 0, Value.int .i64 0, Value.int .i64 0, Value.int .i64 0, Value.int .i64 0, Value.int .i64 0, Value.int .i64 0, Value.int .i64 0, Value.int .i64 0, Value.int .i64 0, Value.int .i64 0, Value.int .i64 0, Value.int .i64 0, Value.int .i64 0, Value.int .i64 0, Value.int .i64 0, Value.int .i64 0, Value.int .i64 0, Value.int .i64 0, Value.int .i64 0, Value.string ⟨#[]⟩, Value.int .i64 0, Value.int .i64 0] 27) = W := ⟨_, rfl⟩
              rw [hW] at T10 ⊢
              clear hW
              refine hK.out _ _ T10.bel (fun _ => ?_)
              clear hK K
              refine wpAnyH_ready (rs := [10]) (by kernel_rfl) (by simp) ?_
              refine AllReadyH.cons rfl (fun K hK => ?_) AllReadyH.nil
              · go_simp
                have T12 := T10.ax
                obtain ⟨V11, hW⟩ : ∃ W, V9.alloc (.cells #[Value.int .i64 0, Value.bool false, Value.int .i64 0, Value.int .i64 0, Value.int .i64 0, Value.int .i64 0, Value.int .i64 0, Value.int .i64 0, Value.int .i64 0, Value.int .i64 0, Value.int .i64 0, Value.int .i64 0, Value.int .i64 0, Value.int .i64 0, Value.int .i64 0, Value.int .i64 0, Value.int .i64 0, Value.int .i64 0, Value.int .i64 0, Value.int .i64 0, Value.int .i64 0, Value.int .i64 0, Value.int .i64 0, Value.int .i64 0, Value.int .i64 0, Value.int .i64 0, Value.int .i64 0, Value.int .i64 0, Value.int .i64 0, Value.int .i64 0, Value.int .i64 0, Value.int .i64 0, Value.int .i64 0, Value.int .i64 0, Value.int .i64 0, Value.int .i64 0, Value.int .i64 0, Value.int .i64 0, Value.int .i64 0, Value.int .i64 0, Value.int .i64 0, Value.int .i64 0, Value.int .i64 0, Value.int .i64 0, Value.int .i64 0, Value.int .i64 0, Value.int .i64 0, Value.int .i64 0, Value.int .i64 0, Value.int .i64 0, Value.int .i64 0, Value.int .i64 0, Value.string ⟨#[]⟩, Value.int .i64 0, Value.int .i64 0] 27) = W := ⟨_, rfl⟩
                rw [hW] at T12 ⊢
                clear hW
                refine hK.out _ _ T12.bel (fun _ => ?_)
                clear hK K
                refine wpAnyH_ready (rs := [12]) (by kernel_rfl) (by simp) ?_
                refine AllReadyH.cons rfl (fun K hK => ?_) AllReadyH.nil
                rw [if_pos (by kernel_rfl)]
                refine wp_store_mid 27 _ _ rfl _ 0 Xs.toArray rfl rfl (by rw [HXZ.out]; exact (T12.hx _ rfl).2.2) (by rw [HXZ.out]; exact size17) (all_oneCell_toArray HXO.out) ?_
                simp only [Act.put]
                try simp only [List.setIfInBounds_toArray]
                try simp only [List.set_cons_succ]
                try simp only [List.set_cons_zero]
                refine hK.out _ _ (below_setCells T12.bel _ (T12.hx _ rfl).1 _ 0) (fun _ => ?_)
                clear hK K
                refine wpAnyH_ready (rs := [13]) (by kernel_rfl) (by simp) ?_
                refine AllReadyH.cons rfl (fun K hK => ?_) AllReadyH.nil
                rw [if_pos (by kernel_rfl)]
                refine wp_store_mid 27 _ _ rfl _ 0 Ys.toArray rfl rfl (by rw [HYZ.out]; exact World.there_setCells (T12.hy _ rfl).2.2 _ 0 _) (by rw [HYZ.out]; exact size17) (all_oneCell_toArray HYO.out) ?_
                simp only [Act.put]
                try simp only [List.setIfInBounds_toArray]
                try simp only [List.set_cons_succ]
                try simp only [List.set_cons_zero]
                refine hK.out _ _ (below_setCells (below_setCells T12.bel _ (T12.hx _ rfl).1 _ 0) _ (T12.hy _ rfl).1 _ 0) (fun _ => ?_)
                clear hK K
                refine wpAnyH_done (by kernel_rfl) ?_ _
                go_wp2_with fail
                go_meet
                exact ⟨_, _, rfl, rfl, Lib.hid (T12.two HXL.out HYL.out)⟩
          · go_simp
            have T14 := T2.ax
            obtain ⟨V13, hW⟩ : ∃ W, w1.alloc (.cells #[Value.int .i64 0, Value.bool false, Value.int .i64 0, Value.int .i64 0, Value.int .i64 0, Value.int .i64 0, Value.int .i64 0, Value.int .i64 0, Value.int .i64 0, Value.int .i64 0, Value.int .i64 0, Value.int .i64 0, Value.int .i64 0, Value.int .i64 0, Value.int .i64 0, Value.int .i64 0, Value.int .i64 0, Value.int .i64 0, Value.int .i64 0, Value.int .i64 0, Value.int .i64 0, Value.int .i64 0, Value.int .i64 0, Value.int .i64 0, Value.int .i64 0, Value.int .i64 0, Value.int .i64 0, Value.int .i64 0, Value.int .i64 0, Value.int .i64 0, Value.int .i64 0, Value.int .i64 0, Value.int .i64 0, Value.int .i64 0, Value.int .i64 0, Value.int .i64 0, Value.int .i64 0, Value.int .i64 0, Value.int .i64 0, Value.int .i64 0, Value.int .i64 0, Value.int .i64 0, Value.int .i64 0, Value.int .i64 0, Value.int .i64 0, Value.int .i64 0, Value.int .i64 0, Value.int .i64 0, Value.int .i64 0, Value.int .i64 0, Value.int .i64 0, Value.int .i64 0, Value.string ⟨#[]⟩, Value.int .i64 0, Value.int .i64 0] 27) = W := ⟨_, rfl⟩
            rw [hW] at T14 ⊢
            clear hW
            refine hK.out _ _ T14.bel (fun _ => ?_)
            clear hK K
            refine wpAnyH_ready (rs := [9, 11]) (by kernel_rfl) (by simp) ?_
            refine AllReadyH.cons rfl (fun K hK => ?_) (AllReadyH.cons rfl (fun K hK => ?_) AllReadyH.nil)
            · go_simp
              refine (CB.out _ T14.bel).mono ?_
              rintro e w15 ⟨rfl, hb⟩
              have T16 := T14.call hb
              clear hb
              dsimp only
              refine hK.out _ _ T16.bel (fun _ => ?_)
              clear hK K
              refine wpAnyH_ready (rs := [11]) (by kernel_rfl) (by simp) ?_
              refine AllReadyH.cons rfl (fun K hK => ?_) AllReadyH.nil
              · go_simp
                have T18 := T16.ay
                obtain ⟨V17, hW⟩ : ∃ W, w15.alloc (.cells #[Value.int .i64 0, Value.bool false, Value.int .i64 0, Value.int .i64 0, Value.int .i64 0, Value.int .i64 0, Value.int .i64 0, Value.int .i64 0, Value.int .i64 0, Value.int .i64 0, Value.int .i64 0, Value.int .i64 0, Value.int .i64 0, Value.int .i64 0, Value.int .i64 0, Value.int .i64 0, Value.int .i64 0, Value.int .i64 0, Value.int .i64 0, Value.int .i64 0, Value.int .i64 0, Value.int .i64 0, Value.int .i64 0, Value.int .i64 0, Value.int .i64 0, Value.int .i64 0, Value.int .i64 0, Value.int .i64 0, Value.int .i64 0, Value.int .i64 0, Value.int .i64 0, Value.int .i64 0, Value.int .i64 0, Value.int .i64 0, Value.int .i64 0, Value.int .i64 0, Value.int .i64 0, Value.int .i64 0, Value.int .i64 0, Value.int .i64 0, Value.int .i64 0, Value.int .i64 0, Value.int .i64 0, Value.int .i64 0, Value.int .i64 0, Value.int .i64 0, Value.int .i64 0, Value.int .i64 0, Value.int .i64 0, Value.int .i64 0, Value.int .i64 0, Value.int .i64 0, Value.string ⟨#[]⟩, Value.int .i64 0, Value.int .i64 0] 27) = W := ⟨_, rfl⟩
                rw [hW] at T18 ⊢
                clear hW
                refine hK.out _ _ T18.bel (fun _ => ?_)
                clear hK K
                refine wpAnyH_ready (rs := [12]) (by kernel_rfl) (by simp) ?_
                refine AllReadyH.cons rfl (fun K hK => ?_) AllReadyH.nil
                rw [if_pos (by kernel_rfl)]
                refine wp_store_mid 27 _ _ rfl _ 0 Xs.toArray rfl rfl (by rw [HXZ.out]; exact (T18.hx _ rfl).2.2) (by rw [HXZ.out]; exact size17) (all_oneCell_toArray HXO.out) ?_
                simp only [Act.put]
                try simp only [List.setIfInBounds_toArray]
                try simp only [List.set_cons_succ]
                try simp only [List.set_cons_zero]
                refine hK.out _ _ (below_setCells T18.bel _ (T18.hx _ rfl).1 _ 0) (fun _ => ?_)
                clear hK K
                refine wpAnyH_ready (rs := [13]) (by kernel_rfl) (by simp) ?_
                refine AllReadyH.cons rfl (fun K hK => ?_) AllReadyH.nil
                rw [if_pos (by kernel_rfl)]
                refine wp_store_mid 27 _ _ rfl _ 0 Ys.toArray rfl rfl (by rw [HYZ.out]; exact World.there_setCells (T18.hy _ rfl).2.2 _ 0 _) (by rw [HYZ.out]; exact size17) (all_oneCell_toArray HYO.out) ?_
                simp only [Act.put]
                try simp only [List.setIfInBounds_toArray]
                try simp only [List.set_cons_succ]
                try simp only [List.set_cons_zero]
                refine hK.out _ _ (below_setCells (below_setCells T18.bel _ (T18.hx _ rfl).1 _ 0) _ (T18.hy _ rfl).1 _ 0) (fun _ => ?_)
                clear hK K
                refine wpAnyH_done (by kernel_rfl) ?_ _
                go_wp2_with fail
                go_meet
                exact ⟨_, _, rfl, rfl, Lib.hid (T18.two HXL.out HYL.out)⟩
            · go_simp
              have T20 := T14.ay
              obtain ⟨V19, hW⟩ : ∃ W, V13.alloc (.cells #[Value.int .i64 0, Value.bool false, Value.int .i64 0, Value.int .i64 0, Value.int .i64 0, Value.int .i64 0, Value.int .i64 0, Value.int .i64 0, Value.int .i64 0, Value.int .i64 0, Value.int .i64 0, Value.int .i64 0, Value.int .i64 0, Value.int .i64 0, Value.int .i64 0, Value.int .i64 0, Value.int .i64 0, Value.int .i64 0, Value.int .i64 0, Value.int .i64 0, Value.int .i64 0, Value.int .i64 0, Value.int .i64 0, Value.int .i64 0, Value.int .i64 0, Value.int .i64 0, Value.int .i64 0, Value.int .i64 0, Value.int .i64 0, Value.int .i64 0, Value.int .i64 0, Value.int .i64 0, Value.int .i64 0, Value.int .i64 0, Value.int .i64 0, Value.int .i64 0, Value.int .i64 0, Value.int .i64 0, Value.int .i64 0, Value.int .i64 0, Value.int .i64 0, Value.int .i64 0, Value.int .i64 0, Value.int .i64 0, Value.int .i64 0, Value.int .i64 0, Value.int .i64 0, Value.int .i64 0, Value.int .i64 0, Value.int .i64 0, Value.int .i64 0, Value.int .i64 0, Value.string ⟨#[]⟩, Value.int .i64 0, Value.int .i64 0] 27) = W := ⟨_, rfl⟩
              rw [hW] at T20 ⊢
              clear hW
              refine hK.out _ _ T20.bel (fun _ => ?_)
              clear hK K
              refine wpAnyH_ready (rs := [9]) (by kernel_rfl) (by simp) ?_
              refine AllReadyH.cons rfl (fun K hK => ?_) AllReadyH.nil
              · go_simp
                refine (CB.out _ T20.bel).mono ?_
                rintro e w21 ⟨rfl, hb⟩
                have T22 := T20.call hb
                clear hb
                dsimp only
                refine hK.out _ _ T22.bel (fun _ => ?_)
                clear hK K
                refine wpAnyH_ready (rs := [12]) (by kernel_rfl) (by simp) ?_
                refine AllReadyH.cons rfl (fun K hK => ?_) AllReadyH.nil
                rw [if_pos (by kernel_rfl)]
                refine wp_store_mid 27 _ _ rfl _ 0 Xs.toArray rfl rfl (by rw [HXZ.out]; exact (T22.hx _ rfl).2.2) (by rw [HXZ.out]; exact size17) (all_oneCell_toArray HXO.out) ?_
                simp only [Act.put]
                try simp only [List.setIfInBounds_toArray]
                try simp only [List.set_cons_succ]
                try simp only [List.set_cons_zero]
                refine hK.out _ _ (below_setCells T22.bel _ (T22.hx _ rfl).1 _ 0) (fun _ => ?_)
                clear hK K
                refine wpAnyH_ready (rs := [13]) (by kernel_rfl) (by simp) ?_
                refine AllReadyH.cons rfl (fun K hK => ?_) AllReadyH.nil
                rw [if_pos (by kernel_rfl)]
                refine wp_store_mid 27 _ _ rfl _ 0 Ys.toArray rfl rfl (by rw [HYZ.out]; exact World.there_setCells (T22.hy _ rfl).2.2 _ 0 _) (by rw [HYZ.out]; exact size17) (all_oneCell_toArray HYO.out) ?_
                simp only [Act.put]
                try simp only [List.setIfInBounds_toArray]
                try simp only [List.set_cons_succ]
                try simp only [List.set_cons_zero]
                refine hK.out _ _ (below_setCells (below_setCells T22.bel _ (T22.hx _ rfl).1 _ 0) _ (T22.hy _ rfl).1 _ 0) (fun _ => ?_)
                clear hK K
                refine wpAnyH_done (by kernel_rfl) ?_ _
                go_wp2_with fail
                go_meet
                exact ⟨_, _, rfl, rfl, Lib.hid (T22.two HXL.out HYL.out)⟩
          · go_simp
            have T24 := T2.ay
            obtain ⟨V23, hW⟩ : ∃ W, w1.alloc (.cells #[Value.int .i64 0, Value.bool false, Value.int .i64 0, Value.int .i64 0, Value.int .i64 0, Value.int .i64 0, Value.int .i64 0, Value.int .i64 0, Value.int .i64 0, Value.int .i64 0, Value.int .i64 0, Value.int .i64 0, Value.int .i64 0, Value.int .i64 0, Value.int .i64 0, Value.int .i64 0, Value.int .i64 0, Value.int .i64 0, Value.int .i64 0, Value.int .i64 0, Value.int .i64 0, Value.int .i64 0, Value.int .i64 0, Value.int .i64 0, Value.int .i64 0, Value.int .i64 0, Value.int .i64 0, Value.int .i64 0, Value.int .i64 0, Value.int .i64 0, Value.int .i64 0, Value.int .i64 0, Value.int .i64 0, Value.int .i64 0, Value.int .i64 0, Value.int .i64 0, Value.int .i64 0, Value.int .i64 0, Value.int .i64 0, Value.int .i64 0, Value.int .i64 0, Value.int .i64 0, Value.int .i64 0, Value.int .i64 0, Value.int .i64 0, Value.int .i64 0, Value.int .i64 0, Value.int .i64 0, Value.int .i64 0, Value.int .i64 0, Value.int .i64 0, Value.int .i64 0, Value.string ⟨#[]⟩, Value.int .i64 0, Value.int .i64 0] 27) = W := ⟨_, rfl⟩
            rw [hW] at T24 ⊢
            clear hW
            refine hK.out _ _ T24.bel (fun _ => ?_)
            clear hK K
            refine wpAnyH_ready (rs := [9, 10]) (by kernel_rfl) (by simp) ?_
            refine AllReadyH.cons rfl (fun K hK => ?_) (AllReadyH.cons rfl (fun K hK => ?_) AllReadyH.nil)
            · go_simp
              refine (CB.out _ T24.bel).mono ?_
              rintro e w25 ⟨rfl, hb⟩
              have T26 := T24.call hb
              clear hb
              dsimp only
              refine hK.out _ _ T26.bel (fun _ => ?_)
              clear hK K
              refine wpAnyH_ready (rs := [10]) (by kernel_rfl) (by simp) ?_
              refine AllReadyH.cons rfl (fun K hK => ?_) AllReadyH.nil
              · go_simp
                have T28 := T26.ax
                obtain ⟨V27, hW⟩ : ∃ W, w25.alloc (.cells #[Value.int .i64 0, Value.bool false, Value.int .i64 0, Value.int .i64 0, Value.int .i64 0, Value.int .i64 0, Value.int .i64 0, Value.int .i64 0, Value.int .i64 0, Value.int .i64 0, Value.int .i64 0, Value.int .i64 0, Value.int .i64 0, Value.int .i64 0, Value.int .i64 0, Value.int .i64 0, Value.int .i64 0, Value.int .i64 0, Value.int .i64 0, Value.int .i64 0, Value.int .i64 0, Value.int .i64 0, Value.int .i64 0, Value.int .i64 0, Value.int .i64 0, Value.int .i64 0, Value.int .i64 0, Value.int .i64 0, Value.int .i64 0, Value.int .i64 0, Value.int .i64 0, Value.int .i64 0, Value.int .i64 0, Value.int .i64 0, Value.int .i64 0, Value.int .i64 0, Value.int .i64 0, Value.int .i64 0, Value.int .i64 0, Value.int .i64 0, Value.int .i64 0, Value.int .i64 0, Value.int .i64 0, Value.int .i64 0, Value.int .i64 0, Value.int .i64 0, Value.int .i64 0, Value.int .i64 0, Value.int .i64 0, Value.int .i64 0, Value.int .i64 0, Value.int .i64 0, Value.string ⟨#[]⟩, Value.int .i64 0, Value.int .i64 0] 27) = W := ⟨_, rfl⟩
                rw [hW] at T28 ⊢
                clear hW
                refine hK.out _ _ T28.bel (fun _ => ?_)
                clear hK K
                refine wpAnyH_ready (rs := [12]) (by kernel_rfl) (by simp) ?_
                refine AllReadyH.cons rfl (fun K hK => ?_) AllReadyH.nil
                rw [if_pos (by kernel_rfl)]
                refine wp_store_mid 27 _ _ rfl _ 0 Xs.toArray rfl rfl (by rw [HXZ.out]; exact (T28.hx _ rfl).2.2) (by rw [HXZ.out]; exact size17) (all_oneCell_toArray HXO.out) ?_
                simp only [Act.put]
                try simp only [List.setIfInBounds_toArray]
                try simp only [List.set_cons_succ]
                try simp only [List.set_cons_zero]
                refine hK.out _ _ (below_setCells T28.bel _ (T28.hx _ rfl).1 _ 0) (fun _ => ?_)
                clear hK K
                refine wpAnyH_ready (rs := [13]) (by kernel_rfl) (by simp) ?_
                refine AllReadyH.cons rfl (fun K hK => ?_) AllReadyH.nil
                rw [if_pos (by kernel_rfl)]
                refine wp_store_mid 27 _ _ rfl _ 0 Ys.toArray rfl rfl (by rw [HYZ.out]; exact World.there_setCells (T28.hy _ rfl).2.2 _ 0 _) (by rw [HYZ.out]; exact size17) (all_oneCell_toArray HYO.out) ?_
                simp only [Act.put]
                try simp only [List.setIfInBounds_toArray]
                try simp only [List.set_cons_succ]
                try simp only [List.set_cons_zero]
                refine hK.out _ _ (below_setCells (below_setCells T28.bel _ (T28.hx _ rfl).1 _ 0) _ (T28.hy _ rfl).1 _ 0) (fun _ => ?_)
                clear hK K
                refine wpAnyH_done (by kernel_rfl) ?_ _
                go_wp2_with fail
                go_meet
                exact ⟨_, _, rfl, rfl, Lib.hid (T28.two HXL.out HYL.out)⟩
            · go_simp
              have T30 := T24.ax
              obtain ⟨V29, hW⟩ : ∃ W, V23.alloc (.cells #[Value.int .i64 0, Value.bool false, Value.int .i64 0, Value.int .i64 0, Value.int .i64 0, Value.int .i64 0, Value.int .i64 0, Value.int .i64 0, Value.int .i64 0, Value.int .i64 0, Value.int .i64 0, Value.int .i64 0, Value.int .i64 0, Value.int .i64 0, Value.int .i64 0, Value.int .i64 0, Value.int .i64 0, Value.int .i64 0, Value.int .i64 0, Value.int .i64 0, Value.int .i64 0, Value.int .i64 0, Value.int .i64 0, Value.int .i64 0, Value.int .i64 0, Value.int .i64 0, Value.int .i64 0, Value.int .i64 0, Value.int .i64 0, Value.int .i64 0, Value.int .i64 0, Value.int .i64 0, Value.int .i64 0, Value.int .i64 0, Value.int .i64 0, Value.int .i64 0, Value.int .i64 0, Value.int .i64 0, Value.int .i64 0, Value.int .i64 0, Value.int .i64 0, Value.int .i64 0, Value.int .i64 0, Value.int .i64 0, Value.int .i64 0, Value.int .i64 0, Value.int .i64 0, Value.int .i64 0, Value.int .i64 0, Value.int .i64 0, Value.int .i64 0, Value.int .i64 0, Value.string ⟨#[]⟩, Value.int .i64 0, Value.int .i64 0] 27) = W := ⟨_, rfl⟩
              rw [hW] at T30 ⊢
              clear hW
              refine hK.out _ _ T30.bel (fun _ => ?_)
              clear hK K
              refine wpAnyH_ready (rs := [9]) (by kernel_rfl) (by simp) ?_
              refine AllReadyH.cons rfl (fun K hK => ?_) AllReadyH.nil
              · go_simp
                refine (CB.out _ T30.bel).mono ?_
                rintro e w31 ⟨rfl, hb⟩
                have T32 := T30.call hb
                clear hb
                dsimp only
                refine hK.out _ _ T32.bel (fun _ => ?_)
                clear hK K
                refine wpAnyH_ready (rs := [12]) (by kernel_rfl) (by simp) ?_
                refine AllReadyH.cons rfl (fun K hK => ?_) AllReadyH.nil
                rw [if_pos (by kernel_rfl)]
                refine wp_store_mid 27 _ _ rfl _ 0 Xs.toArray rfl rfl (by rw [HXZ.out]; exact (T32.hx _ rfl).2.2) (by rw [HXZ.out]; exact size17) (all_oneCell_toArray HXO.out) ?_
                simp only [Act.put]
                try simp only [List.setIfInBounds_toArray]
                try simp only [List.set_cons_succ]
                try simp only [List.set_cons_zero]
                refine hK.out _ _ (below_setCells T32.bel _ (T32.hx _ rfl).1 _ 0) (fun _ => ?_)
                clear hK K
                refine wpAnyH_ready (rs := [13]) (by kernel_rfl) (by simp) ?_
                refine AllReadyH.cons rfl (fun K hK => ?_) AllReadyH.nil
                rw [if_pos (by kernel_rfl)]
                refine wp_store_mid 27 _ _ rfl _ 0 Ys.toArray rfl rfl (by rw [HYZ.out]; exact World.there_setCells (T32.hy _ rfl).2.2 _ 0 _) (by rw [HYZ.out]; exact size17) (all_oneCell_toArray HYO.out) ?_
                simp only [Act.put]
                try simp only [List.setIfInBounds_toArray]
                try simp only [List.set_cons_succ]
                try simp only [List.set_cons_zero]
                refine hK.out _ _ (below_setCells (below_setCells T32.bel _ (T32.hx _ rfl).1 _ 0) _ (T32.hy _ rfl).1 _ 0) (fun _ => ?_)
                clear hK K
                refine wpAnyH_done (by kernel_rfl) ?_ _
                go_wp2_with fail
                go_meet
                exact ⟨_, _, rfl, rfl, Lib.hid (T32.two HXL.out HYL.out)⟩
        · go_simp
          have T34 := T0.ax
          obtain ⟨V33, hW⟩ : ∃ W, X0.alloc (.cells #[Value.int .i64 0, Value.bool false, Value.int .i64 0, Value.int .i64 0, Value.int .i64 0, Value.int .i64 0, Value.int .i64 0, Value.int .i64 0, Value.int .i64 0, Value.int .i64 0, Value.int .i64 0, Value.int .i64 0, Value.int .i64 0, Value.int .i64 0, Value.int .i64 0, Value.int .i64 0, Value.int .i64 0, Value.int .i64 0, Value.int .i64 0, Value.int .i64 0, Value.int .i64 0, Value.int .i64 0, Value.int .i64 0, Value.int .i64 0, Value.int .i64 0, Value.int .i64 0, Value.int .i64 0, Value.int .i64 0, Value.int .i64 0, Value.int .i64 0, Value.int .i64 0, Value.int .i64 0, Value.int .i64 0, Value.int .i64 0, Value.int .i64 0, Value.int .i64 0, Value.int .i64 0, Value.int .i64 0, Value.int .i64 0, Value.int .i64 0, Value.int .i64 0, Value.int .i64 0, Value.int .i64 0, Value.int .i64 0, Value.int .i64 0, Value.int .i64 0, Value.int .i64 0, Value.int .i64 0, Value.int .i64 0, Value.int .i64 0, Value.int .i64 0, Value.int .i64 0, Value.string ⟨#[]⟩, Value.int .i64 0, Value.int .i64 0] 27) = W := ⟨_, rfl⟩
          rw [hW] at T34 ⊢
          clear hW
          refine hK.out _ _ T34.bel (fun _ => ?_)
          clear hK K
          refine wpAnyH_ready (rs := [4, 11]) (by kernel_rfl) (by simp) ?_
          refine AllReadyH.cons rfl (fun K hK => ?_) (AllReadyH.cons rfl (fun K hK => ?_) AllReadyH.nil)
          · go_simp
            refine (CA.out _ T34.bel).mono ?_
            rintro e w35 ⟨rfl, hb⟩
            have T36 := T34.call hb
            clear hb
            dsimp only
            refine hK.out _ _ T36.bel (fun _ => ?_)
            clear hK K
            refine wpAnyH_ready (rs := [9, 11]) (by kernel_rfl) (by simp) ?_
            refine AllReadyH.cons rfl (fun K hK => ?_) (AllReadyH.cons rfl (fun K hK => ?_) AllReadyH.nil)
            · go_simp
              refine (CB.out _ T36.bel).mono ?_
              rintro e w37 ⟨rfl, hb⟩
              have T38 := T36.call hb
              clear hb
              dsimp only
              refine hK.out _ _ T38.bel (fun _ => ?_)
              clear hK K
              refine wpAnyH_ready (rs := [11]) (by kernel_rfl) (by simp) ?_
              refine AllReadyH.cons rfl (fun K hK => ?_) AllReadyH.nil
              · go_simp
                have T40 := T38.ay
                obtain ⟨V39, hW⟩ : ∃ W, w37.alloc (.cells #[Value.int .i64 0, Value.bool false, Value.int .i64 0, Value.int .i64 0, Value.int .i64 0, Value.int .i64 0, Value.int .i64 0, Value.int .i64 0, Value.int .i64 0, Value.int .i64 0, Value.int .i64 0, Value.int .i64 0, Value.int .i64 0, Value.int .i64 0, Value.int .i64 0, Value.int .i64 0, Value.int .i64 0, Value.int .i64 0, Value.int .i64 0, Value.int .i64 0, Value.int .i64 0, Value.int .i64 0, Value.int .i64 0, Value.int .i64 0, Value.int .i64 0, Value.int .i64 0, Value.int .i64 0, Value.int .i64 0, Value.int .i64 0, Value.int .i64 0, Value.int .i64 0, Value.int .i64 0, Value.int .i64 0, Value.int .i64 0, Value.int .i64 0, Value.int .i64 0, Value.int .i64 0, Value.int .i64 0, Value.int .i64 0, Value.int .i64 0, Value.int .i64 0, Value.int .i64 0, Value.int .i64 0, Value.int .i64 0, Value.int .i64 0, Value.int .i64 0, Value.int .i64 0, Value.int .i64 0, Value.int .i64 0, Value.int .i64 0, Value.int .i64 0, Value.int .i64 0, Value.string ⟨#[]⟩, Value.int .i64 0, Value.int .i64 0] 27) = W := ⟨_, rfl⟩
                rw [hW] at T40 ⊢
                clear hW
                refine hK.out _ _ T40.bel (fun _ => ?_)
                clear hK K
                refine wpAnyH_ready (rs := [12]) (by kernel_rfl) (by simp) ?_
                refine AllReadyH.cons rfl (fun K hK => ?_) AllReadyH.nil
                rw [if_pos (by kernel_rfl)]
                refine wp_store_mid 27 _ _ rfl _ 0 Xs.toArray rfl rfl (by rw [HXZ.out]; exact (T40.hx _ rfl).2.2) (by rw [HXZ.out]; exact size17) (all_oneCell_toArray HXO.out) ?_
                simp only [Act.put]
                try simp only [List.setIfInBounds_toArray]
                try simp only [List.set_cons_succ]
                try simp only [List.set_cons_zero]
                refine hK.out _ _ (below_setCells T40.bel _ (T40.hx _ rfl).1 _ 0) (fun _ => ?_)
                clear hK K
                refine wpAnyH_ready (rs := [13]) (by kernel_rfl) (by simp) ?_
                refine AllReadyH.cons rfl (fun K hK => ?_) AllReadyH.nil
                rw [if_pos (by kernel_rfl)]
                refine wp_store_mid 27 _ _ rfl _ 0 Ys.toArray rfl rfl (by rw [HYZ.out]; exact World.there_setCells (T40.hy _ rfl).2.2 _ 0 _) (by rw [HYZ.out]; exact size17) (all_oneCell_toArray HYO.out) ?_
                simp only [Act.put]
                try simp only [List.setIfInBounds_toArray]
                try simp only [List.set_cons_succ]
                try simp only [List.set_cons_zero]
                refine hK.out _ _ (below_setCells (below_setCells T40.bel _ (T40.hx _ rfl).1 _ 0) _ (T40.hy _ rfl).1 _ 0) (fun _ => ?_)
                clear hK K
                refine wpAnyH_done (by kernel_rfl) ?_ _
                go_wp2_with fail
                go_meet
                exact ⟨_, _, rfl, rfl, Lib.hid (T40.two HXL.out HYL.out)⟩
            · go_simp
              have T42 := T36.ay
              obtain ⟨V41, hW⟩ : ∃ W, w35.alloc (.cells #[Value.int .i64 0, Value.bool false, Value.int .i64 0, Value.int .i64 0, Value.int .i64 0, Value.int .i64 0, Value.int .i64 0, Value.int .i64 0, Value.int .i64 0, Value.int .i64 0, Value.int .i64 0, Value.int .i64 0, Value.int .i64 0, Value.int .i64 0, Value.int .i64 0, Value.int .i64 0, Value.int .i64 0, Value.int .i64 0, Value.int .i64 0, Value.int .i64 0, Value.int .i64 0, Value.int .i64 0, Value.int .i64 0, Value.int .i64 0, Value.int .i64 0, Value.int .i64 0, Value.int .i64 0, Value.int .i64 0, Value.int .i64 0, Value.int .i64 0, Value.int .i64 0, Value.int .i64 0, Value.int .i64 0, Value.int .i64 0, Value.int .i64 0, Value.int .i64 0, Value.int .i64 0, Value.int .i64 0, Value.int .i64 0, Value.int .i64 0, Value.int .i64 0, Value.int .i64 0, Value.int .i64 0, Value.int .i64 0, Value.int .i64 0, Value.int .i64 0, Value.int .i64 0, Value.int .i64 0, Value.int .i64 0, Value.int .i64 0, Value.int .i64 0, Value.int .i64 0, Value.string ⟨#[]⟩, Value.int .i64 0, Value.int .i64 0] 27) = W := ⟨_, rfl⟩
              rw [hW] at T42 ⊢
              clear hW
              refine hK.out _ _ T42.bel (fun _ => ?_)
              clear hK K
              refine wpAnyH_ready (rs := [9]) (by kernel_rfl) (by simp) ?_
              refine AllReadyH.cons rfl (fun K hK => ?_) AllReadyH.nil
              · go_simp
                refine (CB.out _ T42.bel).mono ?_
                rintro e w43 ⟨rfl, hb⟩
                have T44 := T42.call hb
                clear hb
                dsimp only
                refine hK.out _ _ T44.bel (fun _ => ?_)
                clear hK K
                refine wpAnyH_ready (rs := [12]) (by kernel_rfl) (by simp) ?_
                refine AllReadyH.cons rfl (fun K hK => ?_) AllReadyH.nil
                rw [if_pos (by kernel_rfl)]
                refine wp_store_mid 27 _ _ rfl _ 0 Xs.toArray rfl rfl (by rw [HXZ.out]; exact (T44.hx _ rfl).2.2) (by rw [HXZ.out]; exact size17) (all_oneCell_toArray HXO.out) ?_
                simp only [Act.put]
                try simp only [List.setIfInBounds_toArray]
                try simp only [List.set_cons_succ]
                try simp only [List.set_cons_zero]
                refine hK.out _ _ (below_setCells T44.bel _ (T44.hx _ rfl).1 _ 0) (fun _ => ?_)
                clear hK K
                refine wpAnyH_ready (rs := [13]) (by kernel_rfl) (by simp) ?_
                refine AllReadyH.cons rfl (fun K hK => ?_) AllReadyH.nil
                rw [if_pos (by kernel_rfl)]
                refine wp_store_mid 27 _ _ rfl _ 0 Ys.toArray rfl rfl (by rw [HYZ.out]; exact World.there_setCells (T44.hy _ rfl).2.2 _ 0 _) (by rw [HYZ.out]; exact size17) (all_oneCell_toArray HYO.out) ?_
                simp only [Act.put]
                try simp only [List.setIfInBounds_toArray]
                try simp only [List.set_cons_succ]
                try simp only [List.set_cons_zero]
                refine hK.out _ _ (below_setCells (below_setCells T44.bel _ (T44.hx _ rfl).1 _ 0) _ (T44.hy _ rfl).1 _ 0) (fun _ => ?_)
                clear hK K
                refine wpAnyH_done (by kernel_rfl) ?_ _
                go_wp2_with fail
                go_meet
                exact ⟨_, _, rfl, rfl, Lib.hid (T44.two HXL.out HYL.out)⟩
          · go_simp
            have T46 := T34.ay
            obtain ⟨V45, hW⟩ : ∃ W, V33.alloc (.cells #[Value.int .i64 0, Value.bool false, Value.int .i64 0, Value.int .i64 0, Value.int .i64 0, Value.int .i64 0, Value.int .i64 0, Value.int .i64 0, Value.int .i64 0, Value.int .i64 0, Value.int .i64 0, Value.int .i64 0, Value.int .i64 0, Value.int .i64 0, Value.int .i64 0, Value.int .i64 0, Value.int .i64 0, Value.int .i64 0, Value.int .i64 0, Value.int .i64 0, Value.int .i64 0, Value.int .i64 0, Value.int .i64 0, Value.int .i64 0, Value.int .i64 0, Value.int .i64 0, Value.int .i64 0, Value.int .i64 0, Value.int .i64 0, Value.int .i64 0, Value.int .i64 0, Value.int .i64 0, Value.int .i64 0, Value.int .i64 0, Value.int .i64 0, Value.int .i64 0, Value.int .i64 0, Value.int .i64 0, Value.int .i64 0, Value.int .i64 0, Value.int .i64 0, Value.int .i64 0, Value.int .i64 0, Value.int .i64 0, Value.int .i64 0, Value.int .i64 0, Value.int .i64 0, Value.int .i64 0, Value.int .i64 0, Value.int .i64 0, Value.int .i64 0, Value.int .i64 0, Value.string ⟨#[]⟩, Value.int .i64 0, Value.int .i64 0] 27) = W := ⟨_, rfl⟩
            rw [hW] at T46 ⊢
            clear hW
            refine hK.out _ _ T46.bel (fun _ => ?_)
            clear hK K
            refine wpAnyH_ready (rs := [4]) (by kernel_rfl) (by simp) ?_
            refine AllReadyH.cons rfl (fun K hK => ?_) AllReadyH.nil
            · go_simp
              refine (CA.out _ T46.bel).mono ?_
              rintro e w47 ⟨rfl, hb⟩
              have T48 := T46.call hb
              clear hb
              dsimp only
              refine hK.out _ _ T48.bel (fun _ => ?_)
              clear hK K
              refine wpAnyH_ready (rs := [9]) (by kernel_rfl) (by simp) ?_
              refine AllReadyH.cons rfl (fun K hK => ?_) AllReadyH.nil
              · go_simp
                refine (CB.out _ T48.bel).mono ?_
                rintro e w49 ⟨rfl, hb⟩
                have T50 := T48.call hb
                clear hb
                dsimp only
                refine hK.out _ _ T50.bel (fun _ => ?_)
                clear hK K
                refine wpAnyH_ready (rs := [12]) (by kernel_rfl) (by simp) ?_
                refine AllReadyH.cons rfl (fun K hK => ?_) AllReadyH.nil
                rw [if_pos (by kernel_rfl)]
                refine wp_store_mid 27 _ _ rfl _ 0 Xs.toArray rfl rfl (by rw [HXZ.out]; exact (T50.hx _ rfl).2.2) (by rw [HXZ.out]; exact size17) (all_oneCell_toArray HXO.out) ?_
                simp only [Act.put]
                try simp only [List.setIfInBounds_toArray]
                try simp only [List.set_cons_succ]
                try simp only [List.set_cons_zero]
                refine hK.out _ _ (below_setCells T50.bel _ (T50.hx _ rfl).1 _ 0) (fun _ => ?_)
                clear hK K
                refine wpAnyH_ready (rs := [13]) (by kernel_rfl) (by simp) ?_
                refine AllReadyH.cons rfl (fun K hK => ?_) AllReadyH.nil
                rw [if_pos (by kernel_rfl)]
                refine wp_store_mid 27 _ _ rfl _ 0 Ys.toArray rfl rfl (by rw [HYZ.out]; exact World.there_setCells (T50.hy _ rfl).2.2 _ 0 _) (by rw [HYZ.out]; exact size17) (all_oneCell_toArray HYO.out) ?_
                simp only [Act.put]
                try simp only [List.setIfInBounds_toArray]
                try simp only [List.set_cons_succ]
                try simp only [List.set_cons_zero]
                refine hK.out _ _ (below_setCells (below_setCells T50.bel _ (T50.hx _ rfl).1 _ 0) _ (T50.hy _ rfl).1 _ 0) (fun _ => ?_)
                clear hK K
                refine wpAnyH_done (by kernel_rfl) ?_ _
                go_wp2_with fail
                go_meet
                exact ⟨_, _, rfl, rfl, Lib.hid (T50.two HXL.out HYL.out)⟩
        · go_simp
          have T52 := T0.ay
          obtain ⟨V51, hW⟩ : ∃ W, X0.alloc (.cells #[Value.int .i64 0, Value.bool false, Value.int .i64 0, Value.int .i64 0, Value.int .i64 0, Value.int .i64 0, Value.int .i64 0, Value.int .i64 0, Value.int .i64 0, Value.int .i64 0, Value.int .i64 0, Value.int .i64 0, Value.int .i64 0, Value.int .i64 0, Value.int .i64 0, Value.int .i64 0, Value.int .i64 0, Value.int .i64 0, Value.int .i64 0, Value.int .i64 0, Value.int .i64 0, Value.int .i64 0, Value.int .i64 0, Value.int .i64 0, Value.int .i64 0, Value.int .i64 0, Value.int .i64 0, Value.int .i64 0, Value.int .i64 0, Value.int .i64 0, Value.int .i64 0, Value.int .i64 0, Value.int .i64 0, Value.int .i64 0, Value.int .i64 0, Value.int .i64 0, Value.int .i64 0, Value.int .i64 0, Value.int .i64 0, Value.int .i64 0, Value.int .i64 0, Value.int .i64 0, Value.int .i64 0, Value.int .i64 0, Value.int .i64 0, Value.int .i64 0, Value.int .i64 0, Value.int .i64 0, Value.int .i64 0, Value.int .i64 0, Value.int .i64 0, Value.int .i64 0, Value.string ⟨#[]⟩, Value.int .i64 0, Value.int .i64 0] 27) = W := ⟨_, rfl⟩
          rw [hW] at T52 ⊢
          clear hW
          refine hK.out _ _ T52.bel (fun _ => ?_)
          clear hK K
          refine wpAnyH_ready (rs := [4, 10]) (by kernel_rfl) (by simp) ?_
          refine AllReadyH.cons rfl (fun K hK => ?_) (AllReadyH.cons rfl (fun K hK => ?_) AllReadyH.nil)
          · go_simp
            refine (CA.out _ T52.bel).mono ?_
            rintro e w53 ⟨rfl, hb⟩
            have T54 := T52.call hb
            clear hb
            dsimp only
            refine hK.out _ _ T54.bel (fun _ => ?_)
            clear hK K
            refine wpAnyH_ready (rs := [9, 10]) (by kernel_rfl) (by simp) ?_
            refine AllReadyH.cons rfl (fun K hK => ?_) (AllReadyH.cons rfl (fun K hK => ?_) AllReadyH.nil)
            · go_simp
              refine (CB.out _ T54.bel).mono ?_
              rintro e w55 ⟨rfl, hb⟩
              have T56 := T54.call hb
              clear hb
              dsimp only
              refine hK.out _ _ T56.bel (fun _ => ?_)
              clear hK K
              refine wpAnyH_ready (rs := [10]) (by kernel_rfl) (by simp) ?_
              refine AllReadyH.cons rfl (fun K hK => ?_) AllReadyH.nil
              · go_simp
                have T58 := T56.ax
                obtain ⟨V57, hW⟩ : ∃ W, w55.alloc (.cells #[Value.int .i64 0, Value.bool false, Value.int .i64 0, Value.int .i64 0, Value.int .i64 0, Value.int .i64 0, Value.int .i64 0, Value.int .i64 0, Value.int .i64 0, Value.int .i64 0, Value.int .i64 0, Value.int .i64 0, Value.int .i64 0, Value.int .i64 0, Value.int .i64 0, Value.int .i64 0, Value.int .i64 0, Value.int .i64 0, Value.int .i64 0, Value.int .i64 0, Value.int .i64 0, Value.int .i64 0, Value.int .i64 0, Value.int .i64 0, Value.int .i64 0, Value.int .i64 0, Value.int .i64 0, Value.int .i64 0, Value.int .i64 0, Value.int .i64 0, Value.int .i64 0, Value.int .i64 0, Value.int .i64 0, Value.int .i64 0, Value.int .i64 0, Value.int .i64 0, Value.int .i64 0, Value.int .i64 0, Value.int .i64 0, Value.int .i64 0, Value.int .i64 0, Value.int .i64 0, Value.int .i64 0, Value.int .i64 0, Value.int .i64 0, Value.int .i64 0, Value.int .i64 0, Value.int .i64 0, Value.int .i64 0, Value.int .i64 0, Value.int .i64 0, Value.int .i64 0, Value.string ⟨#[]⟩, Value.int .i64 0, Value.int .i64 0] 27) = W := ⟨_, rfl⟩
                rw [hW] at T58 ⊢
                clear hW
                refine hK.out _ _ T58.bel (fun _ => ?_)
                clear hK K
                refine wpAnyH_ready (rs := [12]) (by kernel_rfl) (by simp) ?_
                refine AllReadyH.cons rfl (fun K hK => ?_) AllReadyH.nil
                rw [if_pos (by kernel_rfl)]
                refine wp_store_mid 27 _ _ rfl _ 0 Xs.toArray rfl rfl (by rw [HXZ.out]; exact (T58.hx _ rfl).2.2) (by rw [HXZ.out]; exact size17) (all_oneCell_toArray HXO.out) ?_
                simp only [Act.put]
                try simp only [List.setIfInBounds_toArray]
                try simp only [List.set_cons_succ]
                try simp only [List.set_cons_zero]
                refine hK.out _ _ (below_setCells T58.bel _ (T58.hx _ rfl).1 _ 0) (fun _ => ?_)
                clear hK K
                refine wpAnyH_ready (rs := [13]) (by kernel_rfl) (by simp) ?_
                refine AllReadyH.cons rfl (fun K hK => ?_) AllReadyH.nil
                rw [if_pos (by kernel_rfl)]
                refine wp_store_mid 27 _ _ rfl _ 0 Ys.toArray rfl rfl (by rw [HYZ.out]; exact World.there_setCells (T58.hy _ rfl).2.2 _ 0 _) (by rw [HYZ.out]; exact size17) (all_oneCell_toArray HYO.out) ?_
                simp only [Act.put]
                try simp only [List.setIfInBounds_toArray]
                try simp only [List.set_cons_succ]
                try simp only [List.set_cons_zero]
                refine hK.out _ _ (below_setCells (below_setCells T58.bel _ (T58.hx _ rfl).1 _ 0) _ (T58.hy _ rfl).1 _ 0) (fun _ => ?_)
                clear hK K
                refine wpAnyH_done (by kernel_rfl) ?_ _
                go_wp2_with fail
                go_meet
                exact ⟨_, _, rfl, rfl, Lib.hid (T58.two HXL.out HYL.out)⟩
            · go_simp
              have T60 := T54.ax
              obtain ⟨V59, hW⟩ : ∃ W, w53.alloc (.cells #[Value.int .i64 0, Value.bool false, Value.int .i64 0, Value.int .i64 0, Value.int .i64 0, Value.int .i64 0, Value.int .i64 0, Value.int .i64 0, Value.int .i64 0, Value.int .i64 0, Value.int .i64 0, Value.int .i64 0, Value.int .i64 0, Value.int .i64 0, Value.int .i64 0, Value.int .i64 0, Value.int .i64 0, Value.int .i64 0, Value.int .i64 0, Value.int .i64 0, Value.int .i64 0, Value.int .i64 0, Value.int .i64 0, Value.int .i64 0, Value.int .i64 0, Value.int .i64 0, Value.int .i64 0, Value.int .i64 0, Value.int .i64 0, Value.int .i64 0, Value.int .i64 0, Value.int .i64 0, Value.int .i64 0, Value.int .i64 0, Value.int .i64 0, Value.int .i64 0, Value.int .i64 0, Value.int .i64 0, Value.int .i64 0, Value.int .i64 0, Value.int .i64 0, Value.int .i64 0, Value.int .i64 0, Value.int .i64 0, Value.int .i64 0, Value.int .i64 0, Value.int .i64 0, Value.int .i64 0, Value.int .i64 0, Value.int .i64 0, Value.int .i64 0, Value.int .i64 0, Value.string ⟨#[]⟩, Value.int .i64 0, Value.int .i64 0] 27) = W := ⟨_, rfl⟩
              rw [hW] at T60 ⊢
              clear hW
              refine hK.out _ _ T60.bel (fun _ => ?_)
              clear hK K
              refine wpAnyH_ready (rs := [9]) (by kernel_rfl) (by simp) ?_
              refine AllReadyH.cons rfl (fun K hK => ?_) AllReadyH.nil
              · go_simp
                refine (CB.out _ T60.bel).mono ?_
                rintro e w61 ⟨rfl, hb⟩
                have T62 := T60.call hb
                clear hb
                dsimp only
                refine hK.out _ _ T62.bel (fun _ => ?_)
                clear hK K
                refine wpAnyH_ready (rs := [12]) (by kernel_rfl) (by simp) ?_
                refine AllReadyH.cons rfl (fun K hK => ?_) AllReadyH.nil
                rw [if_pos (by kernel_rfl)]
                refine wp_store_mid 27 _ _ rfl _ 0 Xs.toArray rfl rfl (by rw [HXZ.out]; exact (T62.hx _ rfl).2.2) (by rw [HXZ.out]; exact size17) (all_oneCell_toArray HXO.out) ?_
                simp only [Act.put]
                try simp only [List.setIfInBounds_toArray]
                try simp only [List.set_cons_succ]
                try simp only [List.set_cons_zero]
                refine hK.out _ _ (below_setCells T62.bel _ (T62.hx _ rfl).1 _ 0) (fun _ => ?_)
                clear hK K
                refine wpAnyH_ready (rs := [13]) (by kernel_rfl) (by simp) ?_
                refine AllReadyH.cons rfl (fun K hK => ?_) AllReadyH.nil
                rw [if_pos (by kernel_rfl)]
                refine wp_store_mid 27 _ _ rfl _ 0 Ys.toArray rfl rfl (by rw [HYZ.out]; exact World.there_setCells (T62.hy _ rfl).2.2 _ 0 _) (by rw [HYZ.out]; exact size17) (all_oneCell_toArray HYO.out) ?_
                simp only [Act.put]
                try simp only [List.setIfInBounds_toArray]
                try simp only [List.set_cons_succ]
                try simp only [List.set_cons_zero]
                refine hK.out _ _ (below_setCells (below_setCells T62.bel _ (T62.hx _ rfl).1 _ 0) _ (T62.hy _ rfl).1 _ 0) (fun _ => ?_)
                clear hK K
                refine wpAnyH_done (by kernel_rfl) ?_ _
                go_wp2_with fail
                go_meet
                exact ⟨_, _, rfl, rfl, Lib.hid (T62.two HXL.out HYL.out)⟩
          · go_simp
            have T64 := T52.ax
            obtain ⟨V63, hW⟩ : ∃ W, V51.alloc (.cells #[Value.int .i64 0, Value.bool false, Value.int .i64 0, Value.int .i64 0, Value.int .i64 0, Value.int .i64 0, Value.int .i64 0, Value.int .i64 0, Value.int .i64 0, Value.int .i64 0, Value.int .i64 0, Value.int .i64 0, Value.int .i64 0, Value.int .i64 0, Value.int .i64 0, Value.int .i64 0, Value.int .i64 0, Value.int .i64 0, Value.int .i64 0, Value.int .i64 0, Value.int .i64 0, Value.int .i64 0, Value.int .i64 0, Value.int .i64 0, Value.int .i64 0, Value.int .i64 0, Value.int .i64 0, Value.int .i64 0, Value.int .i64 0, Value.int .i64 0, Value.int .i64 0, Value.int .i64 0, Value.int .i64 0, Value.int .i64 0, Value.int .i64 0, Value.int .i64 0, Value.int .i64 0, Value.int .i64 0, Value.int .i64 0, Value.int .i64 0, Value.int .i64 0, Value.int .i64 0, Value.int .i64 0, Value.int .i64 0, Value.int .i64 0, Value.int .i64 0, Value.int .i64 0, Value.int .i64 0, Value.int .i64 0, Value.int .i64 0, Value.int .i64 0, Value.int .i64 0, Value.string ⟨#[]⟩, Value.int .i64 0, Value.int .i64 0] 27) = W := ⟨_, rfl⟩
            rw [hW] at T64 ⊢
            clear hW
            refine hK.out _ _ T64.bel (fun _ => ?_)
            clear hK K
            refine wpAnyH_ready (rs := [4]) (by kernel_rfl) (by simp) ?_
            refine AllReadyH.cons rfl (fun K hK => ?_) AllReadyH.nil
            · go_simp
              refine (CA.out _ T64.bel).mono ?_
              rintro e w65 ⟨rfl, hb⟩
              have T66 := T64.call hb
              clear hb
              dsimp only
              refine hK.out _ _ T66.bel (fun _ => ?_)
              clear hK K
              refine wpAnyH_ready (rs := [9]) (by kernel_rfl) (by simp) ?_
              refine AllReadyH.cons rfl (fun K hK => ?_) AllReadyH.nil
              · go_simp
                refine (CB.out _ T66.bel).mono ?_
                rintro e w67 ⟨rfl, hb⟩
                have T68 := T66.call hb
                clear hb
                dsimp only
                refine hK.out _ _ T68.bel (fun _ => ?_)
                clear hK K
                refine wpAnyH_ready (rs := [12]) (by kernel_rfl) (by simp) ?_
                refine AllReadyH.cons rfl (fun K hK => ?_) AllReadyH.nil
                rw [if_pos (by kernel_rfl)]
                refine wp_store_mid 27 _ _ rfl _ 0 Xs.toArray rfl rfl (by rw [HXZ.out]; exact (T68.hx _ rfl).2.2) (by rw [HXZ.out]; exact size17) (all_oneCell_toArray HXO.out) ?_
                simp only [Act.put]
                try simp only [List.setIfInBounds_toArray]
                try simp only [List.set_cons_succ]
                try simp only [List.set_cons_zero]
                refine hK.out _ _ (below_setCells T68.bel _ (T68.hx _ rfl).1 _ 0) (fun _ => ?_)
                clear hK K
                refine wpAnyH_ready (rs := [13]) (by kernel_rfl) (by simp) ?_
                refine AllReadyH.cons rfl (fun K hK => ?_) AllReadyH.nil
                rw [if_pos (by kernel_rfl)]
                refine wp_store_mid 27 _ _ rfl _ 0 Ys.toArray rfl rfl (by rw [HYZ.out]; exact World.there_setCells (T68.hy _ rfl).2.2 _ 0 _) (by rw [HYZ.out]; exact size17) (all_oneCell_toArray HYO.out) ?_
                simp only [Act.put]
                try simp only [List.setIfInBounds_toArray]
                try simp only [List.set_cons_succ]
                try simp only [List.set_cons_zero]
                refine hK.out _ _ (below_setCells (below_setCells T68.bel _ (T68.hx _ rfl).1 _ 0) _ (T68.hy _ rfl).1 _ 0) (fun _ => ?_)
                clear hK K
                refine wpAnyH_done (by kernel_rfl) ?_ _
                go_wp2_with fail
                go_meet
                exact ⟨_, _, rfl, rfl, Lib.hid (T68.two HXL.out HYL.out)⟩
      case rest =>
        obtain ⟨x, y, rfl, rfl, HP⟩ := hcut
        obtain ⟨z1, b1, nm1, hcs1, hz1, hn1⟩ := hty.out
        rw [HXS.out] at hcs1
        have heq := fun W => eql17 z1 b1 nm1 hz1 hn1 W
        rw [← hcs1] at heq
        have HEQ := Lib.hid heq
        clear heq
        have hneq := fun W => neq17 (HEQ.out W)
        have hgn := fun (x y : Operand) (A B : Array Value) (W : World) => guardn17 x y A B W
        have h2 : Xs[2]? = some (.int .i64 (z1 2)) := by rw [hcs1]; rfl
        have h3 : Xs[3]? = some (.int .i64 (z1 3)) := by rw [hcs1]; rfl
        have h53 : Xs[53]? = some (.int .i64 (z1 53)) := by rw [hcs1]; rfl
        obtain ⟨i2, hi2⟩ : ∃ i, z1 2 = i := ⟨_, rfl⟩
        obtain ⟨i3, hi3⟩ : ∃ i, z1 3 = i := ⟨_, rfl⟩
        obtain ⟨i5, hi5⟩ : ∃ i, z1 53 = i := ⟨_, rfl⟩
        rw [hi2] at h2
        rw [hi3] at h3
        rw [hi5] at h53
        clear hcs1 hz1 hn1 hi2 hi3 hi5
        have hap := apart_w As L v f a b (by rw [HT.out.len]; omega)
        rw [HXS.out, HYS.out, List.getD_eq_getElem?_getD, h2, List.getD_eq_getElem?_getD, h3] at hap
        simp only [Option.getD_some] at hap
        have HAP := Lib.hid hap
        clear hap
        have a2 := HP.out.x_at 2 _ h2
        have a3 := HP.out.x_at 3 _ h3
        obtain ⟨u2, d2, f2⟩ := HP.out.y_at 2 (by decide)
        obtain ⟨u3, d3, f3⟩ := HP.out.y_at 3 (by decide)
        have hxy := HP.out.ne
        go_upto_region 13 with fail
        have hp := (HP.out.sety 2 (.int .i64 i2)).sety 3 (.int .i64 i3)
        rw [HAP.out] at hp
        obtain ⟨V, hV⟩ : ∃ V, (wc.setCell ⟨y, 2, none⟩ (.int .i64 i2)).setCell ⟨y, 3, none⟩ (.int .i64 i3) = V := ⟨_, rfl⟩
        rw [hV] at hp ⊢
        have HPV := Lib.hid hp
        clear hp hV a2 a3 d2 f2 u2 d3 f3 u3 HAP HP h2 h3
        refine wp_region_lit ?_
        refine wpList_load_mid rfl 27 _ rfl x 0 rfl Xs _ HPV.out.xr Try.underlying27 rfl (by rw [size17, HXL.out]) ?_
        refine wpList_load_mid rfl 27 _ rfl y 0 rfl Xs _ HPV.out.yr Try.underlying27 rfl (by rw [size17, HXL.out]) ?_
        have HBW := Lib.hid (HW4.out.trans (HPV.out.bel.mono (by have := HS4.out; omega)))
        have HBL : Hid (bp + 1 < V.heap.size) := Lib.hid (by have := HS4.out; have := HPV.out.bel.size; omega)
        have HXW := Lib.hid ((HPV.out.bel.block (bp + 1) (by have := HS4.out; omega)).trans HX4.out)
        have HRW := Lib.hid (range_below17 HR4.out HPV.out.bel (by have := HS4.out; omega))
        clear HL HW4 HR4 HX4 CA CB HYS HYL HYZ HYO HR0 HL0 HB0
        go_upto_region 16 with fail
        clear hneq hgn
        obtain ⟨i0, hi, hz0, hz1, hz2⟩ := info_parts info_valA
        have HTR := Lib.hid (HT.out.below (hbp ▸ HBW.out))
        go_wp2_with (at_builtin; refine wpList_append_own _ rfl _ _ 32 rfl V.heap.size 34 i0 (.agg #[.int .i64 0, .int .i64 0, .int .i64 0, .string ⟨#[]⟩]) 4 40 Try.underlying32 hi hz0 hz1 hz2 rfl (by decide) (.slice none 0 0) 0 [] rfl (World.ownsRow_nil _ _ _ _) ⟨bt, ot, none⟩ tn tc (vrs17 L) rfl ?d0 ?d1 ?d2 ?d3 ?d4 ?d5 ?_)
        case d0 => rw [vrs17_length, HTR.out.len]
        case d1 => exact vrs17_news HTR.out
        case d2 => exact vrs17_one L
        case d3 => omega
        case d4 => omega
        case d5 => exact Nat.le_refl _
        intro v' w2 hown' hgrow _
        have hb2 : Below V.heap.size V w2 := below_grownA hgrow (fun g hg => by cases hg) (Nat.le_refl _)
        clear hgrow
        rcases hown'.2 with ⟨_, h0⟩ | ⟨g2, cp2, cur, rfl, hbg, hgb, hc1, hc2, hcs, htk⟩
        · omega
        have htk2 : cur.toList.take (tn * 4) = vrs17 L := htk
        clear hown' htk
        have x2 := (hb2.block (bp + 1) HBL.out).trans HXW.out
        have e0 := cell_of (k := 0) x2 rfl
        have e1 := cell_of (k := 1) x2 rfl
        have e2 := cell_of (k := 2) x2 rfl
        have e3 := cell_of (k := 3) x2 rfl
        obtain ⟨x1, x2', x3, x5, v0, v1, v2, v3, ⟨p0, q0, r0⟩, ⟨p1, q1, r1⟩, ⟨p2, q2, r2⟩, ⟨p3, q3, r3⟩, h4, hb4⟩ := four_store17 w2 g2 34 cur 140 (.int .i64 v.kind) (.int .i64 v.n) (.int .i64 v.d) (.string ⟨v.name.toArray⟩) hgb (by omega)
        have HL2 := Lib.hid (td_set (kk := 35) (by omega) (by omega) HTR.out.len htk2 HTR.out.nm hvn h4)
        have HB5 := Lib.hid (hb4 V.heap.size V hbg hb2)
        clear hb4 h4 htk2 hgb hbg hb2 x2 HTR
        simp only [Nat.reduceAdd] at p1 p2 p3 q1 q2 q3 r1 r2 r3
        go_upto_region 18 with fail
        obtain ⟨Zs, hZs⟩ : ∃ Zs, cells17 As (hasS (L.set 35 v)) f a b = Zs := ⟨_, rfl⟩
        have HZL : Hid (Zs.length = 55) := Lib.hid (by rw [← hZs]; exact cells17_len _ _ _ _ _)
        have HZZ : Hid (Zs.toArray.size = 55) := Lib.hid (by simpa using HZL.out)
        have HZO : Hid (∀ u, u ∈ Zs → u.oneCell' = true) := Lib.hid (by rw [← hZs]; exact cells17_one _ HAL.out HONE.out _ _ _ _)
        have hap := apart_font As L v f a b (by rw [HT.out.len]; omega) (fun i u h1 h2 => HN.out i u h1 h2)
        rw [HXS.out, hZs, List.getD_eq_getElem?_getD, h53] at hap
        simp only [Option.getD_some] at hap
        have HAP := Lib.hid hap
        clear hap
        have HR0 : Hid (x5.rangeAt bp 0 As) := Lib.hid (range_below17 HRW.out HB5.out (by have := HBL.out; omega))
        have HL0 : Hid (bp < x5.heap.size) := Lib.hid (by have := HBL.out; have := HB5.out.size; omega)
        have HB0 := Lib.hid (HBW.out.trans (HB5.out.mono (by have := HBL.out; omega)))
        have CA : Hid (∀ W, Below x5.heap.size x5 W → Calls Try.prog 9 #[.slice (some ⟨g2, 0, none⟩) tn cp2, .agg As.toArray, .int .i64 a, .int .i64 b] W fun e w' => e = .returned (.agg Zs.toArray) ∧ Below W.heap.size W w') := Lib.hid (fun W h => by have q := CC.out (some ⟨g2, 0, none⟩) tn cp2 (L.set 35 v) W (HL2.out.below h); rw [hZs] at q; exact q)
        have HP5 := Lib.hid (HPV.out.call HB5.out)
        clear hZs HPV HBW HBL HXW HRW HB5 HL2
        refine wp_region_lit ?_
        refine wpList_move17 rfl _ rfl ?_
        refine wpList_load_mid rfl 27 _ rfl bp 0 rfl As _ HR0.out Try.underlying27 rfl (by rw [size17, HAL.out]) ?_
        go_wp2_with fail
        refine (CA.out x5 (Below.refl _ _)).mono ?_
        rintro e w6 ⟨rfl, hb6⟩
        have T := ((Ps.start x5).call hb6).ax
        clear hb6
        dsimp only
        rename_i K' hK'
        refine hK' _ _ ?_
        clear hK'
        go_step
        go_step
        rename_i K' hK'
        refine hK' _ _ ?_
        clear hK'
        refine wpList_store_mid rfl 27 _ _ rfl w6.heap.size 0 Zs.toArray rfl rfl (by rw [HZZ.out]; exact (T.hx _ rfl).2.2) (by rw [HZZ.out]; exact size17) (all_oneCell_toArray HZO.out) ?_
        have hq := Ps.one HP5.out T HZL.out
        have e55 : Zs.toArray.toList = Zs := rfl
        rw [e55]
        clear e55 T
        obtain ⟨W7, hW⟩ : ∃ W, (w6.alloc (.cells #[Value.int .i64 0, Value.bool false, Value.int .i64 0, Value.int .i64 0, Value.int .i64 0, Value.int .i64 0, Value.int .i64 0, Value.int .i64 0, Value.int .i64 0, Value.int .i64 0, Value.int .i64 0, Value.int .i64 0, Value.int .i64 0, Value.int .i64 0, Value.int .i64 0, Value.int .i64 0, Value.int .i64 0, Value.int .i64 0, Value.int .i64 0, Value.int .i64 0, Value.int .i64 0, Value.int .i64 0, Value.int .i64 0, Value.int .i64 0, Value.int .i64 0, Value.int .i64 0, Value.int .i64 0, Value.int .i64 0, Value.int .i64 0, Value.int .i64 0, Value.int .i64 0, Value.int .i64 0, Value.int .i64 0, Value.int .i64 0, Value.int .i64 0, Value.int .i64 0, Value.int .i64 0, Value.int .i64 0, Value.int .i64 0, Value.int .i64 0, Value.int .i64 0, Value.int .i64 0, Value.int .i64 0, Value.int .i64 0, Value.int .i64 0, Value.int .i64 0, Value.int .i64 0, Value.int .i64 0, Value.int .i64 0, Value.int .i64 0, Value.int .i64 0, Value.int .i64 0, Value.string ⟨#[]⟩, Value.int .i64 0, Value.int .i64 0] 27)).setCells w6.heap.size 0 Zs = W := ⟨_, rfl⟩
        rw [hW] at hq ⊢
        clear hW
        obtain ⟨q, hqq⟩ : ∃ q, w6.heap.size = q := ⟨_, rfl⟩
        rw [hqq] at hq ⊢
        have HQ := Lib.hid hq
        clear hq hqq
        have a5 := HQ.out.x_at 53 _ h53
        obtain ⟨u5, d5, f5⟩ := HQ.out.y_at 53 (by decide)
        have hxq := HQ.out.ne
        go_upto_region 20 with fail
        have hp := HQ.out.sety 53 (.int .i64 i5)
        rw [HAP.out] at hp
        obtain ⟨V2, hV⟩ : ∃ V, W7.setCell ⟨q, 53, none⟩ (.int .i64 i5) = V := ⟨_, rfl⟩
        rw [hV] at hp ⊢
        have HPV := Lib.hid hp
        clear hp hV a5 d5 f5 u5 HQ h53
        refine wp_region_lit ?_
        refine wpList_load_mid rfl 27 _ rfl x 0 rfl Xs _ HPV.out.xr Try.underlying27 rfl (by rw [size17, HXL.out]) ?_
        refine wpList_load_mid rfl 27 _ rfl q 0 rfl Xs _ HPV.out.yr Try.underlying27 rfl (by rw [size17, HXL.out]) ?_
        have heq := HEQ.out
        go_wp2_with fail
        refine (KN.out _).mono ?_
        rintro e w9 ⟨rfl, hb9⟩
        have HB9 := Lib.hid (HPV.out.bel.trans (hb9.mono HPV.out.bel.size))
        clear hb9
        go_wp2_with fail
        go_ret
        exact ⟨rfl, hbp ▸ (HZ4.out.trans (HB9.out.mono (by have := HS4.out; omega)))⟩
end Go.Proofs.Ytlngipglhlhhbaa
