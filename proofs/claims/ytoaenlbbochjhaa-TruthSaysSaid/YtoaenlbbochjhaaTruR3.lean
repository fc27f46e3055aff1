/- Layer 14's other text: what a node, what a query says. -/
import Derived.Test.YtoaenlbbochjhaaTruR2
import Derived.Test.YtoaenlbbochjhaaTruWb
import Derived.Test.YtoaenlbbochjhaaQryRa
namespace Go.Proofs.Ytoaenlbbochjhaa
open Go.RowKit FixM FixP TreN QryP TruP
set_option linter.unusedVariables false

theorem ft_bds {x : QN} (h : ndR x = true) (h4 : x.kind = 4) : (1 ≤ x.feat ∧ x.feat ≤ 6) ∧ (thrB x.lo = true → 1 ≤ x.lo.op ∧ x.lo.op ≤ 5) ∧ (thrB x.hi = true → 1 ≤ x.hi.op ∧ x.hi.op ≤ 5) ∧ (thrB x.lo = false → x.lo.op = 0) ∧ (thrB x.hi = false → x.hi.op = 0 ∧ thrB x.lo = false) := by
  have B : ∀ (f : Int) (b : Bd), bdR f b = true → 1 ≤ b.op ∧ b.op ≤ 5 := by
    intro f b hb
    unfold bdR at hb
    rw [Bool.and_eq_true, decide_eq_true_eq] at hb
    exact hb.1
  unfold ndR at h
  rw [if_pos h4] at h
  unfold ftR at h
  rw [Bool.and_eq_true, decide_eq_true_eq] at h
  obtain ⟨h1, h2⟩ := h
  refine ⟨by omega, ?_, ?_, fun hl => ((thrB_no _).1 hl).1, fun hi => ⟨((thrB_no _).1 hi).1, ?_⟩⟩
  · intro hl
    cases hh : thrB x.hi with
    | false => rw [hh, if_pos rfl, hl] at h2; cases h2
    | true =>
      rw [hh, if_neg (by decide), hl, Bool.not_true, Bool.false_or, Bool.and_eq_true, Bool.and_eq_true, Bool.and_eq_true] at h2
      exact B _ _ h2.2.2.1
  · intro hh
    rw [hh, if_neg (by decide), Bool.and_eq_true] at h2
    exact B _ _ h2.1
  · rw [hi, if_pos rfl, Bool.not_eq_true'] at h2
    exact h2
theorem refFeature14_any (k c f a1 a2 a3 b1 b2 b3 t : Int) (nm : ByteArray) (ww hh : Int) (w : World) (hf1 : 1 ≤ f) (hf6 : f ≤ 6) (hpl : f = 5 → (-1073741824 ≤ a2 ∧ a2 ≤ 1073741824) ∧ (-1073741824 ≤ a3 ∧ a3 ≤ 1073741824)) (hph : f = 5 → (-1073741824 ≤ b2 ∧ b2 ≤ 1073741824) ∧ (-1073741824 ≤ b3 ∧ b3 ≤ 1073741824))
    (hlo : thrB ⟨a1, a2, a3⟩ = true → 1 ≤ a1 ∧ a1 ≤ 5) (hhi : thrB ⟨b1, b2, b3⟩ = true → 1 ≤ b1 ∧ b1 ≤ 5) (hlo0 : thrB ⟨a1, a2, a3⟩ = false → a1 = 0) (hhi0 : thrB ⟨b1, b2, b3⟩ = false → b1 = 0 ∧ thrB ⟨a1, a2, a3⟩ = false) :
    Calls Try.prog 39 #[.agg #[.int .i64 k, .int .i64 c, .int .i64 f, .int .i64 a1, .int .i64 a2, .int .i64 a3, .int .i64 b1, .int .i64 b2, .int .i64 b3], .agg #[.int .i64 t, .string nm, .int .i64 ww, .int .i64 hh]] w fun e w' => e = .returned (.int .i64 (ftT t (H ww) (H hh) ⟨k, c, f, ⟨a1, a2, a3⟩, ⟨b1, b2, b3⟩⟩)) ∧ Below w.heap.size w w' := by
  by_cases h1 : f = 1
  · subst h1; exact refFeature14_1 k c a1 a2 a3 b1 b2 b3 t nm ww hh w hlo hhi hlo0 hhi0
  · by_cases h3 : f = 3
    · subst h3; exact refFeature14_3 k c a1 a2 a3 b1 b2 b3 t nm ww hh w hlo hhi hlo0 hhi0
    · exact refFeature14_f k c f a1 a2 a3 b1 b2 b3 t nm ww hh w hf1 hf6 h1 h3 hpl hph hlo hhi hlo0 hhi0

set_option maxRecDepth 100000 in
set_option maxHeartbeats 8000000 in
theorem refNode14_step (s : ByteArray) (a : Option Addr) (L : List QN) (n c i : Nat) (t : Int) (nm : ByteArray) (ww hh : Int) (w : World) (hn : L.length = n) (hm : n ≤ 32) (hi : i < n) (hQ : Qns w a L) (hR : L.all ndR = true) (he : ∃ j, eat (L.drop i) 1 = some j)
    (hsay : ∀ (k : Nat) (W : World), i < k → k < n → (∃ j, eat (L.drop k) 1 = some j) → Below w.heap.size w W → Calls Try.prog 24 #[.agg #[.string s, .slice a n c], .int .i64 (k : Int), .agg (exA t nm ww hh)] W fun e w' => e = .returned (.int .i64 (evL (ftT t (H ww) (H hh)) (L.drop k))) ∧ Below W.heap.size W w') :
    Calls Try.prog 24 #[.agg #[.string s, .slice a n c], .int .i64 (i : Int), .agg (exA t nm ww hh)] w fun e w' => e = .returned (.int .i64 (evL (ftT t (H ww) (H hh)) (L.drop i))) ∧ Below w.heap.size w w' := by
  have hil : i < L.length := by omega
  have hnd : ndR L[i] = true := List.all_eq_true.1 hR _ (List.getElem_mem hil)
  have hdr : L.drop i = L[i] :: L.drop (i + 1) := List.drop_eq_getElem_cons hil
  obtain ⟨b, o, rfl, hbw, hc⟩ := hQ.get hil
  obtain ⟨j0, hj0⟩ := he
  rw [hdr] at hj0
  obtain ⟨cc, hcc, hek⟩ := eat_kids hj0
  have hkd := nd_kind hnd
  have hft := ft_rng hnd
  have hfb := ft_bds hnd
  have hev := evL_cons (ftT t (H ww) (H hh)) L[i] (L.drop (i + 1))
  rw [← hdr] at hev
  obtain ⟨x, hx0⟩ : ∃ x, L[i] = x := ⟨_, rfl⟩
  rw [hx0] at hnd hdr hc hcc hkd hft hfb hev
  obtain ⟨R, hRR⟩ : ∃ R, evL (ftT t (H ww) (H hh)) (L.drop i) = R := ⟨_, rfl⟩
  rw [hRR] at hev ⊢
  obtain ⟨k, cn, f, ⟨a1, a2, a3⟩, ⟨b1, b2, b3⟩⟩ := x
  unfold exA at *
  have HB1 := below_oneT w (.cells #[.string s, .slice (some ⟨b, o, none⟩) n c] 29)
  have hx1 := heap_alloc_new w (.cells #[.string s, .slice (some ⟨b, o, none⟩) n c] 29)
  generalize hW1 : w.alloc (.cells #[.string s, .slice (some ⟨b, o, none⟩) n c] 29) = W1 at *
  have HB2 := below_oneT W1 (.cells #[.int .i64 t, .string nm, .int .i64 ww, .int .i64 hh] 31)
  have hx2 := heap_alloc_new W1 (.cells #[.int .i64 t, .string nm, .int .i64 ww, .int .i64 hh] 31)
  have hx1' := (HB2.block _ (blk_ltQ hx1)).trans hx1
  have HB0 := Lib.hid (HB1.trans (HB2.mono HB1.size))
  generalize hW : W1.alloc (.cells #[.int .i64 t, .string nm, .int .i64 ww, .int .i64 hh] 31) = W at *
  obtain ⟨q0, q1⟩ := q_cells hx1'
  obtain ⟨e0, e1, e2, e3⟩ := ex_cells hx2
  obtain ⟨d0, d1, d2, d3, d4, d5, d6, d7, d8⟩ := hc.below HB0.out hbw
  have HB3 := below_oneT W (.cells #[.int .i64 k, .int .i64 cn, .int .i64 f, .int .i64 a1, .int .i64 a2, .int .i64 a3, .int .i64 b1, .int .i64 b2, .int .i64 b3] 39)
  have hx3 := heap_alloc_new W (.cells #[.int .i64 k, .int .i64 cn, .int .i64 f, .int .i64 a1, .int .i64 a2, .int .i64 a3, .int .i64 b1, .int .i64 b2, .int .i64 b3] 39)
  generalize hW2 : W.alloc (.cells #[.int .i64 k, .int .i64 cn, .int .i64 f, .int .i64 a1, .int .i64 a2, .int .i64 a3, .int .i64 b1, .int .i64 b2, .int .i64 b3] 39) = W2 at *
  have HBB := Lib.hid (HB0.out.trans (HB3.mono HB0.out.size))
  have hq := (HB3.block _ (blk_ltQ hx1')).trans hx1'
  have hy := (HB3.block _ (blk_ltQ hx2)).trans hx2
  obtain ⟨u0, u1⟩ := q_cells hq
  obtain ⟨v0, v1, v2, v3⟩ := ex_cells hy
  obtain ⟨g0, g1, g2, g3, g4, g5, g6, g7, g8⟩ := qn_cells hx3
  have hi0z : (0 : Int) ≤ (i : Int) := by omega
  have hi1z : (i : Int) < (n : Int) := by omega
  have hib : (i : Int) ≤ 32 := by omega
  have HI2 : Hid ((i : Int) + 1 = ((i + 1 : Nat) : Int)) := Lib.hid (by omega)
  have HSY := Lib.hid (fun (k : Nat) (W : World) (h1 : i < k) (h2 : k < n) (h3 : ∃ j, eat (L.drop k) 1 = some j) (h4 : Below w.heap.size w W) => hsay k W h1 h2 h3 h4)
  have SPN := Lib.hid (fun (k : Nat) W (hk : k < n) (hW : Below w.heap.size w W) => refSpan_nat s (some ⟨b, o, none⟩) L n c hn (by omega) n k W (by omega) (hQ.below hW) (by omega))
  have HX0 := Lib.hid hq
  have HY0 := Lib.hid hy
  have HZ0 := Lib.hid hx3
  have SY := Lib.hid (fun (h1 : i + 1 < n) (h2 : ∃ j, eat (L.drop (i + 1)) 1 = some j) => hsay (i + 1) W2 (by omega) h1 h2 HBB.out)
  have HEV := Lib.hid hev
  have HEK := Lib.hid hek
  have HCC := Lib.hid hcc
  have HN := Lib.hid hn
  have HLE := Lib.hid (eat_le _ _ _ hek)
  clear hsay hev hek hcc hn hx1 hx1' hx2 hx3 HB1 HB2 HB3 hq hy hc hj0 hbw hdr hx0 hnd hR hRR
  rcases hkd with h4 | ⟨h3, hc3⟩ | ⟨hc2, h1 | h2⟩
  · simp only [] at h4
    subst h4
    have hfb' := hfb rfl
    have FT := Lib.hid (refFeature14_any 4 cn f a1 a2 a3 b1 b2 b3 t nm ww hh W2 hfb'.1.1 hfb'.1.2 (fun h => (hft rfl h).1) (fun h => (hft rfl h).2) hfb'.2.1 hfb'.2.2.1 hfb'.2.2.2.1 hfb'.2.2.2.2)
    have HF : Hid (R = ftT t (H ww) (H hh) ⟨4, cn, f, ⟨a1, a2, a3⟩, ⟨b1, b2, b3⟩⟩) := Lib.hid (by rw [HEV.out, if_neg (by simp), if_neg (by simp), if_neg (by simp)])
    clear hft hfb hfb'
    go_enter Try.func24, Try.ntmps24
    go_wp2_with fail
    refine (FT.out).mono ?_
    rintro e w1 ⟨rfl, hb⟩
    have HZ := Lib.hid (HBB.out.trans (hb.mono HBB.out.size))
    clear hb
    go_wp2_with fail
    go_ret
    exact ⟨by rw [HF.out]; rfl, HZ.out⟩
  · simp only [] at h3 hc3
    subst h3 hc3
    have HF : Hid (R = notT (evL (ftT t (H ww) (H hh)) (L.drop (i + 1)))) := Lib.hid (by rw [HEV.out, if_neg (by simp), if_neg (by simp), if_pos rfl])
    have HC : cc = 1 := by have h := HCC.out; unfold cntQ at h; simp at h; omega
    subst HC
    have hlt : i + 1 < n := by
      have h := HLE.out
      rw [List.length_drop, HN.out] at h; omega
    have S := Lib.hid (SY.out hlt ⟨_, HEK.out⟩)
    clear hft hfb
    go_enter Try.func24, Try.ntmps24
    go_wp2_with fail
    rw [HI2.out]
    refine (S.out).mono ?_
    rintro e w1 ⟨rfl, hb⟩
    have HZ := Lib.hid (HBB.out.trans (hb.mono HBB.out.size))
    clear hb
    go_wp2_with fail
    refine (refNot14_any _ _).mono ?_
    rintro e wq ⟨rfl, rfl⟩
    go_wp2_with fail
    go_ret
    exact ⟨by rw [HF.out]; rfl, HZ.out⟩
  · simp only [] at h1 hc2
    subst h1
    have HC : cn = (cc : Int) := by have h := HCC.out; unfold cntQ at h; simp at h; omega
    have HF : Hid (R = jnG (evL (ftT t (H ww) (H hh))) andT cc (L.drop (i + 1)) 1) := Lib.hid (by rw [HEV.out, if_pos rfl]; simp only []; rw [HC, Int.toNat_natCast])
    subst HC
    obtain ⟨c1, hc1⟩ : ∃ c1, cc = c1 + 1 := ⟨cc - 1, by omega⟩
    have hek := HEK.out
    rw [hc1] at hek
    obtain ⟨k1, g1, g2, g3, g4⟩ := eat_first hek
    rw [List.length_drop, HN.out] at g3
    have hlt : i + 1 < n := by omega
    have S := SY.out hlt ⟨_, g1⟩
    have SP := SPN.out (i + 1) W2 hlt HBB.out
    obtain ⟨y, hy⟩ : ∃ y, evL (ftT t (H ww) (H hh)) (L.drop (i + 1)) = y := ⟨_, rfl⟩
    have hok : ok3 y := by rw [← hy]; exact evL_ok (ft_ok t (H ww) (H hh)) _
    obtain ⟨k2, hk2⟩ : ∃ k2, i + 1 + k1 = k2 := ⟨_, rfl⟩
    have hsp : spanS L (i + 1) = k2 := by unfold spanS; rw [g1, ← hk2]
    have HJ : Hid (jnG (evL (ftT t (H ww) (H hh))) andT (cc - 1) (L.drop k2) y = R) := Lib.hid (by
      rw [HF.out, hc1, jnG_succ, g1, hy, TruP.and_one hok, Option.getD_some, List.drop_drop, hk2, Nat.add_sub_cancel])
    have HE2 : Hid (∃ m', eat (L.drop k2) (cc - 1) = some m') := Lib.hid ⟨_, by rw [← hk2, ← List.drop_drop, hc1, Nat.add_sub_cancel]; exact g4⟩
    have hcb : cc ≤ 32 := by
      have h := (eat_le _ _ _ HEK.out)
      rw [List.length_drop, HN.out] at h; omega
    have SPN1 := Lib.hid (fun W (hW : Below w.heap.size w W) => SPN.out (i + 1) W hlt hW)
    have hsp1 := SPN1.out
    rw [hsp] at hsp1
    have HSP := Lib.hid hsp1
    rw [hy] at S
    have HS := Lib.hid S
    have hk2n : k2 ≤ n := by omega
    have hik2 : i < k2 := by omega
    have hcc1 : 1 ≤ cc := by omega
    clear hft hfb hsp1 S SP hy hok hk2 hsp g1 g2 g3 g4 hek hc1 HEK HF HEV SPN1 SY
    go_enter Try.func24, Try.ntmps24
    go_wp2_with fail
    rw [HI2.out]
    refine (HS.out).mono ?_
    rintro e w1 ⟨rfl, hb⟩
    have hx := (hb.block _ (blk_ltQ HX0.out)).trans HX0.out
    have hyy := (hb.block _ (blk_ltQ HY0.out)).trans HY0.out
    have hzz := (hb.block _ (blk_ltQ HZ0.out)).trans HZ0.out
    have HB1 := Lib.hid (HBB.out.trans (hb.mono HBB.out.size))
    have HX1 := Lib.hid hx
    have HY1 := Lib.hid hyy
    have HZ1 := Lib.hid hzz
    obtain ⟨u0, u1⟩ := q_cells hx
    obtain ⟨v0, v1, v2, v3⟩ := ex_cells hyy
    clear hb hx hyy hzz
    go_wp2_with fail
    rw [HI2.out]
    refine (HSP.out _ HB1.out).mono ?_
    rintro e w2 ⟨rfl, hb⟩
    have hx := (hb.block _ (blk_ltQ HX1.out)).trans HX1.out
    have hyy := (hb.block _ (blk_ltQ HY1.out)).trans HY1.out
    have hzz := (hb.block _ (blk_ltQ HZ1.out)).trans HZ1.out
    have HB2 := Lib.hid (HB1.out.trans (hb.mono HB1.out.size))
    have HX2 := Lib.hid hx
    have HY2 := Lib.hid hyy
    have HZ2 := Lib.hid hzz
    clear hb hx hyy hzz
    go_wp2_with fail
    go_loopw [8, 9, 10] (fun va vk vj wr => ∃ (j k : Nat) (v : Int), va = .int .i64 v ∧ vk = .int .i64 (k : Int) ∧ vj = .int .i64 (j : Int) ∧ 1 ≤ j ∧ j ≤ cc ∧ k ≤ n ∧ i < k ∧ Hid (∃ m', eat (L.drop k) (cc - j) = some m') ∧ Hid (jnG (evL (ftT t (H ww) (H hh))) andT (cc - j) (L.drop k) v = R) ∧ Hid (Below w.heap.size w wr) ∧ Hid (wr.heap[w.heap.size]? = some (.cells #[.string s, .slice (some ⟨b, o, none⟩) n c] 29 (0, 0))) ∧ Hid (wr.heap[W1.heap.size]? = some (.cells #[.int .i64 t, .string nm, .int .i64 ww, .int .i64 hh] 31 (0, 0))) ∧ Hid (wr.heap[W.heap.size]? = some (.cells #[.int .i64 1, .int .i64 (cc : Int), .int .i64 f, .int .i64 a1, .int .i64 a2, .int .i64 a3, .int .i64 b1, .int .i64 b2, .int .i64 b3] 39 (0, 0)))) (fun _ _ vj _ => cc - (intOf vj).toNat)
    case atStart => exact ⟨1, k2, y, rfl, rfl, rfl, by omega, hcc1, hk2n, hik2, HE2, HJ, HB2, HX2, HY2, HZ2⟩
    case round =>
      obtain ⟨j, k, v, rfl, rfl, rfl, hj1, hj, hkn, hik, HE, HV, HB, HX, HY, HZ⟩ := hrel
      obtain ⟨u0, u1⟩ := q_cells HX.out
      obtain ⟨v0, v1, v2, v3⟩ := ex_cells HY.out
      obtain ⟨g0, g1, g2, g3, g4, g5, g6, g7, g8⟩ := qn_cells HZ.out
      by_cases hlt : j < cc
      · have hltz : (j : Int) < (cc : Int) := by omega
        obtain ⟨r, hr⟩ : ∃ r, cc - j = r + 1 := ⟨cc - j - 1, by omega⟩
        obtain ⟨m', hm'⟩ := HE.out
        rw [hr] at hm'
        obtain ⟨k1, h1, h2, h3, h4⟩ := eat_first hm'
        rw [List.length_drop, HN.out] at h3
        have hkl : k < n := by omega
        have hsp : spanS L k = k + k1 := by unfold spanS; rw [h1]
        have C1 := Lib.hid (fun W hW => HSY.out k W hik hkl ⟨k1, h1⟩ hW)
        obtain ⟨y, hy⟩ : ∃ y, evL (ftT t (H ww) (H hh)) (L.drop k) = y := ⟨_, rfl⟩
        have C2 := Lib.hid (fun W hW => SPN.out k W hkl hW)
        obtain ⟨k3, hk3⟩ : ∃ k3, k + k1 = k3 := ⟨_, rfl⟩
        have HV2 : Hid (jnG (evL (ftT t (H ww) (H hh))) andT r (L.drop k3) (andT v y) = R) := Lib.hid (by rw [← HV.out, hr, jnG_succ, h1, hy, Option.getD_some, List.drop_drop, hk3])
        have HE3 : Hid (∃ m', eat (L.drop k3) r = some m') := Lib.hid ⟨m' - k1, by rw [← hk3, ← List.drop_drop]; exact h4⟩
        rw [hsp, hk3] at C2
        rw [hy] at C1
        have hk3n : k3 ≤ n := by omega
        have hik3 : i < k3 := by omega
        have HRR := Lib.hid hr
        clear h1 h2 h3 h4 hm' hsp hy hk3 hr
        go_wp2_with fail
        refine (C1.out _ HB.out).mono ?_
        rintro e w4 ⟨rfl, hb⟩
        have hx := (hb.block _ (blk_ltQ HX.out)).trans HX.out
        have hyy := (hb.block _ (blk_ltQ HY.out)).trans HY.out
        have hzz := (hb.block _ (blk_ltQ HZ.out)).trans HZ.out
        have HB4 := Lib.hid (HB.out.trans (hb.mono HB.out.size))
        have HX4 := Lib.hid hx
        have HY4 := Lib.hid hyy
        have HZ4 := Lib.hid hzz
        obtain ⟨u0, u1⟩ := q_cells hx
        obtain ⟨v0, v1, v2, v3⟩ := ex_cells hyy
        obtain ⟨g0, g1, g2, g3, g4, g5, g6, g7, g8⟩ := qn_cells hzz
        clear hb hx hyy hzz
        go_wp2_with fail
        refine (refAnd14_any _ _ _).mono ?_
        rintro e wq ⟨rfl, rfl⟩
        go_wp2_with fail
        refine (C2.out _ HB4.out).mono ?_
        rintro e w5 ⟨rfl, hb⟩
        have hx := (hb.block _ (blk_ltQ HX4.out)).trans HX4.out
        have hyy := (hb.block _ (blk_ltQ HY4.out)).trans HY4.out
        have hzz := (hb.block _ (blk_ltQ HZ4.out)).trans HZ4.out
        have HB5 := Lib.hid (HB4.out.trans (hb.mono HB4.out.size))
        have HX5 := Lib.hid hx
        have HY5 := Lib.hid hyy
        have HZ5 := Lib.hid hzz
        clear hb hx hyy hzz
        go_wp2_with fail
        go_roundw
        case rel => exact ⟨j + 1, k3, andT v y, by rfl, by rfl, by go_num, by omega, by omega, hk3n, hik3, Lib.hid (by rw [show cc - (j + 1) = r by have := HRR.out; omega]; exact HE3.out), Lib.hid (by rw [show cc - (j + 1) = r by have := HRR.out; omega]; exact HV2.out), HB5, HX5, HY5, HZ5⟩
        case measure => simp [intOf]; omega
      · have hltz : ¬ (j : Int) < (cc : Int) := by omega
        have HF : Hid (v = R) := Lib.hid (by
          have h := HV.out
          rw [show cc - j = 0 by omega] at h; exact h)
        go_wp2_with fail
        go_ret
        exact ⟨ret_intF HF.out, HB.out⟩
  · simp only [] at h2 hc2
    subst h2
    have HC : cn = (cc : Int) := by have h := HCC.out; unfold cntQ at h; simp at h; omega
    have HF : Hid (R = jnG (evL (ftT t (H ww) (H hh))) orT cc (L.drop (i + 1)) 0) := Lib.hid (by rw [HEV.out, if_neg (by simp), if_pos rfl]; simp only []; rw [HC, Int.toNat_natCast])
    subst HC
    obtain ⟨c1, hc1⟩ : ∃ c1, cc = c1 + 1 := ⟨cc - 1, by omega⟩
    have hek := HEK.out
    rw [hc1] at hek
    obtain ⟨k1, g1, g2, g3, g4⟩ := eat_first hek
    rw [List.length_drop, HN.out] at g3
    have hlt : i + 1 < n := by omega
    have S := SY.out hlt ⟨_, g1⟩
    have SP := SPN.out (i + 1) W2 hlt HBB.out
    obtain ⟨y, hy⟩ : ∃ y, evL (ftT t (H ww) (H hh)) (L.drop (i + 1)) = y := ⟨_, rfl⟩
    have hok : ok3 y := by rw [← hy]; exact evL_ok (ft_ok t (H ww) (H hh)) _
    obtain ⟨k2, hk2⟩ : ∃ k2, i + 1 + k1 = k2 := ⟨_, rfl⟩
    have hsp : spanS L (i + 1) = k2 := by unfold spanS; rw [g1, ← hk2]
    have HJ : Hid (jnG (evL (ftT t (H ww) (H hh))) orT (cc - 1) (L.drop k2) y = R) := Lib.hid (by
      rw [HF.out, hc1, jnG_succ, g1, hy, TruP.or_zero hok, Option.getD_some, List.drop_drop, hk2, Nat.add_sub_cancel])
    have HE2 : Hid (∃ m', eat (L.drop k2) (cc - 1) = some m') := Lib.hid ⟨_, by rw [← hk2, ← List.drop_drop, hc1, Nat.add_sub_cancel]; exact g4⟩
    have hcb : cc ≤ 32 := by
      have h := (eat_le _ _ _ HEK.out)
      rw [List.length_drop, HN.out] at h; omega
    have SPN1 := Lib.hid (fun W (hW : Below w.heap.size w W) => SPN.out (i + 1) W hlt hW)
    have hsp1 := SPN1.out
    rw [hsp] at hsp1
    have HSP := Lib.hid hsp1
    rw [hy] at S
    have HS := Lib.hid S
    have hk2n : k2 ≤ n := by omega
    have hik2 : i < k2 := by omega
    have hcc1 : 1 ≤ cc := by omega
    clear hft hfb hsp1 S SP hy hok hk2 hsp g1 g2 g3 g4 hek hc1 HEK HF HEV SPN1 SY
    go_enter Try.func24, Try.ntmps24
    go_wp2_with fail
    rw [HI2.out]
    refine (HS.out).mono ?_
    rintro e w1 ⟨rfl, hb⟩
    have hx := (hb.block _ (blk_ltQ HX0.out)).trans HX0.out
    have hyy := (hb.block _ (blk_ltQ HY0.out)).trans HY0.out
    have hzz := (hb.block _ (blk_ltQ HZ0.out)).trans HZ0.out
    have HB1 := Lib.hid (HBB.out.trans (hb.mono HBB.out.size))
    have HX1 := Lib.hid hx
    have HY1 := Lib.hid hyy
    have HZ1 := Lib.hid hzz
    obtain ⟨u0, u1⟩ := q_cells hx
    obtain ⟨v0, v1, v2, v3⟩ := ex_cells hyy
    clear hb hx hyy hzz
    go_wp2_with fail
    rw [HI2.out]
    refine (HSP.out _ HB1.out).mono ?_
    rintro e w2 ⟨rfl, hb⟩
    have hx := (hb.block _ (blk_ltQ HX1.out)).trans HX1.out
    have hyy := (hb.block _ (blk_ltQ HY1.out)).trans HY1.out
    have hzz := (hb.block _ (blk_ltQ HZ1.out)).trans HZ1.out
    have HB2 := Lib.hid (HB1.out.trans (hb.mono HB1.out.size))
    have HX2 := Lib.hid hx
    have HY2 := Lib.hid hyy
    have HZ2 := Lib.hid hzz
    clear hb hx hyy hzz
    go_wp2_with fail
    go_loopw [8, 9, 10] (fun va vk vj wr => ∃ (j k : Nat) (v : Int), va = .int .i64 v ∧ vk = .int .i64 (k : Int) ∧ vj = .int .i64 (j : Int) ∧ 1 ≤ j ∧ j ≤ cc ∧ k ≤ n ∧ i < k ∧ Hid (∃ m', eat (L.drop k) (cc - j) = some m') ∧ Hid (jnG (evL (ftT t (H ww) (H hh))) orT (cc - j) (L.drop k) v = R) ∧ Hid (Below w.heap.size w wr) ∧ Hid (wr.heap[w.heap.size]? = some (.cells #[.string s, .slice (some ⟨b, o, none⟩) n c] 29 (0, 0))) ∧ Hid (wr.heap[W1.heap.size]? = some (.cells #[.int .i64 t, .string nm, .int .i64 ww, .int .i64 hh] 31 (0, 0))) ∧ Hid (wr.heap[W.heap.size]? = some (.cells #[.int .i64 2, .int .i64 (cc : Int), .int .i64 f, .int .i64 a1, .int .i64 a2, .int .i64 a3, .int .i64 b1, .int .i64 b2, .int .i64 b3] 39 (0, 0)))) (fun _ _ vj _ => cc - (intOf vj).toNat)
    case atStart => exact ⟨1, k2, y, rfl, rfl, rfl, by omega, hcc1, hk2n, hik2, HE2, HJ, HB2, HX2, HY2, HZ2⟩
    case round =>
      obtain ⟨j, k, v, rfl, rfl, rfl, hj1, hj, hkn, hik, HE, HV, HB, HX, HY, HZ⟩ := hrel
      obtain ⟨u0, u1⟩ := q_cells HX.out
      obtain ⟨v0, v1, v2, v3⟩ := ex_cells HY.out
      obtain ⟨g0, g1, g2, g3, g4, g5, g6, g7, g8⟩ := qn_cells HZ.out
      by_cases hlt : j < cc
      · have hltz : (j : Int) < (cc : Int) := by omega
        obtain ⟨r, hr⟩ : ∃ r, cc - j = r + 1 := ⟨cc - j - 1, by omega⟩
        obtain ⟨m', hm'⟩ := HE.out
        rw [hr] at hm'
        obtain ⟨k1, h1, h2, h3, h4⟩ := eat_first hm'
        rw [List.length_drop, HN.out] at h3
        have hkl : k < n := by omega
        have hsp : spanS L k = k + k1 := by unfold spanS; rw [h1]
        have C1 := Lib.hid (fun W hW => HSY.out k W hik hkl ⟨k1, h1⟩ hW)
        obtain ⟨y, hy⟩ : ∃ y, evL (ftT t (H ww) (H hh)) (L.drop k) = y := ⟨_, rfl⟩
        have C2 := Lib.hid (fun W hW => SPN.out k W hkl hW)
        obtain ⟨k3, hk3⟩ : ∃ k3, k + k1 = k3 := ⟨_, rfl⟩
        have HV2 : Hid (jnG (evL (ftT t (H ww) (H hh))) orT r (L.drop k3) (orT v y) = R) := Lib.hid (by rw [← HV.out, hr, jnG_succ, h1, hy, Option.getD_some, List.drop_drop, hk3])
        have HE3 : Hid (∃ m', eat (L.drop k3) r = some m') := Lib.hid ⟨m' - k1, by rw [← hk3, ← List.drop_drop]; exact h4⟩
        rw [hsp, hk3] at C2
        rw [hy] at C1
        have hk3n : k3 ≤ n := by omega
        have hik3 : i < k3 := by omega
        have HRR := Lib.hid hr
        clear h1 h2 h3 h4 hm' hsp hy hk3 hr
        go_wp2_with fail
        refine (C1.out _ HB.out).mono ?_
        rintro e w4 ⟨rfl, hb⟩
        have hx := (hb.block _ (blk_ltQ HX.out)).trans HX.out
        have hyy := (hb.block _ (blk_ltQ HY.out)).trans HY.out
        have hzz := (hb.block _ (blk_ltQ HZ.out)).trans HZ.out
        have HB4 := Lib.hid (HB.out.trans (hb.mono HB.out.size))
        have HX4 := Lib.hid hx
        have HY4 := Lib.hid hyy
        have HZ4 := Lib.hid hzz
        obtain ⟨u0, u1⟩ := q_cells hx
        obtain ⟨v0, v1, v2, v3⟩ := ex_cells hyy
        obtain ⟨g0, g1, g2, g3, g4, g5, g6, g7, g8⟩ := qn_cells hzz
        clear hb hx hyy hzz
        go_wp2_with fail
        refine (refOr14_any _ _ _).mono ?_
        rintro e wq ⟨rfl, rfl⟩
        go_wp2_with fail
        refine (C2.out _ HB4.out).mono ?_
        rintro e w5 ⟨rfl, hb⟩
        have hx := (hb.block _ (blk_ltQ HX4.out)).trans HX4.out
        have hyy := (hb.block _ (blk_ltQ HY4.out)).trans HY4.out
        have hzz := (hb.block _ (blk_ltQ HZ4.out)).trans HZ4.out
        have HB5 := Lib.hid (HB4.out.trans (hb.mono HB4.out.size))
        have HX5 := Lib.hid hx
        have HY5 := Lib.hid hyy
        have HZ5 := Lib.hid hzz
        clear hb hx hyy hzz
        go_wp2_with fail
        go_roundw
        case rel => exact ⟨j + 1, k3, orT v y, by rfl, by rfl, by go_num, by omega, by omega, hk3n, hik3, Lib.hid (by rw [show cc - (j + 1) = r by have := HRR.out; omega]; exact HE3.out), Lib.hid (by rw [show cc - (j + 1) = r by have := HRR.out; omega]; exact HV2.out), HB5, HX5, HY5, HZ5⟩
        case measure => simp [intOf]; omega
      · have hltz : ¬ (j : Int) < (cc : Int) := by omega
        have HF : Hid (v = R) := Lib.hid (by
          have h := HV.out
          rw [show cc - j = 0 by omega] at h; exact h)
        go_wp2_with fail
        go_ret
        exact ⟨ret_intF HF.out, HB.out⟩
theorem refNode14_any (s : ByteArray) (a : Option Addr) (L : List QN) (n c : Nat) (t : Int) (nm : ByteArray) (ww hh : Int) (hn : L.length = n) (hm : n ≤ 32) (hR : L.all ndR = true) :
    ∀ (fuel i : Nat) (w : World), n - i ≤ fuel → i < n → Qns w a L → (∃ j, eat (L.drop i) 1 = some j) → Calls Try.prog 24 #[.agg #[.string s, .slice a n c], .int .i64 (i : Int), .agg (exA t nm ww hh)] w fun e w' => e = .returned (.int .i64 (evL (ftT t (H ww) (H hh)) (L.drop i))) ∧ Below w.heap.size w w'
  | 0, i, w, hf, hi, _, _ => by omega
  | fuel + 1, i, w, hf, hi, hQ, he => refNode14_step s a L n c i t nm ww hh w hn hm hi hQ hR he fun k W hik hk hek hB => refNode14_any s a L n c t nm ww hh hn hm hR fuel k W (by omega) hk (hQ.below hB) hek
set_option maxRecDepth 100000 in
set_option maxHeartbeats 8000000 in
theorem refEval14_any (x : List UInt8) (hs : x.length ≤ maxLen) (a : Option Addr) (L : List QN) (n c : Nat) (t : Int) (nm : ByteArray) (ww hh : Int) (w : World) (hn : L.length = n) (hm : n ≤ maxLen) (hQ : Qns w a L) :
    Calls Try.prog 17 #[.agg #[.string ⟨x.toArray⟩, .slice a n c], .agg (exA t nm ww hh)] w fun e w' => e = .returned (.int .i64 (sayQ ⟨x.toArray⟩ L t ww hh)) ∧ Below w.heap.size w w' := by
  unfold exA sayQ
  have RQ := fun W (hW : Below w.heap.size w W) => refRight8_any x hs a L n c W hn hm (hQ.below hW)
  have hrq : ∃ r, rightQ ⟨x.toArray⟩ L = r := ⟨_, rfl⟩
  obtain ⟨r, hr⟩ := hrq
  rw [hr] at RQ ⊢
  obtain ⟨R, hRv⟩ : ∃ R, (if r = true then evL (ftT t (H ww) (H hh)) L else 2) = R := ⟨_, rfl⟩
  rw [hRv]
  have HRV := Lib.hid hRv
  clear hRv
  have RR := Lib.hid RQ
  have HR := Lib.hid hr
  have HRT : Hid (rightQ ⟨x.toArray⟩ L = true → n ≤ 32 ∧ L.all ndR = true ∧ 0 < n ∧ ∃ j, eat (L.drop 0) 1 = some j) := Lib.hid (fun h => by
    unfold rightQ at h
    rw [Bool.and_eq_true, Bool.and_eq_true, decide_eq_true_eq] at h
    obtain ⟨_, h2, h3, h4, h5⟩ := h
    refine ⟨by omega, h2, by omega, ?_⟩
    unfold spanS at h5
    cases he : eat (L.drop 0) 1 with
    | none => rw [he] at h5; simp only [] at h5; omega
    | some j => exact ⟨j, rfl⟩)
  have HQ := Lib.hid hQ
  have HN := Lib.hid hn
  have HB1 := below_oneT w (.cells #[.string ⟨x.toArray⟩, .slice a n c] 29)
  have hx1 := heap_alloc_new w (.cells #[.string ⟨x.toArray⟩, .slice a n c] 29)
  generalize hW1 : w.alloc (.cells #[.string ⟨x.toArray⟩, .slice a n c] 29) = W1 at *
  have HB2 := below_oneT W1 (.cells #[.int .i64 t, .string nm, .int .i64 ww, .int .i64 hh] 31)
  have hx2 := heap_alloc_new W1 (.cells #[.int .i64 t, .string nm, .int .i64 ww, .int .i64 hh] 31)
  have hx1' := (HB2.block _ (blk_ltQ hx1)).trans hx1
  have HB0 := Lib.hid (HB1.trans (HB2.mono HB1.size))
  have HE0 := Lib.hid (blk_ltQ hx1)
  generalize hW : W1.alloc (.cells #[.int .i64 t, .string nm, .int .i64 ww, .int .i64 hh] 31) = W at *
  have HX0 := Lib.hid hx1'
  have HY0 := Lib.hid hx2
  obtain ⟨q0, q1⟩ := q_cells hx1'
  obtain ⟨e0, e1, e2, e3⟩ := ex_cells hx2
  clear RQ hr hQ hn HB1 HB2 hx1 hx2 hx1'
  go_enter Try.func17, Try.ntmps17
  go_wp2_with fail
  refine (RR.out _ HB0.out).mono ?_
  rintro e w1 ⟨rfl, hb⟩
  have hx := (hb.block _ (blk_ltQ HX0.out)).trans HX0.out
  have hy := (hb.block _ (blk_ltQ HY0.out)).trans HY0.out
  have HB1 := Lib.hid (HB0.out.trans (hb.mono HB0.out.size))
  have HX1 := Lib.hid hx
  have HY1 := Lib.hid hy
  obtain ⟨q0, q1⟩ := q_cells hx
  obtain ⟨e0, e1, e2, e3⟩ := ex_cells hy
  clear hb hx hy
  cases r
  · have HF : Hid (R = 2) := Lib.hid (by rw [← HRV.out, if_neg (by decide)])
    go_wp2_with fail
    go_ret
    exact ⟨by rw [HF.out]; rfl, HB1.out⟩
  · have HF : Hid (R = evL (ftT t (H ww) (H hh)) L) := Lib.hid (by rw [← HRV.out, if_pos rfl])
    go_wp2_with fail
    refine (refNode14_any ⟨x.toArray⟩ a L n c t nm ww hh HN.out (HRT.out HR.out).1 (HRT.out HR.out).2.1 n 0 w1 (by omega) (HRT.out HR.out).2.2.1 (HQ.out.below HB1.out) (HRT.out HR.out).2.2.2).mono ?_
    rintro e w6 ⟨rfl, hb⟩
    have HZ := Lib.hid (HB1.out.trans (hb.mono HB1.out.size))
    clear hb
    go_wp2_with fail
    go_ret
    exact ⟨by rw [HF.out]; rfl, HZ.out⟩
end Go.Proofs.Ytoaenlbbochjhaa
