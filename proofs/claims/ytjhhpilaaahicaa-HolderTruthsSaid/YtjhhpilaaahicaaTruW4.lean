/- Layer 14: what a node says. -/
import Derived.Test.YtjhhpilaaahicaaTruW3
namespace Go.Proofs.Ytjhhpilaaahicaa
open Go.RowKit FixM FixP TreN QryP TruP
set_option linter.unusedVariables false

theorem ft_rng {x : QN} (h : ndR x = true) (h4 : x.kind = 4) (h5 : x.feat = 5) : ((-1073741824 ≤ x.lo.n ∧ x.lo.n ≤ 1073741824) ∧ (-1073741824 ≤ x.lo.d ∧ x.lo.d ≤ 1073741824)) ∧ ((-1073741824 ≤ x.hi.n ∧ x.hi.n ≤ 1073741824) ∧ (-1073741824 ≤ x.hi.d ∧ x.hi.d ≤ 1073741824)) := by
  have B : ∀ b : Bd, (thrB b = false ∨ bdR 5 b = true) → ((-1073741824 ≤ b.n ∧ b.n ≤ 1073741824) ∧ (-1073741824 ≤ b.d ∧ b.d ≤ 1073741824)) := by
    intro b hb
    rcases hb with hb | hb
    · rw [thrB_no] at hb; omega
    · unfold bdR at hb
      rw [if_neg (by decide), if_pos rfl, Bool.and_eq_true, decide_eq_true_eq, decide_eq_true_eq] at hb
      omega
  unfold ndR at h
  rw [if_pos h4] at h
  unfold ftR at h
  rw [h5, Bool.and_eq_true] at h
  have h2 := h.2
  cases hh : thrB x.hi with
  | false =>
    rw [hh, if_pos rfl, Bool.not_eq_true'] at h2
    exact ⟨B _ (Or.inl h2), B _ (Or.inl hh)⟩
  | true =>
    rw [hh, if_neg (by decide), Bool.and_eq_true] at h2
    refine ⟨?_, B _ (Or.inr h2.1)⟩
    have h3 := h2.2
    cases hl : thrB x.lo with
    | false => exact B _ (Or.inl hl)
    | true =>
      rw [hl, Bool.not_true, Bool.false_or, Bool.and_eq_true, Bool.and_eq_true] at h3
      exact B _ (Or.inr h3.2.1)
theorem nd_kind {x : QN} (h : ndR x = true) : x.kind = 4 ∨ (x.kind = 3 ∧ x.count = 1) ∨ (2 ≤ x.count ∧ (x.kind = 1 ∨ x.kind = 2)) := by
  unfold ndR at h
  by_cases h4 : x.kind = 4
  · exact Or.inl h4
  · rw [if_neg h4, Bool.and_eq_true] at h
    exact Or.inr (of_decide_eq_true h.2)

theorem enters_and14 : ∀ args w, (callFunc 20 args).run Try.prog w = .ok (.enter 20 args) w := enters_of Try.func20 (by kernel_rfl) rfl
theorem enters_or14 : ∀ args w, (callFunc 22 args).run Try.prog w = .ok (.enter 22 args) w := enters_of Try.func22 (by kernel_rfl) rfl

set_option maxRecDepth 100000 in
set_option maxHeartbeats 8000000 in
theorem says14_step (s : ByteArray) (a : Option Addr) (L : List QN) (n c i : Nat) (t : Int) (nm : ByteArray) (ww hh : Int) (w : World) (hw : -1073741824 ≤ ww ∧ ww ≤ 1073741824) (hh' : -1073741824 ≤ hh ∧ hh ≤ 1073741824) (hn : L.length = n) (hm : n ≤ 32) (hi : i < n) (hQ : Qns w a L) (hR : L.all ndR = true) (he : ∃ j, eat (L.drop i) 1 = some j)
    (hsay : ∀ (k : Nat) (W : World), i < k → k < n → (∃ j, eat (L.drop k) 1 = some j) → Below w.heap.size w W → Calls Try.prog 48 #[.agg #[.string s, .slice a n c], .int .i64 (k : Int), .agg (exA t nm ww hh)] W fun e w' => e = .returned (.int .i64 (evL (ftT t ww hh) (L.drop k))) ∧ Below W.heap.size W w') :
    Calls Try.prog 48 #[.agg #[.string s, .slice a n c], .int .i64 (i : Int), .agg (exA t nm ww hh)] w fun e w' => e = .returned (.int .i64 (evL (ftT t ww hh) (L.drop i))) ∧ Below w.heap.size w w' := by
  have hil : i < L.length := by omega
  have hsayF : ∀ (k : Nat) (W : World), i < k → k < n → (∃ j, eat (L.drop k) 1 = some j) → Below w.heap.size w W → ∀ (k' : Nat) (W' : World), i < k' → k' < n → (∃ j, eat (L.drop k') 1 = some j) → Below W.heap.size W W' → Calls Try.prog 48 #[.agg #[.string s, .slice a n c], .int .i64 (k' : Int), .agg (exA t nm ww hh)] W' fun e w' => e = .returned (.int .i64 (evL (ftT t ww hh) (L.drop k'))) ∧ Below W'.heap.size W' w' :=
    fun k W h1 h2 h3 h4 k' W' g1 g2 g3 g4 => hsay k' W' g1 g2 g3 (h4.trans (g4.mono h4.size))
  clear hsayF
  have hnd : ndR L[i] = true := List.all_eq_true.1 hR _ (List.getElem_mem hil)
  have hdr : L.drop i = L[i] :: L.drop (i + 1) := List.drop_eq_getElem_cons hil
  obtain ⟨b, o, rfl, hbw, hc⟩ := hQ.get hil
  obtain ⟨j0, hj0⟩ := he
  rw [hdr] at hj0
  obtain ⟨cc, hcc, hek⟩ := eat_kids hj0
  have hkd := nd_kind hnd
  have hft := ft_rng hnd
  have JN := fun (q : Nat) op eq hop z W (hW : Below w.heap.size w W) (hcn : L[i].count = ((cc : Nat) : Int)) => joined14_any q op eq hop s (some ⟨b, o, none⟩) L n c i cc (j0 - 1) L[i] (ftT t ww hh) t nm ww hh z W hn hm hil rfl hcn (hQ.below hW) hek (fun k W' h1 h2 h3 h4 => hsay k W' h1 h2 h3 (hW.trans (h4.mono hW.size)))
  have hev := evL_cons (ftT t ww hh) L[i] (L.drop (i + 1))
  rw [← hdr] at hev
  obtain ⟨x, hx0⟩ : ∃ x, L[i] = x := ⟨_, rfl⟩
  rw [hx0] at hnd hdr hc hcc hkd hft JN hev
  obtain ⟨R, hRR⟩ : ∃ R, evL (ftT t ww hh) (L.drop i) = R := ⟨_, rfl⟩
  rw [hRR] at hev ⊢
  obtain ⟨k, cn, f, ⟨a1, a2, a3⟩, ⟨b1, b2, b3⟩⟩ := x
  unfold exA at *
  have HB1 := below_oneT w (.cells #[.string s, .slice (some ⟨b, o, none⟩) n c] 25)
  have hx1 := heap_alloc_new w (.cells #[.string s, .slice (some ⟨b, o, none⟩) n c] 25)
  generalize hW1 : w.alloc (.cells #[.string s, .slice (some ⟨b, o, none⟩) n c] 25) = W1 at *
  have HB2 := below_oneT W1 (.cells #[.int .i64 t, .string nm, .int .i64 ww, .int .i64 hh] 44)
  have hx2 := heap_alloc_new W1 (.cells #[.int .i64 t, .string nm, .int .i64 ww, .int .i64 hh] 44)
  have hx1' := (HB2.block _ (blk_ltQ hx1)).trans hx1
  have HB0 := Lib.hid (HB1.trans (HB2.mono HB1.size))
  generalize hW : W1.alloc (.cells #[.int .i64 t, .string nm, .int .i64 ww, .int .i64 hh] 44) = W at *
  obtain ⟨q0, q1⟩ := q_cells hx1'
  obtain ⟨e0, e1, e2, e3⟩ := ex_cells hx2
  obtain ⟨d0, d1, d2, d3, d4, d5, d6, d7, d8⟩ := hc.below HB0.out hbw
  have HB3 := below_oneT W (.cells #[.int .i64 k, .int .i64 cn, .int .i64 f, .int .i64 a1, .int .i64 a2, .int .i64 a3, .int .i64 b1, .int .i64 b2, .int .i64 b3] 52)
  have hx3 := heap_alloc_new W (.cells #[.int .i64 k, .int .i64 cn, .int .i64 f, .int .i64 a1, .int .i64 a2, .int .i64 a3, .int .i64 b1, .int .i64 b2, .int .i64 b3] 52)
  generalize hW2 : W.alloc (.cells #[.int .i64 k, .int .i64 cn, .int .i64 f, .int .i64 a1, .int .i64 a2, .int .i64 a3, .int .i64 b1, .int .i64 b2, .int .i64 b3] 52) = W2 at *
  have HBB := Lib.hid (HB0.out.trans (HB3.mono HB0.out.size))
  have hq := (HB3.block _ (blk_ltQ hx1')).trans hx1'
  have hy := (HB3.block _ (blk_ltQ hx2)).trans hx2
  obtain ⟨u0, u1⟩ := q_cells hq
  obtain ⟨v0, v1, v2, v3⟩ := ex_cells hy
  obtain ⟨g0, g1, g2, g3, g4, g5, g6, g7, g8⟩ := qn_cells hx3
  have hi0z : (0 : Int) ≤ (i : Int) := by omega
  have hi1z : (i : Int) < (n : Int) := by omega
  have hib : (i : Int) ≤ 32 := by omega
  have HI2 : Hid ((i : Int) + 1 = ((i + 1 : Nat) : Int)) := Lib.hid (by omega)
  have SY := Lib.hid (fun (h1 : i + 1 < n) (h2 : ∃ j, eat (L.drop (i + 1)) 1 = some j) => hsay (i + 1) W2 (by omega) h1 h2 HBB.out)
  have JA := Lib.hid (fun hcn => JN 20 andT enters_and14 and14_any 1 W2 HBB.out hcn)
  have JO := Lib.hid (fun hcn => JN 22 orT enters_or14 or14_any 0 W2 HBB.out hcn)
  have HEV := Lib.hid hev
  have HEK := Lib.hid hek
  have HCC := Lib.hid hcc
  have HN := Lib.hid hn
  have HLE := Lib.hid (eat_le _ _ _ hek)
  clear hsay JN hev hek hcc hn hx1 hx1' hx2 hx3 HB1 HB2 HB3 hq hy hc hj0 hbw hdr hx0 hnd hR hRR
  rcases hkd with h4 | ⟨h3, hc3⟩ | ⟨hc2, h1 | h2⟩
  · simp only [] at h4
    subst h4
    have FT := Lib.hid (feature14_any 4 cn f a1 a2 a3 b1 b2 b3 t nm ww hh W2 hw hh' (fun h => (hft rfl h).1) (fun h => (hft rfl h).2))
    have HF : Hid (R = ftT t ww hh ⟨4, cn, f, ⟨a1, a2, a3⟩, ⟨b1, b2, b3⟩⟩) := Lib.hid (by rw [HEV.out, if_neg (by simp), if_neg (by simp), if_neg (by simp)])
    clear hft
    go_enter Try.func48, Try.ntmps48
    go_wp2_with fail
    refine (FT.out).mono ?_
    rintro e w1 ⟨rfl, hb⟩
    have HZ := Lib.hid (HBB.out.trans (hb.mono HBB.out.size))
    clear hb
    go_wp2_with fail
    go_ret
    exact ⟨by rw [HF.out]; rfl, HZ.out⟩
  · simp only [] at h3 hc3
    subst h3 hc3
    have HF : Hid (R = notT (evL (ftT t ww hh) (L.drop (i + 1)))) := Lib.hid (by rw [HEV.out, if_neg (by simp), if_neg (by simp), if_pos rfl])
    have HC : cc = 1 := by have h := HCC.out; unfold cntQ at h; simp at h; omega
    subst HC
    have hlt : i + 1 < n := by
      have h := HLE.out
      rw [List.length_drop, HN.out] at h; omega
    have S := Lib.hid (SY.out hlt ⟨_, HEK.out⟩)
    clear hft
    go_enter Try.func48, Try.ntmps48
    go_wp2_with fail
    rw [HI2.out]
    refine (S.out).mono ?_
    rintro e w1 ⟨rfl, hb⟩
    have HZ := Lib.hid (HBB.out.trans (hb.mono HBB.out.size))
    clear hb
    go_wp2_with fail
    refine (not14_any _ _).mono ?_
    rintro e wq ⟨rfl, rfl⟩
    go_wp2_with fail
    go_ret
    exact ⟨by rw [HF.out]; rfl, HZ.out⟩
  · simp only [] at h1 hc2
    subst h1
    have HC : cn = (cc : Int) := by have h := HCC.out; unfold cntQ at h; simp at h; omega
    have HF : Hid (R = jnG (evL (ftT t ww hh)) andT cc (L.drop (i + 1)) 1) := Lib.hid (by rw [HEV.out, if_pos rfl]; simp only []; rw [HC, Int.toNat_natCast])
    have S := Lib.hid (JA.out HC)
    clear hft HC
    go_enter Try.func48, Try.ntmps48
    go_wp2_with fail
    refine (S.out).mono ?_
    rintro e w1 ⟨rfl, hb⟩
    have HZ := Lib.hid (HBB.out.trans (hb.mono HBB.out.size))
    clear hb
    go_wp2_with fail
    go_ret
    exact ⟨by rw [HF.out]; rfl, HZ.out⟩
  · simp only [] at h2 hc2
    subst h2
    have HC : cn = (cc : Int) := by have h := HCC.out; unfold cntQ at h; simp at h; omega
    have HF : Hid (R = jnG (evL (ftT t ww hh)) orT cc (L.drop (i + 1)) 0) := Lib.hid (by rw [HEV.out, if_neg (by simp), if_pos rfl]; simp only []; rw [HC, Int.toNat_natCast])
    have S := Lib.hid (JO.out HC)
    clear hft HC
    go_enter Try.func48, Try.ntmps48
    go_wp2_with fail
    refine (S.out).mono ?_
    rintro e w1 ⟨rfl, hb⟩
    have HZ := Lib.hid (HBB.out.trans (hb.mono HBB.out.size))
    clear hb
    go_wp2_with fail
    go_ret
    exact ⟨by rw [HF.out]; rfl, HZ.out⟩
theorem says14_any (s : ByteArray) (a : Option Addr) (L : List QN) (n c : Nat) (t : Int) (nm : ByteArray) (ww hh : Int) (hw : -1073741824 ≤ ww ∧ ww ≤ 1073741824) (hh' : -1073741824 ≤ hh ∧ hh ≤ 1073741824) (hn : L.length = n) (hm : n ≤ 32) (hR : L.all ndR = true) :
    ∀ (fuel i : Nat) (w : World), n - i ≤ fuel → i < n → Qns w a L → (∃ j, eat (L.drop i) 1 = some j) → Calls Try.prog 48 #[.agg #[.string s, .slice a n c], .int .i64 (i : Int), .agg (exA t nm ww hh)] w fun e w' => e = .returned (.int .i64 (evL (ftT t ww hh) (L.drop i))) ∧ Below w.heap.size w w'
  | 0, i, w, hf, hi, _, _ => by omega
  | fuel + 1, i, w, hf, hi, hQ, he => says14_step s a L n c i t nm ww hh w hw hh' hn hm hi hQ hR he fun k W hik hk hek hB => says14_any s a L n c t nm ww hh hw hh' hn hm hR fuel k W (by omega) hk (hQ.below hB) hek
end Go.Proofs.Ytjhhpilaaahicaa
