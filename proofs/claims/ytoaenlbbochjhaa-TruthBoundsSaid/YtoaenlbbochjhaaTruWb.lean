/- Joined texts: TruW4 TruW5. -/
import Derived.Test.YtoaenlbbochjhaaTruWa
import Derived.Deep.RegionWith
namespace Go.Proofs.Ytoaenlbbochjhaa
open Go.RowKit FixM FixP TreN QryP TruP
set_option linter.unusedVariables false

theorem ft_rng {x : QN} (h : ndR x = true) (h4 : x.kind = 4) (h5 : x.feat = 5) : ((-1073741824 ≤ x.lo.n ∧ x.lo.n ≤ 1073741824) ∧ (-1073741824 ≤ x.lo.d ∧ x.lo.d ≤ 1073741824)) ∧ ((-1073741824 ≤ x.hi.n ∧ x.hi.n ≤ 1073741824) ∧ (-1073741824 ≤ x.hi.d ∧ x.hi.d ≤ 1073741824)) := by
  have B : ∀ b : Bd, (thrB b = false ∨ bdR 5 b = true) → ((-1073741824 ≤ b.n ∧ b.n ≤ 1073741824) ∧ (-1073741824 ≤ b.d ∧ b.d ≤ 1073741824)) := by
    intro b hb
    rcases hb with hb | hb
    · rw [thrB_no] at hb; omega
    · unfold bdR at hb
      rw [if_neg (by decide), if_pos rfl, Bool.and_eq_true, decide_eq_true_eq, decide_eq_true_eq] at hb
      omega
  unfold ndR at h
  rw [if_pos h4] at h
  unfold ftR at h
  rw [h5, Bool.and_eq_true] at h
  have h2 := h.2
  cases hh : thrB x.hi with
  | false =>
    rw [hh, if_pos rfl, Bool.not_eq_true'] at h2
    exact ⟨B _ (Or.inl h2), B _ (Or.inl hh)⟩
  | true =>
    rw [hh, if_neg (by decide), Bool.and_eq_true] at h2
    refine ⟨?_, B _ (Or.inr h2.1)⟩
    have h3 := h2.2
    cases hl : thrB x.lo with
    | false => exact B _ (Or.inl hl)
    | true =>
      rw [hl, Bool.not_true, Bool.false_or, Bool.and_eq_true, Bool.and_eq_true] at h3
      exact B _ (Or.inr h3.2.1)
theorem nd_kind {x : QN} (h : ndR x = true) : x.kind = 4 ∨ (x.kind = 3 ∧ x.count = 1) ∨ (2 ≤ x.count ∧ (x.kind = 1 ∨ x.kind = 2)) := by
  unfold ndR at h
  by_cases h4 : x.kind = 4
  · exact Or.inl h4
  · rw [if_neg h4, Bool.and_eq_true] at h
    exact Or.inr (of_decide_eq_true h.2)

theorem enters_and14 : ∀ args w, (callFunc 11 args).run Try.prog w = .ok (.enter 11 args) w := enters_of Try.func11 (by kernel_rfl) rfl
theorem enters_or14 : ∀ args w, (callFunc 13 args).run Try.prog w = .ok (.enter 13 args) w := enters_of Try.func13 (by kernel_rfl) rfl

set_option maxRecDepth 100000 in
set_option maxHeartbeats 8000000 in
theorem says14_step (s : ByteArray) (a : Option Addr) (L : List QN) (n c i : Nat) (t : Int) (nm : ByteArray) (ww hh : Int) (w : World) (hw : -1073741824 ≤ ww ∧ ww ≤ 1073741824) (hh' : -1073741824 ≤ hh ∧ hh ≤ 1073741824) (hn : L.length = n) (hm : n ≤ 32) (hi : i < n) (hQ : Qns w a L) (hR : L.all ndR = true) (he : ∃ j, eat (L.drop i) 1 = some j)
    (hsay : ∀ (k : Nat) (W : World), i < k → k < n → (∃ j, eat (L.drop k) 1 = some j) → Below w.heap.size w W → Calls Try.prog 23 #[.agg #[.string s, .slice a n c], .int .i64 (k : Int), .agg (exA t nm ww hh)] W fun e w' => e = .returned (.int .i64 (evL (ftT t ww hh) (L.drop k))) ∧ Below W.heap.size W w') :
    Calls Try.prog 23 #[.agg #[.string s, .slice a n c], .int .i64 (i : Int), .agg (exA t nm ww hh)] w fun e w' => e = .returned (.int .i64 (evL (ftT t ww hh) (L.drop i))) ∧ Below w.heap.size w w' := by
  have hil : i < L.length := by omega
  have hsayF : ∀ (k : Nat) (W : World), i < k → k < n → (∃ j, eat (L.drop k) 1 = some j) → Below w.heap.size w W → ∀ (k' : Nat) (W' : World), i < k' → k' < n → (∃ j, eat (L.drop k') 1 = some j) → Below W.heap.size W W' → Calls Try.prog 23 #[.agg #[.string s, .slice a n c], .int .i64 (k' : Int), .agg (exA t nm ww hh)] W' fun e w' => e = .returned (.int .i64 (evL (ftT t ww hh) (L.drop k'))) ∧ Below W'.heap.size W' w' :=
    fun k W h1 h2 h3 h4 k' W' g1 g2 g3 g4 => hsay k' W' g1 g2 g3 (h4.trans (g4.mono h4.size))
  clear hsayF
  have hnd : ndR L[i] = true := List.all_eq_true.1 hR _ (List.getElem_mem hil)
  have hdr : L.drop i = L[i] :: L.drop (i + 1) := List.drop_eq_getElem_cons hil
  obtain ⟨b, o, rfl, hbw, hc⟩ := hQ.get hil
  obtain ⟨j0, hj0⟩ := he
  rw [hdr] at hj0
  obtain ⟨cc, hcc, hek⟩ := eat_kids hj0
  have hkd := nd_kind hnd
  have hft := ft_rng hnd
  have JN := fun (q : Nat) op eq hop z W (hW : Below w.heap.size w W) (hcn : L[i].count = ((cc : Nat) : Int)) => joined14_any q op eq hop s (some ⟨b, o, none⟩) L n c i cc (j0 - 1) L[i] (ftT t ww hh) t nm ww hh z W hn hm hil rfl hcn (hQ.below hW) hek (fun k W' h1 h2 h3 h4 => hsay k W' h1 h2 h3 (hW.trans (h4.mono hW.size)))
  have hev := evL_cons (ftT t ww hh) L[i] (L.drop (i + 1))
  rw [← hdr] at hev
  obtain ⟨x, hx0⟩ : ∃ x, L[i] = x := ⟨_, rfl⟩
  rw [hx0] at hnd hdr hc hcc hkd hft JN hev
  obtain ⟨R, hRR⟩ : ∃ R, evL (ftT t ww hh) (L.drop i) = R := ⟨_, rfl⟩
  rw [hRR] at hev ⊢
  obtain ⟨k, cn, f, ⟨a1, a2, a3⟩, ⟨b1, b2, b3⟩⟩ := x
  unfold exA at *
  have HB1 := below_oneT w (.cells #[.string s, .slice (some ⟨b, o, none⟩) n c] 29)
  have hx1 := heap_alloc_new w (.cells #[.string s, .slice (some ⟨b, o, none⟩) n c] 29)
  generalize hW1 : w.alloc (.cells #[.string s, .slice (some ⟨b, o, none⟩) n c] 29) = W1 at *
  have HB2 := below_oneT W1 (.cells #[.int .i64 t, .string nm, .int .i64 ww, .int .i64 hh] 31)
  have hx2 := heap_alloc_new W1 (.cells #[.int .i64 t, .string nm, .int .i64 ww, .int .i64 hh] 31)
  have hx1' := (HB2.block _ (blk_ltQ hx1)).trans hx1
  have HB0 := Lib.hid (HB1.trans (HB2.mono HB1.size))
  generalize hW : W1.alloc (.cells #[.int .i64 t, .string nm, .int .i64 ww, .int .i64 hh] 31) = W at *
  obtain ⟨q0, q1⟩ := q_cells hx1'
  obtain ⟨e0, e1, e2, e3⟩ := ex_cells hx2
  obtain ⟨d0, d1, d2, d3, d4, d5, d6, d7, d8⟩ := hc.below HB0.out hbw
  have HB3 := below_oneT W (.cells #[.int .i64 k, .int .i64 cn, .int .i64 f, .int .i64 a1, .int .i64 a2, .int .i64 a3, .int .i64 b1, .int .i64 b2, .int .i64 b3] 39)
  have hx3 := heap_alloc_new W (.cells #[.int .i64 k, .int .i64 cn, .int .i64 f, .int .i64 a1, .int .i64 a2, .int .i64 a3, .int .i64 b1, .int .i64 b2, .int .i64 b3] 39)
  generalize hW2 : W.alloc (.cells #[.int .i64 k, .int .i64 cn, .int .i64 f, .int .i64 a1, .int .i64 a2, .int .i64 a3, .int .i64 b1, .int .i64 b2, .int .i64 b3] 39) = W2 at *
  have HBB := Lib.hid (HB0.out.trans (HB3.mono HB0.out.size))
  have hq := (HB3.block _ (blk_ltQ hx1')).trans hx1'
  have hy := (HB3.block _ (blk_ltQ hx2)).trans hx2
  obtain ⟨u0, u1⟩ := q_cells hq
  obtain ⟨v0, v1, v2, v3⟩ := ex_cells hy
  obtain ⟨g0, g1, g2, g3, g4, g5, g6, g7, g8⟩ := qn_cells hx3
  have hi0z : (0 : Int) ≤ (i : Int) := by omega
  have hi1z : (i : Int) < (n : Int) := by omega
  have hib : (i : Int) ≤ 32 := by omega
  have HI2 : Hid ((i : Int) + 1 = ((i + 1 : Nat) : Int)) := Lib.hid (by omega)
  have SY := Lib.hid (fun (h1 : i + 1 < n) (h2 : ∃ j, eat (L.drop (i + 1)) 1 = some j) => hsay (i + 1) W2 (by omega) h1 h2 HBB.out)
  have JA := Lib.hid (fun hcn => JN 11 andT enters_and14 and14_any 1 W2 HBB.out hcn)
  have JO := Lib.hid (fun hcn => JN 13 orT enters_or14 or14_any 0 W2 HBB.out hcn)
  have HEV := Lib.hid hev
  have HEK := Lib.hid hek
  have HCC := Lib.hid hcc
  have HN := Lib.hid hn
  have HLE := Lib.hid (eat_le _ _ _ hek)
  clear hsay JN hev hek hcc hn hx1 hx1' hx2 hx3 HB1 HB2 HB3 hq hy hc hj0 hbw hdr hx0 hnd hR hRR
  rcases hkd with h4 | ⟨h3, hc3⟩ | ⟨hc2, h1 | h2⟩
  · simp only [] at h4
    subst h4
    have FT := Lib.hid (feature14_any 4 cn f a1 a2 a3 b1 b2 b3 t nm ww hh W2 hw hh' (fun h => (hft rfl h).1) (fun h => (hft rfl h).2))
    have HF : Hid (R = ftT t ww hh ⟨4, cn, f, ⟨a1, a2, a3⟩, ⟨b1, b2, b3⟩⟩) := Lib.hid (by rw [HEV.out, if_neg (by simp), if_neg (by simp), if_neg (by simp)])
    clear hft
    go_enter Try.func23, Try.ntmps23
    go_wp2_with fail
    refine (FT.out).mono ?_
    rintro e w1 ⟨rfl, hb⟩
    have HZ := Lib.hid (HBB.out.trans (hb.mono HBB.out.size))
    clear hb
    go_wp2_with fail
    go_ret
    exact ⟨by rw [HF.out]; rfl, HZ.out⟩
  · simp only [] at h3 hc3
    subst h3 hc3
    have HF : Hid (R = notT (evL (ftT t ww hh) (L.drop (i + 1)))) := Lib.hid (by rw [HEV.out, if_neg (by simp), if_neg (by simp), if_pos rfl])
    have HC : cc = 1 := by have h := HCC.out; unfold cntQ at h; simp at h; omega
    subst HC
    have hlt : i + 1 < n := by
      have h := HLE.out
      rw [List.length_drop, HN.out] at h; omega
    have S := Lib.hid (SY.out hlt ⟨_, HEK.out⟩)
    clear hft
    go_enter Try.func23, Try.ntmps23
    go_wp2_with fail
    rw [HI2.out]
    refine (S.out).mono ?_
    rintro e w1 ⟨rfl, hb⟩
    have HZ := Lib.hid (HBB.out.trans (hb.mono HBB.out.size))
    clear hb
    go_wp2_with fail
    refine (not14_any _ _).mono ?_
    rintro e wq ⟨rfl, rfl⟩
    go_wp2_with fail
    go_ret
    exact ⟨by rw [HF.out]; rfl, HZ.out⟩
  · simp only [] at h1 hc2
    subst h1
    have HC : cn = (cc : Int) := by have h := HCC.out; unfold cntQ at h; simp at h; omega
    have HF : Hid (R = jnG (evL (ftT t ww hh)) andT cc (L.drop (i + 1)) 1) := Lib.hid (by rw [HEV.out, if_pos rfl]; simp only []; rw [HC, Int.toNat_natCast])
    have S := Lib.hid (JA.out HC)
    clear hft HC
    go_enter Try.func23, Try.ntmps23
    go_wp2_with fail
    refine (S.out).mono ?_
    rintro e w1 ⟨rfl, hb⟩
    have HZ := Lib.hid (HBB.out.trans (hb.mono HBB.out.size))
    clear hb
    go_wp2_with fail
    go_ret
    exact ⟨by rw [HF.out]; rfl, HZ.out⟩
  · simp only [] at h2 hc2
    subst h2
    have HC : cn = (cc : Int) := by have h := HCC.out; unfold cntQ at h; simp at h; omega
    have HF : Hid (R = jnG (evL (ftT t ww hh)) orT cc (L.drop (i + 1)) 0) := Lib.hid (by rw [HEV.out, if_neg (by simp), if_pos rfl]; simp only []; rw [HC, Int.toNat_natCast])
    have S := Lib.hid (JO.out HC)
    clear hft HC
    go_enter Try.func23, Try.ntmps23
    go_wp2_with fail
    refine (S.out).mono ?_
    rintro e w1 ⟨rfl, hb⟩
    have HZ := Lib.hid (HBB.out.trans (hb.mono HBB.out.size))
    clear hb
    go_wp2_with fail
    go_ret
    exact ⟨by rw [HF.out]; rfl, HZ.out⟩
theorem says14_any (s : ByteArray) (a : Option Addr) (L : List QN) (n c : Nat) (t : Int) (nm : ByteArray) (ww hh : Int) (hw : -1073741824 ≤ ww ∧ ww ≤ 1073741824) (hh' : -1073741824 ≤ hh ∧ hh ≤ 1073741824) (hn : L.length = n) (hm : n ≤ 32) (hR : L.all ndR = true) :
    ∀ (fuel i : Nat) (w : World), n - i ≤ fuel → i < n → Qns w a L → (∃ j, eat (L.drop i) 1 = some j) → Calls Try.prog 23 #[.agg #[.string s, .slice a n c], .int .i64 (i : Int), .agg (exA t nm ww hh)] w fun e w' => e = .returned (.int .i64 (evL (ftT t ww hh) (L.drop i))) ∧ Below w.heap.size w w'
  | 0, i, w, hf, hi, _, _ => by omega
  | fuel + 1, i, w, hf, hi, hQ, he => says14_step s a L n c i t nm ww hh w hw hh' hn hm hi hQ hR he fun k W hik hk hek hB => says14_any s a L n c t nm ww hh hw hh' hn hm hR fuel k W (by omega) hk (hQ.below hB) hek
end Go.Proofs.Ytoaenlbbochjhaa

namespace Go.Proofs.Ytoaenlbbochjhaa
open Go.RowKit FixM FixP TreN QryP TruP
set_option linter.unusedVariables false

theorem ext_put {w w1 : World} {B E : Nat} {T : TypeId} {c0 c1 c2 c3 : Value} (hb : Below B w w1) (hE : B ≤ E) (hy : w1.heap[E]? = some (.cells #[c0, c1, c2, c3] T (0, 0))) (u v : Value) :
    Below B w (((w1.setCell ⟨E, 2, none⟩ u).setCell ⟨E, 3, none⟩ v).drew) ∧ (((w1.setCell ⟨E, 2, none⟩ u).setCell ⟨E, 3, none⟩ v).drew).heap[E]? = some (.cells #[c0, c1, u, v] T (0, 0)) ∧ ∀ k, k ≠ E → (((w1.setCell ⟨E, 2, none⟩ u).setCell ⟨E, 3, none⟩ v).drew).heap[k]? = w1.heap[k]? := by
  refine ⟨((hb.setCell (p := ⟨E, 2, none⟩) hE u).setCell (p := ⟨E, 3, none⟩) hE v).drew, ?_, fun k hk => ?_⟩
  · show ((w1.setCell ⟨E, 2, none⟩ u).setCell ⟨E, 3, none⟩ v).heap[E]? = _
    exact heap_setCell_same _ E 3 _ T v (heap_setCell_same _ E 2 _ T u hy)
  · show ((w1.setCell ⟨E, 2, none⟩ u).setCell ⟨E, 3, none⟩ v).heap[k]? = _
    rw [heap_setCell_other _ _ _ _ hk, heap_setCell_other _ _ _ _ hk]
set_option maxRecDepth 100000 in
set_option maxHeartbeats 8000000 in
theorem Eval14_any (x : List UInt8) (hs : x.length ≤ maxLen) (a : Option Addr) (L : List QN) (n c : Nat) (t : Int) (nm : ByteArray) (ww hh : Int) (w : World) (hn : L.length = n) (hm : n ≤ maxLen) (hQ : Qns w a L) :
    Calls Try.prog 16 #[.agg #[.string ⟨x.toArray⟩, .slice a n c], .agg (exA t nm ww hh)] w fun e w' => e = .returned (.int .i64 (sayQ ⟨x.toArray⟩ L t ww hh)) ∧ Below w.heap.size w w' := by
  unfold exA sayQ
  have RQ := fun W (hW : Below w.heap.size w W) => Right8_any x hs a L n c W hn hm (hQ.below hW)
  have hrq : ∃ r, rightQ ⟨x.toArray⟩ L = r := ⟨_, rfl⟩
  obtain ⟨r, hr⟩ := hrq
  rw [hr] at RQ ⊢
  obtain ⟨R, hRv⟩ : ∃ R, (if r = true then evL (ftT t (H ww) (H hh)) L else 2) = R := ⟨_, rfl⟩
  rw [hRv]
  have HRV := Lib.hid hRv
  clear hRv
  have RR := Lib.hid RQ
  have HR := Lib.hid hr
  have HRT : Hid (rightQ ⟨x.toArray⟩ L = true → n ≤ 32 ∧ L.all ndR = true ∧ 0 < n ∧ ∃ j, eat (L.drop 0) 1 = some j) := Lib.hid (fun h => by
    unfold rightQ at h
    rw [Bool.and_eq_true, Bool.and_eq_true, decide_eq_true_eq] at h
    obtain ⟨_, h2, h3, h4, h5⟩ := h
    refine ⟨by omega, h2, by omega, ?_⟩
    unfold spanS at h5
    cases he : eat (L.drop 0) 1 with
    | none => rw [he] at h5; simp only [] at h5; omega
    | some j => exact ⟨j, rfl⟩)
  have HQ := Lib.hid hQ
  have HN := Lib.hid hn
  have HB1 := below_oneT w (.cells #[.string ⟨x.toArray⟩, .slice a n c] 29)
  have hx1 := heap_alloc_new w (.cells #[.string ⟨x.toArray⟩, .slice a n c] 29)
  generalize hW1 : w.alloc (.cells #[.string ⟨x.toArray⟩, .slice a n c] 29) = W1 at *
  have HB2 := below_oneT W1 (.cells #[.int .i64 t, .string nm, .int .i64 ww, .int .i64 hh] 31)
  have hx2 := heap_alloc_new W1 (.cells #[.int .i64 t, .string nm, .int .i64 ww, .int .i64 hh] 31)
  have hx1' := (HB2.block _ (blk_ltQ hx1)).trans hx1
  have HB0 := Lib.hid (HB1.trans (HB2.mono HB1.size))
  have HE0 := Lib.hid (blk_ltQ hx1)
  generalize hW : W1.alloc (.cells #[.int .i64 t, .string nm, .int .i64 ww, .int .i64 hh] 31) = W at *
  have HX0 := Lib.hid hx1'
  have HY0 := Lib.hid hx2
  obtain ⟨q0, q1⟩ := q_cells hx1'
  obtain ⟨e0, e1, e2, e3⟩ := ex_cells hx2
  clear RQ hr hQ hn HB1 HB2 hx1 hx2 hx1'
  go_enter Try.func16, Try.ntmps16
  go_wp2_with fail
  refine (RR.out _ HB0.out).mono ?_
  rintro e w1 ⟨rfl, hb⟩
  have hx := (hb.block _ (blk_ltQ HX0.out)).trans HX0.out
  have hy := (hb.block _ (blk_ltQ HY0.out)).trans HY0.out
  have HB1 := Lib.hid (HB0.out.trans (hb.mono HB0.out.size))
  have HX1 := Lib.hid hx
  have HY1 := Lib.hid hy
  obtain ⟨q0, q1⟩ := q_cells hx
  obtain ⟨e0, e1, e2, e3⟩ := ex_cells hy
  have fr2 : w1.frozen? ⟨W1.heap.size, 2, none⟩ = false := by unfold World.frozen?; rw [hy]; rfl
  have fr3 : w1.frozen? ⟨W1.heap.size, 3, none⟩ = false := by unfold World.frozen?; rw [hy]; rfl
  clear hb hx hy
  cases r
  · have HF : Hid (R = 2) := Lib.hid (by rw [← HRV.out, if_neg (by decide)])
    go_wp2_with fail
    go_ret
    exact ⟨by rw [HF.out]; rfl, HB1.out⟩
  · have HF : Hid (R = evL (ftT t (H ww) (H hh)) L) := Lib.hid (by rw [← HRV.out, if_pos rfl])
    go_wp2_with fail
    go_region_with (go_at_call 22; refine (Hold_any _ _).mono ?_; rintro e wq ⟨rfl, rfl⟩)
    all_goals (have HP := Lib.hid (ext_put HB1.out (Nat.le_of_lt HE0.out) HY1.out (.int .i64 (H ww)) (.int .i64 (H hh))))
    all_goals (generalize ((w1.setCell ⟨W1.heap.size, 2, none⟩ (.int .i64 (H ww))).setCell ⟨W1.heap.size, 3, none⟩ (.int .i64 (H hh))).drew = W5 at *)
    all_goals (have hx5 := (HP.out.2.2 _ (Nat.ne_of_lt HE0.out)).trans HX1.out)
    all_goals (clear q0 q1 e0 e1 e2 e3 fr2 fr3)
    all_goals (obtain ⟨q0, q1⟩ := q_cells hx5; obtain ⟨e0, e1, e2, e3⟩ := ex_cells HP.out.2.1)
    all_goals (clear hx5)
    all_goals go_wp2_with fail
    all_goals refine (says14_any ⟨x.toArray⟩ a L n c t nm (H ww) (H hh) (H_bd ww) (H_bd hh) HN.out (HRT.out HR.out).1 (HRT.out HR.out).2.1 n 0 W5 (by omega) (HRT.out HR.out).2.2.1 (HQ.out.below HP.out.1) (HRT.out HR.out).2.2.2).mono ?_
    all_goals rintro e w6 ⟨rfl, hb⟩
    all_goals (have HZ := Lib.hid (HP.out.1.trans (hb.mono HP.out.1.size)))
    all_goals clear hb
    all_goals go_wp2_with fail
    all_goals go_ret
    all_goals exact ⟨by rw [HF.out]; rfl, HZ.out⟩
end Go.Proofs.Ytoaenlbbochjhaa
