/- The law LexAgain. -/
import Derived.Test.YtipmgoejdkpknaaLexS
namespace Go.Proofs.Ytipmgoejdkpknaa
open Go.RowKit TreN LexP FixP FixM Go.Sort
set_option linter.unusedVariables false

/-- no bad string -/
def goodB (t : Tok) : Bool := decide (t.kind ≠ 6)
theorem right_good {x : List UInt8} {t : Tok} (h : t ∈ cut x) : right t = goodB t := by
  unfold goodB
  rcases cut_shape h with h6 | hs
  · rw [decide_eq_false (by simp [h6])]
    unfold right
    rw [decide_eq_false_iff_not]
    have : tx t = [] := by unfold tx; rw [h6]; rfl
    rw [this, cut_nil]; simp
  · rw [shape_right hs]
    symm
    rw [decide_eq_true_eq]
    cases hs with
    | sign c hc => have := sign_facts hc; show signK c ≠ 6; omega
    | _ => simp
theorem text_eq5 (s : ByteArray) : s = ⟨s.data.toList.toArray⟩ := by cases s; simp
theorem str_size5 (x : List UInt8) : (⟨x.toArray⟩ : ByteArray).size = x.length := by show x.toArray.size = _; simp
theorem again_good (x : List UInt8) (hx : x.length ≤ 2000) : (∀ t ∈ (cut x).filter goodB, right t = true) ∧ Fits ((cut x).filter goodB) ∧ (∀ j, j ≤ ((cut x).filter goodB).length → (prT ((cut x).filter goodB) j).length ≤ 32768) ∧
    (printL ((cut x).filter goodB)).length ≤ 32768 ∧ cut (printL ((cut x).filter goodB)) = (cut x).filter goodB ∧ ((cut x).filter goodB).length ≤ 2000 := by
  have ht := Nat.le_trans (tot_filter goodB (cut x)) (cut_cost x)
  have hr : ∀ t ∈ (cut x).filter goodB, right t = true := fun t h => by
    rw [List.mem_filter] at h
    rw [right_good h.1]; exact h.2
  have hc := cut_texts _ x (Nat.le_refl _)
  refine ⟨hr, fun t h => ?_, fun j hj => ?_, ?_, print_cut_nil _ (fun t h => right_shape (hr t h)), ?_⟩
  · rw [List.mem_filter] at h
    have h1 := hc.2 t h.1
    have h2 := len_txS t
    exact ⟨by omega, by omega⟩
  · have := prT_le _ j hj; omega
  · have := printL_le ((cut x).filter goodB); omega
  · have := List.length_filter_le goodB (cut x); omega

set_option maxRecDepth 100000 in
set_option maxHeartbeats 4000000 in
theorem LexAgain_walk (s : ByteArray) (w : World) (h : Has0 w) (hs : s.size ≤ maxLen) :
    Calls Try.prog 5 #[.string s] w fun e w' => e = .returned (.bool true) ∧ Below w.heap.size w w' := by
  unfold maxLen at hs
  have hk : ∀ W : World, Below w.heap.size w W → Calls Try.prog 8 #[] W fun e w' => e = .returned (.bool true) ∧ Below W.heap.size W w' := fun W hW => known5_any W (h.below hW)
  have KN := Lib.hid hk
  by_cases hx : s.size ≤ 2000
  · obtain ⟨x, rfl⟩ : ∃ x : List UInt8, s = ⟨x.toArray⟩ := ⟨_, text_eq5 s⟩
    rw [str_size5] at hx
    have hz1 : ¬ (2000 : Int) < (x.length : Int) := by omega
    obtain ⟨i0, hi0, hq0, hq1, hq2⟩ := info_parts info_token
    have hL : ∀ W : World, Below w.heap.size w W → Calls Try.prog 14 #[.string ⟨x.toArray⟩] W (ToldTks W (cut x) 0) := fun W hW => by
      have := Lex_any ⟨x.toArray⟩ W (h.below hW) (by rw [str_size5]; omega)
      rw [size_txS] at this
      exact this
    unfold ToldTks at hL
    have hcl := (cut_texts _ x (Nat.le_refl _)).1
    have hct := (cut_texts _ x (Nat.le_refl _)).2
    have hgd : ∀ t ∈ cut x, right t = goodB t := fun t ht => right_good ht
    obtain ⟨gr, gf, gp, gl, gc, gn⟩ := again_good x hx
    generalize cut x = cl at *
    obtain ⟨ml, hml⟩ : ∃ m, cl.filter goodB = m := ⟨_, rfl⟩
    rw [hml] at gr gf gp gl gc gn
    have hR : ∀ (t : Tok), t ∈ cl → ∀ W : World, Below w.heap.size w W → Calls Try.prog 9 #[t.val] W fun e w' => e = .returned (.bool (goodB t)) ∧ Below W.heap.size W w' := fun t ht W hW => by
      have h1 := hct t ht
      have h2 := len_txS t
      have := Right_any t W (h.below hW) (by omega) (by omega)
      rw [show decide (cut (tx t) = [t]) = goodB t from hgd t ht] at this
      exact this
    have hP : ∀ (W : World) (a : Option Addr) (c : Nat), Below w.heap.size w W → Tks W a ml → Calls Try.prog 12 #[.slice a ml.length c] W fun e w' => e = .returned (.tuple #[.string ⟨(printL ml).toArray⟩, .int .i64 0]) ∧ Below W.heap.size W w' := fun W a c hW hT => Print_ok a ml c W (h.below hW) hT (by omega) gf gr gp
    have hL2 : ∀ W : World, Below w.heap.size w W → Calls Try.prog 14 #[.string ⟨(printL ml).toArray⟩] W (ToldTks W ml 0) := fun W hW => by
      have := Lex_any ⟨(printL ml).toArray⟩ W (h.below hW) (by rw [str_size5]; exact gl)
      rw [size_txS, gc] at this
      exact this
    unfold ToldTks at hL2
    have hsm : ∀ (W : World) (a a2 : Option Addr) (c c2 : Nat), Tks W a ml → Tks W a2 ml → Calls Try.prog 16 #[.slice a ml.length c, .slice a2 ml.length c2] W fun e w' => e = .returned (.bool true) ∧ Below W.heap.size W w' := fun W a a2 c c2 h1 h2 => by
      have := Tks.sameC (c := c) (c2 := c2) (by omega) h1 h2
      rw [decide_eq_true rfl] at this
      exact this
    obtain ⟨n, hn⟩ : ∃ n, cl.length = n := ⟨_, rfl⟩
    obtain ⟨nm, hnm⟩ : ∃ n, ml.length = n := ⟨_, rfl⟩
    rw [hn] at hL hcl
    rw [hnm] at hP hL2 hsm gn
    obtain ⟨pm, hpm⟩ : ∃ p, printL ml = p := ⟨_, rfl⟩
    rw [hpm] at hP hL2
    have HL := Lib.hid hL
    have HL2 := Lib.hid hL2
    have HR := Lib.hid hR
    have HP := Lib.hid hP
    have HSM := Lib.hid hsm
    have HN := Lib.hid hn
    have HNM := Lib.hid hnm
    have HML := Lib.hid hml
    have HGD := Lib.hid hgd
    clear hL hL2 hR hP hsm hn hnm hml hgd hct gr gf gp gl gc hpm h hk
    go_enter Try.func5, Try.ntmps5
    go_wp2_with fail
    refine (HL.out _ (Below.refl _ _)).mono ?_
    rintro e w1 ⟨a1, c1, rfl, hT1, hb1⟩
    have HB1 := Lib.hid hb1
    have HT1 := Lib.hid hT1
    clear hb1 hT1
    go_wp2_with fail
    go_loopw [5, 6] (fun vm vi wr => ∃ (k : Nat) (dn : List Tok), vi = .int .i64 k ∧ k ≤ n ∧ wr.ownsRow w1.heap.size 23 3 vm dn.length (tkcs dn) ∧ Hid (Below w1.heap.size w1 wr) ∧ Hid (dn = (cl.take k).filter goodB)) (fun _ vi _ => n - (intOf vi).toNat)
    case atStart => exact ⟨0, [], rfl, by omega, World.ownsRow_nil _ _ _ 3, Lib.hid (Below.refl _ _), Lib.hid rfl⟩
    case round =>
      obtain ⟨k, dn, rfl, hk, hown, HB, HD⟩ := hrel
      by_cases hlt : k < n
      · have hltz : (k : Int) < (n : Int) := by omega
        have hkl : k < cl.length := by have := HN.out; omega
        obtain ⟨b1, o1, rfl, g1, k1⟩ := HT1.out.get hkl
        obtain ⟨t, ht⟩ : ∃ t, cl[k] = t := ⟨_, rfl⟩
        rw [ht] at k1
        have k2 := k1.below HB.out g1
        have hmem : t ∈ cl := by rw [← ht]; exact List.getElem_mem hkl
        have hrt := HR.out t hmem
        have htk : cl.take (k + 1) = cl.take k ++ [t] := by rw [List.take_succ_eq_append_getElem hkl, ht]
        have hdl : dn.length ≤ 2000 := by
          rw [HD.out]
          have h1 := List.length_filter_le goodB (cl.take k)
          rw [List.length_take] at h1
          omega
        have hdn : (cl.take (k + 1)).filter goodB = if goodB t = true then dn ++ [t] else dn := by
          rw [htk, List.filter_append, ← HD.out]
          cases hg : goodB t <;> simp [hg]
        have hbw : Below w.heap.size w wr := HB1.out.trans (HB.out.mono HB1.out.size)
        have hg6 : goodB t = (t.kind != 6) := by
          unfold goodB
          by_cases q : t.kind = 6
          · rw [q]; rfl
          · rw [decide_eq_true q]; symm; rw [bne_iff_ne]; exact q
        obtain ⟨kk, xx, nn⟩ := t
        have hg6 : goodB ⟨kk, xx, nn⟩ = (kk != 6) := hg6
        unfold LexP.Tok.val at hrt
        have CC := Lib.hid hrt
        have d1 : wr.cell? ⟨b1, o1 + k * 3, none⟩ = some (.int .i64 kk) := k2.kind
        have d2 : wr.cell? ⟨b1, o1 + k * 3 + 1, none⟩ = some (.string ⟨xx.toArray⟩) := k2.text
        have d3 : wr.cell? ⟨b1, o1 + k * 3 + 2, none⟩ = some (.int .i64 nn) := k2.n
        have hlow : wr.heap.size ≤ wr.heap.size := Nat.le_refl _
        have hb0 : Below wr.heap.size wr wr := Below.refl _ _
        have HBW := Lib.hid hbw
        have HO := Lib.hid hown
        have HDN := Lib.hid hdn
        obtain ⟨gd, hgd⟩ : ∃ g, goodB ⟨kk, xx, nn⟩ = g := ⟨_, rfl⟩
        rw [hgd] at CC hg6
        have HGD2 := Lib.hid hgd
        have HG6 := Lib.hid hg6
        clear k1 k2 hrt htk hdn hbw hown hmem ht hgd hlow
        have hkz : (kk != 6) = gd := hg6.symm
        clear hg6
        go_wp2_with fail
        go_region_held3 (fun w' => Below wr.heap.size wr w' ∧ w'.cell? ⟨b1, o1 + k * 3, none⟩ = some (.int .i64 kk) ∧ w'.cell? ⟨b1, o1 + k * 3 + 1, none⟩ = some (.string ⟨xx.toArray⟩) ∧ w'.cell? ⟨b1, o1 + k * 3 + 2, none⟩ = some (.int .i64 nn))
          ((refine ⟨?_, ?_, ?_, ?_⟩ <;> first
            | assumption
            | exact Below.drew (by assumption)
            | exact cell_drew_of (by assumption)))
          ((first
            | (go_at_call 9; (try go_split_ands); have hq : Below wr.heap.size wr _ := (by assumption); refine (CC.out _ (HBW.out.trans (hq.mono HBW.out.size))).mono ?_; rintro e w4 ⟨rfl, hb⟩; have e0 := cell_keep (p := ⟨b1, o1 + k * 3, none⟩) (v := .int .i64 kk) hb (by assumption); have e1 := cell_keep (p := ⟨b1, o1 + k * 3 + 1, none⟩) (v := .string ⟨xx.toArray⟩) hb (by assumption); have e2 := cell_keep (p := ⟨b1, o1 + k * 3 + 2, none⟩) (v := .int .i64 nn) hb (by assumption); have e6 : Below wr.heap.size wr w4 := Below.trans (by assumption) (hb.mono (Below.size (by assumption))); clear hb)))
        have HB4 : Hid (Below w1.heap.size w1 w4) := Lib.hid (HB.out.trans (e6.mono HB.out.size))
        have HO4 : Hid (w4.ownsRow w1.heap.size 23 3 u5 dn.length (tkcs dn)) := Lib.hid (ownsRow_below HO.out e6)
        have hle4 := HB4.out.size
        clear e6 HO HB
        cases gd
        · have HDF : Hid (dn = (cl.take (k + 1)).filter goodB) := Lib.hid (by rw [HDN.out, HGD2.out]; rfl)
          go_wp2_with fail
          go_roundw
          case rel => exact ⟨k + 1, dn, by go_num, by omega, HO4.out, HB4, HDF⟩
          case measure => simp [intOf]; omega
        · have HDF : Hid (dn ++ [(⟨kk, xx, nn⟩ : Tok)] = (cl.take (k + 1)).filter goodB) := Lib.hid (by rw [HDN.out, HGD2.out]; rfl)
          have hown1 := HO4.out
          have hrow : ∀ q, u5.ownBlock = some q → w1.heap.size ≤ q := fun q hq => (World.ownsRow.lt hown1 q hq).1
          go_wp2_with (at_builtin; refine wpList_append_own _ rfl _ _ 26 rfl w1.heap.size 23 i0 _ 3 32 und_tokens hi0 hq0 hq1 hq2 rfl (by decide) _ _ _ rfl (hown1.alloc _) ⟨w4.heap.size, 0, none⟩ 1 1 (tkcs [(⟨kk, xx, nn⟩ : Tok)]) rfl (tkcs_length _) ?c1 (tkcs_one _) ?c3 ?c4 ?c5 ?_)
          case c1 => exact tkcs_news _ _ _ (heap_alloc_new _ _) rfl
          case c3 => unfold maxLen; omega
          case c4 => omega
          case c5 => simp; omega
          intro v' w5 hown' hgrow _
          rw [← tkcs_append] at hown'
          have hbel5 : Below w1.heap.size w1 w5 := (HB4.out.alloc hle4 _).trans (below_grownT hgrow hrow (by simp; omega))
          have hown5 : w5.ownsRow w1.heap.size 23 3 v' (dn ++ [(⟨kk, xx, nn⟩ : Tok)]).length (tkcs (dn ++ [(⟨kk, xx, nn⟩ : Tok)])) := by rw [List.length_append]; exact hown'
          have HO5 := Lib.hid hown5
          have HB5 := Lib.hid hbel5
          clear hown' hgrow hrow hbel5 hown5 hown1
          go_wp2_with fail
          go_roundw
          case rel => exact ⟨k + 1, _, by go_num, by omega, HO5.out, HB5, HDF⟩
          case measure => simp [intOf]; omega
      · have hltz : ¬ (k : Int) < (n : Int) := by omega
        have hke : k = n := by omega
        have hdm : dn = ml := by rw [HD.out, hke, ← HN.out, List.take_length, HML.out]
        subst hdm
        obtain ⟨a5, c5, hv, hT5⟩ := Tks_own hown
        rw [HNM.out] at hv
        subst hv
        have HT5 := Lib.hid hT5
        have HBW := Lib.hid (HB1.out.trans (HB.out.mono HB1.out.size))
        clear hown hT5 hke
        go_wp2_with fail
        refine (HP.out _ _ _ HBW.out HT5.out).mono ?_
        rintro e w2 ⟨rfl, hb2⟩
        have HB2 := Lib.hid (HBW.out.trans (hb2.mono HBW.out.size))
        have HT6 := Lib.hid (HT5.out.below hb2)
        clear hb2
        go_wp2_with fail
        refine (HL2.out _ HB2.out).mono ?_
        rintro e w3 ⟨a6, c6, rfl, hT7, hb3⟩
        have HB3 := Lib.hid (HB2.out.trans (hb3.mono HB2.out.size))
        have HT8 := Lib.hid (HT6.out.below hb3)
        have HT7 := Lib.hid hT7
        clear hb3 hT7
        go_wp2_with fail
        refine (HSM.out _ _ _ _ _ HT7.out HT8.out).mono ?_
        rintro e w4 ⟨rfl, hb4⟩
        have HB4 := Lib.hid (HB3.out.trans (hb4.mono HB3.out.size))
        clear hb4
        go_wp2_with fail
        refine (KN.out _ HB4.out).mono ?_
        rintro e w5 ⟨rfl, hb5⟩
        have HB5 := Lib.hid (HB4.out.trans (hb5.mono HB4.out.size))
        clear hb5
        go_wp2_with fail
        go_ret
        exact ⟨rfl, HB5.out⟩
  · have hz' : (2000 : Int) < (s.size : Int) := by omega
    clear hx h hk
    go_enter Try.func5, Try.ntmps5
    go_wp2_with fail
    refine (KN.out _ (Below.refl _ _)).mono ?_
    rintro e w1 ⟨rfl, hb⟩
    go_wp2_with fail
    go_ret
    exact ⟨rfl, hb⟩
end Go.Proofs.Ytipmgoejdkpknaa
