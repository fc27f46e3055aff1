/- Joined texts: LexS1 LexS2 LexS3 LexL3. -/
import Derived.Test.YtipmgoejdkpknaaLexW10
import Derived.Test.YtipmgoejdkpknaaLexE
import Derived.Test.YtipmgoejdkpknaaLexT3
import Derived.Test.YtipmgoejdkpknaaLexQ
import Derived.Deep.RegionHeld3
import Derived.Deep.RegionWith
import Derived.Test.YtipmgoejdkpknaaLexR7
import Derived.Test.YtipmgoejdkpknaaLexL1
import Derived.Test.YtipmgoejdkpknaaLexSb
namespace Go.Proofs.Ytipmgoejdkpknaa
open Go.RowKit TreN LexP FixP
set_option linter.unusedVariables false

/-- not too long, nor any of its texts -/
def shortL (l : List Tok) : Bool := l.all (fun t => decide (t.text.length ≤ 200)) && decide (l.length ≤ 60)
theorem Tks.getS {w : World} {a : Option Addr} {l : List Tok} (h : Tks w a l) {i : Nat} (hi : i < l.length) : ∃ b o, a = some ⟨b, o, none⟩ ∧ b < w.heap.size ∧ TkAt w b (o + i * 3) l[i] := by
  rcases h with rfl | ⟨b, o, h1, h2, h3⟩
  · simp at hi
  · exact ⟨b, o, h1, h2, h3 i hi⟩
set_option maxRecDepth 100000 in
set_option maxHeartbeats 1000000 in
theorem short_any (a : Option Addr) (l : List Tok) (cap : Nat) (w : World) (hm : l.length ≤ maxLen) (hT : Tks w a l) :
    Calls Try.prog 11 #[.slice a l.length cap] w fun e w' => e = .returned (.bool (shortL l)) ∧ w = w' := by
  have HT := Lib.hid hT
  obtain ⟨n, hn⟩ : ∃ n, l.length = n := ⟨_, rfl⟩
  have HN := Lib.hid hn
  rw [hn] at hm ⊢
  unfold maxLen at hm
  clear hT hn
  go_enter Try.func11, Try.ntmps11
  go_wp2_with fail
  go_loopw [3] (fun vi wr => ∃ k : Nat, vi = .int .i64 k ∧ k ≤ n ∧ wr = w ∧ Hid (∀ j (hj : j < l.length), j < k → l[j].text.length ≤ 200)) (fun vi _ => n - (intOf vi).toNat)
  case atStart => exact ⟨0, rfl, by omega, rfl, fun j hj h => by omega⟩
  case round =>
    obtain ⟨k, rfl, hk, rfl, HJ⟩ := hrel
    by_cases hlt : k < n
    · have hltz : (k : Int) < (n : Int) := by omega
      have hkl : k < l.length := by have := HN.out; omega
      obtain ⟨b1, o1, rfl, g1, k1⟩ := HT.out.getS hkl
      obtain ⟨t, ht⟩ : ∃ t, l[k] = t := ⟨_, rfl⟩
      rw [ht] at k1
      have d2 : wr.cell? ⟨b1, o1 + k * 3 + 1, none⟩ = some (.string ⟨t.text.toArray⟩) := k1.text
      have HTT := Lib.hid ht
      clear k1 ht
      obtain ⟨z, hz⟩ : ∃ z, t.text.length = z := ⟨_, rfl⟩
      have HZ := Lib.hid hz
      have hzs : (⟨t.text.toArray⟩ : ByteArray).size = z := hz
      by_cases hq : z ≤ 200
      · have hq1 : ¬ (200 : Int) < (z : Int) := by omega
        have hq2 : (t.text.length : Int) ≤ 200 := by omega
        clear hz hzs
        go_wp2_with fail
        go_roundw
        case rel =>
          refine ⟨k + 1, by go_num, by omega, trivial, fun j hj h => ?_⟩
          by_cases c : j = k
          · subst c; rw [HTT.out, HZ.out]; exact hq
          · exact HJ.out j hj (by omega)
        case measure => simp [intOf]; omega
      · have hq2 : ¬ (t.text.length : Int) ≤ 200 := by omega
        clear hz hzs
        go_wp2_with fail
        go_ret
        refine ⟨ret_bool ?_, rfl⟩
        symm
        unfold shortL
        rw [Bool.and_eq_false_iff]
        left
        rw [List.all_eq_false]
        exact ⟨t, by rw [← HTT.out]; exact List.getElem_mem hkl, by rw [HZ.out]; simp; omega⟩
    · have hltz : ¬ (k : Int) < (n : Int) := by omega
      have hall : shortL l = decide ((n : Int) ≤ 60) := by
        unfold shortL
        have h1 : l.all (fun t => decide (t.text.length ≤ 200)) = true := by
          rw [List.all_eq_true]
          intro t ht
          obtain ⟨j, hj, e⟩ := List.getElem_of_mem ht
          have hn := HN.out
          rw [← e, decide_eq_true_eq]
          exact HJ.out j hj (by omega)
        rw [h1, HN.out, Bool.true_and, decide_eq_decide]
        omega
      have HA := Lib.hid hall
      clear hall
      go_wp2_with fail
      go_ret
      exact ⟨ret_bool HA.out.symm, rfl⟩
end Go.Proofs.Ytipmgoejdkpknaa

namespace Go.Proofs.Ytipmgoejdkpknaa
open Go.RowKit TreN LexP FixP FixM
set_option linter.unusedVariables false

set_option maxRecDepth 100000 in
set_option maxHeartbeats 1000000 in
theorem refAll_any (a : Option Addr) (l : List Tok) (cap : Nat) (w : World) (hl : l.length ≤ 100000) (hT : Tks w a l) (hf : ∀ t ∈ l, t.text.length ≤ 30000 ∧ (tx t).length ≤ 40000) :
    Calls Try.prog 13 #[.slice a l.length cap] w fun e w' => e = .returned (.bool (l.all right)) ∧ Below w.heap.size w w' := by
  have HF := Lib.hid hf
  have HT := Lib.hid hT
  obtain ⟨n, hn⟩ : ∃ n, l.length = n := ⟨_, rfl⟩
  have HN := Lib.hid hn
  rw [hn] at hl ⊢
  clear hT hf hn
  go_enter Try.func13, Try.ntmps13
  go_wp2_with fail
  go_loopw [3] (fun vi wr => ∃ k : Nat, vi = .int .i64 k ∧ k ≤ n ∧ Hid (Below w.heap.size w wr) ∧ Hid (∀ j (hj : j < l.length), j < k → right l[j] = true)) (fun vi _ => n - (intOf vi).toNat)
  case atStart => exact ⟨0, rfl, by omega, Lib.hid (Below.refl _ _), Lib.hid fun j hj h => by omega⟩
  case round =>
    obtain ⟨k, rfl, hk, HB, HJ⟩ := hrel
    by_cases hlt : k < n
    · have hltz : (k : Int) < (n : Int) := by omega
      have hkl : k < l.length := by have := HN.out; omega
      obtain ⟨b1, o1, rfl, g1, k1⟩ := HT.out.get hkl
      obtain ⟨t, ht⟩ : ∃ t, l[k] = t := ⟨_, rfl⟩
      rw [ht] at k1
      have k2 := k1.below HB.out g1
      have hmem : t ∈ l := by rw [← ht]; exact List.getElem_mem hkl
      obtain ⟨hf1, hf2⟩ := HF.out t hmem
      have C : ∀ W : World, Calls Try.prog 10 #[t.val] W fun e w' => e = .returned (.bool (right t)) ∧ Below W.heap.size W w' := fun W => refRight_any t W hf1 hf2
      obtain ⟨tf, htf⟩ : ∃ tf, right t = tf := ⟨_, rfl⟩
      rw [htf] at C
      have CC := Lib.hid C
      unfold LexP.Tok.val at CC
      have d1 : wr.cell? ⟨b1, o1 + k * 3, none⟩ = some (.int .i64 t.kind) := k2.kind
      have d2 : wr.cell? ⟨b1, o1 + k * 3 + 1, none⟩ = some (.string ⟨t.text.toArray⟩) := k2.text
      have d3 : wr.cell? ⟨b1, o1 + k * 3 + 2, none⟩ = some (.int .i64 t.n) := k2.n
      have HTT := Lib.hid ht
      have HTF := Lib.hid htf
      have HM := Lib.hid hmem
      clear k1 k2 C hf1 hf2 ht htf hmem
      cases tf
      · go_wp2_with fail
        refine (CC.out _).mono ?_
        rintro e w2 ⟨rfl, hb⟩
        have HB2 := Lib.hid (HB.out.trans (hb.mono HB.out.size))
        clear hb CC
        go_wp2_with fail
        go_ret
        refine ⟨ret_bool ?_, HB2.out⟩
        symm
        rw [List.all_eq_false]
        exact ⟨t, HM.out, by rw [HTF.out]; simp⟩
      · go_wp2_with fail
        refine (CC.out _).mono ?_
        rintro e w2 ⟨rfl, hb⟩
        have HB2 := Lib.hid (HB.out.trans (hb.mono HB.out.size))
        clear hb CC
        go_wp2_with fail
        go_roundw
        case rel =>
          refine ⟨k + 1, by go_num, by omega, HB2, Lib.hid fun j hj h => ?_⟩
          by_cases c : j = k
          · subst c; rw [HTT.out, HTF.out]
          · exact HJ.out j hj (by omega)
        case measure => simp [intOf]; omega
    · have hall : l.all right = true := by
        rw [List.all_eq_true]
        intro t ht
        obtain ⟨j, hj, e⟩ := List.getElem_of_mem ht
        have hn := HN.out
        rw [← e]
        exact HJ.out j hj (by omega)
      have HA := Lib.hid hall
      clear hall
      have hltz : ¬ (k : Int) < (n : Int) := by omega
      go_wp2_with fail
      go_ret
      exact ⟨ret_bool HA.out.symm, HB.out⟩
end Go.Proofs.Ytipmgoejdkpknaa

namespace Go.Proofs.Ytipmgoejdkpknaa
open Go.RowKit TreN LexP FixP FixM Go.Sort
set_option linter.unusedVariables false

/-- a contract's 'Below' as a world that has grown -/
theorem below_refl' (w : World) : Below w.heap.size w w := Below.refl _ _
theorem Tks.sameC {W : World} {a a2 : Option Addr} {c c2 : Nat} {l m : List Tok} (hl : l.length ≤ 100000) (h1 : Tks W a l) (h2 : Tks W a2 m) :
    Calls Try.prog 16 #[.slice a l.length c, .slice a2 m.length c2] W fun e w' => e = .returned (.bool (decide (l = m))) ∧ Below W.heap.size W w' :=
  (refSame_any a a2 c c2 l m W hl h1 h2).mono (by
    rintro e w' ⟨rfl, q, rfl⟩
    exact ⟨rfl, below_drewN W q⟩)
theorem shortL_iff (l : List Tok) : shortL l = true ↔ (∀ t ∈ l, t.text.length ≤ 200) ∧ l.length ≤ 60 := by
  unfold shortL
  rw [Bool.and_eq_true, List.all_eq_true, decide_eq_true_eq]
  constructor
  · rintro ⟨h1, h2⟩; exact ⟨fun t ht => by simpa using h1 t ht, h2⟩
  · rintro ⟨h1, h2⟩; exact ⟨fun t ht => by simpa using h1 t ht, h2⟩
theorem short_fits {l : List Tok} (h : shortL l = true) : Fits l ∧ (∀ t ∈ l, t.text.length ≤ 30000 ∧ (tx t).length ≤ 40000) ∧ (∀ j, j ≤ l.length → (prT l j).length ≤ 20000) ∧ (printL l).length ≤ 15000 ∧ l.length ≤ 60 := by
  obtain ⟨h1, h2⟩ := (shortL_iff l).1 h
  have ht := tot_short l h1 len_txS
  refine ⟨fun t ht => ?_, fun t ht => ?_, fun j hj => ?_, ?_, h2⟩
  · have := h1 t ht; have := len_txS t; exact ⟨by omega, by omega⟩
  · have := h1 t ht; have := len_txS t; exact ⟨by omega, by omega⟩
  · have := prT_le l j hj; omega
  · have := printL_le l; omega

set_option maxRecDepth 100000 in
set_option maxHeartbeats 4000000 in
theorem LexPrints_walk (a : Option Addr) (l : List Tok) (cap : Nat) (w : World) (h : Has0 w) (hc : l.length ≤ cap) (hm : cap ≤ maxLen) (hT : Tks w a l) :
    Calls Try.prog 4 #[.slice a l.length cap] w fun e w' => e = .returned (.bool true) ∧ Below w.heap.size w w' := by
  have hk : ∀ W : World, Below w.heap.size w W → Calls Try.prog 8 #[] W fun e w' => e = .returned (.bool true) ∧ Below W.heap.size W w' := fun W hW => known5_any W (h.below hW)
  have hS := fun W (hW : Below w.heap.size w W) => short_any a l cap W (by omega) (hT.below hW)
  have KN := Lib.hid hk
  cases hs : shortL l with
  | false =>
    rw [hs] at hS
    have HS := Lib.hid hS
    clear hS hk hs
    go_enter Try.func4, Try.ntmps4
    go_wp2_with fail
    refine (HS.out _ (Below.refl _ _)).mono ?_
    rintro e w1 ⟨rfl, rfl⟩
    go_wp2_with fail
    refine (KN.out _ (Below.refl _ _)).mono ?_
    rintro e w1 ⟨rfl, hb⟩
    go_wp2_with fail
    go_ret
    exact ⟨rfl, hb⟩
  | true =>
    rw [hs] at hS
    obtain ⟨hf, hf2, hp, hpl, h60⟩ := short_fits hs
    have hA := fun W (hW : Below w.heap.size w W) => refAll_any a l cap W (by omega) (hT.below hW) hf2
    cases hr : l.all right with
    | false =>
      rw [hr] at hA
      have hP := fun W (hW : Below w.heap.size w W) => Print_bad a l cap W (h.below hW) (hT.below hW) (by omega) hf (by
        rw [List.all_eq_false] at hr
        obtain ⟨t, ht, hn⟩ := hr
        exact ⟨t, ht, by simpa using hn⟩)
      have HS := Lib.hid hS
      have HP := Lib.hid hP
      have HA := Lib.hid hA
      clear hS hk hs hP hA hr hf hf2 hp h
      go_enter Try.func4, Try.ntmps4
      go_wp2_with fail
      refine (HS.out _ (Below.refl _ _)).mono ?_
      rintro e w1 ⟨rfl, rfl⟩
      go_wp2_with fail
      refine (HP.out _ (Below.refl _ _)).mono ?_
      rintro e w2 ⟨rfl, hb2⟩
      have HB2 := Lib.hid hb2
      clear hb2
      go_wp2_with fail
      refine (HA.out _ HB2.out).mono ?_
      rintro e w3 ⟨rfl, hb3⟩
      have HB3 := Lib.hid (HB2.out.trans (hb3.mono HB2.out.size))
      clear hb3
      go_wp2_with fail
      refine (KN.out _ HB3.out).mono ?_
      rintro e w4 ⟨rfl, hb4⟩
      have HB4 := Lib.hid (HB3.out.trans (hb4.mono HB3.out.size))
      clear hb4
      go_wp2_with fail
      go_ret
      exact ⟨rfl, HB4.out⟩
    | true =>
      rw [hr] at hA
      have hr' : ∀ t ∈ l, right t = true := by rw [List.all_eq_true] at hr; exact hr
      have hP := fun W (hW : Below w.heap.size w W) => Print_ok a l cap W (h.below hW) (hT.below hW) (by omega) hf hr' (fun j hj => by have := hp j hj; omega)
      have hcut : cut (printL l) = l := print_cut_nil l (fun t ht => right_shape (hr' t ht))
      have hL : ∀ W : World, Below w.heap.size w W → Calls Try.prog 14 #[.string ⟨(printL l).toArray⟩] W (ToldTks W l 0) := fun W hW => by
        have := Lex_any ⟨(printL l).toArray⟩ W (h.below hW) (by show (printL l).toArray.size ≤ 32768; simp; omega)
        rw [size_txS, hcut] at this
        exact this
      have hRP := fun W (hW : Below w.heap.size w W) => refPr_any a l cap W (by omega) hc (hT.below hW) ((shortL_iff l).1 hs).1
      have hSm : ∀ (W : World) (a2 : Option Addr) (c2 : Nat), Tks W a2 l → Below w.heap.size w W → Calls Try.prog 16 #[.slice a2 l.length c2, .slice a l.length cap] W fun e w' => e = .returned (.bool true) ∧ Below W.heap.size W w' := fun W a2 c2 h2 hW => by
        have := Tks.sameC (c := c2) (c2 := cap) (by omega) h2 (hT.below hW)
        rw [decide_eq_true rfl] at this
        exact this
      have HS := Lib.hid hS
      have HP := Lib.hid hP
      have HA := Lib.hid hA
      have HL := Lib.hid hL
      have HRP := Lib.hid hRP
      have HSM := Lib.hid hSm
      clear hS hk hs hP hA hr hf hf2 hp h hL hRP hSm hcut hr'
      generalize hpr : printL l = pr at HP HL HRP hpl ⊢
      clear hpr
      obtain ⟨n, hn⟩ : ∃ n, l.length = n := ⟨_, rfl⟩
      unfold ToldTks at HL
      rw [hn] at HS HP HA HL HRP HSM ⊢
      clear hn hT
      go_enter Try.func4, Try.ntmps4
      go_wp2_with fail
      refine (HS.out _ (Below.refl _ _)).mono ?_
      rintro e w1 ⟨rfl, rfl⟩
      go_wp2_with fail
      refine (HP.out _ (Below.refl _ _)).mono ?_
      rintro e w2 ⟨rfl, hb2⟩
      have HB2 := Lib.hid hb2
      clear hb2
      go_wp2_with fail
      refine (HA.out _ HB2.out).mono ?_
      rintro e w3 ⟨rfl, hb3⟩
      have HB3 := Lib.hid (HB2.out.trans (hb3.mono HB2.out.size))
      clear hb3
      go_wp2_with fail
      refine (HL.out _ HB3.out).mono ?_
      rintro e w4 ⟨a4, c4, rfl, hT4, hb4⟩
      have HB4 := Lib.hid (HB3.out.trans (hb4.mono HB3.out.size))
      have HT4 := Lib.hid hT4
      clear hb4 hT4
      go_wp2_with fail
      refine (HRP.out _ HB4.out).mono ?_
      rintro e w5 ⟨rfl, hb5⟩
      have HB5 := Lib.hid (HB4.out.trans (hb5.mono HB4.out.size))
      have HT5 := Lib.hid (HT4.out.below hb5)
      clear hb5 HT4
      go_wp2_with fail
      refine (HSM.out _ _ _ HT5.out HB5.out).mono ?_
      rintro e w6 ⟨rfl, hb6⟩
      have HB6 := Lib.hid (HB5.out.trans (hb6.mono HB5.out.size))
      clear hb6 HT5
      go_wp2_with fail
      refine (KN.out _ HB6.out).mono ?_
      rintro e w7 ⟨rfl, hb7⟩
      have HB7 := Lib.hid (HB6.out.trans (hb7.mono HB6.out.size))
      clear hb7
      go_wp2_with fail
      go_ret
      exact ⟨rfl, HB7.out⟩
end Go.Proofs.Ytipmgoejdkpknaa
