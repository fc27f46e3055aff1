/- The law LexJoins. -/
import Derived.Test.YtipmgoejdkpknaaLexS
import Derived.Test.YtipmgoejdkpknaaLexSb
namespace Go.Proofs.Ytipmgoejdkpknaa
open Go.RowKit TreN LexP FixP FixM Go.Sort
set_option linter.unusedVariables false

theorem joins_cut (a b : List Tok) (ha : ∀ t ∈ a, Shape t) (hb : ∀ t ∈ b, Shape t) : cut (printL a ++ 47 :: 42 :: 32 :: 120 :: 32 :: 42 :: 47 :: printL b) = a ++ b := by
  rw [print_cut (Or.inr ⟨_, rfl⟩) a ha]
  have e : one (47 :: 42 :: 32 :: 120 :: 32 :: 42 :: 47 :: printL b) = (none, 7) := rfl
  rw [cut_none e]
  show a ++ cut (printL b) = _
  rw [print_cut_nil b hb]

set_option maxRecDepth 100000 in
set_option maxHeartbeats 4000000 in
theorem LexJoins_walk (a a2 : Option Addr) (l m : List Tok) (cap cap2 : Nat) (w : World) (h : Has0 w) (hc : l.length ≤ cap) (hm : cap ≤ maxLen) (hc2 : m.length ≤ cap2) (hm2 : cap2 ≤ maxLen) (hT : Tks w a l) (hT2 : Tks w a2 m) :
    Calls Try.prog 6 #[.slice a l.length cap, .slice a2 m.length cap2] w fun e w' => e = .returned (.bool true) ∧ Below w.heap.size w w' := by
  have hk : ∀ W : World, Below w.heap.size w W → Calls Try.prog 8 #[] W fun e w' => e = .returned (.bool true) ∧ Below W.heap.size W w' := fun W hW => known5_any W (h.below hW)
  have hS1 := fun W (hW : Below w.heap.size w W) => short_any a l cap W (by omega) (hT.below hW)
  have hS2 := fun W (hW : Below w.heap.size w W) => short_any a2 m cap2 W (by omega) (hT2.below hW)
  have KN := Lib.hid hk
  by_cases hs : shortL l = true ∧ shortL m = true ∧ l.all right = true ∧ m.all right = true
  · obtain ⟨s1, s2, r1, r2⟩ := hs
    obtain ⟨f1, g1, p1, q1, n1⟩ := short_fits s1
    obtain ⟨f2, g2, p2, q2, n2⟩ := short_fits s2
    have hr1 : ∀ t ∈ l, right t = true := by rw [List.all_eq_true] at r1; exact r1
    have hr2 : ∀ t ∈ m, right t = true := by rw [List.all_eq_true] at r2; exact r2
    have hA1 := fun W (hW : Below w.heap.size w W) => refAll_any a l cap W (by omega) (hT.below hW) g1
    have hA2 := fun W (hW : Below w.heap.size w W) => refAll_any a2 m cap2 W (by omega) (hT2.below hW) g2
    rw [s1] at hS1
    rw [s2] at hS2
    rw [r1] at hA1
    rw [r2] at hA2
    have hP1 := fun W (hW : Below w.heap.size w W) => Print_ok a l cap W (h.below hW) (hT.below hW) (by omega) f1 hr1 (fun j hj => by have := p1 j hj; omega)
    have hP2 := fun W (hW : Below w.heap.size w W) => Print_ok a2 m cap2 W (h.below hW) (hT2.below hW) (by omega) f2 hr2 (fun j hj => by have := p2 j hj; omega)
    have hjc := joins_cut l m (fun t ht => right_shape (hr1 t ht)) (fun t ht => right_shape (hr2 t ht))
    have hL : ∀ W : World, Below w.heap.size w W → Calls Try.prog 14 #[.string ⟨(printL l ++ 47 :: 42 :: 32 :: 120 :: 32 :: 42 :: 47 :: printL m).toArray⟩] W (ToldTks W (l ++ m) 0) := fun W hW => by
      have := Lex_any ⟨(printL l ++ 47 :: 42 :: 32 :: 120 :: 32 :: 42 :: 47 :: printL m).toArray⟩ W (h.below hW) (by show (printL l ++ 47 :: 42 :: 32 :: 120 :: 32 :: 42 :: 47 :: printL m).toArray.size ≤ 32768; simp; omega)
      rw [size_txS, hjc] at this
      exact this
    unfold ToldTks at hL
    have a1 : ∀ W : World, (Op.stringOp .add ⟨(printL l).toArray⟩ ⟨#[47, 42, 32, 120, 32, 42, 47]⟩).run Try.prog W = .ok (.string ⟨(printL l ++ [47, 42, 32, 120, 32, 42, 47]).toArray⟩) W := fun W => add_any W _ [47, 42, 32, 120, 32, 42, 47] (by omega) (by simp)
    have a2' : ∀ W : World, (Op.stringOp .add ⟨(printL l ++ [47, 42, 32, 120, 32, 42, 47]).toArray⟩ ⟨(printL m).toArray⟩).run Try.prog W = .ok (.string ⟨(printL l ++ 47 :: 42 :: 32 :: 120 :: 32 :: 42 :: 47 :: printL m).toArray⟩) W := fun W => by
      have := add_any W (printL l ++ [47, 42, 32, 120, 32, 42, 47]) (printL m) (by simp; omega) (by omega)
      rw [List.append_assoc] at this
      exact this
    have HAP := Lib.hid fun (W : World) (hW : Below w.heap.size w W) => app_toks W.heap.size (.slice none 0 0) [] a l cap W (Nat.le_refl _) (by simp) (by omega) (World.ownsRow_nil _ _ _ _) (hT.below hW)
    have HAP2 := Lib.hid fun (H : Nat) (v : Value) (W : World) (hH : H ≤ W.heap.size) (hW : Below w.heap.size w W) (ho : W.ownsRow H 23 3 v l.length (tkcs l)) => app_toks H v l a2 m cap2 W hH (by omega) (by omega) ho (hT2.below hW)
    have HLM : Hid ((l ++ m).length ≤ 100000) := Lib.hid (by rw [List.length_append]; omega)
    obtain ⟨nm, hnm⟩ : ∃ n, (l ++ m).length = n := ⟨_, rfl⟩
    rw [hnm] at hL
    have HNM := Lib.hid hnm
    obtain ⟨pl, hpl⟩ : ∃ p, printL l = p := ⟨_, rfl⟩
    obtain ⟨pm, hpm⟩ : ∃ p, printL m = p := ⟨_, rfl⟩
    rw [hpl] at hP1 hL a1 a2'
    rw [hpm] at hP2 hL a2'
    obtain ⟨nl, hnl⟩ : ∃ n, l.length = n := ⟨_, rfl⟩
    obtain ⟨nn, hnn⟩ : ∃ n, m.length = n := ⟨_, rfl⟩
    rw [hnl] at hS1 hA1 hP1 ⊢
    rw [hnn] at hS2 hA2 hP2 ⊢
    simp only [hnl, List.nil_append] at HAP
    simp only [hnl] at HAP2
    have HNL := Lib.hid hnl
    simp only [hnn] at HAP2
    have HS1 := Lib.hid hS1
    have HS2 := Lib.hid hS2
    have HA1 := Lib.hid hA1
    have HA2 := Lib.hid hA2
    have HP1 := Lib.hid hP1
    have HP2 := Lib.hid hP2
    have HL := Lib.hid hL
    clear hS1 hS2 hA1 hA2 hP1 hP2 hL hjc hT hT2 f1 g1 p1 q1 f2 g2 p2 q2 s1 s2 r1 r2 hr1 hr2 h hk hnm hpl hpm
    go_enter Try.func6, Try.ntmps6
    go_wp2_with fail
    refine (HS1.out _ (Below.refl _ _)).mono ?_
    rintro e w1 ⟨rfl, rfl⟩
    go_wp2_with fail
    refine (HS2.out _ (Below.refl _ _)).mono ?_
    rintro e w1 ⟨rfl, rfl⟩
    go_wp2_with fail
    refine (HA1.out _ (Below.refl _ _)).mono ?_
    rintro e w1 ⟨rfl, hb1⟩
    have HB1 := Lib.hid hb1
    clear hb1
    go_wp2_with fail
    refine (HA2.out _ HB1.out).mono ?_
    rintro e w2 ⟨rfl, hb2⟩
    have HB2 := Lib.hid (HB1.out.trans (hb2.mono HB1.out.size))
    clear hb2
    go_wp2_with fail
    refine (HP1.out _ HB2.out).mono ?_
    rintro e w3 ⟨rfl, hb3⟩
    have HB3 := Lib.hid (HB2.out.trans (hb3.mono HB2.out.size))
    clear hb3
    go_wp2_with fail
    refine (HP2.out _ HB3.out).mono ?_
    rintro e w4 ⟨rfl, hb4⟩
    have HB4 := Lib.hid (HB3.out.trans (hb4.mono HB3.out.size))
    clear hb4
    go_wp2_with fail
    refine (HL.out _ HB4.out).mono ?_
    rintro e w5 ⟨a5, c5, rfl, hT5, hb5⟩
    have HB5 := Lib.hid (HB4.out.trans (hb5.mono HB4.out.size))
    have HT5 := Lib.hid hT5
    clear hb5 hT5
    obtain ⟨v6, w6, hr6, hown6, hb6⟩ := HAP.out w5 HB5.out
    have HB6 := Lib.hid (HB5.out.trans (hb6.mono HB5.out.size))
    obtain ⟨v7, w7, hr7, hown7, hb7⟩ := HAP2.out w5.heap.size v6 w6 hb6.size HB6.out hown6
    have HT7 : Hid (Tks w7 a5 (l ++ m)) := Lib.hid (HT5.out.below (hb6.trans hb7))
    have HB7 := Lib.hid (HB5.out.trans ((hb6.trans hb7).mono HB5.out.size))
    obtain ⟨a7, c7, hv7, hT7⟩ := Tks_own hown7
    rw [HNM.out] at hv7
    subst hv7
    have HTT := Lib.hid hT7
    have HR6 := Lib.hid hr6
    have HR7 := Lib.hid hr7
    clear hown6 hown7 hb6 hb7 hT7 hr6 hr7
    go_wp2_with (first
      | (at_builtin; refine wpList_append_runL rfl _ _ 26 rfl _ _ _ _ rfl rfl HR6.out ?_)
      | (at_builtin; refine wpList_append_runL rfl _ _ 26 rfl _ _ _ _ rfl rfl HR7.out ?_))
    have hsm : Calls Try.prog 16 #[.slice a5 nm c5, .slice a7 nm c7] w7 fun e w' => e = .returned (.bool true) ∧ Below w7.heap.size w7 w' := by
      have := Tks.sameC (c := c5) (c2 := c7) HLM.out HT7.out HTT.out
      rw [decide_eq_true rfl, HNM.out] at this
      exact this
    refine hsm.mono ?_
    rintro e w8 ⟨rfl, hb8⟩
    have HB8 := Lib.hid (HB7.out.trans (hb8.mono HB7.out.size))
    clear hb8 hsm
    go_wp2_with fail
    refine (KN.out _ HB8.out).mono ?_
    rintro e w9 ⟨rfl, hb9⟩
    have HB9 := Lib.hid (HB8.out.trans (hb9.mono HB8.out.size))
    clear hb9
    go_wp2_with fail
    go_ret
    exact ⟨rfl, HB9.out⟩
  · have fin : ∀ b : Bool, True := fun _ => trivial
    cases s1 : shortL l with
    | false =>
      rw [s1] at hS1
      have HS1 := Lib.hid hS1
      clear hS1 hS2 hT hT2 h hk hs
      go_enter Try.func6, Try.ntmps6
      go_wp2_with fail
      refine (HS1.out _ (Below.refl _ _)).mono ?_
      rintro e w1 ⟨rfl, rfl⟩
      go_wp2_with fail
      refine (KN.out _ (Below.refl _ _)).mono ?_
      rintro e w1 ⟨rfl, hb⟩
      go_wp2_with fail
      go_ret
      exact ⟨rfl, hb⟩
    | true =>
      rw [s1] at hS1
      cases s2 : shortL m with
      | false =>
        rw [s2] at hS2
        have HS1 := Lib.hid hS1
        have HS2 := Lib.hid hS2
        clear hS1 hS2 hT hT2 h hk hs
        go_enter Try.func6, Try.ntmps6
        go_wp2_with fail
        refine (HS1.out _ (Below.refl _ _)).mono ?_
        rintro e w1 ⟨rfl, rfl⟩
        go_wp2_with fail
        refine (HS2.out _ (Below.refl _ _)).mono ?_
        rintro e w1 ⟨rfl, rfl⟩
        go_wp2_with fail
        refine (KN.out _ (Below.refl _ _)).mono ?_
        rintro e w1 ⟨rfl, hb⟩
        go_wp2_with fail
        go_ret
        exact ⟨rfl, hb⟩
      | true =>
        rw [s2] at hS2
        obtain ⟨f1, g1, p1, q1, n1⟩ := short_fits s1
        obtain ⟨f2, g2, p2, q2, n2⟩ := short_fits s2
        have hA1 := fun W (hW : Below w.heap.size w W) => refAll_any a l cap W (by omega) (hT.below hW) g1
        have hA2 := fun W (hW : Below w.heap.size w W) => refAll_any a2 m cap2 W (by omega) (hT2.below hW) g2
        cases r1 : l.all right with
        | false =>
          rw [r1] at hA1
          have HS1 := Lib.hid hS1
          have HS2 := Lib.hid hS2
          have HA1 := Lib.hid hA1
          clear hS1 hS2 hA1 hA2 hT hT2 h hk hs f1 g1 p1 q1 f2 g2 p2 q2
          go_enter Try.func6, Try.ntmps6
          go_wp2_with fail
          refine (HS1.out _ (Below.refl _ _)).mono ?_
          rintro e w1 ⟨rfl, rfl⟩
          go_wp2_with fail
          refine (HS2.out _ (Below.refl _ _)).mono ?_
          rintro e w1 ⟨rfl, rfl⟩
          go_wp2_with fail
          refine (HA1.out _ (Below.refl _ _)).mono ?_
          rintro e w1 ⟨rfl, hb1⟩
          have HB1 := Lib.hid hb1
          clear hb1
          go_wp2_with fail
          refine (KN.out _ HB1.out).mono ?_
          rintro e w3 ⟨rfl, hb⟩
          have HB3 := Lib.hid (HB1.out.trans (hb.mono HB1.out.size))
          clear hb
          go_wp2_with fail
          go_ret
          exact ⟨rfl, HB3.out⟩
        | true =>
          have r2 : m.all right = false := by
            cases r2 : m.all right with
            | false => rfl
            | true => exact absurd ⟨s1, s2, r1, r2⟩ hs
          rw [r1] at hA1
          rw [r2] at hA2
          have HS1 := Lib.hid hS1
          have HS2 := Lib.hid hS2
          have HA1 := Lib.hid hA1
          have HA2 := Lib.hid hA2
          clear hS1 hS2 hA1 hA2 hT hT2 h hk hs f1 g1 p1 q1 f2 g2 p2 q2
          go_enter Try.func6, Try.ntmps6
          go_wp2_with fail
          refine (HS1.out _ (Below.refl _ _)).mono ?_
          rintro e w1 ⟨rfl, rfl⟩
          go_wp2_with fail
          refine (HS2.out _ (Below.refl _ _)).mono ?_
          rintro e w1 ⟨rfl, rfl⟩
          go_wp2_with fail
          refine (HA1.out _ (Below.refl _ _)).mono ?_
          rintro e w1 ⟨rfl, hb1⟩
          have HB1 := Lib.hid hb1
          clear hb1
          go_wp2_with fail
          refine (HA2.out _ HB1.out).mono ?_
          rintro e w2 ⟨rfl, hb2⟩
          have HB2 := Lib.hid (HB1.out.trans (hb2.mono HB1.out.size))
          clear hb2
          go_wp2_with fail
          refine (KN.out _ HB2.out).mono ?_
          rintro e w3 ⟨rfl, hb⟩
          have HB3 := Lib.hid (HB2.out.trans (hb.mono HB2.out.size))
          clear hb
          go_wp2_with fail
          go_ret
          exact ⟨rfl, HB3.out⟩
end Go.Proofs.Ytipmgoejdkpknaa
