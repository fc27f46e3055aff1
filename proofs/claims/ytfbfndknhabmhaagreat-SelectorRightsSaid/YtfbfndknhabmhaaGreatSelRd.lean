/- Joined texts: SelR8 SelR9 SelRA SelRB SelRC. -/
import Derived.Test.YtfbfndknhabmhaaGreatSelRb
import Derived.Test.YtfbfndknhabmhaaGreatSelRa
import Derived.Test.YtfbfndknhabmhaaGreatSelWa
namespace Go.Proofs.YtfbfndknhabmhaaGreat
open Go.RowKit TreN LexP FixP SynP ValP SelP FixM
set_option linter.unusedVariables false

theorem six_set7 (w : World) (P : Nat) (T : TypeId) (s0 r1 r2 r3 r4 r5 r6 n1 n2 n3 n4 n5 n6 : Value) (h : w.heap[P]? = some (.cells #[s0, r1, r2, r3, r4, r5, r6] T (0, 0))) :
    ∃ x1 x2 x3 x4 x5 x6, (w.cell? ⟨P, 1, none⟩ = some r1 ∧ w.frozen? ⟨P, 1, none⟩ = false ∧ w.setCell ⟨P, 1, none⟩ n1 = x1) ∧ (x1.cell? ⟨P, 2, none⟩ = some r2 ∧ x1.frozen? ⟨P, 2, none⟩ = false ∧ x1.setCell ⟨P, 2, none⟩ n2 = x2) ∧ (x2.cell? ⟨P, 3, none⟩ = some r3 ∧ x2.frozen? ⟨P, 3, none⟩ = false ∧ x2.setCell ⟨P, 3, none⟩ n3 = x3) ∧
      (x3.cell? ⟨P, 4, none⟩ = some r4 ∧ x3.frozen? ⟨P, 4, none⟩ = false ∧ x3.setCell ⟨P, 4, none⟩ n4 = x4) ∧ (x4.cell? ⟨P, 5, none⟩ = some r5 ∧ x4.frozen? ⟨P, 5, none⟩ = false ∧ x4.setCell ⟨P, 5, none⟩ n5 = x5) ∧ (x5.cell? ⟨P, 6, none⟩ = some r6 ∧ x5.frozen? ⟨P, 6, none⟩ = false ∧ x5.setCell ⟨P, 6, none⟩ n6 = x6) ∧
      x6.heap[P]? = some (.cells #[s0, n1, n2, n3, n4, n5, n6] T (0, 0)) ∧ w.grownBy x6 (some P) := by
  have h1 : (w.setCell ⟨P, 1, none⟩ n1).heap[P]? = some (.cells #[s0, n1, r2, r3, r4, r5, r6] T (0, 0)) := setCell_here (k := 1) n1 h
  have h2 : ((w.setCell ⟨P, 1, none⟩ n1).setCell ⟨P, 2, none⟩ n2).heap[P]? = some (.cells #[s0, n1, n2, r3, r4, r5, r6] T (0, 0)) := setCell_here (k := 2) n2 h1
  have h3 : (((w.setCell ⟨P, 1, none⟩ n1).setCell ⟨P, 2, none⟩ n2).setCell ⟨P, 3, none⟩ n3).heap[P]? = some (.cells #[s0, n1, n2, n3, r4, r5, r6] T (0, 0)) := setCell_here (k := 3) n3 h2
  have h4 : ((((w.setCell ⟨P, 1, none⟩ n1).setCell ⟨P, 2, none⟩ n2).setCell ⟨P, 3, none⟩ n3).setCell ⟨P, 4, none⟩ n4).heap[P]? = some (.cells #[s0, n1, n2, n3, n4, r5, r6] T (0, 0)) := setCell_here (k := 4) n4 h3
  have h5 : (((((w.setCell ⟨P, 1, none⟩ n1).setCell ⟨P, 2, none⟩ n2).setCell ⟨P, 3, none⟩ n3).setCell ⟨P, 4, none⟩ n4).setCell ⟨P, 5, none⟩ n5).heap[P]? = some (.cells #[s0, n1, n2, n3, n4, n5, r6] T (0, 0)) := setCell_here (k := 5) n5 h4
  have h6 : ((((((w.setCell ⟨P, 1, none⟩ n1).setCell ⟨P, 2, none⟩ n2).setCell ⟨P, 3, none⟩ n3).setCell ⟨P, 4, none⟩ n4).setCell ⟨P, 5, none⟩ n5).setCell ⟨P, 6, none⟩ n6).heap[P]? = some (.cells #[s0, n1, n2, n3, n4, n5, n6] T (0, 0)) := setCell_here (k := 6) n6 h5
  exact ⟨_, _, _, _, _, _, ⟨cell_of h rfl, unfrozen_of h, rfl⟩, ⟨cell_of h1 rfl, unfrozen_of h1, rfl⟩, ⟨cell_of h2 rfl, unfrozen_of h2, rfl⟩, ⟨cell_of h3 rfl, unfrozen_of h3, rfl⟩, ⟨cell_of h4 rfl, unfrozen_of h4, rfl⟩, ⟨cell_of h5 rfl, unfrozen_of h5, rfl⟩, h6,
    grownBy_trans (grownBy_set _ _ _ _) (grownBy_trans (grownBy_set _ _ _ _) (grownBy_trans (grownBy_set _ _ _ _) (grownBy_trans (grownBy_set _ _ _ _) (grownBy_trans (grownBy_set _ _ _ _) (grownBy_set _ _ _ _)))))⟩
/-- what comes next, and what is done with it -/
theorem sim_step (p : Prt) (m : List Tok) : (simK m = 0 ∧ stepP p m = none) ∨ (∃ t r, m = t :: r ∧ ((simK m = 1 ∧ t.kind = 4 ∧ stepP p m = some (idO p t r)) ∨ (simK m = 2 ∧ t.kind = 15 ∧ stepP p m = some (tstO p r)) ∨ (simK m = 3 ∧ t.kind = 10 ∧ stepP p m = some (staO p r)) ∨ (simK m = 4 ∧ t.kind = 19 ∧ stepP p m = some (clsO p r)))) := by
  cases m with
  | nil => exact Or.inl ⟨rfl, rfl⟩
  | cons t r =>
    have hs : simK (t :: r) = if t.kind = 4 then 1 else if t.kind = 15 then 2 else if t.kind = 10 then 3 else if t.kind = 19 ∧ t.text = [46] then 4 else 0 := rfl
    by_cases h4 : t.kind = 4
    · exact Or.inr ⟨t, r, rfl, Or.inl ⟨by rw [hs, if_pos h4], h4, by rw [stepP_cons, if_pos h4]; rfl⟩⟩
    · by_cases h15 : t.kind = 15
      · exact Or.inr ⟨t, r, rfl, Or.inr (Or.inl ⟨by rw [hs, if_neg h4, if_pos h15], h15, by rw [stepP_cons, if_neg h4, if_pos h15]; rfl⟩)⟩
      · by_cases h10 : t.kind = 10
        · exact Or.inr ⟨t, r, rfl, Or.inr (Or.inr (Or.inl ⟨by rw [hs, if_neg h4, if_neg h15, if_pos h10], h10, by rw [stepP_cons, if_neg h4, if_neg h15, if_pos h10]; rfl⟩))⟩
        · by_cases h19 : t.kind = 19 ∧ t.text = [46]
          · exact Or.inr ⟨t, r, rfl, Or.inr (Or.inr (Or.inr ⟨by rw [hs, if_neg h4, if_neg h15, if_neg h10, if_pos h19], h19.1, by rw [stepP_cons, if_neg h4, if_neg h15, if_neg h10, if_pos h19]; rfl⟩))⟩
          · exact Or.inl ⟨by rw [hs, if_neg h4, if_neg h15, if_neg h10, if_neg h19], by rw [stepP_cons, if_neg h4, if_neg h15, if_neg h10, if_neg h19]⟩
/-- the method that is called next -/
theorem meth_call {w0 w : World} {P B : Nat} {p : Prt} {m : List Tok} {o : Option (Prt × List Tok)} (h : RdrAt w0 w P B p m) (hs : stepP p m = some o) : ∃ f, mval P (simK m) = .func (.func f) #[.pointer (some ⟨P, 0, none⟩)] #[] ∧ (f = 105 ∨ f = 106 ∨ f = 107 ∨ f = 108) ∧ Calls Tryz.prog f #[.pointer (some ⟨P, 0, none⟩)] w (StepOut w0 w P B o) := by
  rcases sim_step p m with ⟨_, h0⟩ | ⟨t, r, rfl, h1⟩
  · rw [h0] at hs; cases hs
  · rcases h1 with ⟨hk, ht, hst⟩ | ⟨hk, ht, hst⟩ | ⟨hk, ht, hst⟩ | ⟨hk, ht, hst⟩
    · rw [hst] at hs; injection hs with hs; subst hs
      exact ⟨_, by rw [hk]; rfl, Or.inl rfl, readID_any h ht⟩
    · rw [hst] at hs; injection hs with hs; subst hs
      exact ⟨_, by rw [hk]; rfl, Or.inr (Or.inl rfl), readTest_any h ht⟩
    · rw [hst] at hs; injection hs with hs; subst hs
      exact ⟨_, by rw [hk]; rfl, Or.inr (Or.inr (Or.inl rfl)), readState_any h ht⟩
    · rw [hst] at hs; injection hs with hs; subst hs
      exact ⟨_, by rw [hk]; rfl, Or.inr (Or.inr (Or.inr rfl)), readClass_any h ht⟩
theorem enters_meth {f : Nat} (h : f = 105 ∨ f = 106 ∨ f = 107 ∨ f = 108) : ∀ args w, (callFunc f args).run Tryz.prog w = .ok (.enter f args) w := by
  rcases h with rfl | rfl | rfl | rfl
  · exact enters_of Tryz.func105 (by kernel_rfl) rfl
  · exact enters_of Tryz.func106 (by kernel_rfl) rfl
  · exact enters_of Tryz.func107 (by kernel_rfl) rfl
  · exact enters_of Tryz.func108 (by kernel_rfl) rfl
theorem nil_neq (W : World) : (binOp .neq 32 .nilFunc .nilFunc).run Tryz.prog W = .ok (.bool false) W := by kernel_rfl
theorem fun_neq (f P : Nat) (W : World) : (binOp .neq 32 (.func (.func f) #[.pointer (some ⟨P, 0, none⟩)] #[]) .nilFunc).run Tryz.prog W = .ok (.bool true) W := by kernel_rfl
set_option maxRecDepth 100000 in
set_option maxHeartbeats 8000000 in
theorem readPart_any {w0 w : World} {P : Nat} {p0 : Prt} {vC vT : Value} {l : List Tok} (c : Int) (hc : Cur w0 w P 95 (restP p0 vC vT) l) (hx : TxOk7 l) (hl : l.length ≤ 100000) : Calls Tryz.prog 69 #[.pointer (some ⟨P, 0, none⟩), .int .i64 c] w (StepOut w0 w P w.heap.size (partP c l)) := by
  have hlt := hc.lt
  obtain ⟨sa, sc, hb, hs1, hs2, hT⟩ := hc.ex
  have hb : w.heap[P]? = some (.cells #[.slice sa l.length sc, .int .i64 p0.comb, .string ⟨p0.tag.toArray⟩, .string ⟨p0.id.toArray⟩, vC, vT, .int .i64 p0.states] 95 (0, 0)) := hb
  obtain ⟨x1, x2, x3, x4, x5, x6, ⟨a1, b1, e1⟩, ⟨a2, b2, e2⟩, ⟨a3, b3, e3⟩, ⟨a4, b4, e4⟩, ⟨a5, b5, e5⟩, ⟨a6, b6, e6⟩, h6, hg6⟩ := six_set7 w P 95 _ _ _ _ _ _ _ (.int .i64 c) (.string ⟨#[]⟩) (.string ⟨#[]⟩) (.slice none 0 0) (.slice none 0 0) (.int .i64 0) hb
  have hc6 : Cur w0 x6 P 95 (restP (bare c []) (.slice none 0 0) (.slice none 0 0)) l := ⟨⟨sa, sc, h6, hs1, hs2, hT⟩, hc.base, hc.bel.grown hg6 hc.bel.size (fun k hk => by injection hk with hk; have := hc.base; omega)⟩
  have hr6 : RdrAt w0 x6 P w.heap.size (bare c []) l := ⟨⟨_, _, hc6, World.ownsRow_nil _ _ _ _, World.ownsRow_nil _ _ _ _⟩, hlt, hg6.size, by simp only [bare, List.length_nil]; omega, hx, ⟨Nat.zero_le _, Nat.zero_le _, fun c h => (by cases h), fun c h => (by cases h), Int.le_refl _, by show (0 : Int) ≤ 7; omega⟩⟩
  have HR6 := Lib.hid hr6
  have HG6 := Lib.hid hg6
  have HPF := Lib.hid (partP_pf c l)
  obtain ⟨R, hR⟩ : ∃ R, partP c l = R := ⟨_, rfl⟩
  rw [hR] at HPF ⊢
  clear hc hx hb hs1 hs2 hT h6 hg6 hc6 hr6 hR hl
  obtain ⟨B, hB⟩ : ∃ B, w.heap.size = B := ⟨_, rfl⟩
  rw [hB] at HR6 ⊢
  clear hB
  go_enter Tryz.func69, Tryz.ntmps69
  go_wp2_with fail
  clear a1 b1 a2 b2 a3 b3 a4 b4 a5 b5 a6 b6 e1 e2 e3 e4 e5 e6
  refine (readTag_any HR6.out).mono ?_
  rintro e w1 ⟨rfl, hr1, hg1⟩
  have HR1 := Lib.hid hr1
  have HG1 := Lib.hid (grownBy_trans HG6.out hg1)
  obtain ⟨tg, htg⟩ : ∃ t, tagP l = t := ⟨_, rfl⟩
  obtain ⟨tgx, tgb, tgl⟩ := tg
  rw [htg] at HR1 HPF
  rw [htg]
  clear hr1 hg1 htg HR6 HG6
  go_wp2_with fail
  obtain ⟨v1, v2, hcu, _⟩ := HR1.out.ex
  refine (simple_any hcu).mono ?_
  rintro e w2 ⟨rfl, hb2⟩
  have HR2 := Lib.hid (HR1.out.keep hb2)
  have HF2 : Hid (FrP B P w w2) := Lib.hid ((FrP.grown HG1.out).trans (FrP.own hb2))
  clear hb2 hcu HR1 HG1
  go_wp2_with fail
  go_loopg [5, 6] tgl.length (fun gk vb vf wr => ∃ (b : Bool) (p : Prt) (m : List Tok), vb = .bool b ∧ vf = mval P (simK m) ∧ m.length = gk ∧ Hid (RdrAt w0 wr P B p m) ∧ Hid (FrP B P w wr) ∧ Hid (pf b p m = R))
  case atStart => exact ⟨tgb, bare c tgx, tgl, rfl, rfl, rfl, HR2, HF2, Lib.hid HPF.out.symm⟩
  case round =>
    obtain ⟨b, p, m, rfl, rfl, hm, HR, HF, HP⟩ := hrel
    cases hst : stepP p m with
    | none =>
      have hk : simK m = 0 := by
        rcases sim_step p m with ⟨h0, _⟩ | ⟨t, r, rfl, h1⟩
        · exact h0
        · rcases h1 with ⟨_, _, h⟩ | ⟨_, _, h⟩ | ⟨_, _, h⟩ | ⟨_, _, h⟩ <;> rw [h] at hst <;> cases hst
      have hmv : mval P (simK m) = .nilFunc := by rw [hk]; rfl
      have hpf := HP.out
      rw [pf_stop hst] at hpf
      have HPP := Lib.hid hpf
      rw [hmv]
      have hnn := nil_neq
      clear hst hk hmv hm hpf
      go_wp2_with fail
      go_ret
      cases b with
      | false => exact stepOut_no (by rw [← HPP.out]; rfl) HR.out.bel HF.out
      | true => exact stepOut_yes (q := (p, m)) (by rw [← HPP.out]; rfl) HF.out HR.out
    | some o =>
      obtain ⟨f, hf1, hf2, hcall⟩ := meth_call HR.out hst
      have eq := enters_meth hf2
      have HCALL := Lib.hid hcall
      rw [hf1]
      have HST := Lib.hid hst
      have hff := fun_neq f P
      clear hf1 hf2 hcall hst
      cases o with
      | none =>
        have HN : Hid (R = none) := Lib.hid (by rw [← HP.out]; exact pf_fail HST.out)
        go_wp2_with fail
        refine HCALL.out.mono ?_
        rintro e w3 ⟨rfl, hb3, hfr3, _⟩
        have HB3 := Lib.hid (And.intro hb3 (HF.out.trans hfr3))
        clear hb3 hfr3
        go_wp2_with fail
        go_ret
        exact stepOut_no HN.out HB3.out.1 HB3.out.2
      | some q =>
        have HY : Hid (pf true q.1 q.2 = R) := Lib.hid (by rw [← HP.out]; exact (pf_step HST.out).symm)
        have hlen := stepP_len HST.out
        rw [hm] at hlen
        have HLEN := Lib.hid hlen
        clear hlen hm
        go_wp2_with fail
        refine HCALL.out.mono ?_
        rintro e w3 ⟨rfl, _, hfr3, hq3⟩
        have HR3 := Lib.hid (hq3 q rfl)
        have HF3 := Lib.hid (HF.out.trans hfr3)
        clear hfr3 hq3
        obtain ⟨u1, u2, hcu, _⟩ := HR3.out.ex
        have HSM := Lib.hid (simple_any hcu)
        clear hcu
        go_wp2_with fail
        refine HSM.out.mono ?_
        rintro e w4 ⟨rfl, hb4⟩
        have HR4 := Lib.hid (HR3.out.keep hb4)
        have HF4 : Hid (FrP B P w w4) := Lib.hid (HF3.out.trans (FrP.own hb4))
        clear hb4
        go_wp2_with fail
        go_roundg q.2.length
        case rel => exact ⟨true, q.1, q.2, rfl, rfl, rfl, HR4, HF4, HY⟩
        case measure => exact HLEN.out
end Go.Proofs.YtfbfndknhabmhaaGreat

namespace Go.Proofs.YtfbfndknhabmhaaGreat
open Go.RowKit TreN LexP FixP SynP ValP SelP FixM
set_option linter.unusedVariables false

def g62 : List UInt8 := [62]
def g43 : List UInt8 := [43]
def g126 : List UInt8 := [126]
theorem comb_2 {l q : List Tok} (h : passP 19 g62 (bs l) = some q) : combP l = (2, bs q) := by unfold combP; rw [show passP 19 [62] (bs l) = some q from h]
theorem comb_3 {l q : List Tok} (h0 : passP 19 g62 (bs l) = none) (h : passP 19 g43 (bs l) = some q) : combP l = (3, bs q) := by unfold combP; rw [show passP 19 [62] (bs l) = none from h0, show passP 19 [43] (bs l) = some q from h]
theorem comb_4 {l q : List Tok} (h0 : passP 19 g62 (bs l) = none) (h1 : passP 19 g43 (bs l) = none) (h : passP 19 g126 (bs l) = some q) : combP l = (4, bs q) := by unfold combP; rw [show passP 19 [62] (bs l) = none from h0, show passP 19 [43] (bs l) = none from h1, show passP 19 [126] (bs l) = some q from h]
theorem comb_0 {l : List Tok} (h0 : passP 19 g62 (bs l) = none) (h1 : passP 19 g43 (bs l) = none) (h : passP 19 g126 (bs l) = none) : combP l = (if (bs l).length < l.length then 1 else 0, bs l) := by unfold combP; rw [show passP 19 [62] (bs l) = none from h0, show passP 19 [43] (bs l) = none from h1, show passP 19 [126] (bs l) = none from h]
set_option maxRecDepth 100000 in
set_option maxHeartbeats 8000000 in
theorem readComb_any {w0 w : World} {P : Nat} {T : TypeId} {rest : List Value} {l : List Tok} (h : Cur w0 w P T rest l) : Calls Tryz.prog 70 #[.pointer (some ⟨P, 0, none⟩)] w fun e w' => e = .returned (.int .i64 (combP l).1) ∧ w.grownBy w' (some P) ∧ Cur w0 w' P T rest (combP l).2 := by
  have SP := Lib.hid (Spaces_any h)
  obtain ⟨sb, hsb⟩ : ∃ b, decide ((bs l).length < l.length) = b := ⟨_, rfl⟩
  rw [hsb] at SP
  have HSB := Lib.hid hsb
  obtain ⟨L, hL⟩ : ∃ L, bs l = L := ⟨_, rfl⟩
  have HL := Lib.hid hL
  rw [hL] at SP
  obtain ⟨R, hR⟩ : ∃ R, combP l = R := ⟨_, rfl⟩
  have HR := Lib.hid hR
  rw [hR]
  clear h hsb hL hR
  go_enter Tryz.func70, Tryz.ntmps70
  go_wp2_with fail
  refine SP.out.mono ?_
  rintro e w1 ⟨rfl, hg1, hc1⟩
  have HG1 := Lib.hid hg1
  have HC1 := Lib.hid hc1
  clear hg1 hc1
  go_wp2_with fail
  go_loopw [4] (fun vi wr => Hid (Below w1.heap.size w1 wr) ∧ (vi = .int .i64 2 ∨ (vi = .int .i64 3 ∧ Hid (passP 19 g62 L = none)) ∨ (vi = .int .i64 4 ∧ Hid (passP 19 g62 L = none ∧ passP 19 g43 L = none)) ∨ (vi = .int .i64 5 ∧ Hid (passP 19 g62 L = none ∧ passP 19 g43 L = none ∧ passP 19 g126 L = none)))) (fun vi _ => 5 - (intOf vi).toNat)
  case atStart => exact ⟨Lib.hid (Below.refl _ _), Or.inl rfl⟩
  case round =>
    obtain ⟨HBr, rfl | ⟨rfl, HN⟩ | ⟨rfl, HN⟩ | ⟨rfl, HN⟩⟩ := hrel
    · have HCr : Hid (Cur w0 wr.drew P T rest L) := Lib.hid ((HC1.out.keep HBr.out).keep (Below.drew (Below.refl _ _)))
      have HGr : Hid (w.grownBy wr.drew (some P)) := Lib.hid (grownBy_trans HG1.out (grownBy_below _ HBr.out.drew))
      have WW : Hid (∀ W : World, Calls Tryz.prog 82 #[.int .i64 2] W fun e w' => e = .returned (.string ⟨g62.toArray⟩) ∧ w' = W) := Lib.hid (fun W => mark_any 2 (by omega) (by omega) W)
      have HWB : Hid (Below w1.heap.size w1 wr.drew) := Lib.hid HBr.out.drew
      cases hp : passP 19 g62 L with
      | some s =>
        have PY := Lib.hid (pass_call HCr.out hp)
        have HSO : Hid (R = (2, bs s)) := Lib.hid (by rw [← HR.out]; exact comb_2 (by rw [HL.out]; exact hp))
        clear hp
        go_wp2_with fail
        refine wp_region_still_tail 5 (by kernel_rfl) (by kernel_rfl) ?_
        simp only [List.take_succ_cons, List.take_zero, List.drop_succ_cons, List.drop_zero]
        still_step
        still_step
        still_step
        still_step
        still_call (WW.out _)
        refine wpStill_nil ?_
        change wpList _ _ _ _ _ wr.drew
        generalize wr.drew = wd at *
        go_wp2_with fail
        refine PY.out.mono ?_
        rintro e w2 ⟨rfl, hg2, hc2⟩
        have HG2 := Lib.hid (grownBy_trans HGr.out hg2)
        have SP2 := Lib.hid (Spaces_any hc2)
        clear hg2 hc2
        go_wp2_with fail
        refine SP2.out.mono ?_
        rintro e w3 ⟨rfl, hg3, hc3⟩
        have HF := Lib.hid (And.intro (grownBy_trans HG2.out hg3) hc3)
        clear hg3 hc3
        go_wp2_with fail
        go_ret
        rw [HSO.out]
        exact ⟨rfl, HF.out.1, HF.out.2⟩
      | none =>
        have PN := Lib.hid (Pass_no 19 g62 HCr.out hp)
        have HPN := Lib.hid hp
        clear hp
        go_wp2_with fail
        refine wp_region_still_tail 5 (by kernel_rfl) (by kernel_rfl) ?_
        simp only [List.take_succ_cons, List.take_zero, List.drop_succ_cons, List.drop_zero]
        still_step
        still_step
        still_step
        still_step
        still_call (WW.out _)
        refine wpStill_nil ?_
        change wpList _ _ _ _ _ wr.drew
        generalize wr.drew = wd at *
        go_wp2_with fail
        refine PN.out.mono ?_
        rintro e w2 ⟨rfl, hb2⟩
        have HB2 := Lib.hid (HWB.out.trans (hb2.mono HWB.out.size))
        clear hb2
        go_wp2_with fail
        go_roundw
        case rel => exact ⟨HB2, Or.inr (Or.inl ⟨rfl, Lib.hid trivial⟩)⟩
        case measure => simp [intOf]
    · have HCr : Hid (Cur w0 wr.drew P T rest L) := Lib.hid ((HC1.out.keep HBr.out).keep (Below.drew (Below.refl _ _)))
      have HGr : Hid (w.grownBy wr.drew (some P)) := Lib.hid (grownBy_trans HG1.out (grownBy_below _ HBr.out.drew))
      have WW : Hid (∀ W : World, Calls Tryz.prog 82 #[.int .i64 3] W fun e w' => e = .returned (.string ⟨g43.toArray⟩) ∧ w' = W) := Lib.hid (fun W => mark_any 3 (by omega) (by omega) W)
      have HWB : Hid (Below w1.heap.size w1 wr.drew) := Lib.hid HBr.out.drew
      cases hp : passP 19 g43 L with
      | some s =>
        have PY := Lib.hid (pass_call HCr.out hp)
        have HSO : Hid (R = (3, bs s)) := Lib.hid (by rw [← HR.out]; exact comb_3 (by rw [HL.out]; exact HN.out) (by rw [HL.out]; exact hp))
        clear hp
        go_wp2_with fail
        refine wp_region_still_tail 5 (by kernel_rfl) (by kernel_rfl) ?_
        simp only [List.take_succ_cons, List.take_zero, List.drop_succ_cons, List.drop_zero]
        still_step
        still_step
        still_step
        still_step
        still_call (WW.out _)
        refine wpStill_nil ?_
        change wpList _ _ _ _ _ wr.drew
        generalize wr.drew = wd at *
        go_wp2_with fail
        refine PY.out.mono ?_
        rintro e w2 ⟨rfl, hg2, hc2⟩
        have HG2 := Lib.hid (grownBy_trans HGr.out hg2)
        have SP2 := Lib.hid (Spaces_any hc2)
        clear hg2 hc2
        go_wp2_with fail
        refine SP2.out.mono ?_
        rintro e w3 ⟨rfl, hg3, hc3⟩
        have HF := Lib.hid (And.intro (grownBy_trans HG2.out hg3) hc3)
        clear hg3 hc3
        go_wp2_with fail
        go_ret
        rw [HSO.out]
        exact ⟨rfl, HF.out.1, HF.out.2⟩
      | none =>
        have PN := Lib.hid (Pass_no 19 g43 HCr.out hp)
        have HPN := Lib.hid hp
        clear hp
        go_wp2_with fail
        refine wp_region_still_tail 5 (by kernel_rfl) (by kernel_rfl) ?_
        simp only [List.take_succ_cons, List.take_zero, List.drop_succ_cons, List.drop_zero]
        still_step
        still_step
        still_step
        still_step
        still_call (WW.out _)
        refine wpStill_nil ?_
        change wpList _ _ _ _ _ wr.drew
        generalize wr.drew = wd at *
        go_wp2_with fail
        refine PN.out.mono ?_
        rintro e w2 ⟨rfl, hb2⟩
        have HB2 := Lib.hid (HWB.out.trans (hb2.mono HWB.out.size))
        clear hb2
        go_wp2_with fail
        go_roundw
        case rel => exact ⟨HB2, Or.inr (Or.inr (Or.inl ⟨rfl, Lib.hid ⟨HN.out, trivial⟩⟩))⟩
        case measure => simp [intOf]
    · have HCr : Hid (Cur w0 wr.drew P T rest L) := Lib.hid ((HC1.out.keep HBr.out).keep (Below.drew (Below.refl _ _)))
      have HGr : Hid (w.grownBy wr.drew (some P)) := Lib.hid (grownBy_trans HG1.out (grownBy_below _ HBr.out.drew))
      have WW : Hid (∀ W : World, Calls Tryz.prog 82 #[.int .i64 4] W fun e w' => e = .returned (.string ⟨g126.toArray⟩) ∧ w' = W) := Lib.hid (fun W => mark_any 4 (by omega) (by omega) W)
      have HWB : Hid (Below w1.heap.size w1 wr.drew) := Lib.hid HBr.out.drew
      cases hp : passP 19 g126 L with
      | some s =>
        have PY := Lib.hid (pass_call HCr.out hp)
        have HSO : Hid (R = (4, bs s)) := Lib.hid (by rw [← HR.out]; exact comb_4 (by rw [HL.out]; exact HN.out.1) (by rw [HL.out]; exact HN.out.2) (by rw [HL.out]; exact hp))
        clear hp
        go_wp2_with fail
        refine wp_region_still_tail 5 (by kernel_rfl) (by kernel_rfl) ?_
        simp only [List.take_succ_cons, List.take_zero, List.drop_succ_cons, List.drop_zero]
        still_step
        still_step
        still_step
        still_step
        still_call (WW.out _)
        refine wpStill_nil ?_
        change wpList _ _ _ _ _ wr.drew
        generalize wr.drew = wd at *
        go_wp2_with fail
        refine PY.out.mono ?_
        rintro e w2 ⟨rfl, hg2, hc2⟩
        have HG2 := Lib.hid (grownBy_trans HGr.out hg2)
        have SP2 := Lib.hid (Spaces_any hc2)
        clear hg2 hc2
        go_wp2_with fail
        refine SP2.out.mono ?_
        rintro e w3 ⟨rfl, hg3, hc3⟩
        have HF := Lib.hid (And.intro (grownBy_trans HG2.out hg3) hc3)
        clear hg3 hc3
        go_wp2_with fail
        go_ret
        rw [HSO.out]
        exact ⟨rfl, HF.out.1, HF.out.2⟩
      | none =>
        have PN := Lib.hid (Pass_no 19 g126 HCr.out hp)
        have HPN := Lib.hid hp
        clear hp
        go_wp2_with fail
        refine wp_region_still_tail 5 (by kernel_rfl) (by kernel_rfl) ?_
        simp only [List.take_succ_cons, List.take_zero, List.drop_succ_cons, List.drop_zero]
        still_step
        still_step
        still_step
        still_step
        still_call (WW.out _)
        refine wpStill_nil ?_
        change wpList _ _ _ _ _ wr.drew
        generalize wr.drew = wd at *
        go_wp2_with fail
        refine PN.out.mono ?_
        rintro e w2 ⟨rfl, hb2⟩
        have HB2 := Lib.hid (HWB.out.trans (hb2.mono HWB.out.size))
        clear hb2
        go_wp2_with fail
        go_roundw
        case rel => exact ⟨HB2, Or.inr (Or.inr (Or.inr ⟨rfl, Lib.hid ⟨HN.out.1, HN.out.2, trivial⟩⟩))⟩
        case measure => simp [intOf]
    · have HSO : Hid (R = (if sb = true then 1 else 0, L)) := Lib.hid (by
        rw [← HR.out, comb_0 (by rw [HL.out]; exact HN.out.1) (by rw [HL.out]; exact HN.out.2.1) (by rw [HL.out]; exact HN.out.2.2), HL.out]
        have := HSB.out
        rw [HL.out] at this
        cases sb with
        | true => rw [if_pos (of_decide_eq_true this)]; rfl
        | false => rw [if_neg (of_decide_eq_false this)]; rfl)
      have HF := Lib.hid (And.intro (grownBy_trans HG1.out (grownBy_below (some P) HBr.out)) (HC1.out.keep HBr.out))
      cases sb with
      | true =>
        go_wp2_with fail
        go_ret
        rw [HSO.out]
        exact ⟨rfl, HF.out.1, HF.out.2⟩
      | false =>
        go_wp2_with fail
        go_ret
        rw [HSO.out]
        exact ⟨rfl, HF.out.1, HF.out.2⟩
end Go.Proofs.YtfbfndknhabmhaaGreat

namespace Go.Proofs.YtfbfndknhabmhaaGreat
open Go.RowKit TreN LexP FixP SynP ValP SelP FixM
set_option linter.unusedVariables false

def ptcs (l : List PtV) : List Value := l.flatMap PtV.cells
theorem ptcs_len : ∀ l : List PtV, (ptcs l).length = l.length * 6
  | [] => rfl
  | t :: l => by
    have := ptcs_len l
    unfold ptcs at this ⊢
    rw [List.flatMap_cons, List.length_append, this]
    simp only [PtV.cells, List.length_cons, List.length_nil]; omega
theorem ptcs_get : ∀ (l : List PtV) (i : Nat) (h : i < l.length) (j : Nat), j < 6 → (ptcs l)[i * 6 + j]? = (l[i]).cells[j]?
  | t :: l, 0, _, j, hj => by
    unfold ptcs
    rw [List.flatMap_cons, Nat.zero_mul, Nat.zero_add, List.getElem?_append_left (by show j < 6; exact hj)]
    rfl
  | t :: l, i + 1, h, j, hj => by
    have ih := ptcs_get l i (by simpa using h) j hj
    have e : (i + 1) * 6 + j = 6 + (i * 6 + j) := by omega
    unfold ptcs at ih ⊢
    rw [List.flatMap_cons, e, List.getElem?_append_right (by show 6 ≤ _; omega)]
    have : 6 + (i * 6 + j) - t.cells.length = i * 6 + j := by show 6 + (i * 6 + j) - 6 = _; omega
    rw [this, ih]
    rfl
theorem info_part7 : (Tryz.prog.info? 36).map (fun i => (i.zero, i.size, i.bytes)) = some (some (.agg #[.int .i64 0, .string ⟨#[]⟩, .string ⟨#[]⟩, .slice none 0 0, .slice none 0 0, .int .i64 0]), 6, 96) := by kernel_rfl
theorem und_parts7 : Tryz.prog.underlying 22 = some (.slice 36) := by kernel_rfl
theorem info_sel7 : (Tryz.prog.info? 24).map (fun i => (i.zero, i.size, i.bytes)) = some (some (.agg #[.slice none 0 0]), 1, 24) := by kernel_rfl
theorem und_sels7 : Tryz.prog.underlying 28 = some (.slice 24) := by kernel_rfl
def PtRow (H : Nat) (w : World) (v : Value) (l : List PtV) : Prop := w.ownsRow H 36 6 v l.length (ptcs l)
/-- a part put behind parts -/
theorem putPt (H : Nat) (v : Value) (xs : List PtV) (x : PtV) (W : World) (hH : H ≤ W.heap.size) (hx : xs.length ≤ 100) (h : PtRow H W v xs) :
    ∃ g c w', (Builtin.append_ #[22, 22] 22 #[v, .slice (some ⟨W.heap.size, 0, none⟩) 1 1]).run Tryz.prog (W.alloc (.cells #[.int .i64 x.p.comb, .string ⟨x.p.tag.toArray⟩, .string ⟨x.p.id.toArray⟩, .slice x.ca x.p.classes.length x.cc, .slice x.ta x.p.tests.length x.tc, .int .i64 x.p.states] 36)) = .ok (.slice (some ⟨g, 0, none⟩) (xs.length + 1) c) w' ∧ PtRow H w' (.slice (some ⟨g, 0, none⟩) (xs.length + 1) c) (xs ++ [x]) ∧ Below H W w' ∧ KeptK 36 W w' ∧ xs.length + 1 ≤ c ∧ c ≤ maxLen := by
  obtain ⟨i, hi, hz0, hz1, hz2⟩ := info_parts info_part7
  have hal : PtRow H (W.alloc (.cells x.cells.toArray 36)) v xs := World.ownsRow.alloc h _
  obtain ⟨v', w', r1, r2, r3, r4⟩ := app_cellsG 22 36 i _ 6 96 und_parts7 hi hz0 hz1 hz2 rfl (by decide) H v xs.length (ptcs xs) (some ⟨W.heap.size, 0, none⟩) 1 1 x.cells (W.alloc (.cells x.cells.toArray 36)) (by simp; omega) hal rfl (Or.inr ⟨_, rfl, by simpa using World.news_of_block (heap_alloc_new W (.cells x.cells.toArray 36))⟩) (by intro u hu; simp only [PtV.cells, List.mem_cons, List.not_mem_nil, or_false] at hu; rcases hu with rfl | rfl | rfl | rfl | rfl | rfl <;> rfl) (by unfold maxLen; omega) (by omega)
  obtain ⟨g, c, hv, _, _⟩ := r2.form (by omega)
  subst hv
  have hc : xs.length + 1 ≤ c ∧ c ≤ maxLen := by
    rcases r2.2 with ⟨e, _⟩ | ⟨g2, cap, cur, e, _, _, h1, h2, _⟩
    · cases e
    · injection e with _ _ e3; subst e3; exact ⟨h1, h2⟩
  refine ⟨g, c, w', r1, ?_, ((Below.refl _ _).alloc hH _).trans r3, (KeptK.below (below_one7 W _)).trans (KeptK.grown hal r4), hc⟩
  have e : ptcs (xs ++ [x]) = ptcs xs ++ x.cells := by unfold ptcs; rw [List.flatMap_append]; simp
  unfold PtRow
  rw [List.length_append, e]
  exact r2
/-- an own row's texts and tests, as lists that may be read -/
theorem TxRow.txs {B : Nat} {w : World} {v : Value} {l : List (List UInt8)} (h : TxRow B w v l) : ∃ a c, v = .slice a l.length c ∧ l.length ≤ c ∧ c ≤ maxLen ∧ Txs w a l := by
  rcases h.2 with ⟨e, h0⟩ | ⟨g, cap, cur, e, _, hg, h1, h2, _, _⟩
  · have : l = [] := List.eq_nil_of_length_eq_zero h0
    subst this
    exact ⟨none, 0, e, Nat.le_refl _, Nat.zero_le _, Or.inl rfl⟩
  · subst e
    refine ⟨_, cap, rfl, h1, h2, Or.inr ⟨g, 0, rfl, (Array.getElem?_eq_some_iff.1 hg).1, fun i hi => ?_⟩⟩
    rw [Nat.zero_add, World.ownsRow.cellAt h i (by omega)]
    unfold txc
    rw [List.getElem?_map, List.getElem?_eq_getElem hi]; rfl
theorem tsc_get : ∀ (l : List Tst) (i : Nat) (h : i < l.length), (tsc l)[i * 3]? = some (.string ⟨l[i].name.toArray⟩) ∧ (tsc l)[i * 3 + 1]? = some (.bool l[i].equal) ∧ (tsc l)[i * 3 + 2]? = some (.string ⟨l[i].value.toArray⟩)
  | t :: l, 0, _ => ⟨rfl, rfl, rfl⟩
  | t :: l, i + 1, h => by
    have ih := tsc_get l i (by simpa using h)
    have e : (i + 1) * 3 = i * 3 + 3 := by omega
    rw [e]
    exact ih
theorem TsRow.tss {B : Nat} {w : World} {v : Value} {l : List Tst} (h : TsRow B w v l) : ∃ a c, v = .slice a l.length c ∧ l.length ≤ c ∧ c ≤ maxLen ∧ Tss w a l := by
  rcases h.2 with ⟨e, h0⟩ | ⟨g, cap, cur, e, _, hg, h1, h2, _, _⟩
  · have : l = [] := List.eq_nil_of_length_eq_zero h0
    subst this
    exact ⟨none, 0, e, Nat.le_refl _, Nat.zero_le _, Or.inl rfl⟩
  · subst e
    refine ⟨_, cap, rfl, h1, h2, Or.inr ⟨g, 0, rfl, (Array.getElem?_eq_some_iff.1 hg).1, fun i hi => ?_⟩⟩
    obtain ⟨k1, k2, k3⟩ := tsc_get l i hi
    rw [Nat.zero_add, World.ownsRow.cellAt h _ (by omega), World.ownsRow.cellAt h _ (by omega), World.ownsRow.cellAt h _ (by omega)]
    exact ⟨k1, k2, k3⟩
/-- texts' and tests' rows but for block P stay -/
def Keep7 (P : Nat) (w w' : World) : Prop := ∀ (b : Nat) (cur : Array Value) (T : TypeId) (fz : Nat × Nat), w.heap[b]? = some (Obj.cells cur T fz) → b ≠ P → (T = 9 ∨ T = 57) → w'.heap[b]? = some (Obj.cells cur T fz)
theorem Keep7.trans {P : Nat} {a b c : World} (h : Keep7 P a b) (k : Keep7 P b c) : Keep7 P a c := fun i cur T fz h1 h2 h3 => k i cur T fz (h i cur T fz h1 h2 h3) h2 h3
theorem Keep7.grown {P : Nat} {w w' : World} (h : w.grownBy w' (some P)) : Keep7 P w w' := fun b cur T fz h1 h2 _ => (h.block b (Array.getElem?_eq_some_iff.1 h1).1 (by intro e; injection e with e; exact h2 e)).trans h1
theorem kindsS : 9 ≠ 36 ∧ 57 ≠ 36 ∧ 9 ≠ 24 ∧ 57 ≠ 24 ∧ 24 ≠ 36 ∧ 95 ≠ 36 ∧ 36 ≠ 24 := by decide
theorem Keep7.kept {P : Nat} {w w' : World} (h : KeptK 36 w w') : Keep7 P w w' := fun b cur T fz h1 _ h3 => h b cur T fz h1 (by rcases h3 with rfl | rfl; exact kindsS.1; exact kindsS.2.1)
theorem Keep7.set {P S : Nat} {w : World} {cur0 : Array Value} (hS : w.heap[S]? = some (.cells cur0 24 (0, 0))) (k : Nat) (v : Value) : Keep7 P w (w.setCell ⟨S, k, none⟩ v) := fun b cur T fz h1 _ h3 => by
  have hne : b ≠ S := by
    intro e
    subst e
    rw [hS] at h1
    injection h1 with h1; injection h1 with _ h1 _
    rcases h3 with rfl | rfl
    · exact kindsS.2.2.1 h1.symm
    · exact kindsS.2.2.2.1 h1.symm
  rw [setCell_there _ hne]; exact h1
/-- a part whose rows lie in blocks of their own kinds, not in block P -/
structure PtFar (w : World) (P : Nat) (x : PtV) : Prop where
  ok : PtOk w x
  cls : x.p.classes = [] ∨ ∃ b o cur fz, x.ca = some ⟨b, o, none⟩ ∧ b ≠ P ∧ w.heap[b]? = some (.cells cur 9 fz)
  tst : x.p.tests = [] ∨ ∃ b o cur fz, x.ta = some ⟨b, o, none⟩ ∧ b ≠ P ∧ w.heap[b]? = some (.cells cur 57 fz)
theorem cell_same {w w' : World} {b : Nat} (h : w'.heap[b]? = w.heap[b]?) (k : Nat) : w'.cell? ⟨b, k, none⟩ = w.cell? ⟨b, k, none⟩ := by unfold World.cell?; simp only [h]
theorem PtFar.keep {w w' : World} {P : Nat} {x : PtV} (h : PtFar w P x) (hk : Keep7 P w w') (hs : w.heap.size ≤ w'.heap.size) : PtFar w' P x := by
  have hcls : x.p.classes = [] ∨ ∃ b o cur fz, x.ca = some ⟨b, o, none⟩ ∧ b ≠ P ∧ w'.heap[b]? = some (.cells cur 9 fz) := by
    rcases h.cls with h0 | ⟨b, o, cur, fz, e, h1, h2⟩
    · exact Or.inl h0
    · exact Or.inr ⟨b, o, cur, fz, e, h1, hk _ _ _ _ h2 h1 (Or.inl rfl)⟩
  have htst : x.p.tests = [] ∨ ∃ b o cur fz, x.ta = some ⟨b, o, none⟩ ∧ b ≠ P ∧ w'.heap[b]? = some (.cells cur 57 fz) := by
    rcases h.tst with h0 | ⟨b, o, cur, fz, e, h1, h2⟩
    · exact Or.inl h0
    · exact Or.inr ⟨b, o, cur, fz, e, h1, hk _ _ _ _ h2 h1 (Or.inr rfl)⟩
  have hC : Txs w' x.ca x.p.classes := by
    rcases h.ok.hc with h0 | ⟨b, o, e, hb, hc⟩
    · exact Or.inl h0
    · rcases h.cls with h0 | ⟨b2, o2, cur, fz, e2, h1, h2⟩
      · exact Or.inl h0
      · rw [e] at e2; injection e2 with e2; injection e2 with e2 _; subst e2
        refine Or.inr ⟨b, o, e, Nat.lt_of_lt_of_le hb hs, fun i hi => ?_⟩
        rw [cell_same ((hk _ _ _ _ h2 h1 (Or.inl rfl)).trans h2.symm)]; exact hc i hi
  have hT : Tss w' x.ta x.p.tests := by
    rcases h.ok.ht with h0 | ⟨b, o, e, hb, hc⟩
    · exact Or.inl h0
    · rcases h.tst with h0 | ⟨b2, o2, cur, fz, e2, h1, h2⟩
      · exact Or.inl h0
      · rw [e] at e2; injection e2 with e2; injection e2 with e2 _; subst e2
        refine Or.inr ⟨b, o, e, Nat.lt_of_lt_of_le hb hs, fun i hi => ?_⟩
        have hsame := (hk _ _ _ _ h2 h1 (Or.inr rfl)).trans h2.symm
        rw [cell_same hsame, cell_same hsame, cell_same hsame]; exact hc i hi
  exact ⟨⟨h.ok.hcc, h.ok.hcm, h.ok.htc, h.ok.htm, h.ok.tag, h.ok.id, h.ok.cls, h.ok.tst, h.ok.st, hC, hT⟩, hcls, htst⟩
/-- a part that was read -/
theorem RdrAt.far {w0 w : World} {P B : Nat} {p : Prt} {l : List Tok} (h : RdrAt w0 w P B p l) : ∃ ca cc ta tc, Cur w0 w P 95 (restP p (.slice ca p.classes.length cc) (.slice ta p.tests.length tc)) l ∧ PtFar w P ⟨p, ca, cc, ta, tc⟩ := by
  obtain ⟨vC, vT, hc, hr1, hr2⟩ := h.ex
  obtain ⟨ca, cc, e1, l1, m1, t1⟩ := hr1.txs
  obtain ⟨ta, tc, e2, l2, m2, t2⟩ := hr2.tss
  subst e1; subst e2
  refine ⟨ca, cc, ta, tc, hc, ⟨⟨l1, m1, l2, m2, h.tok.tag, h.tok.id, h.tok.cls, h.tok.tst, ?_, t1, t2⟩, ?_, ?_⟩⟩
  · have := h.tok.st0
    have := h.tok.st7
    show (Lit.int .i64 p.states).wf = true
    generalize p.states = n at *
    rcases (by omega : n = 0 ∨ n = 1 ∨ n = 2 ∨ n = 3 ∨ n = 4 ∨ n = 5 ∨ n = 6 ∨ n = 7) with rfl | rfl | rfl | rfl | rfl | rfl | rfl | rfl <;> decide
  · rcases hr1.2 with ⟨e, h0⟩ | ⟨g, cap, cur, e, hg, hb, _⟩
    · exact Or.inl (List.eq_nil_of_length_eq_zero h0)
    · injection e with e _ _; subst e
      exact Or.inr ⟨g, 0, cur, (0, 0), rfl, by have := h.hP; omega, hb⟩
  · rcases hr2.2 with ⟨e, h0⟩ | ⟨g, cap, cur, e, hg, hb, _⟩
    · exact Or.inl (List.eq_nil_of_length_eq_zero h0)
    · injection e with e _ _; subst e
      exact Or.inr ⟨g, 0, cur, (0, 0), rfl, by have := h.hP; omega, hb⟩
theorem grown_of {n P : Nat} {w0 w w' : World} (h : Below n w0 w) (h' : Below n w0 w') (hf : FrP w.heap.size P w w') : w.grownBy w' (some P) := ⟨h'.os.trans h.os.symm, h'.tape.trans h.tape.symm, h'.output.trans h.output.symm, hf.size, fun k hk hn => hf.block k hk (by intro e; exact hn (by rw [e])) hk⟩
theorem PtRow.pts {H : Nat} {w : World} {v : Value} {l : List PtV} {a : Option Addr} {c : Nat} (h : PtRow H w v l) (hv : v = .slice a l.length c) (hl : ∀ x ∈ l, PtOk w x) : Pts w a l := by
  rcases h.2 with ⟨e, h0⟩ | ⟨g, cap, cur, e, _, hg, h1, h2, _, _⟩
  · exact Or.inl (List.eq_nil_of_length_eq_zero h0)
  · subst hv
    injection e with e1 _ e3; subst e1; subst e3
    refine Or.inr ⟨g, 0, rfl, (Array.getElem?_eq_some_iff.1 hg).1, fun i hi => ⟨fun j hj => ?_, hl _ (List.getElem_mem hi)⟩⟩
    rw [Nat.zero_add, World.ownsRow.cellAt h _ (by omega), ptcs_get l i hi j hj]
end Go.Proofs.YtfbfndknhabmhaaGreat

namespace Go.Proofs.YtfbfndknhabmhaaGreat
open Go.RowKit TreN LexP FixP SynP ValP SelP FixM
set_option linter.unusedVariables false

theorem part_suf {c : Int} {l : List Tok} {q : Prt × List Tok} (h : partP c l = some q) : q.2.length ≤ l.length := by
  have hpf : ∀ (n : Nat) (b : Bool) (p : Prt) (m : List Tok), m.length ≤ n → pf b p m = some q → q.2.length ≤ m.length := by
    intro n
    induction n with
    | zero =>
      intro b p m hm h
      have : m = [] := List.eq_nil_of_length_eq_zero (by omega)
      subst this
      rw [pf_eq] at h
      have e : stepP p [] = none := rfl
      rw [e] at h
      cases b
      · cases h
      · injection h with h; subst h; exact Nat.le_refl _
    | succ n ih =>
      intro b p m hm h
      rw [pf_eq] at h
      cases hs : stepP p m with
      | none =>
        rw [hs] at h
        cases b
        · cases h
        · injection h with h; subst h; exact Nat.le_refl _
      | some o =>
        rw [hs] at h
        cases o with
        | none => cases h
        | some z =>
          have h1 := stepP_len hs
          have h2 := ih true z.1 z.2 (by omega) h
          omega
  rw [partP_pf] at h
  have h1 := hpf _ _ _ _ (Nat.le_refl _) h
  have h2 : (tagP l).2.2.length ≤ l.length := by
    unfold tagP
    cases hp : passP 19 [42] l with
    | some r => have := passP_lt hp; simp only; omega
    | none =>
      cases ht : takeP 1 l with
      | none => exact Nat.le_refl _
      | some z =>
        obtain ⟨t, r⟩ := z
        have := congrArg List.length (takeP_len ht).1
        simp only [List.length_cons] at this
        simp only; omega
  omega
theorem comb_suf (l : List Tok) : (combP l).2 <:+ l := by
  unfold combP
  have hb := bs_suf l
  cases h1 : passP 19 [62] (bs l) with
  | some q => exact (bs_suf q).trans ((pass_suf h1).trans hb)
  | none =>
    cases h2 : passP 19 [43] (bs l) with
    | some q => exact (bs_suf q).trans ((pass_suf h2).trans hb)
    | none =>
      cases h3 : passP 19 [126] (bs l) with
      | some q => exact (bs_suf q).trans ((pass_suf h3).trans hb)
      | none => exact hb
theorem readF_none {n : Nat} {c : Int} {acc : List Prt} {l : List Tok} (h : partP c l = none) : readF (n + 1) c acc l = none := by
  show (match partP c l with | none => none | some q => _) = none
  rw [h]
theorem readF_end {n : Nat} {c : Int} {acc : List Prt} {l : List Tok} {p : Prt} (h : partP c l = some (p, [])) : readF (n + 1) c acc l = if rightS (acc ++ [p]) = true then some (acc ++ [p]) else none := by
  show (match partP c l with | none => none | some q => if q.2 = [] then (if rightS (acc ++ [q.1]) = true then some (acc ++ [q.1]) else none) else readF n (combP q.2).1 (acc ++ [q.1]) (combP q.2).2) = _
  rw [h]; rfl
theorem readF_next {n : Nat} {c : Int} {acc : List Prt} {l r : List Tok} {p : Prt} (h : partP c l = some (p, r)) (hr : r ≠ []) : readF (n + 1) c acc l = readF n (combP r).1 (acc ++ [p]) (combP r).2 := by
  show (match partP c l with | none => none | some q => if q.2 = [] then (if rightS (acc ++ [q.1]) = true then some (acc ++ [q.1]) else none) else readF n (combP q.2).1 (acc ++ [q.1]) (combP q.2).2) = _
  rw [h]
  simp only []
  rw [if_neg hr]
/-- a selector whose rows lie in blocks of their own kinds -/
structure SelFar (w : World) (s : SelV) : Prop where
  len : s.ps.length ≤ s.c
  cap : s.c ≤ maxLen
  row : ∃ H, PtRow H w s.val s.ps
  far : ∃ P, ∀ x ∈ s.ps, PtFar w P x
theorem SelFar.ok {w : World} {s : SelV} (h : SelFar w s) : SelOk w s := by
  obtain ⟨H, hr⟩ := h.row
  obtain ⟨P, hf⟩ := h.far
  exact ⟨h.len, h.cap, hr.pts rfl fun x hx => (hf x hx).ok⟩
theorem SelFar.none (w : World) : SelFar w ⟨[], none, 0⟩ := ⟨Nat.le_refl _, Nat.zero_le _, ⟨0, World.ownsRow_nil _ _ _ _⟩, ⟨0, fun x hx => by cases hx⟩⟩
theorem SelFar.kept {w w' : World} {s : SelV} (h : SelFar w s) (hk : KeptK 24 w w') (hs : w.heap.size ≤ w'.heap.size) : SelFar w' s := by
  obtain ⟨H, hr⟩ := h.row
  obtain ⟨P, hf⟩ := h.far
  exact ⟨h.len, h.cap, ⟨H, row_kept7 hr kindsS.2.2.2.2.2.2 hk⟩, ⟨P, fun x hx => (hf x hx).keep (fun b cur T fz h1 _ h3 => hk b cur T fz h1 (by rcases h3 with rfl | rfl; exact kindsS.2.2.1; exact kindsS.2.2.2.1)) hs⟩⟩
theorem SelFar.below {w w' : World} {s : SelV} (h : SelFar w s) (hb : Below w.heap.size w w') : SelFar w' s := h.kept (KeptK.below hb) hb.size
/-- what a piece is read as -/
def ReadOut (w : World) (R : Option (List Prt)) (e : Ending) (w' : World) : Prop :=
  Below w.heap.size w w' ∧ ∃ s : SelV, SelFar w' s ∧ ((R = none ∧ e = .returned (.tuple #[.agg #[s.val], .bool false])) ∨ (R = some s.pure ∧ e = .returned (.tuple #[.agg #[s.val], .bool true])))
/-- where the loop of read stands -/
structure RdSt (w0 w : World) (P S O : Nat) (xs : List PtV) (v : Value) (m : List Tok) : Prop where
  cur : ∃ p0 vC vT, Cur w0 w P 95 (restP p0 vC vT) m
  row : PtRow (S + 1) w v xs
  far : ∀ x ∈ xs, PtFar w P x
  box : w.heap[S]? = some (.cells #[v] 24 (0, 0))
  out : w.heap[O]? = some (.cells #[.slice none 0 0] 24 (0, 0))
  txo : TxOk7 m
  ord : w0.heap.size ≤ O ∧ O < P ∧ P < S
theorem RdSt.bel {w0 w : World} {P S O : Nat} {xs : List PtV} {v : Value} {m : List Tok} (h : RdSt w0 w P S O xs v m) : Below w0.heap.size w0 w := by obtain ⟨_, _, _, h1⟩ := h.cur; exact h1.bel
theorem RdSt.move {w0 w w' : World} {P S O : Nat} {xs : List PtV} {v : Value} {m m' : List Tok} (h : RdSt w0 w P S O xs v m) (hg : w.grownBy w' (some P)) (hc : ∃ p0 vC vT, Cur w0 w' P 95 (restP p0 vC vT) m') (ht : TxOk7 m') : RdSt w0 w' P S O xs v m' := by
  have ho := h.ord
  refine ⟨hc, row_grown7 h.row (by omega) hg, fun x hx => (h.far x hx).keep (Keep7.grown hg) hg.size, ?_, ?_, ht, ho⟩
  · rw [hg.block S (Array.getElem?_eq_some_iff.1 h.box).1 (by intro e; injection e with e; omega)]; exact h.box
  · rw [hg.block O (Array.getElem?_eq_some_iff.1 h.out).1 (by intro e; injection e with e; omega)]; exact h.out
/-- a part put behind, and the box told of it -/
theorem RdSt.push {w0 w w' : World} {P S O : Nat} {xs : List PtV} {v v' : Value} {m : List Tok} {x : PtV} (h : RdSt w0 w P S O xs v m) (hx : PtFar w P x) (hr : PtRow (S + 1) w' v' (xs ++ [x])) (hb : Below (S + 1) w w') (hk : KeptK 36 w w') (hs : w.heap.size ≤ w'.heap.size) : RdSt w0 (w'.setCell ⟨S, 0, none⟩ v') P S O (xs ++ [x]) v' m := by
  have ho := h.ord
  have hS : w'.heap[S]? = some (.cells #[v] 24 (0, 0)) := hk _ _ _ _ h.box kindsS.2.2.2.2.1
  have hk7 : Keep7 P w (w'.setCell ⟨S, 0, none⟩ v') := (Keep7.kept hk).trans (Keep7.set hS 0 v')
  obtain ⟨p0, vC, vT, hc⟩ := h.cur
  obtain ⟨a, c, h1, h2, h3, h4⟩ := hc.ex
  have hc' : Cur w0 w' P 95 (restP p0 vC vT) m := ⟨⟨a, c, hk _ _ _ _ h1 kindsS.2.2.2.2.2.1, h2, h3, h4⟩, hc.base, hc.bel.trans (hb.mono (by omega))⟩
  refine ⟨⟨p0, vC, vT, hc'.set7 (by omega) (by omega) _⟩, ?_, fun y hy => ?_, setCell_here (k := 0) _ hS, ?_, h.txo, ho⟩
  · exact row_grown7 hr (by omega) (grownBy_set _ _ _ _)
  · rcases List.mem_append.1 hy with hy | hy
    · exact (h.far y hy).keep hk7 (by rw [setCell_size]; exact hs)
    · rw [List.mem_singleton] at hy; subst hy
      exact hx.keep hk7 (by rw [setCell_size]; exact hs)
  · rw [setCell_there _ (by omega)]; exact hk _ _ _ _ h.out kindsS.2.2.2.2.1
end Go.Proofs.YtfbfndknhabmhaaGreat

namespace Go.Proofs.YtfbfndknhabmhaaGreat
open Go.RowKit TreN LexP FixP SynP ValP SelP FixM
set_option linter.unusedVariables false

theorem readOut_no {w w' : World} {R : Option (List Prt)} (hR : R = none) (hb : Below w.heap.size w w') : ReadOut w R (.returned (.tuple #[.agg #[.slice none 0 0], .bool false])) w' := ⟨hb, ⟨[], none, 0⟩, SelFar.none _, Or.inl ⟨hR, rfl⟩⟩
/-- the box that is answered, told nothing -/
theorem read_fin {w0 w : World} {O : Nat} (h : w.heap[O]? = some (.cells #[.slice none 0 0] 24 (0, 0))) (hb : Below w0.heap.size w0 w) (ho : w0.heap.size ≤ O) :
    w.cell? ⟨O, 0, none⟩ = some (.slice none 0 0) ∧ w.frozen? ⟨O, 0, none⟩ = false ∧ (w.setCell ⟨O, 0, none⟩ (.slice none 0 0)).cell? ⟨O, 0, none⟩ = some (.slice none 0 0) ∧ Below w0.heap.size w0 (w.setCell ⟨O, 0, none⟩ (.slice none 0 0)) :=
  ⟨cell_of h rfl, unfrozen_of h, cell_of (setCell_here (k := 0) _ h) rfl, hb.setCell (p := ⟨O, 0, none⟩) ho _⟩
theorem RdSt.sel {w0 w : World} {P S O : Nat} {xs : List PtV} {va : Option Addr} {vc : Nat} {m : List Tok} (h : RdSt w0 w P S O xs (.slice va xs.length vc) m) (h1 : xs.length ≤ vc) (h2 : vc ≤ maxLen) : SelOk w ⟨xs, va, vc⟩ := ⟨h1, h2, h.row.pts rfl fun x hx => (h.far x hx).ok⟩
set_option maxRecDepth 100000 in
set_option maxHeartbeats 16000000 in
theorem read_any (a : Option Addr) (l : List Tok) (cap : Nat) (w : World) (h1 : l.length ≤ cap) (h2 : cap ≤ maxLen) (hl : l.length ≤ 100000) (hT : Tks w a l) (hx : TxOk7 l) : Calls Tryz.prog 44 #[.slice a l.length cap] w (ReadOut w (readS l)) := by
  obtain ⟨n0, hn0⟩ : ∃ n, l.length = n := ⟨_, rfl⟩
  have hO := heap_alloc_new w (.cells #[.slice none 0 0] 24)
  have hP := heap_alloc_new (w.alloc (.cells #[.slice none 0 0] 24)) (.cells #[.slice a n0 cap, .int .i64 0, .string ⟨#[]⟩, .string ⟨#[]⟩, .slice none 0 0, .slice none 0 0, .int .i64 0] 95)
  have hS := heap_alloc_new ((w.alloc (.cells #[.slice none 0 0] 24)).alloc (.cells #[.slice a n0 cap, .int .i64 0, .string ⟨#[]⟩, .string ⟨#[]⟩, .slice none 0 0, .slice none 0 0, .int .i64 0] 95)) (.cells #[.slice none 0 0] 24)
  rw [show ((w.alloc (.cells #[.slice none 0 0] 24)).alloc (.cells #[.slice a n0 cap, .int .i64 0, .string ⟨#[]⟩, .string ⟨#[]⟩, .slice none 0 0, .slice none 0 0, .int .i64 0] 95)).heap.size = w.heap.size + 1 + 1 by simp] at hS
  rw [show (w.alloc (.cells #[.slice none 0 0] 24)).heap.size = w.heap.size + 1 by simp] at hP
  have hP3 := (Below.heap_alloc ((w.alloc (.cells #[.slice none 0 0] 24)).alloc (.cells #[.slice a n0 cap, .int .i64 0, .string ⟨#[]⟩, .string ⟨#[]⟩, .slice none 0 0, .slice none 0 0, .int .i64 0] 95)) (.cells #[.slice none 0 0] 24) (w.heap.size + 1) (by simp)).trans hP
  have hO3 := (Below.heap_alloc ((w.alloc (.cells #[.slice none 0 0] 24)).alloc (.cells #[.slice a n0 cap, .int .i64 0, .string ⟨#[]⟩, .string ⟨#[]⟩, .slice none 0 0, .slice none 0 0, .int .i64 0] 95)) (.cells #[.slice none 0 0] 24) w.heap.size (by simp; omega)).trans ((Below.heap_alloc (w.alloc (.cells #[.slice none 0 0] 24)) (.cells #[.slice a n0 cap, .int .i64 0, .string ⟨#[]⟩, .string ⟨#[]⟩, .slice none 0 0, .slice none 0 0, .int .i64 0] 95) w.heap.size (by simp)).trans hO)
  have hB3 : Below w.heap.size w (((w.alloc (.cells #[.slice none 0 0] 24)).alloc (.cells #[.slice a n0 cap, .int .i64 0, .string ⟨#[]⟩, .string ⟨#[]⟩, .slice none 0 0, .slice none 0 0, .int .i64 0] 95)).alloc (.cells #[.slice none 0 0] 24)) := (((Below.refl _ _).alloc (Nat.le_refl _) _).alloc (by simp) _).alloc (by simp; omega) _
  have hst : RdSt w (((w.alloc (.cells #[.slice none 0 0] 24)).alloc (.cells #[.slice a n0 cap, .int .i64 0, .string ⟨#[]⟩, .string ⟨#[]⟩, .slice none 0 0, .slice none 0 0, .int .i64 0] 95)).alloc (.cells #[.slice none 0 0] 24)) (w.heap.size + 1) (w.heap.size + 1 + 1) w.heap.size [] (.slice none 0 0) l :=
    ⟨⟨⟨0, [], [], [], [], 0⟩, .slice none 0 0, .slice none 0 0, ⟨⟨a, cap, by rw [hn0]; exact hP3, h1, h2, hT⟩, by omega, hB3⟩⟩, World.ownsRow_nil _ _ _ _, fun x hx => (by cases hx), hS, hO3, hx, ⟨Nat.le_refl _, by omega, by omega⟩⟩
  have HST := Lib.hid hst
  obtain ⟨R, hR⟩ : ∃ R, readS l = R := ⟨_, rfl⟩
  have HR0 : Hid (readF 8 0 [] l = R) := Lib.hid hR
  rw [hR, hn0]
  rw [hn0] at hl
  have HLL : Hid (l.length ≤ 100000) := Lib.hid (by rw [hn0]; exact hl)
  clear hO hP hS hP3 hO3 hB3 hst hR h1 h2 hT hx hn0 hl
  obtain ⟨O, hO⟩ : ∃ O, w.heap.size = O := ⟨_, rfl⟩
  have hOw : w.heap.size ≤ O := by omega
  go_enter Tryz.func44, Tryz.ntmps44
  go_wp2_with fail
  rw [hO] at HST
  clear hO
  generalize (((w.alloc (.cells #[.slice none 0 0] 24)).alloc (.cells #[.slice a n0 cap, .int .i64 0, .string ⟨#[]⟩, .string ⟨#[]⟩, .slice none 0 0, .slice none 0 0, .int .i64 0] 95)).alloc (.cells #[.slice none 0 0] 24)) = W3 at *
  go_loopg [6] 8 (fun gk vc wr => ∃ (c : Int) (xs : List PtV) (va : Option Addr) (vk kk : Nat) (m : List Tok), vc = .int .i64 c ∧ gk + kk = 8 ∧ xs.length = kk ∧ kk ≤ vk ∧ vk ≤ maxLen ∧ Hid (RdSt w wr (O + 1) (O + 1 + 1) O xs (.slice va kk vk) m) ∧ Hid (m.length ≤ 100000) ∧ Hid (readF gk c (xs.map PtV.p) m = R))
  case atStart => exact ⟨0, [], none, 0, 0, l, rfl, rfl, rfl, Nat.le_refl _, Nat.zero_le _, HST, HLL, HR0⟩
  case round =>
    obtain ⟨c, xs, va, vk, kk, m, rfl, hgk, hkk, hkv, hvm, HS, HM, HF⟩ := hrel
    have c0 : wr.cell? ⟨O + 1 + 1, 0, none⟩ = some (.slice va kk vk) := cell_of HS.out.box rfl
    have HKK := Lib.hid (And.intro hkk (And.intro hkv hvm))
    cases gk with
    | zero =>
      have h8 : kk = 8 := by omega
      have hRN : R = none := HF.out.symm
      have HRN := Lib.hid hRN
      obtain ⟨q0, q1, q2, q3⟩ := read_fin HS.out.out HS.out.bel hOw
      have HQ3 := Lib.hid q3
      subst h8
      clear hkk hkv hvm hRN q3 hgk
      go_wp2_with fail
      exact bodyPost_ret (v := .tuple #[.agg #[.slice none 0 0], .bool false]) (by simp [results, Tryz.results44, go_sem, q2]) rfl (readOut_no HRN.out HQ3.out)
    | succ g =>
      have h8 : (kk : Int) < 8 := by omega
      have h8n : kk < 8 := by omega
      obtain ⟨p0, v1, v2, hcur⟩ := HS.out.cur
      have RP := Lib.hid (readPart_any c hcur HS.out.txo HM.out)
      have HGK := Lib.hid hgk
      clear hkk hkv hvm hcur hgk
      cases hp : partP c m with
      | none =>
        have hRN : R = none := by rw [← HF.out]; exact readF_none hp
        have HRN := Lib.hid hRN
        rw [hp] at RP
        clear hp hRN
        go_wp2_with fail
        refine RP.out.mono ?_
        rintro e w2 ⟨rfl, hb2, hf2, _⟩
        have hg := grown_of HS.out.bel hb2 hf2
        have hout : w2.heap[O]? = some (.cells #[.slice none 0 0] 24 (0, 0)) := by rw [hg.block O (Array.getElem?_eq_some_iff.1 HS.out.out).1 (by intro e; injection e with e; omega)]; exact HS.out.out
        obtain ⟨q0, q1, q2, q3⟩ := read_fin hout hb2 hOw
        have HQ3 := Lib.hid q3
        clear hb2 hf2 hg hout q3
        go_wp2_with fail
        exact bodyPost_ret (v := .tuple #[.agg #[.slice none 0 0], .bool false]) (by simp [results, Tryz.results44, go_sem, q2]) rfl (readOut_no HRN.out HQ3.out)
      | some q =>
        obtain ⟨p, r⟩ := q
        have hrl := part_suf hp
        have HRL : Hid (r.length ≤ 100000) := Lib.hid (Nat.le_trans hrl HM.out)
        have HP := Lib.hid hp
        rw [hp] at RP
        clear hp hrl
        go_wp2_with fail
        refine RP.out.mono ?_
        rintro e w2 ⟨rfl, hb2, hf2, hq2⟩
        have hrd := hq2 (p, r) rfl
        simp only at hrd
        obtain ⟨ca, cc, ta, tc, hcu, hfar⟩ := hrd.far
        have hg := grown_of HS.out.bel hb2 hf2
        have HS2 := Lib.hid (HS.out.move hg ⟨_, _, _, hcu⟩ hrd.txo)
        obtain ⟨d1, d2, d3, d4, d5, d6, _⟩ := RdrAt.cell hcu
        have e0 : w2.cell? ⟨O + 1 + 1, 0, none⟩ = some (.slice va kk vk) := cell_of HS2.out.box rfl
        obtain ⟨ln, hln⟩ : ∃ n, p.classes.length = n := ⟨_, rfl⟩
        obtain ⟨lm, hlm⟩ : ∃ n, p.tests.length = n := ⟨_, rfl⟩
        rw [hln] at d4
        rw [hlm] at d5
        obtain ⟨g5, c5, w5, hr5, hrow5, hb5, hk5, hc51, hc52⟩ := putPt (O + 1 + 1 + 1) (.slice va kk vk) xs ⟨p, ca, cc, ta, tc⟩ w2 (by have := (Array.getElem?_eq_some_iff.1 HS2.out.box).1; omega) (by have := HKK.out.1; omega) HS2.out.row
        simp only [hln, hlm] at hr5
        have hkk := HKK.out.1
        rw [hkk] at hr5 hrow5 hc51
        have hw25 : w2.heap.size ≤ w5.heap.size := by have := hb5.size; exact this
        have HS5 := Lib.hid (HS2.out.push hfar hrow5 hb5 hk5 hw25)
        have hS5 := hk5 _ _ _ _ HS2.out.box kindsS.2.2.2.2.1
        have e1 : w5.cell? ⟨O + 1 + 1, 0, none⟩ = some (.slice va kk vk) := cell_of hS5 rfl
        have e2 : w5.frozen? ⟨O + 1 + 1, 0, none⟩ = false := unfrozen_of hS5
        obtain ⟨ra, rc, hbx, _, _, _⟩ := hcu.ex
        obtain ⟨nr, hnr⟩ : ∃ n, r.length = n := ⟨_, rfl⟩
        rw [hnr] at hbx
        have e3 : w5.cell? ⟨O + 1, 0, none⟩ = some (.slice ra nr rc) := cell_of (hk5 _ _ _ _ hbx kindsS.2.2.2.2.2.1) rfl
        have HNR := Lib.hid hnr
        have HR5 := Lib.hid hr5
        have HXL : Hid ((xs ++ [(⟨p, ca, cc, ta, tc⟩ : PtV)]).length = kk + 1 ∧ kk + 1 ≤ c5 ∧ c5 ≤ maxLen) := Lib.hid ⟨by rw [List.length_append, hkk]; rfl, hc51, hc52⟩
        have HSZ := Lib.hid hw25
        clear hb2 hf2 hq2 hrd hcu hfar hg hln hlm hr5 hrow5 hb5 hk5 hc51 hc52 hkk hS5 hw25
        by_cases hr0 : r = []
        · have hn0 : nr = 0 := by rw [← HNR.out, hr0]; rfl
          subst hn0
          have HRD : Hid (R = if rightS ((xs ++ [(⟨p, ca, cc, ta, tc⟩ : PtV)]).map PtV.p) = true then some ((xs ++ [(⟨p, ca, cc, ta, tc⟩ : PtV)]).map PtV.p) else none) := Lib.hid (by
            rw [← HF.out, List.map_append]
            subst hr0
            exact readF_end HP.out)
          clear hr0
          obtain ⟨ys, hys⟩ : ∃ ys, xs ++ [(⟨p, ca, cc, ta, tc⟩ : PtV)] = ys := ⟨_, rfl⟩
          rw [hys] at HS5 HXL HRD
          clear hys
          have HSO : Hid (SelOk (w5.setCell ⟨O + 1 + 1, 0, none⟩ (.slice (some ⟨g5, 0, none⟩) (kk + 1) c5)) ⟨ys, some ⟨g5, 0, none⟩, c5⟩) := Lib.hid (RdSt.sel (by rw [HXL.out.1]; exact HS5.out) (by rw [HXL.out.1]; exact HXL.out.2.1) HXL.out.2.2)
          go_wp2_with (at_builtin; refine wpList_append_runL rfl _ _ 22 rfl _ _ _ _ rfl rfl HR5.out ?_)
          have hoc := (read_fin HS5.out.out HS5.out.bel hOw)
          have hbo := HS5.out.out
          have hbs := HS5.out.box
          have hbw := HS5.out.bel
          generalize w5.setCell ⟨O + 1 + 1, 0, none⟩ (.slice (some ⟨g5, 0, none⟩) (kk + 1) c5) = W6 at *
          have hOl : O < W6.heap.size := (Array.getElem?_eq_some_iff.1 hbo).1
          have s0 : W6.drew.cell? ⟨O + 1 + 1, 0, none⟩ = some (.slice (some ⟨g5, 0, none⟩) (kk + 1) c5) := cell_of (w := W6) hbs rfl
          have CR := RightS_any ⟨ys, some ⟨g5, 0, none⟩, c5⟩ W6.drew (HSO.out.below (Below.drew (Below.refl _ _)))
          have CR : Calls Tryz.prog 6 #[.agg #[.slice (some ⟨g5, 0, none⟩) (kk + 1) c5]] W6.drew fun e w' => e = .returned (.bool (rightS (ys.map PtV.p))) ∧ Below W6.drew.heap.size W6.drew w' := by
            rw [← HXL.out.1]; exact CR
          obtain ⟨rb, hrb⟩ : ∃ b, rightS (ys.map PtV.p) = b := ⟨_, rfl⟩
          rw [hrb] at CR
          rw [hrb] at HRD
          have HCR := Lib.hid CR
          have HBO := Lib.hid hbo
          have HBS := Lib.hid hbs
          have hSl : O + 1 + 1 < W6.heap.size := (Array.getElem?_eq_some_iff.1 hbs).1
          have HBW := Lib.hid hbw
          have HXX := Lib.hid (fun (b' : Bool) (h : b' = rb) => h)
          clear CR hrb hoc hbo hbs hbw
          go_region_with (go_at_call 6; refine HCR.out.mono ?_; rintro e w8 ⟨rfl, hb8⟩; have o8 : w8.heap[O]? = some (.cells #[.slice none 0 0] 24 (0, 0)) := (hb8.block O hOl).trans HBO.out; have s8 : w8.cell? ⟨O + 1 + 1, 0, none⟩ = some (.slice (some ⟨g5, 0, none⟩) (kk + 1) c5) := cell_of ((hb8.block (O + 1 + 1) hSl).trans HBS.out) rfl; have o0 := cell_of (k := 0) o8 rfl; have o1 : w8.frozen? ⟨O, 0, none⟩ = false := unfrozen_of o8; have o2 := cell_of (k := 0) (setCell_here (k := 0) (.slice (some ⟨g5, 0, none⟩) (kk + 1) c5) o8) rfl; have H8 := Lib.hid (And.intro hb8 o8); clear hb8 o8)
          all_goals
            go_wp2_with fail
            refine bodyPost_ret (v := .tuple #[.agg #[.slice (some ⟨g5, 0, none⟩) (kk + 1) c5], .bool rb]) (by simp [results, Tryz.results44, go_sem, o2]) rfl ?_
            have hb9 : Below W6.heap.size W6 w8 := (Below.drew (Below.refl _ _)).trans H8.out.1
            refine ⟨(HBW.out.trans (hb9.mono HBW.out.size)).setCell (p := ⟨O, 0, none⟩) hOw _, ⟨ys, some ⟨g5, 0, none⟩, c5⟩, ?_, ?_⟩
            · have hk7 : Keep7 (O + 1) W6 (w8.setCell ⟨O, 0, none⟩ (.slice (some ⟨g5, 0, none⟩) (kk + 1) c5)) := Keep7.trans (fun b cur T fz h1 _ _ => (hb9.block b (Array.getElem?_eq_some_iff.1 h1).1).trans h1) (Keep7.set H8.out.2 0 _)
              have hsz : W6.heap.size ≤ (w8.setCell ⟨O, 0, none⟩ (.slice (some ⟨g5, 0, none⟩) (kk + 1) c5)).heap.size := by rw [setCell_size]; exact hb9.size
              have hfar : ∀ x ∈ ys, PtFar (w8.setCell ⟨O, 0, none⟩ (.slice (some ⟨g5, 0, none⟩) (kk + 1) c5)) (O + 1) x := fun x hx => (HS5.out.far x hx).keep hk7 hsz
              have hval : (SelV.val ⟨ys, some ⟨g5, 0, none⟩, c5⟩) = .slice (some ⟨g5, 0, none⟩) (kk + 1) c5 := by unfold SelV.val; rw [HXL.out.1]
              refine ⟨by show ys.length ≤ c5; rw [HXL.out.1]; exact HXL.out.2.1, HXL.out.2.2, ⟨O + 1 + 1 + 1, ?_⟩, ⟨_, hfar⟩⟩
              rw [hval]
              have hrow8 : PtRow (O + 1 + 1 + 1) w8 (.slice (some ⟨g5, 0, none⟩) (kk + 1) c5) ys := ownsRow_below HS5.out.row hb9
              refine World.ownsRow.kept hrow8 (grownBy_set w8 O 0 _) (Or.inr ?_)
              intro e
              have := (World.ownsRow.lt hrow8 O (by rw [e])).1
              omega
            · have hval : (SelV.val ⟨ys, some ⟨g5, 0, none⟩, c5⟩) = .slice (some ⟨g5, 0, none⟩) (kk + 1) c5 := by unfold SelV.val; rw [HXL.out.1]
              rw [hval]
              cases rb with
              | true => exact Or.inr ⟨by rw [HRD.out, if_pos rfl]; rfl, rfl⟩
              | false => exact Or.inl ⟨by rw [HRD.out, if_neg (by simp)], rfl⟩
        · have hn0 : 0 < nr := by rw [← HNR.out]; exact List.length_pos_iff.2 hr0
          have hnz : ((nr : Int) == 0) = false := by rw [beq_eq_false_iff_ne]; omega
          have hnn : ¬ nr = 0 := by omega
          have HFN : Hid (readF g (combP r).1 ((xs ++ [(⟨p, ca, cc, ta, tc⟩ : PtV)]).map PtV.p) (combP r).2 = R) := Lib.hid (by
            rw [← HF.out, List.map_append]
            exact (readF_next HP.out hr0).symm)
          clear hr0
          go_wp2_with (at_builtin; refine wpList_append_runL rfl _ _ 22 rfl _ _ _ _ rfl rfl HR5.out ?_)
          obtain ⟨z0, z1, z2, hcu5⟩ := HS5.out.cur
          have RC := Lib.hid (readComb_any hcu5)
          clear hcu5
          refine RC.out.mono ?_
          rintro e w6 ⟨rfl, hg6, hc6⟩
          have HS6 := Lib.hid (HS5.out.move hg6 ⟨z0, z1, z2, hc6⟩ (HS5.out.txo.suf (comb_suf r)))
          have HML : Hid ((combP r).2.length ≤ 100000) := Lib.hid (Nat.le_trans (comb_suf r).length_le HRL.out)
          clear hg6 hc6
          go_wp2_with fail
          go_roundg g
          case rel => exact ⟨(combP r).1, xs ++ [⟨p, ca, cc, ta, tc⟩], some ⟨g5, 0, none⟩, c5, kk + 1, (combP r).2, rfl, by have := HGK.out; omega, HXL.out.1, HXL.out.2.1, HXL.out.2.2, HS6, HML, HFN⟩
          case measure => omega
end Go.Proofs.YtfbfndknhabmhaaGreat
