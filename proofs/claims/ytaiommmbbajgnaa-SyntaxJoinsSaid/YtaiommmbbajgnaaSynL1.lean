/- Layer 6: fixed calls; the laws SyntaxMatches and SyntaxInside. -/
import Derived.Test.YtaiommmbbajgnaaSynWD
import Derived.Test.YtaiommmbbajgnaaSynW8
import Derived.Test.YtaiommmbbajgnaaSynR1
import Derived.Test.YtaiommmbbajgnaaLexR6
namespace Go.Proofs.Ytaiommmbbajgnaa
open Go.RowKit TreN LexP FixP SynP
set_option linter.unusedVariables false

set_option maxRecDepth 100000 in
theorem few6_any (a : Option Addr) (n cap : Nat) (w : World) (hm : n ≤ maxLen) :
    Calls Try.prog 8 #[.slice a n cap] w fun e w' => e = .returned (.bool (decide (n ≤ 300))) ∧ w' = w := by
  unfold maxLen at hm
  by_cases h : n ≤ 300
  · have hz : (n : Int) ≤ 300 := by omega
    have hd : decide (n ≤ 300) = true := decide_eq_true h
    rw [hd]
    clear hd
    go_enter Try.func8, Try.ntmps8
    go_wp2_with fail
    go_ret
    exact ⟨rfl, rfl⟩
  · have hz : ¬ (n : Int) ≤ 300 := by omega
    have hd : decide (n ≤ 300) = false := decide_eq_false h
    rw [hd]
    clear hd
    go_enter Try.func8, Try.ntmps8
    go_wp2_with fail
    go_ret
    exact ⟨rfl, rfl⟩

def sixT : List UInt8 := [97, 32, 123, 32, 98, 58, 32, 99, 59, 32, 100, 32, 125, 32, 64, 101, 59, 32, 102]
def sixB : List UInt8 := [40, 91, 41, 93, 41]
theorem six_len : (cut sixT).length = 18 := by decide +kernel
theorem sixB_len : (cut sixB).length = 5 := by decide +kernel
theorem six_match : matchS (cut sixB) 0 = 4 := by decide +kernel
theorem six_rules : (rusS (cut sixT)).map (fun r => (r.att, r.block, r.head.length, r.body.length, (declsS r.body).map Dec.name)) = [([], true, 1, 9, [[98]]), ([101], false, 0, 0, [])] := by decide +kernel
theorem two_of {α β : Type} {f : α → β} {l : List α} {x y : β} (h : l.map f = [x, y]) : ∃ p q, l = [p, q] ∧ f p = x ∧ f q = y := by
  match l, h with
  | [p, q], h => simp at h; exact ⟨p, q, rfl, h.1, h.2⟩
theorem one_of {α β : Type} {f : α → β} {l : List α} {x : β} (h : l.map f = [x]) : ∃ p, l = [p] ∧ f p = x := by
  match l, h with
  | [p], h => simp at h; exact ⟨p, rfl, h⟩

set_option maxRecDepth 100000 in
set_option maxHeartbeats 2000000 in
theorem known6_any (w : World) : Calls Try.prog 9 #[] w fun e w' => e = .returned (.bool true) ∧ Below w.heap.size w w' := by
  have C := refCut_cap ⟨sixT.toArray⟩ w (by decide)
  have C2 : ∀ W : World, _ := fun W => refCut_cap ⟨sixB.toArray⟩ W (by decide)
  unfold ToldCap at C C2
  simp only [six_len] at C
  simp only [sixB_len] at C2
  have CC := Lib.hid C
  have CC2 := Lib.hid C2
  clear C C2
  go_enter Try.func9, Try.ntmps9
  go_wp2_with fail
  refine (CC.out).mono ?_
  rintro e w1 ⟨a1, c1, rfl, hT, hb, hc1, hc2⟩
  have R := Lib.hid (Rules_any a1 18 c1 (cut sixT) w1 six_len hc1 hc2 (by omega) hT)
  have HB := Lib.hid hb
  clear hT hb
  go_wp2_with fail
  refine (R.out).mono ?_
  rintro e w2 ⟨v, rfl, hR⟩
  obtain ⟨⟨ds, h1, h2, h3⟩, h4⟩ := hR
  have h5 := six_rules
  rw [← h1, List.map_map] at h5
  obtain ⟨x, y, rfl, hx, hy⟩ := two_of h5
  simp only [Function.comp, Prod.mk.injEq] at hx hy
  obtain ⟨x1, x2, x3, x4, x5⟩ := hx
  obtain ⟨y1, y2, y3, y4, y5⟩ := hy
  obtain ⟨g, cap, rfl, hg, hgl⟩ := h2.form (by simp)
  have k := fun (j : Nat) (hj : j < 8) => h2.cellAt j hj
  have e1 : w2.cell? ⟨g, 1, none⟩ = some (.slice x.ah 1 x.ch) := by have := k 1 (by omega); simpa [rcs, x3] using this
  have e2 : w2.cell? ⟨g, 2, none⟩ = some (.slice x.ab 9 x.cb) := by have := k 2 (by omega); simpa [rcs, x4] using this
  have e3 : w2.cell? ⟨g, 3, none⟩ = some (.bool true) := by have := k 3 (by omega); simpa [rcs, x2] using this
  have e4 : w2.cell? ⟨g, 4, none⟩ = some (.string ⟨#[101]⟩) := by have := k 4 (by omega); simpa [rcs, y1] using this
  have e7 : w2.cell? ⟨g, 7, none⟩ = some (.bool false) := by have := k 7 (by omega); simpa [rcs, y2] using this
  have hin := (h3 x (by simp)).2
  have DD : Calls Try.prog 14 #[.slice x.ab 9 x.cb] w2 fun e w' => (∃ v, e = .returned v ∧ Dcs w' v (declsS x.r.body)) ∧ Below w2.heap.size w2 w' := by
    have := Decls_any x.ab x.r.body x.cb w2 (hin.1) hin.2.1 (by omega) hin.tks
    rw [x4] at this
    exact this
  have D := Lib.hid DD
  have HB2 := Lib.hid (HB.out.trans (h4.mono HB.out.size))
  have HX := Lib.hid x5
  clear h1 h2 h3 h4 h5 hin k DD x1 x2 x3 x4 x5 y1 y2 y3 y4 y5 hg
  go_wp2_with fail
  refine (D.out).mono ?_
  rintro e w3 ⟨⟨v, rfl, ds2, d1, base, d2, d3⟩, hb3⟩
  have d4 := HX.out
  rw [← d1, List.map_map] at d4
  obtain ⟨z, rfl, hz⟩ := one_of d4
  obtain ⟨g2, cap2, rfl, hg2, hgl2⟩ := d2.form (by simp)
  have e0 : w3.cell? ⟨g2, 0, none⟩ = some (.string ⟨#[98]⟩) := by
    have := d2.cellAt 0 (by simp)
    have hz' : z.d.name = [98] := hz
    simpa [dcs, hz'] using this
  have HB3 := Lib.hid (HB2.out.trans (hb3.mono HB2.out.size))
  clear d1 d2 d3 d4 hb3 hz hg2 e1 e2 e3 e4 e7
  go_wp2_with fail
  refine (CC2.out w3).mono ?_
  rintro e w4 ⟨a4, c4, rfl, hT4, hb4, hc3, hc4⟩
  have M : Calls Try.prog 10 #[.slice a4 5 c4, .int .i64 0] w4 fun e w' => e = .returned (.int .i64 4) ∧ Below w4.heap.size w4 w' := by
    have := Match_any a4 (cut sixB) c4 0 w4 (by rw [sixB_len]; omega) hT4
    rw [sixB_len, six_match] at this
    exact this
  have HM := Lib.hid M
  have HB4 := Lib.hid (HB3.out.trans (hb4.mono HB3.out.size))
  clear M hT4 hb4
  go_wp2_with fail
  refine (HM.out).mono ?_
  rintro e w5 ⟨rfl, hb5⟩
  have HB5 := Lib.hid (HB4.out.trans (hb5.mono HB4.out.size))
  clear hb5
  go_wp2_with fail
  go_ret
  exact ⟨rfl, HB5.out⟩

set_option maxRecDepth 100000 in
set_option maxHeartbeats 2000000 in
theorem SyntaxMatches_walk (a : Option Addr) (l : List Tok) (cap : Nat) (i : Int) (w : World) (hc : l.length ≤ cap) (hm : cap ≤ maxLen) (hT : Tks w a l) :
    Calls Try.prog 3 #[.slice a l.length cap, .int .i64 i] w fun e w' => e = .returned (.bool true) ∧ Below w.heap.size w w' := by
  have F := few6_any a l.length cap w (by omega)
  by_cases h : l.length ≤ 300
  · have M1 := Lib.hid (Match_any a l cap i w (by omega) hT)
    have M2 := Lib.hid (fun W (hW : Below w.heap.size w W) => refMatch_any a l cap i W (by omega) (hT.below hW))
    rw [decide_eq_true h] at F
    have FF := Lib.hid F
    obtain ⟨m, hmm⟩ : ∃ m, matchS l i = m := ⟨_, rfl⟩
    rw [hmm] at M1 M2
    obtain ⟨n, hn⟩ : ∃ n, l.length = n := ⟨_, rfl⟩
    rw [hn] at FF M1 M2 ⊢
    clear F hT hmm hn
    go_enter Try.func3, Try.ntmps3
    go_wp2_with fail
    refine (FF.out).mono ?_
    rintro e w1 ⟨rfl, rfl⟩
    go_wp2_with fail
    refine (M1.out).mono ?_
    rintro e w2 ⟨rfl, hb2⟩
    have HB2 := Lib.hid hb2
    clear hb2
    go_wp2_with fail
    refine (M2.out _ HB2.out).mono ?_
    rintro e w3 ⟨rfl, q, rfl⟩
    have HB3 := Lib.hid (below_drewN2 HB2.out q)
    go_wp2_with fail
    refine (known6_any _).mono ?_
    rintro e w4 ⟨rfl, hb4⟩
    have HB4 := Lib.hid (HB3.out.trans (hb4.mono HB3.out.size))
    clear hb4
    go_wp2_with fail
    go_ret
    exact ⟨rfl, HB4.out⟩
  · rw [decide_eq_false h] at F
    have FF := Lib.hid F
    clear F
    go_enter Try.func3, Try.ntmps3
    go_wp2_with fail
    refine (FF.out).mono ?_
    rintro e w1 ⟨rfl, rfl⟩
    go_wp2_with fail
    refine (known6_any _).mono ?_
    rintro e w4 ⟨rfl, hb4⟩
    have HB4 := Lib.hid hb4
    clear hb4
    go_wp2_with fail
    go_ret
    exact ⟨rfl, HB4.out⟩
set_option maxRecDepth 100000 in
set_option maxHeartbeats 4000000 in
theorem SyntaxInside_walk (a : Option Addr) (l : List Tok) (cap : Nat) (i j : Int) (w : World) (hc : l.length ≤ cap) (hm : cap ≤ maxLen) (hT : Tks w a l) :
    Calls Try.prog 4 #[.slice a l.length cap, .int .i64 i, .int .i64 j] w fun e w' => e = .returned (.bool true) ∧ Below w.heap.size w w' := by
  have F := few6_any a l.length cap w (by omega)
  by_cases h : l.length ≤ 300
  · rw [decide_eq_true h] at F
    have FF := Lib.hid F
    clear F
    by_cases h1 : i < 0
    · clear hT
      go_enter Try.func4, Try.ntmps4
      go_wp2_with fail
      refine (FF.out).mono ?_
      rintro e w1 ⟨rfl, rfl⟩
      have HBx := Lib.hid (Below.refl w1.heap.size w1)
      go_wp2_with fail
      refine (known6_any _).mono ?_
      rintro e w4 ⟨rfl, hb4⟩
      have HB4 := Lib.hid (HBx.out.trans (hb4.mono HBx.out.size))
      clear hb4
      go_wp2_with fail
      go_ret
      exact ⟨rfl, HB4.out⟩
    by_cases h2 : j ≤ i
    · have h1' : 0 ≤ i := by omega
      clear hT
      go_enter Try.func4, Try.ntmps4
      go_wp2_with fail
      refine (FF.out).mono ?_
      rintro e w1 ⟨rfl, rfl⟩
      have HBx := Lib.hid (Below.refl w1.heap.size w1)
      go_wp2_with fail
      refine (known6_any _).mono ?_
      rintro e w4 ⟨rfl, hb4⟩
      have HB4 := Lib.hid (HBx.out.trans (hb4.mono HBx.out.size))
      clear hb4
      go_wp2_with fail
      go_ret
      exact ⟨rfl, HB4.out⟩
    by_cases h3 : (l.length : Int) ≤ j
    · have h1' : 0 ≤ i := by omega
      have h2' : i < j := by omega
      clear hT
      go_enter Try.func4, Try.ntmps4
      go_wp2_with fail
      refine (FF.out).mono ?_
      rintro e w1 ⟨rfl, rfl⟩
      have HBx := Lib.hid (Below.refl w1.heap.size w1)
      go_wp2_with fail
      refine (known6_any _).mono ?_
      rintro e w4 ⟨rfl, hb4⟩
      have HB4 := Lib.hid (HBx.out.trans (hb4.mono HBx.out.size))
      clear hb4
      go_wp2_with fail
      go_ret
      exact ⟨rfl, HB4.out⟩
    obtain ⟨p, rfl⟩ : ∃ p : Nat, i = (p : Int) := ⟨i.toNat, by omega⟩
    obtain ⟨q, rfl⟩ : ∃ q : Nat, j = (q : Int) := ⟨j.toNat, by omega⟩
    have hpq : p < q := by omega
    have hq : q < l.length := by omega
    have hp : p < l.length := by omega
    obtain ⟨b1, o1, rfl, g1, k1⟩ := hT.get hp
    obtain ⟨b2, o2, e2, g2, k2⟩ := hT.get hq
    injection e2 with e2; injection e2 with e2 e3; subst e2; subst e3
    have d1 : w.cell? ⟨b1, o1 + p * 3, none⟩ = some (.int .i64 l[p].kind) := k1.kind
    have d2 : w.cell? ⟨b1, o1 + q * 3, none⟩ = some (.int .i64 l[q].kind) := k2.kind
    have C1 := refClosing_any l[p].kind
    have C2 := refClosing_any l[q].kind
    have M1 := Match_at (some ⟨b1, o1, none⟩) l l.length cap p w rfl (by omega) hp hT
    have M2 := fun W (hW : Below w.heap.size w W) => Match_at (some ⟨b1, o1, none⟩) l l.length cap q W rfl (by omega) hq (hT.below hW)
    have hmp := mtc_bd hp
    have hmq := mtc_bd hq
    have HI := Lib.hid (match_inside hpq hq)
    obtain ⟨n, hn⟩ : ∃ n, l.length = n := ⟨_, rfl⟩
    obtain ⟨A, hA⟩ : ∃ A, mtc l p = A := ⟨_, rfl⟩
    obtain ⟨B, hB⟩ : ∃ B, mtc l q = B := ⟨_, rfl⟩
    obtain ⟨kp, hkp⟩ : ∃ k, l[p].kind = k := ⟨_, rfl⟩
    obtain ⟨kq, hkq⟩ : ∃ k, l[q].kind = k := ⟨_, rfl⟩
    rw [hkp] at d1 C1
    rw [hkq] at d2 C2
    rw [hkp, hkq, hA, hB, hn] at HI
    rw [hn] at hp hq h hc M1 M2 hmp hmq FF ⊢
    rw [hA] at M1 hmp
    rw [hB] at M2 hmq
    have zp : (p : Int) < (n : Int) := by omega
    have zq : (q : Int) < (n : Int) := by omega
    have zpq : (p : Int) < (q : Int) := by omega
    clear hT k1 k2 hn hA hB hkp hkq h1 h2 h3
    by_cases hcp : clo kp = 0
    · rw [hcp] at C1
      have CC1 := Lib.hid C1
      have HM := Lib.hid M1
      clear C1 C2 M1 M2 hcp HI
      go_enter Try.func4, Try.ntmps4
      go_wp2_with fail
      refine (FF.out).mono ?_
      rintro e w1 ⟨rfl, rfl⟩
      have HBx := Lib.hid (Below.refl w1.heap.size w1)
      go_wp2_with fail
      refine (CC1.out _).mono ?_
      rintro e w2 ⟨rfl, rfl⟩
      go_wp2_with fail
      refine (known6_any _).mono ?_
      rintro e w4 ⟨rfl, hb4⟩
      have HB4 := Lib.hid (HBx.out.trans (hb4.mono HBx.out.size))
      clear hb4
      go_wp2_with fail
      go_ret
      exact ⟨rfl, HB4.out⟩
    have zcp : (clo kp == 0) = false := by rw [beq_eq_false_iff_ne]; exact hcp
    by_cases hcq : clo kq = 0
    · rw [hcq] at C2
      have CC1 := Lib.hid C1
      have CC2 := Lib.hid C2
      clear C1 C2 M1 M2 HI
      generalize clo kp = ckp at *
      go_enter Try.func4, Try.ntmps4
      go_wp2_with fail
      refine (FF.out).mono ?_
      rintro e w1 ⟨rfl, rfl⟩
      have HBx := Lib.hid (Below.refl w1.heap.size w1)
      go_wp2_with fail
      refine (CC1.out _).mono ?_
      rintro e w2 ⟨rfl, rfl⟩
      go_wp2_with fail
      refine (CC2.out _).mono ?_
      rintro e w2 ⟨rfl, rfl⟩
      go_wp2_with fail
      refine (known6_any _).mono ?_
      rintro e w4 ⟨rfl, hb4⟩
      have HB4 := Lib.hid (HBx.out.trans (hb4.mono HBx.out.size))
      clear hb4
      go_wp2_with fail
      go_ret
      exact ⟨rfl, HB4.out⟩
    have zcq : (clo kq == 0) = false := by rw [beq_eq_false_iff_ne]; exact hcq
    have HJ : Hid (q ≤ A → q < B ∧ (B < A ∨ B = n ∧ A = n)) := Lib.hid (HI.out hcp hcq)
    have CC1 := Lib.hid C1
    have CC2 := Lib.hid C2
    have MM1 := Lib.hid M1
    have MM2 := Lib.hid M2
    clear C1 C2 M1 M2 HI
    generalize clo kp = ckp at *
    generalize clo kq = ckq at *
    go_enter Try.func4, Try.ntmps4
    go_wp2_with fail
    refine (FF.out).mono ?_
    rintro e w1 ⟨rfl, rfl⟩
    go_wp2_with fail
    refine (CC1.out _).mono ?_
    rintro e w2 ⟨rfl, rfl⟩
    go_wp2_with fail
    refine (CC2.out _).mono ?_
    rintro e w3 ⟨rfl, rfl⟩
    go_wp2_with fail
    refine (MM1.out).mono ?_
    rintro e w4 ⟨rfl, hb4⟩
    have HB4 := Lib.hid hb4
    clear hb4
    go_wp2_with fail
    refine (MM2.out _ HB4.out).mono ?_
    rintro e w5 ⟨rfl, hb5⟩
    have HBx := Lib.hid (HB4.out.trans (hb5.mono HB4.out.size))
    clear hb5 zcp zcq hcp hcq d1 d2
    by_cases hle : q ≤ A
    · have zle : (q : Int) ≤ (A : Int) := by omega
      have zle' : ¬ (A : Int) < (q : Int) := by omega
      obtain ⟨j1, j2⟩ := HJ.out hle
      have zj1 : (q : Int) < (B : Int) := by omega
      by_cases j3 : B < A
      · have zj3 : (B : Int) < (A : Int) := by omega
        clear j2 HJ
        go_wp2_with fail
        refine (known6_any _).mono ?_
        rintro e w4 ⟨rfl, hb4⟩
        have HB4 := Lib.hid (HBx.out.trans (hb4.mono HBx.out.size))
        clear hb4
        go_wp2_with fail
        go_ret
        exact ⟨rfl, HB4.out⟩
      · obtain ⟨rfl, rfl⟩ : B = n ∧ A = n := by omega
        have zj3 : ¬ (A : Int) < (A : Int) := by omega
        clear j2 HJ
        go_wp2_with fail
        refine (known6_any _).mono ?_
        rintro e w4 ⟨rfl, hb4⟩
        have HB4 := Lib.hid (HBx.out.trans (hb4.mono HBx.out.size))
        clear hb4
        go_wp2_with fail
        go_ret
        exact ⟨rfl, HB4.out⟩
    · have zle : (A : Int) < (q : Int) := by omega
      clear HJ
      go_wp2_with fail
      refine (known6_any _).mono ?_
      rintro e w4 ⟨rfl, hb4⟩
      have HB4 := Lib.hid (HBx.out.trans (hb4.mono HBx.out.size))
      clear hb4
      go_wp2_with fail
      go_ret
      exact ⟨rfl, HB4.out⟩
  · rw [decide_eq_false h] at F
    have FF := Lib.hid F
    clear F
    go_enter Try.func4, Try.ntmps4
    go_wp2_with fail
    refine (FF.out).mono ?_
    rintro e w1 ⟨rfl, rfl⟩
    have HBx := Lib.hid (Below.refl w1.heap.size w1)
    go_wp2_with fail
    refine (known6_any _).mono ?_
    rintro e w4 ⟨rfl, hb4⟩
    have HB4 := Lib.hid (HBx.out.trans (hb4.mono HBx.out.size))
    clear hb4
    go_wp2_with fail
    go_ret
    exact ⟨rfl, HB4.out⟩
end Go.Proofs.Ytaiommmbbajgnaa
