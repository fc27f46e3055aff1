/- Layer 6: the law SyntaxJoins. -/
import Derived.Test.YtaiommmbbajgnaaSynR7
namespace Go.Proofs.Ytaiommmbbajgnaa
open Go.RowKit TreN LexP FixP SynP
set_option linter.unusedVariables false

set_option maxRecDepth 100000 in
set_option maxHeartbeats 4000000 in
theorem SyntaxJoins_walk (a a2 a3 : Option Addr) (l m b : List Tok) (cap cap2 cap3 : Nat) (w : World) (hc : l.length ≤ cap) (hm : cap ≤ maxLen) (hc2 : m.length ≤ cap2) (hm2 : cap2 ≤ maxLen) (hc3 : b.length ≤ cap3) (hm3 : cap3 ≤ maxLen) (hT : Tks w a l) (hT2 : Tks w a2 m) (hT3 : Tks w a3 b) :
    Calls Try.prog 7 #[.slice a l.length cap, .slice a2 m.length cap2, .slice a3 b.length cap3] w fun e w' => e = .returned (.bool true) ∧ Below w.heap.size w w' := by
  have F1 := Lib.hid (fun W => few6_any a l.length cap W (by omega))
  have F2 := Lib.hid (fun W => few6_any a2 m.length cap2 W (by omega))
  have F3 := Lib.hid (fun W => few6_any a3 b.length cap3 W (by omega))
  by_cases hf1 : l.length ≤ 300
  rotate_left
  · rw [decide_eq_false hf1] at F1
    clear hT hT2 hT3 F2 F3
    go_enter Try.func7, Try.ntmps7
    go_wp2_with fail
    refine (F1.out _).mono ?_
    rintro e w1 ⟨rfl, rfl⟩
    have HBx := Lib.hid (Below.refl w1.heap.size w1)
    go_wp2_with fail
    refine (known6_any _).mono ?_
    rintro e w9 ⟨rfl, hb9⟩
    have HB9 := Lib.hid (HBx.out.trans (hb9.mono HBx.out.size))
    clear hb9
    go_wp2_with fail
    go_ret
    exact ⟨rfl, HB9.out⟩
  rw [decide_eq_true hf1] at F1
  by_cases hf2 : m.length ≤ 300
  rotate_left
  · rw [decide_eq_false hf2] at F2
    clear hT hT2 hT3 F3
    go_enter Try.func7, Try.ntmps7
    go_wp2_with fail
    refine (F1.out _).mono ?_
    rintro e w1 ⟨rfl, rfl⟩
    go_wp2_with fail
    refine (F2.out _).mono ?_
    rintro e w1 ⟨rfl, rfl⟩
    have HBx := Lib.hid (Below.refl w1.heap.size w1)
    go_wp2_with fail
    refine (known6_any _).mono ?_
    rintro e w9 ⟨rfl, hb9⟩
    have HB9 := Lib.hid (HBx.out.trans (hb9.mono HBx.out.size))
    clear hb9
    go_wp2_with fail
    go_ret
    exact ⟨rfl, HB9.out⟩
  rw [decide_eq_true hf2] at F2
  by_cases hf3 : b.length ≤ 300
  rotate_left
  · rw [decide_eq_false hf3] at F3
    clear hT hT2 hT3
    go_enter Try.func7, Try.ntmps7
    go_wp2_with fail
    refine (F1.out _).mono ?_
    rintro e w1 ⟨rfl, rfl⟩
    go_wp2_with fail
    refine (F2.out _).mono ?_
    rintro e w1 ⟨rfl, rfl⟩
    go_wp2_with fail
    refine (F3.out _).mono ?_
    rintro e w1 ⟨rfl, rfl⟩
    have HBx := Lib.hid (Below.refl w1.heap.size w1)
    go_wp2_with fail
    refine (known6_any _).mono ?_
    rintro e w9 ⟨rfl, hb9⟩
    have HB9 := Lib.hid (HBx.out.trans (hb9.mono HBx.out.size))
    clear hb9
    go_wp2_with fail
    go_ret
    exact ⟨rfl, HB9.out⟩
  rw [decide_eq_true hf3] at F3
  have C := Lib.hid (refClosed_any a2 m cap2 w (by omega) hT2)
  have C2 := Lib.hid (fun W (hW : Below w.heap.size w W) => refClosed_any a l cap W (by omega) (hT.below hW))
  by_cases hcm : clS m = true
  rotate_left
  · rw [show clS m = false by simpa using hcm] at C
    clear hT hT2 hT3
    go_enter Try.func7, Try.ntmps7
    go_wp2_with fail
    refine (F1.out _).mono ?_
    rintro e w1 ⟨rfl, rfl⟩
    go_wp2_with fail
    refine (F2.out _).mono ?_
    rintro e w1 ⟨rfl, rfl⟩
    go_wp2_with fail
    refine (F3.out _).mono ?_
    rintro e w1 ⟨rfl, rfl⟩
    go_wp2_with fail
    refine (C.out).mono ?_
    rintro e w2 ⟨rfl, q, rfl⟩
    have HBx := Lib.hid (below_drewN2 (Below.refl w1.heap.size w1) q)
    go_wp2_with fail
    refine (known6_any _).mono ?_
    rintro e w9 ⟨rfl, hb9⟩
    have HB9 := Lib.hid (HBx.out.trans (hb9.mono HBx.out.size))
    clear hb9
    go_wp2_with fail
    go_ret
    exact ⟨rfl, HB9.out⟩
  rw [hcm] at C
  by_cases hcl : clS l = true
  rotate_left
  · rw [show clS l = false by simpa using hcl] at C2
    clear hT hT2 hT3
    go_enter Try.func7, Try.ntmps7
    go_wp2_with fail
    refine (F1.out _).mono ?_
    rintro e w1 ⟨rfl, rfl⟩
    go_wp2_with fail
    refine (F2.out _).mono ?_
    rintro e w1 ⟨rfl, rfl⟩
    go_wp2_with fail
    refine (F3.out _).mono ?_
    rintro e w1 ⟨rfl, rfl⟩
    go_wp2_with fail
    refine (C.out).mono ?_
    rintro e w2 ⟨rfl, q, rfl⟩
    have HB2 := Lib.hid (below_drewN2 (Below.refl w1.heap.size w1) q)
    go_wp2_with fail
    refine (C2.out _ HB2.out).mono ?_
    rintro e w2 ⟨rfl, q2, rfl⟩
    have HBx : Hid (Below w1.heap.size w1 (w1.drewN (q + q2))) := Lib.hid (below_drewN2 (Below.refl _ _) (q + q2))
    go_wp2_with fail
    refine (known6_any _).mono ?_
    rintro e w9 ⟨rfl, hb9⟩
    have HB9 := Lib.hid (HBx.out.trans (hb9.mono HBx.out.size))
    clear hb9
    go_wp2_with fail
    go_ret
    exact ⟨rfl, HB9.out⟩
  rw [hcl] at C2
  have hA1 : (l ++ [(⟨17, [], 0⟩ : Tok)]).length = l.length + 1 := by simp
  have hA2 : ((l ++ [(⟨17, [], 0⟩ : Tok)]) ++ m).length = l.length + 1 + m.length := by simp; omega
  have hA3 : (((l ++ [(⟨17, [], 0⟩ : Tok)]) ++ m) ++ [(⟨18, [], 0⟩ : Tok)]).length = l.length + 1 + m.length + 1 := by simp; omega
  have hA4 : ((((l ++ [(⟨17, [], 0⟩ : Tok)]) ++ m) ++ [(⟨18, [], 0⟩ : Tok)]) ++ b).length = l.length + 1 + m.length + 1 + b.length := by simp; omega
  have eA : ((l ++ [(⟨17, [], 0⟩ : Tok)]) ++ m) ++ [(⟨18, [], 0⟩ : Tok)] = l ++ (⟨17, [], 0⟩ : Tok) :: (m ++ [(⟨18, [], 0⟩ : Tok)]) := by simp
  have eL : (((l ++ [(⟨17, [], 0⟩ : Tok)]) ++ m) ++ [(⟨18, [], 0⟩ : Tok)]) ++ b = l ++ (⟨17, [], 0⟩ : Tok) :: (m ++ (⟨18, [], 0⟩ : Tok) :: b) := by simp
  have HJ : Hid (mtc (((l ++ [(⟨17, [], 0⟩ : Tok)]) ++ m) ++ [(⟨18, [], 0⟩ : Tok)]) l.length = l.length + 1 + m.length →
      rusS ((((l ++ [(⟨17, [], 0⟩ : Tok)]) ++ m) ++ [(⟨18, [], 0⟩ : Tok)]) ++ b) = rusS (((l ++ [(⟨17, [], 0⟩ : Tok)]) ++ m) ++ [(⟨18, [], 0⟩ : Tok)]) ++ rusS b) := Lib.hid (fun h => by
    rw [eL, eA]
    rw [eA] at h
    exact rus_close rfl (block_match rfl h) b _ l (Nat.le_refl _) hcl)
  have HSZ := Lib.hid (And.intro hA1 (And.intro hA2 (And.intro hA3 hA4)))
  have HRB := Lib.hid (fun W (hW : Below w.heap.size w W) => Rules_any a3 b.length cap3 b W rfl hc3 hm3 (by omega) (hT3.below hW))
  have HAP := Lib.hid fun (W : World) (hW : Below w.heap.size w W) => app_toksS W.heap.size (.slice none 0 0) [] a l cap W (Nat.le_refl _) (by simp) (by omega) (World.ownsRow_nil _ _ _ _) (hT.below hW)
  have HAPm := Lib.hid fun (H : Nat) (v : Value) (xs : List Tok) (W : World) (hx : xs.length ≤ 10000) (hH : H ≤ W.heap.size) (hW : Below w.heap.size w W) (ho : W.ownsRow H 29 3 v xs.length (tkcs xs)) => app_toksS H v xs a2 m cap2 W hH hx (by omega) ho (hT2.below hW)
  have HAPb := Lib.hid fun (H : Nat) (v : Value) (xs : List Tok) (W : World) (hx : xs.length ≤ 10000) (hH : H ≤ W.heap.size) (hW : Below w.heap.size w W) (ho : W.ownsRow H 29 3 v xs.length (tkcs xs)) => app_toksS H v xs a3 b cap3 W hH hx (by omega) ho (hT3.below hW)
  generalize hq1 : l ++ [(⟨17, [], 0⟩ : Tok)] = A1 at *
  generalize hq2 : A1 ++ m = A2 at *
  generalize hq3 : A2 ++ [(⟨18, [], 0⟩ : Tok)] = A3 at *
  generalize hq4 : A3 ++ b = A4 at *
  have HE := Lib.hid (And.intro hq1 (And.intro hq2 (And.intro hq3 hq4)))
  obtain ⟨nl, hnl⟩ : ∃ n, l.length = n := ⟨_, rfl⟩
  obtain ⟨nm, hnm⟩ : ∃ n, m.length = n := ⟨_, rfl⟩
  obtain ⟨nb, hnb⟩ : ∃ n, b.length = n := ⟨_, rfl⟩
  have HNL := Lib.hid hnl
  have HNB := Lib.hid hnb
  simp only [hnl, List.nil_append] at HAP
  simp only [hnm] at HAPm
  simp only [hnb] at HAPb
  rw [hnl, hnm] at HJ
  rw [hnl, hnm, hnb] at HSZ
  rw [hnl] at F1 C2 hf1 ⊢
  rw [hnm] at F2 C hf2 ⊢
  rw [hnb] at F3 HRB hf3 ⊢
  clear hT hT2 hT3 hcl hcm hnl hnm hnb hA1 hA2 hA3 hA4 eA eL hq1 hq2 hq3 hq4 hc hm hc2 hm2 hc3 hm3
  go_enter Try.func7, Try.ntmps7
  go_wp2_with fail
  refine (F1.out _).mono ?_
  rintro e w1 ⟨rfl, rfl⟩
  go_wp2_with fail
  refine (F2.out _).mono ?_
  rintro e w1 ⟨rfl, rfl⟩
  go_wp2_with fail
  refine (F3.out _).mono ?_
  rintro e w1 ⟨rfl, rfl⟩
  go_wp2_with fail
  refine (C.out).mono ?_
  rintro e w2 ⟨rfl, q, rfl⟩
  have HB1 := Lib.hid (below_drewN2 (Below.refl w1.heap.size w1) q)
  go_wp2_with fail
  refine (C2.out _ HB1.out).mono ?_
  rintro e w2 ⟨rfl, q2, rfl⟩
  have HB2 : Hid (Below w1.heap.size w1 (w1.drewN (q + q2))) := Lib.hid (below_drewN2 (Below.refl _ _) (q + q2))
  rw [World.drewN_drewN]
  generalize hwq : w1.drewN (q + q2) = w2 at *
  clear hwq HB1
  obtain ⟨v3, w3, hr3, hown3, hb3⟩ := HAP.out w2 HB2.out
  have HB3 := Lib.hid (HB2.out.trans (hb3.mono HB2.out.size))
  have HR3 := Lib.hid hr3
  have hb3a : Below w2.heap.size w2 (w3.alloc (.cells #[.int .i64 17, .string ⟨#[]⟩, .int .i64 0] 29)) := hb3.alloc hb3.size _
  have one : ∀ (W : World) (k : Int), Tks (W.alloc (.cells #[.int .i64 k, .string ⟨#[]⟩, .int .i64 0] 29)) (some ⟨W.heap.size, 0, none⟩) [(⟨k, [], 0⟩ : Tok)] := fun W k => by
    refine Or.inr ⟨_, 0, rfl, by simp, fun i hi => ?_⟩
    have : i = 0 := by simp at hi; omega
    subst this
    have hx := heap_alloc_new W (.cells #[.int .i64 k, .string ⟨#[]⟩, .int .i64 0] 29)
    exact ⟨cell_of hx rfl, cell_of hx rfl, cell_of hx rfl⟩
  obtain ⟨v4, w4, hr4, hown4, hb4⟩ := app_toksS w2.heap.size v3 l (some ⟨w3.heap.size, 0, none⟩) [(⟨17, [], 0⟩ : Tok)] 1 _ hb3a.size (by have := HNL.out; omega) (by simp) (by rw [HNL.out]; exact hown3.alloc _) (one w3 17)
  rw [HE.out.1] at hown4
  have hb4a := hb3a.trans hb4
  have HB4 := Lib.hid (HB2.out.trans (hb4a.mono HB2.out.size))
  have HR4 := Lib.hid hr4
  obtain ⟨a4, c4, hv4, _, _, _⟩ := Tks_ownC hown4
  obtain ⟨n4, hn4⟩ : ∃ n, A1.length = n := ⟨_, rfl⟩
  rw [hn4] at hv4
  have hw1 : IntKind.i64.wrap ((n4 : Int) - 1) = (nl : Int) := by
    have e : (n4 : Int) - 1 = (nl : Int) := by rw [← hn4, HSZ.out.1]; omega
    rw [e]; exact IntWalk.i64_in _ (by omega)
  obtain ⟨v5, w5, hr5, hown5, hb5⟩ := HAPm.out w2.heap.size v4 _ w4 (by have := HSZ.out.1; omega) hb4a.size HB4.out hown4
  rw [HE.out.2.1] at hown5
  have hb5a := hb4a.trans hb5
  have HB5 := Lib.hid (HB2.out.trans (hb5a.mono HB2.out.size))
  have HR5 := Lib.hid hr5
  have hb5b : Below w2.heap.size w2 (w5.alloc (.cells #[.int .i64 18, .string ⟨#[]⟩, .int .i64 0] 29)) := hb5a.alloc hb5a.size _
  obtain ⟨v6, w6, hr6, hown6, hb6⟩ := app_toksS w2.heap.size v5 A2 (some ⟨w5.heap.size, 0, none⟩) [(⟨18, [], 0⟩ : Tok)] 1 _ hb5b.size (by have := HSZ.out.2.1; omega) (by simp) (hown5.alloc _) (one w5 18)
  rw [HE.out.2.2.1] at hown6
  have hb6a := hb5b.trans hb6
  have HB6 := Lib.hid (HB2.out.trans (hb6a.mono HB2.out.size))
  have HR6 := Lib.hid hr6
  obtain ⟨a6, c6, hv6, hT6, hc6, hm6⟩ := Tks_ownC hown6
  have hl6 := HSZ.out.2.2.1
  obtain ⟨n6, hn6⟩ : ∃ n, A3.length = n := ⟨_, rfl⟩
  have hn6e : n6 = nl + 1 + nm + 1 := by rw [← hn6]; exact hl6
  obtain ⟨v7, w7, hr7, hown7, hb7⟩ := app_toksS w6.heap.size (.slice none 0 0) [] a6 A3 c6 w6 (Nat.le_refl _) (by simp) (by omega) (World.ownsRow_nil _ _ _ _) hT6
  rw [List.nil_append] at hown7
  have HB7 := Lib.hid (HB6.out.trans (hb7.mono HB6.out.size))
  have HR7 := Lib.hid hr7
  obtain ⟨v8, w8, hr8, hown8, hb8⟩ := HAPb.out w6.heap.size v7 A3 w7 (by omega) hb7.size HB7.out hown7
  rw [HE.out.2.2.2] at hown8
  have hb8a := hb7.trans hb8
  have HB8 := Lib.hid (HB6.out.trans (hb8a.mono HB6.out.size))
  have HR8 := Lib.hid hr8
  obtain ⟨a8, c8, hv8, hT8, hc8, hm8⟩ := Tks_ownC hown8
  obtain ⟨n8, hn8⟩ : ∃ n, A4.length = n := ⟨_, rfl⟩
  have hn8l : n8 ≤ 1000 := by rw [← hn8, HSZ.out.2.2.2]; omega
  have RA := Lib.hid (fun W (hW : Below w8.heap.size w8 W) => Rules_any a6 A3.length c6 A3 W rfl hc6 hm6 (by omega) ((hT6.below hb8a).below hW))
  have RL := Lib.hid (fun W (hW : Below w8.heap.size w8 W) => Rules_any a8 A4.length c8 A4 W rfl hc8 hm8 (by omega) (hT8.below hW))
  have RM := refMatch_nat a6 A3 A3.length c6 rfl (by omega) A3.length nl w8 (by omega) (by omega) (hT6.below hb8a)
  have hmb := mtc_bd (l := A3) (k := nl) (by omega)
  have HLA := Lib.hid (rus_len A3)
  have HLB := Lib.hid (rus_len b)
  rw [hn6] at RA RM hv6 hmb
  rw [hn6] at hr7
  have HR7 := Lib.hid hr7
  rw [hn8] at RL hv8
  have HN6 := Lib.hid hn6
  subst hv4; subst hv6; subst hv8
  obtain ⟨mk, hmk⟩ : ∃ x, mtc A3 nl = x := ⟨_, rfl⟩
  rw [hmk] at RM HJ hmb
  have RM := Lib.hid RM
  clear hr3 hr4 hr5 hr6 hr7 hr8 hown3 hown4 hown5 hown6 hown7 hown8 hb3 hb4 hb5 hb6 hb7 hb8 hb3a hb4a hb5a hb5b hb6a hb8a hT6 hT8 hc6 hm6 hc8 hm8 hn8 HAP HAPm HAPb one hn6 hl6 hmk
  obtain ⟨j6, hj6⟩ : ∃ j, n6 = j + 1 := ⟨nl + 1 + nm, hn6e⟩
  have hw2 : IntKind.i64.wrap ((n6 : Int) - 1) = (j6 : Int) := by
    have e : (n6 : Int) - 1 = (j6 : Int) := by omega
    rw [e]; exact IntWalk.i64_in _ (by omega)
  have HJ6 : Hid (j6 = nl + 1 + nm) := Lib.hid (by omega)
  have hmn : mk ≤ 2000 := by omega
  have hn6b : n6 ≤ 2000 := by omega
  clear hj6 hn6e hn4 hmb
  by_cases hmj : mk = j6
  · have hmz : ((mk : Int) != (j6 : Int)) = false := by rw [hmj]; simp
    have HRU := Lib.hid (HJ.out (by rw [hmj]; exact HJ6.out))
    clear hmj
    go_upto_region 5 with (at_builtin; refine wpList_append_runS rfl _ _ 22 rfl _ _ _ _ rfl rfl HR3.out ?_)
    go_upto_region 6 with (at_builtin; refine wpList_append_runS rfl _ _ 22 rfl _ _ _ _ rfl rfl HR4.out ?_)
    go_upto_region 8 with (at_builtin; refine wpList_append_runS rfl _ _ 22 rfl _ _ _ _ rfl rfl HR5.out ?_)
    go_upto_region 9 with (at_builtin; refine wpList_append_runS rfl _ _ 22 rfl _ _ _ _ rfl rfl HR6.out ?_)
    go_upto_region 11 with (at_builtin; refine wpList_append_runS rfl _ _ 22 rfl _ _ _ _ rfl rfl HR7.out ?_)
    go_upto_region 12 with (at_builtin; refine wpList_append_runS rfl _ _ 22 rfl _ _ _ _ rfl rfl HR8.out ?_)
    go_wp2_with fail
    refine RM.out.mono ?_
    rintro e w9 ⟨rfl, q9, rfl⟩
    have HX9 : Hid (Below w8.heap.size w8 (w8.drewN q9)) := Lib.hid (below_drewN2 (Below.refl _ _) q9)
    have HB9 := Lib.hid (HB8.out.trans (HX9.out.mono HB8.out.size))
    generalize hw9 : w8.drewN q9 = w9 at *
    clear hw9
    go_wp2_with fail
    refine (RA.out _ HX9.out).mono ?_
    rintro e w10 ⟨v10, rfl, hR10⟩
    have HX10 := Lib.hid (HX9.out.trans (hR10.below.mono HX9.out.size))
    have HB10 := Lib.hid (HB9.out.trans (hR10.below.mono HB9.out.size))
    have HL10 := Lib.hid hR10.rls
    clear hR10
    go_wp2_with fail
    refine (HRB.out _ HB10.out).mono ?_
    rintro e w11 ⟨v11, rfl, hR11⟩
    have HX11 := Lib.hid (HX10.out.trans (hR11.below.mono HX10.out.size))
    have HB11 := Lib.hid (HB10.out.trans (hR11.below.mono HB10.out.size))
    have HL11 := Lib.hid hR11.rls
    have HLA11 := Lib.hid (HL10.out.below hR11.below)
    obtain ⟨v12, w12, ys, hr12, hy1, hown12, hy2, hb12⟩ := app_rcs w11.heap.size (.slice none 0 0) [] v10 (rusS A3) w11 w11 (Below.refl _ _) (Nat.le_refl _) (by simp) (by have := HLA.out.1; have := HN6.out; omega) (World.ownsRow_nil _ _ _ _) HLA11.out
    rw [List.nil_append] at hown12
    have hyl : ys.length ≤ 2000 := by have := HLA.out.1; have := HN6.out; rw [← hy1, List.length_map] at *; omega
    obtain ⟨v13, w13, zs, hr13, hz1, hown13, hz2, hb13⟩ := app_rcs w11.heap.size v12 ys v11 (rusS b) w11 w12 hb12 hb12.size (by omega) (by have := HLB.out.1; have := HNB.out; omega) hown12 HL11.out
    have HB13 := Lib.hid (HB11.out.trans ((hb12.trans hb13).mono HB11.out.size))
    have HX13 := Lib.hid (HX11.out.trans ((hb12.trans hb13).mono HX11.out.size))
    have hd13 : Rls w13 v13 (rusS A3 ++ rusS b) := by
      refine ⟨ys ++ zs, by rw [List.map_append, hy1, hz1], _, hown13, fun x hx => ?_⟩
      rcases List.mem_append.1 hx with hx | hx
      · exact (hy2 x hx).below (hb12.trans hb13)
      · exact (hz2 x hx).below (hb12.trans hb13)
    have HR12 := Lib.hid hr12
    have HR13 := Lib.hid hr13
    have HD13 := Lib.hid hd13
    have HS13 := Lib.hid (And.intro (show (rusS A3 ++ rusS b).length ≤ 90000 by have := HLA.out.1; have := HLB.out.1; have := HN6.out; have := HNB.out; rw [List.length_append]; omega) (fun d (hd : d ∈ rusS A3 ++ rusS b) => show d.head.length ≤ 90000 ∧ d.body.length ≤ 90000 by
      have := HN6.out
      have := HNB.out
      rcases List.mem_append.1 hd with hd | hd
      · have := HLA.out.2 d hd; omega
      · have := HLB.out.2 d hd; omega))
    obtain ⟨a10, c10, hs10⟩ := HL10.out.slice
    obtain ⟨a11, c11, hs11⟩ := HL11.out.slice
    clear hR11 hr12 hr13 hy1 hown12 hy2 hb12 hz1 hown13 hz2 hb13 hd13 hyl HLA11 HL10 HL11
    subst hs10; subst hs11
    go_upto_region 17 with (at_builtin; refine wpList_append_runS rfl _ _ 35 rfl _ _ _ _ rfl rfl HR12.out ?_)
    go_upto_region 18 with (at_builtin; refine wpList_append_runS rfl _ _ 35 rfl _ _ _ _ rfl rfl HR13.out ?_)
    go_wp2_with fail
    refine (RL.out _ HX13.out).mono ?_
    rintro e w14 ⟨v14, rfl, hR14⟩
    have HBy := Lib.hid (HB13.out.trans (hR14.below.mono HB13.out.size))
    have hrl := hR14.rls
    rw [HRU.out] at hrl
    have S := Lib.hid (refSameRules_eq v14 v13 (rusS A3 ++ rusS b) w14 HS13.out.1 HS13.out.2 hrl (HD13.out.below hR14.below))
    clear hR14 hrl
    go_wp2_with fail
    refine (S.out).mono ?_
    rintro e w15 ⟨rfl, q15, rfl⟩
    have HBx := Lib.hid (below_drewN2 HBy.out q15)
    go_wp2_with fail
    refine (known6_any _).mono ?_
    rintro e w99 ⟨rfl, hb9⟩
    have HB99 := Lib.hid (HBx.out.trans (hb9.mono HBx.out.size))
    clear hb9
    go_wp2_with fail
    go_ret
    exact ⟨rfl, HB99.out⟩
  · have hmz : ((mk : Int) != (j6 : Int)) = true := by rw [bne_iff_ne]; omega
    clear hmj HRB RA RL HJ
    go_upto_region 5 with (at_builtin; refine wpList_append_runS rfl _ _ 22 rfl _ _ _ _ rfl rfl HR3.out ?_)
    go_upto_region 6 with (at_builtin; refine wpList_append_runS rfl _ _ 22 rfl _ _ _ _ rfl rfl HR4.out ?_)
    go_upto_region 8 with (at_builtin; refine wpList_append_runS rfl _ _ 22 rfl _ _ _ _ rfl rfl HR5.out ?_)
    go_upto_region 9 with (at_builtin; refine wpList_append_runS rfl _ _ 22 rfl _ _ _ _ rfl rfl HR6.out ?_)
    go_upto_region 11 with (at_builtin; refine wpList_append_runS rfl _ _ 22 rfl _ _ _ _ rfl rfl HR7.out ?_)
    go_upto_region 12 with (at_builtin; refine wpList_append_runS rfl _ _ 22 rfl _ _ _ _ rfl rfl HR8.out ?_)
    go_wp2_with fail
    refine RM.out.mono ?_
    rintro e w9 ⟨rfl, q9, rfl⟩
    have HBx := Lib.hid (below_drewN2 HB8.out q9)
    go_wp2_with fail
    refine (known6_any _).mono ?_
    rintro e w99 ⟨rfl, hb9⟩
    have HB99 := Lib.hid (HBx.out.trans (hb9.mono HBx.out.size))
    clear hb9
    go_wp2_with fail
    go_ret
    exact ⟨rfl, HB99.out⟩
end Go.Proofs.Ytaiommmbbajgnaa
