/- Layer 6: the laws SyntaxDecls and SyntaxGoesOn. -/
import Derived.Test.YtaiommmbbajgnaaSynL1
import Derived.Test.YtaiommmbbajgnaaSynR6
namespace Go.Proofs.Ytaiommmbbajgnaa
open Go.RowKit TreN LexP FixP SynP
set_option linter.unusedVariables false

set_option maxRecDepth 100000 in
set_option maxHeartbeats 2000000 in
theorem SyntaxDecls_walk (a : Option Addr) (l : List Tok) (cap : Nat) (w : World) (hc : l.length ≤ cap) (hm : cap ≤ maxLen) (hT : Tks w a l) :
    Calls Try.prog 5 #[.slice a l.length cap] w fun e w' => e = .returned (.bool true) ∧ Below w.heap.size w w' := by
  have F := few6_any a l.length cap w (by omega)
  by_cases h : l.length ≤ 300
  · have M1 := Lib.hid (Decls_any a l cap w hc hm (by omega) hT)
    have M2 := Lib.hid (fun W (hW : Below w.heap.size w W) => refDecls_any a l cap W hc hm (by omega) (hT.below hW))
    have HL := Lib.hid (And.intro (show (declsS l).length ≤ 90000 by have := decls_many l; omega) (fun d (hd : d ∈ declsS l) => show d.value.length ≤ 90000 by have := decls_len hd; omega))
    rw [decide_eq_true h] at F
    have FF := Lib.hid F
    obtain ⟨L, hL⟩ : ∃ m, declsS l = m := ⟨_, rfl⟩
    rw [hL] at M1 M2 HL
    obtain ⟨n, hn⟩ : ∃ n, l.length = n := ⟨_, rfl⟩
    rw [hn] at FF M1 M2 ⊢
    clear F hT hL hn
    go_enter Try.func5, Try.ntmps5
    go_wp2_with fail
    refine (FF.out).mono ?_
    rintro e w1 ⟨rfl, rfl⟩
    go_wp2_with fail
    refine (M1.out).mono ?_
    rintro e w2 ⟨⟨v1, rfl, hd1⟩, hb2⟩
    have HB2 := Lib.hid hb2
    have HD1 := Lib.hid hd1
    clear hb2 hd1
    go_wp2_with fail
    refine (M2.out _ HB2.out).mono ?_
    rintro e w3 ⟨⟨v2, rfl, hd2⟩, hb3⟩
    have HB3 := Lib.hid (HB2.out.trans (hb3.mono HB2.out.size))
    have S := Lib.hid (refSameDecls_eq v1 v2 L w3 HL.out.1 HL.out.2 (HD1.out.below hb3) hd2)
    clear hb3 hd2
    go_wp2_with fail
    refine (S.out).mono ?_
    rintro e w4 ⟨rfl, q, rfl⟩
    have HB4 := Lib.hid (below_drewN2 HB3.out q)
    go_wp2_with fail
    refine (known6_any _).mono ?_
    rintro e w5 ⟨rfl, hb5⟩
    have HB5 := Lib.hid (HB4.out.trans (hb5.mono HB4.out.size))
    clear hb5
    go_wp2_with fail
    go_ret
    exact ⟨rfl, HB5.out⟩
  · rw [decide_eq_false h] at F
    have FF := Lib.hid F
    clear F
    go_enter Try.func5, Try.ntmps5
    go_wp2_with fail
    refine (FF.out).mono ?_
    rintro e w1 ⟨rfl, rfl⟩
    go_wp2_with fail
    refine (known6_any _).mono ?_
    rintro e w4 ⟨rfl, hb4⟩
    have HB4 := Lib.hid hb4
    clear hb4
    go_wp2_with fail
    go_ret
    exact ⟨rfl, HB4.out⟩

/-- tokens put behind tokens of an own row -/
theorem app_toksS (H : Nat) (v : Value) (xs : List Tok) (a : Option Addr) (l : List Tok) (c : Nat) (w : World) (hH : H ≤ w.heap.size) (hx : xs.length ≤ 10000) (hl : l.length ≤ 10000) (hown : w.ownsRow H 29 3 v xs.length (tkcs xs)) (hT : Tks w a l) :
    ∃ v' w', (Builtin.append_ #[22, 22] 22 #[v, .slice a l.length c]).run Try.prog w = .ok v' w' ∧ w'.ownsRow H 29 3 v' (xs ++ l).length (tkcs (xs ++ l)) ∧ Below H w w' := by
  obtain ⟨i, hi, hz0, hz1, hz2⟩ := info_parts info_token
  obtain ⟨v', w', r1, r2, r3⟩ := app_cells 22 29 i _ 3 32 und_tokens hi hz0 hz1 hz2 rfl (by decide) H v xs.length (tkcs xs) a l.length c (tkcs l) w hH hown (tkcs_length l) (by
    rcases hT with hT | ⟨b, o, rfl, hb, hT⟩
    · left; rw [hT]; rfl
    · right
      refine ⟨_, rfl, fun j u hj => ?_⟩
      by_cases hjn : j < l.length * 3
      · obtain ⟨p, hp⟩ : ∃ p, j / 3 = p := ⟨_, rfl⟩
        have hpl : p < l.length := by omega
        obtain ⟨k1, k2, k3⟩ := tkcs_get l p hpl
        have ht := hT p hpl
        rw [Addr.add_lit]
        rcases (by omega : j = p * 3 ∨ j = p * 3 + 1 ∨ j = p * 3 + 2) with e | e | e
        · subst e
          rw [k1] at hj; injection hj with hj; subst hj
          exact ht.kind
        · subst e
          rw [k2] at hj; injection hj with hj; subst hj
          exact ht.text
        · subst e
          rw [k3] at hj; injection hj with hj; subst hj
          exact ht.n
      · rw [List.getElem?_eq_none (by rw [tkcs_length]; omega)] at hj
        cases hj) (tkcs_one l) (by unfold maxLen; omega) (by omega)
  exact ⟨v', w', r1, by rw [List.length_append, tkcs_append]; exact r2, r3⟩
/-- what an own row's cells are, as news -/
theorem row_news {w : World} {base : Nat} {E : TypeId} {size : Nat} {v : Value} {n : Nat} {xs : List Value} (h : w.ownsRow base E size v n xs) : ∃ a c, v = .slice a n c ∧ (n = 0 ∨ ∃ ad, a = some ad ∧ ∀ j u, xs[j]? = some u → w.cell? (ad.add j) = some u) := by
  by_cases h0 : n = 0
  · subst h0
    rcases h.2 with ⟨hv, _⟩ | ⟨g, cap, cur, hv, _⟩
    · exact ⟨none, 0, hv, Or.inl rfl⟩
    · exact ⟨_, cap, hv, Or.inl rfl⟩
  · obtain ⟨g, cap, rfl, hg, hgl⟩ := h.form (by omega)
    refine ⟨_, cap, rfl, Or.inr ⟨_, rfl, fun j u hj => ?_⟩⟩
    have hjl : j < xs.length := by
      by_cases q : j < xs.length
      · exact q
      · rw [List.getElem?_eq_none (by omega)] at hj; cases hj
    rw [h.1] at hjl
    rw [Addr.add_lit, Nat.zero_add, h.cellAt j hjl, hj]
/-- declarations put behind declarations of an own row -/
theorem app_dcs (H : Nat) (v : Value) (xs : List DecV) (v2 : Value) (L : List Dec) (w0 w : World) (hb0 : Below w0.heap.size w0 w) (hH : H ≤ w.heap.size) (hx : xs.length ≤ 10000) (hl : L.length ≤ 10000) (hown : w.ownsRow H 43 3 v xs.length (dcs xs)) (h2 : Dcs w0 v2 L) :
    ∃ v' w' ys, (Builtin.append_ #[32, 32] 32 #[v, v2]).run Try.prog w = .ok v' w' ∧ ys.map DecV.d = L ∧ w'.ownsRow H 43 3 v' (xs ++ ys).length (dcs (xs ++ ys)) ∧ (∀ y ∈ ys, y.d.value.length ≤ y.cap ∧ y.cap ≤ maxLen ∧ Tks w0 y.a y.d.value) ∧ Below H w w' := by
  obtain ⟨i, hi, hz0, hz1, hz2⟩ := info_parts info_decl
  obtain ⟨ys, h3, base, h4, h5⟩ := h2
  obtain ⟨a, c, rfl, hn⟩ := row_news (ownsRow_below h4 hb0)
  have hyl : ys.length = L.length := by rw [← h3, List.length_map]
  obtain ⟨v', w', r1, r2, r3⟩ := app_cells 32 43 i _ 3 48 und_decls hi hz0 hz1 hz2 rfl (by decide) H v xs.length (dcs xs) a ys.length c (dcs ys) w hH hown (dcs_length ys) hn (dcs_one ys) (by unfold maxLen; omega) (by omega)
  exact ⟨v', w', ys, r1, h3, by rw [List.length_append, dcs_append]; exact r2, h5, r3⟩
set_option maxRecDepth 100000 in
set_option maxHeartbeats 4000000 in
theorem SyntaxGoesOn_walk (a a2 : Option Addr) (l m : List Tok) (cap cap2 : Nat) (w : World) (hc : l.length ≤ cap) (hm : cap ≤ maxLen) (hc2 : m.length ≤ cap2) (hm2 : cap2 ≤ maxLen) (hT : Tks w a l) (hT2 : Tks w a2 m) :
    Calls Try.prog 6 #[.slice a l.length cap, .slice a2 m.length cap2] w fun e w' => e = .returned (.bool true) ∧ Below w.heap.size w w' := by
  have F1 := Lib.hid (fun W => few6_any a l.length cap W (by omega))
  have F2 := Lib.hid (fun W => few6_any a2 m.length cap2 W (by omega))
  by_cases hf1 : l.length ≤ 300
  rotate_left
  · rw [decide_eq_false hf1] at F1
    clear hT hT2 F2
    go_enter Try.func6, Try.ntmps6
    go_wp2_with fail
    refine (F1.out _).mono ?_
    rintro e w1 ⟨rfl, rfl⟩
    have HBx := Lib.hid (Below.refl w1.heap.size w1)
    go_wp2_with fail
    refine (known6_any _).mono ?_
    rintro e w9 ⟨rfl, hb9⟩
    have HB9 := Lib.hid (HBx.out.trans (hb9.mono HBx.out.size))
    clear hb9
    go_wp2_with fail
    go_ret
    exact ⟨rfl, HB9.out⟩
  rw [decide_eq_true hf1] at F1
  by_cases hf2 : m.length ≤ 300
  rotate_left
  · rw [decide_eq_false hf2] at F2
    clear hT hT2
    go_enter Try.func6, Try.ntmps6
    go_wp2_with fail
    refine (F1.out _).mono ?_
    rintro e w1 ⟨rfl, rfl⟩
    go_wp2_with fail
    refine (F2.out _).mono ?_
    rintro e w1 ⟨rfl, rfl⟩
    have HBx := Lib.hid (Below.refl w1.heap.size w1)
    go_wp2_with fail
    refine (known6_any _).mono ?_
    rintro e w9 ⟨rfl, hb9⟩
    have HB9 := Lib.hid (HBx.out.trans (hb9.mono HBx.out.size))
    clear hb9
    go_wp2_with fail
    go_ret
    exact ⟨rfl, HB9.out⟩
  rw [decide_eq_true hf2] at F2
  have C := Lib.hid (refClosed_any a l cap w (by omega) hT)
  by_cases hcl : clS l = true
  rotate_left
  · rw [show clS l = false by simpa using hcl] at C
    clear hT hT2
    go_enter Try.func6, Try.ntmps6
    go_wp2_with fail
    refine (F1.out _).mono ?_
    rintro e w1 ⟨rfl, rfl⟩
    go_wp2_with fail
    refine (F2.out _).mono ?_
    rintro e w1 ⟨rfl, rfl⟩
    go_wp2_with fail
    refine (C.out).mono ?_
    rintro e w2 ⟨rfl, q, rfl⟩
    have HBx := Lib.hid (below_drewN2 (Below.refl w1.heap.size w1) q)
    go_wp2_with fail
    refine (known6_any _).mono ?_
    rintro e w9 ⟨rfl, hb9⟩
    have HB9 := Lib.hid (HBx.out.trans (hb9.mono HBx.out.size))
    clear hb9
    go_wp2_with fail
    go_ret
    exact ⟨rfl, HB9.out⟩
  rw [hcl] at C
  have D1 := Lib.hid (fun W (hW : Below w.heap.size w W) => Decls_any a l cap W hc hm (by omega) (hT.below hW))
  have D2 := Lib.hid (fun W (hW : Below w.heap.size w W) => Decls_any a2 m cap2 W hc2 hm2 (by omega) (hT2.below hW))
  have HAP := Lib.hid fun (W : World) (hW : Below w.heap.size w W) => app_toksS W.heap.size (.slice none 0 0) [] a l cap W (Nat.le_refl _) (by simp) (by omega) (World.ownsRow_nil _ _ _ _) (hT.below hW)
  have HAP2 := Lib.hid fun (H : Nat) (v : Value) (xs : List Tok) (W : World) (hx : xs.length ≤ 10000) (hH : H ≤ W.heap.size) (hW : Below w.heap.size w W) (ho : W.ownsRow H 29 3 v xs.length (tkcs xs)) => app_toksS H v xs a2 m cap2 W hH hx (by omega) ho (hT2.below hW)
  have HL : Hid (declsS ((l ++ [(⟨11, [], 0⟩ : Tok)]) ++ m) = declsS l ++ declsS m ∧ ((l ++ [(⟨11, [], 0⟩ : Tok)]) ++ m).length ≤ 601 ∧ (l ++ [(⟨11, [], 0⟩ : Tok)]).length ≤ 301) := Lib.hid ⟨by
    have := decls_semi ⟨11, [], 0⟩ rfl l m hcl
    rw [← this]; simp, by simp; omega, by simp; omega⟩
  have HDL := Lib.hid (And.intro (show (declsS l).length ≤ 400 by have := decls_many l; omega) (And.intro (show (declsS m).length ≤ 400 by have := decls_many m; omega) (fun d (hd : d ∈ declsS l ++ declsS m) => show d.value.length ≤ 90000 by
    rcases List.mem_append.1 hd with hd | hd
    · have := decls_len hd; omega
    · have := decls_len hd; omega)))
  obtain ⟨dl, hdl⟩ : ∃ x, declsS l = x := ⟨_, rfl⟩
  obtain ⟨dm, hdm⟩ : ∃ x, declsS m = x := ⟨_, rfl⟩
  rw [hdl, hdm] at HL HDL
  rw [hdl] at D1
  rw [hdm] at D2
  obtain ⟨nl, hnl⟩ : ∃ n, l.length = n := ⟨_, rfl⟩
  obtain ⟨nm, hnm⟩ : ∃ n, m.length = n := ⟨_, rfl⟩
  have HNL := Lib.hid hnl
  simp only [hnl, List.nil_append] at HAP
  simp only [hnm] at HAP2
  rw [hnl] at F1 C D1 ⊢
  rw [hnm] at F2 D2 ⊢
  have HL300 : Hid (l.length ≤ 300) := Lib.hid hf1
  clear hT hT2 hcl hdl hdm hnl hnm hf1 hf2
  go_enter Try.func6, Try.ntmps6
  go_wp2_with fail
  refine (F1.out _).mono ?_
  rintro e w1 ⟨rfl, rfl⟩
  go_wp2_with fail
  refine (F2.out _).mono ?_
  rintro e w1 ⟨rfl, rfl⟩
  go_wp2_with fail
  refine (C.out).mono ?_
  rintro e w2 ⟨rfl, q, rfl⟩
  have HB2 := Lib.hid (below_drewN2 (Below.refl w1.heap.size w1) q)
  generalize hwq : w1.drewN q = w2 at *
  clear hwq
  obtain ⟨v3, w3, hr3, hown3, hb3⟩ := HAP.out w2 HB2.out
  have HB3 := Lib.hid (HB2.out.trans (hb3.mono HB2.out.size))
  have HR3 := Lib.hid hr3
  have hb3a : Below w2.heap.size w2 (w3.alloc (.cells #[.int .i64 11, .string ⟨#[]⟩, .int .i64 0] 29)) := hb3.alloc hb3.size _
  have hs4 : Tks (w3.alloc (.cells #[.int .i64 11, .string ⟨#[]⟩, .int .i64 0] 29)) (some ⟨w3.heap.size, 0, none⟩) [(⟨11, [], 0⟩ : Tok)] := by
    refine Or.inr ⟨_, 0, rfl, by simp, fun i hi => ?_⟩
    have : i = 0 := by simp at hi; omega
    subst this
    have hx := heap_alloc_new w3 (.cells #[.int .i64 11, .string ⟨#[]⟩, .int .i64 0] 29)
    exact ⟨cell_of hx rfl, cell_of hx rfl, cell_of hx rfl⟩
  obtain ⟨v4, w4, hr4, hown4, hb4⟩ := app_toksS w2.heap.size v3 l (some ⟨w3.heap.size, 0, none⟩) [(⟨11, [], 0⟩ : Tok)] 1 _ hb3a.size (by have := HL300.out; omega) (by simp) (by rw [HNL.out]; exact hown3.alloc _) hs4
  have hb4a := hb3a.trans hb4
  have HB4 := Lib.hid (HB2.out.trans (hb4a.mono HB2.out.size))
  have HR4 := Lib.hid hr4
  obtain ⟨v5, w5, hr5, hown5, hb5⟩ := HAP2.out w2.heap.size v4 _ w4 (by have := HL.out.2.2; omega) hb4a.size HB4.out hown4
  have hb5a := hb4a.trans hb5
  have HB5 := Lib.hid (HB2.out.trans (hb5a.mono HB2.out.size))
  have HR5 := Lib.hid hr5
  obtain ⟨a5, c5, hv5, hT5, hc5, hm5⟩ := Tks_ownC hown5
  obtain ⟨n5, hn5⟩ : ∃ n, ((l ++ [(⟨11, [], 0⟩ : Tok)]) ++ m).length = n := ⟨_, rfl⟩
  have D3 := Lib.hid (fun W (hW : Below w5.heap.size w5 W) => Decls_any a5 _ c5 W hc5 hm5 (by have := HL.out.2.1; omega) (hT5.below hW))
  rw [HL.out.1, hn5] at D3
  rw [hn5] at hv5
  subst hv5
  clear hr3 hr4 hr5 hown3 hown4 hown5 hb3 hb4 hb5 hb3a hb4a hb5a hs4 hT5 hc5 hm5 hn5 HAP HAP2
  go_wp2_with (first
    | (at_builtin; refine wpList_append_runS rfl _ _ 22 rfl _ _ _ _ rfl rfl HR3.out ?_)
    | (at_builtin; refine wpList_append_runS rfl _ _ 22 rfl _ _ _ _ rfl rfl HR4.out ?_)
    | (at_builtin; refine wpList_append_runS rfl _ _ 22 rfl _ _ _ _ rfl rfl HR5.out ?_))
  refine (D1.out _ HB5.out).mono ?_
  rintro e w6 ⟨⟨v6, rfl, hd6⟩, hb6⟩
  have HB6 := Lib.hid (HB5.out.trans (hb6.mono HB5.out.size))
  have HX6 := Lib.hid hb6
  have HD6 := Lib.hid hd6
  clear hb6 hd6
  go_wp2_with fail
  refine (D2.out _ HB6.out).mono ?_
  rintro e w7 ⟨⟨v7, rfl, hd7⟩, hb7⟩
  have HB7 := Lib.hid (HB6.out.trans (hb7.mono HB6.out.size))
  have HX7 := Lib.hid (HX6.out.trans (hb7.mono HX6.out.size))
  obtain ⟨v8, w8, ys, hr8, hy1, hown8, hy2, hb8⟩ := app_dcs w7.heap.size (.slice none 0 0) [] v6 dl w7 w7 (Below.refl _ _) (Nat.le_refl _) (by simp) (by have := HDL.out.1; omega) (World.ownsRow_nil _ _ _ _) (HD6.out.below hb7)
  rw [List.nil_append] at hown8
  have hyl : ys.length ≤ 400 := by have := HDL.out.1; rw [← hy1, List.length_map] at this; exact this
  obtain ⟨v9, w9, zs, hr9, hz1, hown9, hz2, hb9⟩ := app_dcs w7.heap.size v8 ys v7 dm w7 w8 hb8 hb8.size (by omega) (by have := HDL.out.2.1; omega) hown8 hd7
  have HB9 := Lib.hid (HB7.out.trans ((hb8.trans hb9).mono HB7.out.size))
  have HX9 := Lib.hid (HX7.out.trans ((hb8.trans hb9).mono HX7.out.size))
  have hd9 : Dcs w9 v9 (dl ++ dm) := by
    refine ⟨ys ++ zs, by rw [List.map_append, hy1, hz1], _, hown9, fun x hx => ?_⟩
    rcases List.mem_append.1 hx with hx | hx
    · exact ⟨(hy2 x hx).1, (hy2 x hx).2.1, (hy2 x hx).2.2.below (hb8.trans hb9)⟩
    · exact ⟨(hz2 x hx).1, (hz2 x hx).2.1, (hz2 x hx).2.2.below (hb8.trans hb9)⟩
  have HR8 := Lib.hid hr8
  have HR9 := Lib.hid hr9
  have HD9 := Lib.hid hd9
  have HS9 := Lib.hid (And.intro (show (dl ++ dm).length ≤ 90000 by have := HDL.out.1; have := HDL.out.2.1; rw [List.length_append]; omega) HDL.out.2.2)
  obtain ⟨a6, c6, hs6⟩ := HD6.out.slice
  obtain ⟨a7, c7, hs7⟩ := hd7.slice
  clear hb7 hr8 hr9 hy1 hown8 hy2 hb8 hz1 hown9 hz2 hb9 hd9 hyl hd7 HD6
  subst hs6; subst hs7
  go_wp2_with (first
    | (at_builtin; refine wpList_append_runS rfl _ _ 32 rfl _ _ _ _ rfl rfl HR8.out ?_)
    | (at_builtin; refine wpList_append_runS rfl _ _ 32 rfl _ _ _ _ rfl rfl HR9.out ?_))
  refine (D3.out _ HX9.out).mono ?_
  rintro e w10 ⟨⟨v10, rfl, hd10⟩, hb10⟩
  have HBy := Lib.hid (HB9.out.trans (hb10.mono HB9.out.size))
  have S := Lib.hid (refSameDecls_eq v10 v9 (dl ++ dm) w10 HS9.out.1 HS9.out.2 hd10 (HD9.out.below hb10))
  clear hb10 hd10
  go_wp2_with fail
  refine (S.out).mono ?_
  rintro e w11 ⟨rfl, q2, rfl⟩
  have HBx := Lib.hid (below_drewN2 HBy.out q2)
  go_wp2_with fail
  refine (known6_any _).mono ?_
  rintro e w9 ⟨rfl, hb9⟩
  have HB9 := Lib.hid (HBx.out.trans (hb9.mono HBx.out.size))
  clear hb9
  go_wp2_with fail
  go_ret
  exact ⟨rfl, HB9.out⟩
end Go.Proofs.Ytaiommmbbajgnaa
