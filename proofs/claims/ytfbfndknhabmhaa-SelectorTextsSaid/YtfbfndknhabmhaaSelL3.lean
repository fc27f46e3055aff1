/- Layer 7: SelectorLists: the walk. -/
import Derived.Test.YtfbfndknhabmhaaSelKa
import Derived.Test.YtfbfndknhabmhaaSelPc
import Derived.Test.YtfbfndknhabmhaaSelSm
namespace Go.Proofs.Ytfbfndknhabmhaa
open Go.RowKit TreN LexP FixP SynP ValP SelP FixM
set_option linter.unusedVariables false

theorem Parse7_no (a : Option Addr) (l : List Tok) (n cap : Nat) (w : World) (hn : l.length = n) (h1 : n ≤ cap) (h2 : cap ≤ maxLen) (hl : n ≤ 90000) (hT : Tks w a l) (hx : TxOk7 l) (h : parseS l = none) :
    Calls Try.prog 10 #[.slice a n cap] w fun e w' => e = .returned (.tuple #[.slice none 0 0, .int .i64 20]) ∧ Below w.heap.size w w' := by
  subst hn
  refine (Parse7_any a l cap w h1 h2 hl hT hx).mono fun e w' hh => ?_
  obtain ⟨hb, hh⟩ := hh
  rcases hh with ⟨_, he⟩ | ⟨g, c, n, ss, hR, _⟩
  · exact ⟨he, hb⟩
  · rw [h] at hR; cases hR
def SelsAre (w : World) (L : List (List Prt)) (e : Ending) (w' : World) : Prop := ∃ (g c n : Nat) (ss : List SelV), e = .returned (.tuple #[.slice (some ⟨g, 0, none⟩) n c, .int .i64 0]) ∧ ss.map SelV.pure = L ∧ ss.length = n ∧ n ≤ c ∧ c ≤ maxLen ∧ Sls w' (some ⟨g, 0, none⟩) ss ∧ Below w.heap.size w w'
theorem Parse7_yes (a : Option Addr) (l : List Tok) (n cap : Nat) (w : World) (L : List (List Prt)) (hn : l.length = n) (h1 : n ≤ cap) (h2 : cap ≤ maxLen) (hl : n ≤ 90000) (hT : Tks w a l) (hx : TxOk7 l) (h : parseS l = some L) :
    Calls Try.prog 10 #[.slice a n cap] w (SelsAre w L) := by
  subst hn
  refine (Parse7_any a l cap w h1 h2 hl hT hx).mono fun e w' hh => ?_
  obtain ⟨hb, hh⟩ := hh
  rcases hh with ⟨hR, _⟩ | ⟨g, c, n, ss, hR, h3, h4, h5, h6, h7, he⟩
  · rw [h] at hR; cases hR
  · rw [h] at hR
    injection hR with hR
    exact ⟨g, c, n, ss, he, hR.symm, h3, h5, h6, h7, hb⟩
theorem mapM_len7 {α β : Type} (f : α → Option β) : ∀ (l : List α) (L : List β), l.mapM f = some L → L.length = l.length
  | [], L, h => by simp at h; subst h; rfl
  | x :: l, L, h => by
    rw [List.mapM_cons] at h
    cases hx : f x with
    | none => rw [hx] at h; cases h
    | some y =>
      rw [hx] at h
      cases hl : l.mapM f with
      | none => rw [hl] at h; cases h
      | some M =>
        rw [hl] at h
        injection h with h
        subst h
        simp [mapM_len7 f l M hl]
theorem spF_len7 (p : Tok → Bool) : ∀ (f : Nat) (l : List Tok), (spF p f l).length ≤ f + 1
  | 0, _ => by simp [spF]
  | f + 1, l => by
    show (if fst p l = l.length then [l] else l.take (fst p l) :: spF p f (l.drop (fst p l + 1))).length ≤ _
    split
    · simp
    · have := spF_len7 p f (l.drop (fst p l + 1))
      simp only [List.length_cons]; omega
theorem parse_len7 {l : List Tok} {L : List (List Prt)} (h : parseS l = some L) : L.length ≤ l.length + 1 := by
  rw [mapM_len7 _ _ _ h]
  exact spF_len7 commaB l.length l
/-- selectors put behind -/
theorem put_sels (H : Nat) (v : Value) (xs : List SelV) (a : Option Addr) (l : List SelV) (n c : Nat) (W : World) (hn : l.length = n) (hH : H ≤ W.heap.size) (hx : xs.length ≤ 200000) (hl : n ≤ 200000) (h : W.ownsRow H 39 1 v xs.length (xs.map SelV.val)) (hT : Sls W a l) :
    ∃ v' w', (Builtin.append_ #[22, 22] 22 #[v, .slice a n c]).run Try.prog W = .ok v' w' ∧ w'.ownsRow H 39 1 v' (xs ++ l).length ((xs ++ l).map SelV.val) ∧ Below H W w' := by
  subst hn
  obtain ⟨i, hi, hz0, hz1, hz2⟩ := info_parts info_sel7
  obtain ⟨v', w', r1, r2, r3⟩ := app_cells7 22 39 i _ 1 24 und_sels7 hi hz0 hz1 hz2 rfl (by decide) H v xs.length (xs.map SelV.val) a l.length c (l.map SelV.val) W hH h (by simp) (by
    rcases hT with rfl | ⟨b, o, rfl, hb, hT⟩
    · left; rfl
    · right
      refine ⟨_, rfl, fun j u hj => ?_⟩
      have hjl : j < l.length := by
        by_cases q : j < l.length
        · exact q
        · rw [List.getElem?_eq_none (by simp; omega)] at hj; cases hj
      rw [List.getElem?_map, List.getElem?_eq_getElem hjl] at hj
      have hj := Option.some.inj hj
      subst hj
      rw [Addr.add_lit]
      exact (hT j hjl).1) (by intro u hu; obtain ⟨s, _, rfl⟩ := List.mem_map.1 hu; rfl) (by unfold maxLen; omega) (by omega)
  exact ⟨v', w', r1, by rw [List.length_append, List.map_append]; exact r2, r3⟩
theorem row_sls7 {H : Nat} {w : World} {v : Value} {l : List SelV} (h : w.ownsRow H 39 1 v l.length (l.map SelV.val)) (hl : ∀ s ∈ l, SelOk w s) : ∃ a c, v = .slice a l.length c ∧ Sls w a l := by
  rcases h.2 with ⟨e, e2⟩ | ⟨g2, cap, cur, e, _, hg, h1, h2, _, _⟩
  · have : l = [] := List.eq_nil_of_length_eq_zero (by omega)
    subst this
    exact ⟨none, 0, e, Or.inl rfl⟩
  · subst e
    refine ⟨_, cap, rfl, Or.inr ⟨g2, 0, rfl, (Array.getElem?_eq_some_iff.1 hg).1, fun i hi => ⟨?_, hl _ (List.getElem_mem hi)⟩⟩⟩
    rw [Nat.zero_add, World.ownsRow.cellAt h i (by omega), List.getElem?_map, List.getElem?_eq_getElem hi]; rfl
theorem Sls.all {w : World} {a : Option Addr} {l : List SelV} (h : Sls w a l) : ∀ s ∈ l, SelOk w s := fun s hs => by
  obtain ⟨i, hi, rfl⟩ := List.getElem_of_mem hs
  obtain ⟨_, _, _, _, _, hok⟩ := h.get hi
  exact hok
theorem txOk_cut7 (s : List UInt8) (h : s.length ≤ 1000000) : TxOk7 (cut s) := fun t ht => by
  have := (cut_texts _ s (Nat.le_refl _)).2 t ht
  unfold maxLen; omega
theorem txOk_app7 {a b : List Tok} (ha : TxOk7 a) (hb : TxOk7 b) : TxOk7 (a ++ b) := fun t ht => by
  rcases List.mem_append.1 ht with h | h
  · exact ha t h
  · exact hb t h

/-- both halves, and what stands between them: where they lie when they are read -/
structure Halves (w W : World) (X Y : List Tok) (a1 a2 a5 : Option Addr) (c1 c2 c5 : Nat) : Prop where
  x : Tks W a1 X
  y : Tks W a2 Y
  l : Tks W a5 (X ++ tkS 12 :: Y)
  x1 : X.length ≤ c1
  x2 : c1 ≤ maxLen
  y1 : Y.length ≤ c2
  y2 : c2 ≤ maxLen
  l1 : (X ++ tkS 12 :: Y).length ≤ c5
  l2 : c5 ≤ maxLen
  xl : X.length ≤ 500
  yl : Y.length ≤ 500
  xt : TxOk7 X
  yt : TxOk7 Y
  bel : Below w.heap.size w W
theorem Halves.keep {w W W' : World} {X Y : List Tok} {a1 a2 a5 : Option Addr} {c1 c2 c5 : Nat} (h : Halves w W X Y a1 a2 a5 c1 c2 c5) (hb : Below W.heap.size W W') : Halves w W' X Y a1 a2 a5 c1 c2 c5 :=
  ⟨h.x.below hb, h.y.below hb, h.l.below hb, h.x1, h.x2, h.y1, h.y2, h.l1, h.l2, h.xl, h.yl, h.xt, h.yt, h.bel.trans (hb.mono h.bel.size)⟩
theorem Halves.lt {w W : World} {X Y : List Tok} {a1 a2 a5 : Option Addr} {c1 c2 c5 : Nat} (h : Halves w W X Y a1 a2 a5 c1 c2 c5) : TxOk7 (X ++ tkS 12 :: Y) := txOk_app7 h.xt (txOk_app7 (a := [tkS 12]) (fun t ht => by simp at ht; subst ht; exact Nat.zero_le _) h.yt)

set_option maxRecDepth 100000 in
set_option maxHeartbeats 4000000 in
theorem SelectorLists_walk (s t : List UInt8) (w : World) : Calls Try.prog 6 #[.string ⟨s.toArray⟩, .string ⟨t.toArray⟩] w fun e w' => e = .returned (.bool true) ∧ Below w.heap.size w w' := by
  have KN := Lib.hid (fun W => known7_any W)
  by_cases hst : s.length ≤ 500 ∧ t.length ≤ 500
  · obtain ⟨hs, ht⟩ := hst
    have hsz : ¬ (500 : Int) < (s.length : Int) := by omega
    have htz : ¬ (500 : Int) < (t.length : Int) := by omega
    have CX := Lib.hid (fun W => show Calls Try.prog 14 #[.string ⟨s.toArray⟩] W (ToldCap W (cut s)) from refCut_cap ⟨s.toArray⟩ W (by show s.toArray.size ≤ 40000; simp; omega))
    have CY := Lib.hid (fun W => show Calls Try.prog 14 #[.string ⟨t.toArray⟩] W (ToldCap W (cut t)) from refCut_cap ⟨t.toArray⟩ W (by show t.toArray.size ≤ 40000; simp; omega))
    have HXL : Hid ((cut s).length ≤ 500) := Lib.hid (Nat.le_trans (cut_texts _ s (Nat.le_refl _)).1 hs)
    have HYL : Hid ((cut t).length ≤ 500) := Lib.hid (Nat.le_trans (cut_texts _ t (Nat.le_refl _)).1 ht)
    have HXT := Lib.hid (txOk_cut7 s (by omega))
    have HYT := Lib.hid (txOk_cut7 t (by omega))
    obtain ⟨X, hX⟩ : ∃ X, cut s = X := ⟨_, rfl⟩
    obtain ⟨Y, hY⟩ : ∃ Y, cut t = Y := ⟨_, rfl⟩
    rw [hX] at CX HXL HXT
    rw [hY] at CY HYL HYT
    clear hX hY hs ht
    obtain ⟨nx, hnx⟩ : ∃ n, X.length = n := ⟨_, rfl⟩
    obtain ⟨ny, hny⟩ : ∃ n, Y.length = n := ⟨_, rfl⟩
    have HNX := Lib.hid hnx
    have HNY := Lib.hid hny
    unfold ToldCap at CX CY
    rw [hnx] at CX
    rw [hny] at CY
    clear hnx hny
    go_enter Try.func6, Try.ntmps6
    go_wp2_with fail
    refine (CX.out _).mono ?_
    rintro e w1 ⟨a1, c1, rfl, hT1, hb1, h11, h12⟩
    have HT1 := Lib.hid hT1
    have HB1 := Lib.hid hb1
    have HC1 := Lib.hid (And.intro h11 h12)
    clear hT1 hb1 h11 h12
    go_wp2_with fail
    refine (CY.out _).mono ?_
    rintro e w2 ⟨a2, c2, rfl, hT2, hb2, h21, h22⟩
    have HT1' := Lib.hid (HT1.out.below hb2)
    have HT2 := Lib.hid hT2
    have HB2 := Lib.hid (HB1.out.trans (hb2.mono HB1.out.size))
    have HC2 := Lib.hid (And.intro h21 h22)
    have CC := Lib.hid (closed_any a1 X nx c1 w2 HNX.out (by have := HXL.out; have := HNX.out; omega) HC1.out.1 HC1.out.2 HT1'.out)
    obtain ⟨b, hb⟩ : ∃ b, closedL X = b := ⟨_, rfl⟩
    rw [hb] at CC
    have HCL := Lib.hid hb
    clear hT2 hb2 h21 h22 hb HT1
    go_wp2_with fail
    refine CC.out.mono ?_
    rintro e w3 ⟨rfl, rfl⟩
    clear CC
    cases b
    · go_wp2_with fail
      refine (KN.out _).mono ?_
      rintro e w3 ⟨rfl, hb3⟩
      have HB3 := Lib.hid (HB2.out.trans (hb3.mono HB2.out.size))
      clear hb3
      go_wp2_with fail
      go_ret
      exact ⟨rfl, HB3.out⟩
    · obtain ⟨v3, w3, hr3, hP3, hb3⟩ := putL w2.heap.size (.slice none 0 0) [] a1 X nx c1 w2 HNX.out (Nat.le_refl _) (by simp) (by have := HXL.out; have := HNX.out; omega) (TokRow.nil _ _) HT1'.out
      rw [List.nil_append] at hP3
      obtain ⟨v4, w4, hr4, hP4, hb4⟩ := put1 w2.heap.size v3 X 12 [] 0 w3 hb3.size (by have := HXL.out; omega) hP3
      obtain ⟨v5, w5, hr5, hP5, hb5⟩ := putL w2.heap.size v4 (X ++ [tkS 12]) a2 Y ny c2 w4 HNY.out (Nat.le_trans hb3.size hb4.size) (by have := HXL.out; simp; omega) (by have := HYL.out; have := HNY.out; omega) hP4 (HT2.out.below (hb3.trans hb4))
      rw [List.append_assoc, List.singleton_append] at hP5
      obtain ⟨a5, c5, hv5, hT5, h51, h52⟩ := hP5.form
      obtain ⟨nl, hnl⟩ : ∃ n, (X ++ tkS 12 :: Y).length = n := ⟨_, rfl⟩
      rw [hnl] at hv5
      subst hv5
      have HH : Hid (Halves w w5 X Y a1 a2 a5 c1 c2 c5) := Lib.hid (by
        have hb : Below w2.heap.size w2 w5 := (hb3.trans hb4).trans hb5
        exact ⟨HT1'.out.below hb, HT2.out.below hb, hT5, by have := HC1.out.1; have := HNX.out; omega, HC1.out.2, by have := HC2.out.1; have := HNY.out; omega, HC2.out.2, h51, h52, HXL.out, HYL.out, HXT.out, HYT.out, HB2.out.trans (hb.mono HB2.out.size)⟩)
      have HNL := Lib.hid hnl
      have HR3 := Lib.hid hr3
      have HR4 := Lib.hid hr4
      have HR5 := Lib.hid hr5
      have HPC := Lib.hid (parse_comma (tkS 12) (by rfl) X Y (closed_cl _ X (Nat.le_refl _) HCL.out))
      clear hr3 hP3 hb3 hr4 hP4 hb4 hr5 hP5 hb5 hT5 h51 h52 hnl HT1' HT2 HB1 HB2 HCL HXT HYT HXL HYL CX CY HC1 HC2
      go_upto_region 10 with (first
        | (at_builtin; refine wpList_append_runL rfl _ _ 24 rfl _ _ _ _ rfl rfl HR3.out ?_)
        | (at_builtin; refine wpList_append_runL rfl _ _ 24 rfl _ _ _ _ rfl rfl HR4.out ?_)
        | (at_builtin; refine wpList_append_runL rfl _ _ 24 rfl _ _ _ _ rfl rfl HR5.out ?_))
      clear HR3 HR4 HR5
      rcases hx : parseS X with _ | A <;> rcases hy : parseS Y with _ | B
      · have hl : parseS (X ++ tkS 12 :: Y) = none := by rw [HPC.out, hx, hy]; rfl
        have HX := Lib.hid hx
        have HY := Lib.hid hy
        have HL := Lib.hid hl
        clear hx hy hl HPC
        have P := Parse7_no a1 X nx c1 w5 HNX.out (by have := HH.out.x1; have := HNX.out; omega) HH.out.x2 (by have := HH.out.xl; have := HNX.out; omega) HH.out.x HH.out.xt HX.out
        have PP := Lib.hid P
        clear P
        go_wp2_with fail
        refine PP.out.mono ?_
        rintro e w6 ⟨rfl, hb⟩
        have HH2 := Lib.hid (HH.out.keep hb)
        clear hb PP HH
        have HH := HH2
        clear HH2
        have P := Parse7_no a2 Y ny c2 w6 HNY.out (by have := HH.out.y1; have := HNY.out; omega) HH.out.y2 (by have := HH.out.yl; have := HNY.out; omega) HH.out.y HH.out.yt HY.out
        have PP := Lib.hid P
        clear P
        go_wp2_with fail
        refine PP.out.mono ?_
        rintro e w7 ⟨rfl, hb⟩
        have HH2 := Lib.hid (HH.out.keep hb)
        clear hb PP HH
        have HH := HH2
        clear HH2
        have P := Parse7_no a5 (X ++ tkS 12 :: Y) nl c5 w7 HNL.out (by have := HH.out.l1; have := HNL.out; omega) HH.out.l2 (by have := HH.out.xl; have := HH.out.yl; have := HNL.out; simp at this; omega) HH.out.l HH.out.lt HL.out
        have PP := Lib.hid P
        clear P
        go_wp2_with fail
        refine PP.out.mono ?_
        rintro e w8 ⟨rfl, hb⟩
        have HH2 := Lib.hid (HH.out.keep hb)
        clear hb PP HH
        have HH := HH2
        clear HH2
        go_wp2_with fail
        refine (KN.out _).mono ?_
        rintro e w9 ⟨rfl, hb9⟩
        have HB9 := Lib.hid (HH.out.bel.trans (hb9.mono HH.out.bel.size))
        clear hb9
        go_wp2_with fail
        go_ret
        exact ⟨rfl, HB9.out⟩
      · have hl : parseS (X ++ tkS 12 :: Y) = none := by rw [HPC.out, hx, hy]; rfl
        have HX := Lib.hid hx
        have HY := Lib.hid hy
        have HL := Lib.hid hl
        clear hx hy hl HPC
        have P := Parse7_no a1 X nx c1 w5 HNX.out (by have := HH.out.x1; have := HNX.out; omega) HH.out.x2 (by have := HH.out.xl; have := HNX.out; omega) HH.out.x HH.out.xt HX.out
        have PP := Lib.hid P
        clear P
        go_wp2_with fail
        refine PP.out.mono ?_
        rintro e w6 ⟨rfl, hb⟩
        have HH2 := Lib.hid (HH.out.keep hb)
        clear hb PP HH
        have HH := HH2
        clear HH2
        have P := Parse7_yes a2 Y ny c2 w6 B HNY.out (by have := HH.out.y1; have := HNY.out; omega) HH.out.y2 (by have := HH.out.yl; have := HNY.out; omega) HH.out.y HH.out.yt HY.out
        unfold SelsAre at P
        have PP := Lib.hid P
        clear P
        go_wp2_with fail
        refine PP.out.mono ?_
        rintro e w7 ⟨gy, dy, ny', Sy, rfl, hSy, hny, hdy, hmy, hLy, hb⟩
        have HSy := Lib.hid (And.intro hSy (And.intro hny (And.intro hdy (And.intro hmy hLy))))
        have HH2 := Lib.hid (HH.out.keep hb)
        clear hb PP HH hSy hny hdy hmy hLy
        have HH := HH2
        clear HH2
        have P := Parse7_no a5 (X ++ tkS 12 :: Y) nl c5 w7 HNL.out (by have := HH.out.l1; have := HNL.out; omega) HH.out.l2 (by have := HH.out.xl; have := HH.out.yl; have := HNL.out; simp at this; omega) HH.out.l HH.out.lt HL.out
        have PP := Lib.hid P
        clear P
        go_wp2_with fail
        refine PP.out.mono ?_
        rintro e w8 ⟨rfl, hb⟩
        have HH2 := Lib.hid (HH.out.keep hb)
        have HSy2 := Lib.hid (And.intro HSy.out.1 (And.intro HSy.out.2.1 (And.intro HSy.out.2.2.1 (And.intro HSy.out.2.2.2.1 (HSy.out.2.2.2.2.below hb)))))
        clear hb PP HH HSy
        have HH := HH2
        clear HH2
        have HSy := HSy2
        clear HSy2
        go_wp2_with fail
        refine (KN.out _).mono ?_
        rintro e w9 ⟨rfl, hb9⟩
        have HB9 := Lib.hid (HH.out.bel.trans (hb9.mono HH.out.bel.size))
        clear hb9
        go_wp2_with fail
        go_ret
        exact ⟨rfl, HB9.out⟩
      · have hl : parseS (X ++ tkS 12 :: Y) = none := by rw [HPC.out, hx, hy]; rfl
        have HX := Lib.hid hx
        have HY := Lib.hid hy
        have HL := Lib.hid hl
        clear hx hy hl HPC
        have P := Parse7_yes a1 X nx c1 w5 A HNX.out (by have := HH.out.x1; have := HNX.out; omega) HH.out.x2 (by have := HH.out.xl; have := HNX.out; omega) HH.out.x HH.out.xt HX.out
        unfold SelsAre at P
        have PP := Lib.hid P
        clear P
        go_wp2_with fail
        refine PP.out.mono ?_
        rintro e w6 ⟨gx, dx, nx', Sx, rfl, hSx, hnx, hdx, hmx, hLx, hb⟩
        have HSx := Lib.hid (And.intro hSx (And.intro hnx (And.intro hdx (And.intro hmx hLx))))
        have HH2 := Lib.hid (HH.out.keep hb)
        clear hb PP HH hSx hnx hdx hmx hLx
        have HH := HH2
        clear HH2
        have P := Parse7_no a2 Y ny c2 w6 HNY.out (by have := HH.out.y1; have := HNY.out; omega) HH.out.y2 (by have := HH.out.yl; have := HNY.out; omega) HH.out.y HH.out.yt HY.out
        have PP := Lib.hid P
        clear P
        go_wp2_with fail
        refine PP.out.mono ?_
        rintro e w7 ⟨rfl, hb⟩
        have HH2 := Lib.hid (HH.out.keep hb)
        have HSx2 := Lib.hid (And.intro HSx.out.1 (And.intro HSx.out.2.1 (And.intro HSx.out.2.2.1 (And.intro HSx.out.2.2.2.1 (HSx.out.2.2.2.2.below hb)))))
        clear hb PP HH HSx
        have HH := HH2
        clear HH2
        have HSx := HSx2
        clear HSx2
        have P := Parse7_no a5 (X ++ tkS 12 :: Y) nl c5 w7 HNL.out (by have := HH.out.l1; have := HNL.out; omega) HH.out.l2 (by have := HH.out.xl; have := HH.out.yl; have := HNL.out; simp at this; omega) HH.out.l HH.out.lt HL.out
        have PP := Lib.hid P
        clear P
        go_wp2_with fail
        refine PP.out.mono ?_
        rintro e w8 ⟨rfl, hb⟩
        have HH2 := Lib.hid (HH.out.keep hb)
        have HSx2 := Lib.hid (And.intro HSx.out.1 (And.intro HSx.out.2.1 (And.intro HSx.out.2.2.1 (And.intro HSx.out.2.2.2.1 (HSx.out.2.2.2.2.below hb)))))
        clear hb PP HH HSx
        have HH := HH2
        clear HH2
        have HSx := HSx2
        clear HSx2
        go_wp2_with fail
        refine (KN.out _).mono ?_
        rintro e w9 ⟨rfl, hb9⟩
        have HB9 := Lib.hid (HH.out.bel.trans (hb9.mono HH.out.bel.size))
        clear hb9
        go_wp2_with fail
        go_ret
        exact ⟨rfl, HB9.out⟩
      · have hl : parseS (X ++ tkS 12 :: Y) = some (A ++ B) := by rw [HPC.out, hx, hy]; rfl
        have HX := Lib.hid hx
        have HY := Lib.hid hy
        have HL := Lib.hid hl
        have HAL : Hid (A.length ≤ 501 ∧ B.length ≤ 501) := Lib.hid ⟨by have := parse_len7 hx; have := HH.out.xl; omega, by have := parse_len7 hy; have := HH.out.yl; omega⟩
        clear hx hy hl HPC
        have P := Parse7_yes a1 X nx c1 w5 A HNX.out (by have := HH.out.x1; have := HNX.out; omega) HH.out.x2 (by have := HH.out.xl; have := HNX.out; omega) HH.out.x HH.out.xt HX.out
        unfold SelsAre at P
        have PP := Lib.hid P
        clear P
        go_wp2_with fail
        refine PP.out.mono ?_
        rintro e w6 ⟨gx, dx, nx', Sx, rfl, hSx, hnx, hdx, hmx, hLx, hb⟩
        have HSx := Lib.hid (And.intro hSx (And.intro hnx (And.intro hdx (And.intro hmx hLx))))
        have HH2 := Lib.hid (HH.out.keep hb)
        clear hb PP HH hSx hnx hdx hmx hLx
        have HH := HH2
        clear HH2
        have P := Parse7_yes a2 Y ny c2 w6 B HNY.out (by have := HH.out.y1; have := HNY.out; omega) HH.out.y2 (by have := HH.out.yl; have := HNY.out; omega) HH.out.y HH.out.yt HY.out
        unfold SelsAre at P
        have PP := Lib.hid P
        clear P
        go_wp2_with fail
        refine PP.out.mono ?_
        rintro e w7 ⟨gy, dy, ny', Sy, rfl, hSy, hny, hdy, hmy, hLy, hb⟩
        have HSy := Lib.hid (And.intro hSy (And.intro hny (And.intro hdy (And.intro hmy hLy))))
        have HH2 := Lib.hid (HH.out.keep hb)
        have HSx2 := Lib.hid (And.intro HSx.out.1 (And.intro HSx.out.2.1 (And.intro HSx.out.2.2.1 (And.intro HSx.out.2.2.2.1 (HSx.out.2.2.2.2.below hb)))))
        clear hb PP HH hSy hny hdy hmy hLy HSx
        have HH := HH2
        clear HH2
        have HSx := HSx2
        clear HSx2
        have P := Parse7_yes a5 (X ++ tkS 12 :: Y) nl c5 w7 (A ++ B) HNL.out (by have := HH.out.l1; have := HNL.out; omega) HH.out.l2 (by have := HH.out.xl; have := HH.out.yl; have := HNL.out; simp at this; omega) HH.out.l HH.out.lt HL.out
        unfold SelsAre at P
        have PP := Lib.hid P
        clear P
        go_wp2_with fail
        refine PP.out.mono ?_
        rintro e w8 ⟨gl, dl, nl', Sl, rfl, hSl, hnl, hdl, hml, hLl, hb⟩
        have HSl := Lib.hid (And.intro hSl (And.intro hnl (And.intro hdl (And.intro hml hLl))))
        have HH2 := Lib.hid (HH.out.keep hb)
        have HSx2 := Lib.hid (And.intro HSx.out.1 (And.intro HSx.out.2.1 (And.intro HSx.out.2.2.1 (And.intro HSx.out.2.2.2.1 (HSx.out.2.2.2.2.below hb)))))
        have HSy2 := Lib.hid (And.intro HSy.out.1 (And.intro HSy.out.2.1 (And.intro HSy.out.2.2.1 (And.intro HSy.out.2.2.2.1 (HSy.out.2.2.2.2.below hb)))))
        clear hb PP HH hSl hnl hdl hml hLl HSx HSy
        have HH := HH2
        clear HH2
        have HSx := HSx2
        clear HSx2
        have HSy := HSy2
        clear HSy2
        obtain ⟨hx1, hx2, hx3, hx4, hx5⟩ := HSx.out
        obtain ⟨hy1, hy2, hy3, hy4, hy5⟩ := HSy.out
        obtain ⟨hl1, hl2, hl3, hl4, hl5⟩ := HSl.out
        have hlA : Sx.length ≤ 501 := by have := HAL.out.1; rw [← hx1, List.length_map] at this; exact this
        have hlB : Sy.length ≤ 501 := by have := HAL.out.2; rw [← hy1, List.length_map] at this; exact this
        obtain ⟨v9, w9, hr9, hP9, hb9⟩ := put_sels w8.heap.size (.slice none 0 0) [] (some ⟨gx, 0, none⟩) Sx nx' dx w8 hx2 (Nat.le_refl _) (by simp) (by omega) (World.ownsRow_nil _ _ _ _) hx5
        rw [List.nil_append] at hP9
        obtain ⟨v10, w10, hr10, hP10, hb10⟩ := put_sels w8.heap.size v9 Sx (some ⟨gy, 0, none⟩) Sy ny' dy w9 hy2 hb9.size (by omega) (by omega) hP9 (hy5.below hb9)
        have hbb : Below w8.heap.size w8 w10 := hb9.trans hb10
        obtain ⟨a10, c10, hv10, hS10⟩ := row_sls7 hP10 (fun s hs => by
          rcases List.mem_append.1 hs with h | h
          · exact (hx5.all s h).below hbb
          · exact (hy5.all s h).below hbb)
        have hlen : (Sx ++ Sy).length = nl' := by
          have e1 := congrArg List.length hl1
          have e2 := congrArg List.length hx1
          have e3 := congrArg List.length hy1
          simp only [List.length_map, List.length_append] at e1 e2 e3 ⊢
          omega
        rw [hlen] at hv10
        subst hv10
        have SM := Lib.hid (refSame_eq7 (some ⟨gl, 0, none⟩) a10 Sl (Sx ++ Sy) nl' dl c10 w10 hl2 (by omega) (by rw [hl1, List.map_append, hx1, hy1]) (hl5.below hbb) hS10)
        have HBB := Lib.hid (HH.out.bel.trans (hbb.mono HH.out.bel.size))
        have HR9 := Lib.hid hr9
        have HR10 := Lib.hid hr10
        clear hx1 hx2 hx3 hx4 hx5 hy1 hy2 hy3 hy4 hy5 hl1 hl2 hl3 hl4 hl5 hr9 hP9 hb9 hr10 hP10 hb10 hbb hS10 hlen hlA hlB HSx HSy HSl HAL
        go_wp2_with (first
          | (at_builtin; refine wpList_append_runL rfl _ _ 22 rfl _ _ _ _ rfl rfl HR9.out ?_)
          | (at_builtin; refine wpList_append_runL rfl _ _ 22 rfl _ _ _ _ rfl rfl HR10.out ?_))
        refine SM.out.mono ?_
        rintro e w11 ⟨rfl, hb11⟩
        have HB11 := Lib.hid (HBB.out.trans (hb11.mono HBB.out.size))
        clear hb11
        go_wp2_with fail
        refine (KN.out _).mono ?_
        rintro e w12 ⟨rfl, hb12⟩
        have HB12 := Lib.hid (HB11.out.trans (hb12.mono HB11.out.size))
        clear hb12
        go_wp2_with fail
        go_ret
        exact ⟨rfl, HB12.out⟩
  · have hgo : ∀ b : Bool, True := fun _ => trivial
    clear hgo
    by_cases hs : s.length ≤ 500
    · have hsz : ¬ (500 : Int) < (s.length : Int) := by omega
      have htz : (500 : Int) < (t.length : Int) := by omega
      clear hst hs
      go_enter Try.func6, Try.ntmps6
      go_wp2_with fail
      refine (KN.out _).mono ?_
      rintro e w1 ⟨rfl, hb1⟩
      have HB1 := Lib.hid hb1
      clear hb1
      go_wp2_with fail
      go_ret
      exact ⟨rfl, HB1.out⟩
    · have hsz : (500 : Int) < (s.length : Int) := by omega
      clear hst hs
      go_enter Try.func6, Try.ntmps6
      go_wp2_with fail
      refine (KN.out _).mono ?_
      rintro e w1 ⟨rfl, hb1⟩
      have HB1 := Lib.hid hb1
      clear hb1
      go_wp2_with fail
      go_ret
      exact ⟨rfl, HB1.out⟩
end Go.Proofs.Ytfbfndknhabmhaa
