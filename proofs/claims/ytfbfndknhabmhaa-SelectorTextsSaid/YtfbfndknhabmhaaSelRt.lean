/- Joined texts: SelRt SelRu. -/
import Derived.Test.YtfbfndknhabmhaaSelWp
import Derived.Test.YtfbfndknhabmhaaSelPc
import Derived.Deep.CutBlock
namespace Go.Proofs.Ytfbfndknhabmhaa
open Go.RowKit TreN LexP FixP SynP ValP SelP FixM
set_option linter.unusedVariables false

set_option maxRecDepth 100000 in
theorem tok7_any (k : Int) (x : List UInt8) (w : World) : Calls Try.prog 28 #[.int .i64 k, .string ⟨x.toArray⟩] w fun e w' => e = .returned (.agg #[.int .i64 k, .string ⟨x.toArray⟩, .int .i64 0]) ∧ w' = w.alloc (.cells #[.int .i64 k, .string ⟨x.toArray⟩, .int .i64 0] 45) := by
  go_enter Try.func28, Try.ntmps28
  go_wp2_with fail
  exact bodyPost_ret (v := .agg #[.int .i64 k, .string ⟨x.toArray⟩, .int .i64 0]) (by simp [results, Try.results28, go_sem]) rfl ⟨rfl, rfl⟩
set_option maxRecDepth 100000 in
set_option maxHeartbeats 1000000 in
theorem has7_any (n k : Int) (h0 : 0 ≤ n) (h7 : n ≤ 7) (hk : k = 1 ∨ k = 2 ∨ k = 4) (w : World) : Calls Try.prog 49 #[.int .i64 n, .int .i64 k] w fun e w' => e = .returned (.bool (hasB n k)) ∧ w = w' := by
  obtain ⟨R, hR⟩ : ∃ R, hasB n k = R := ⟨_, rfl⟩
  rw [hR]
  have HR := Lib.hid hR
  clear hR
  rcases hk with rfl | rfl | rfl
  all_goals
    go_enter Try.func49, Try.ntmps49
    go_wp2_with fail
    go_ret
    refine ⟨ret_bool ?_, rfl⟩
    have := HR.out
    rw [← this]
    rcases (by omega : n = 0 ∨ n = 1 ∨ n = 2 ∨ n = 3 ∨ n = 4 ∨ n = 5 ∨ n = 6 ∨ n = 7) with rfl | rfl | rfl | rfl | rfl | rfl | rfl | rfl <;> decide
theorem PB.two {w wx : World} {A : Obj} {v : Value} {L : List Tok} (h : PB w wx A v L) (hx : L.length ≤ 900000) (o1 o2 : Obj) (k : Int) (x : List UInt8) (z k2 : Int) (x2 : List UInt8) (z2 : Int) :
    ∃ v' w', (Builtin.append_ #[24, 24] 24 #[v, .slice (some ⟨wx.heap.size + 1 + 1, 0, none⟩) 2 2]).run Try.prog ((((wx.alloc o1).alloc o2).alloc (.cells #[.int .i64 k, .string ⟨x.toArray⟩, .int .i64 z, .int .i64 k2, .string ⟨x2.toArray⟩, .int .i64 z2] 45)).drew) = .ok v' w' ∧ PB w w' A v' (L ++ [⟨k, x, z⟩, ⟨k2, x2, z2⟩]) := by
  have hb : Below wx.heap.size wx ((wx.alloc o1).alloc o2).drew := ((below_one7 wx o1).alloc (by simp) o2).drew
  obtain ⟨v', w', h1, h2⟩ := (h.keep hb).put2 hx k x z k2 x2 z2
  refine ⟨v', w', ?_, h2⟩
  have e : ((wx.alloc o1).alloc o2).drew.heap.size = wx.heap.size + 1 + 1 := by show ((wx.alloc o1).alloc o2).heap.size = _; simp
  rw [e] at h1
  exact h1
theorem PB.twoG {w wx : World} {A : Obj} {v : Value} {L : List Tok} (h : PB w wx A v L) (hx : L.length ≤ 900000) (o1 o2 : Obj) (k : Int) (x : List UInt8) (z k2 : Int) (x2 : List UInt8) (z2 : Int) :
    ∃ v' w', (Builtin.append_ #[24, 24] 24 #[v, .slice (some ⟨wx.heap.size + 1 + 1, 0, none⟩) 2 2]).run Try.prog ((((wx.alloc o1).alloc o2).alloc (.cells #[.int .i64 k, .string ⟨x.toArray⟩, .int .i64 z, .int .i64 k2, .string ⟨x2.toArray⟩, .int .i64 z2] 45)).drew) = .ok v' w' ∧ PB w w' A v' (L ++ [⟨k, x, z⟩, ⟨k2, x2, z2⟩]) ∧ KeptK 45 wx w' := by
  have hb : Below wx.heap.size wx ((wx.alloc o1).alloc o2).drew := ((below_one7 wx o1).alloc (by simp) o2).drew
  have h' := h.keep hb
  obtain ⟨v', w', h1, h2, h3, h4⟩ := put2G (w.heap.size + 1) v L k x z k2 x2 z2 ((wx.alloc o1).alloc o2).drew (by have := h'.lt; omega) hx h'.row
  refine ⟨v', w', ?_, h'.next h2 h3, (KeptK.below hb).trans h4⟩
  have e : ((wx.alloc o1).alloc o2).drew.heap.size = wx.heap.size + 1 + 1 := by show ((wx.alloc o1).alloc o2).heap.size = _; simp
  rw [e] at h1
  exact h1
theorem kindsV : 73 ≠ 45 ∧ 9 ≠ 45 := by decide
theorem tok_b (k : Int) (x : List UInt8) (W : World) : Calls Try.prog 28 #[.int .i64 k, .string ⟨x.toArray⟩] W fun e w' => e = .returned (.agg #[.int .i64 k, .string ⟨x.toArray⟩, .int .i64 0]) ∧ Below W.heap.size W w' := (tok7_any k x W).mono fun e w' h => ⟨h.1, by rw [h.2]; exact below_one7 _ _⟩
set_option maxRecDepth 100000 in
set_option maxHeartbeats 4000000 in
theorem refPartTokens7 (co st : Int) (tg id : List UInt8) (ca ta : Option Addr) (cc tc n m : Nat) (cl : List (List UInt8)) (ts : List Tst) (w : World) (hn : cl.length = n) (hm : ts.length = m) (h : PtOk w ⟨⟨co, tg, id, cl, ts, st⟩, ca, cc, ta, tc⟩) (hr : rightPt ⟨co, tg, id, cl, ts, st⟩ = true) :
    Calls Try.prog 29 #[.agg #[.int .i64 co, .string ⟨tg.toArray⟩, .string ⟨id.toArray⟩, .slice ca n cc, .slice ta m tc, .int .i64 st]] w (ToldCap w (partT ⟨co, tg, id, cl, ts, st⟩)) := by
  obtain ⟨hc8, ht8, _, _, h0, h7, _, _⟩ := right_parts hr
  simp only at hc8 ht8 h0 h7
  rw [hn] at hc8
  rw [hm] at ht8
  have HC := Lib.hid h.hc
  have HT := Lib.hid h.ht
  have HS := Lib.hid (fun k hk W => has7_any st k h0 h7 hk W)
  have HN := Lib.hid hn
  have HM := Lib.hid hm
  obtain ⟨R, hR⟩ : ∃ R, partT ⟨co, tg, id, cl, ts, st⟩ = R := ⟨_, rfl⟩
  rw [hR]
  have HR := Lib.hid hR
  obtain ⟨A, hA⟩ : ∃ A, Obj.cells #[.int .i64 co, .string ⟨tg.toArray⟩, .string ⟨id.toArray⟩, .slice ca n cc, .slice ta m tc, .int .i64 st] 53 = A := ⟨_, rfl⟩
  have HAE := Lib.hid hA
  have h1 : PB w (w.alloc A) A (.slice none 0 0) [] := ⟨TokRow.nil _ _, heap_alloc_new w A, below_one7 w A⟩
  have H1 := Lib.hid h1
  clear h hr hn hm hR h1 hA
  go_enter Try.func29, Try.ntmps29
  go_upto_if 12 with fail
  rw [HAE.out]
  generalize w.alloc A = W1 at *
  go_cut [3] (fun v wx => ∃ y, y = v ∧ Hid (PB w wx A y (if tg = [] then [] else [tkI tg])))
  case first =>
    have hb1 := H1.out.box
    rw [← HAE.out] at hb1
    have c1 : W1.cell? ⟨w.heap.size, 1, none⟩ = some (.string ⟨tg.toArray⟩) := cell_of hb1 rfl
    clear hb1
    have hne : tg = [] ∨ tg ≠ [] := Classical.em _
    rcases hne with rfl | hne
    · go_wp2_with fail
      go_meet
      exact ⟨_, rfl, Lib.hid (by simpa using H1.out)⟩
    · have I := Lib.hid (fun W => tok_b 1 tg W)
      obtain ⟨tc0, tr, htg⟩ : ∃ c r, tg = c :: r := by cases tg with | nil => exact absurd rfl hne | cons c r => exact ⟨c, r, rfl⟩
      clear hne
      subst htg
      go_wp2_with fail
      refine (I.out _).mono ?_
      rintro e w2 ⟨rfl, hb2⟩
      obtain ⟨v3, w3, hr3, hP3⟩ := (H1.out.keep hb2).put1 (by simp) 1 (tc0 :: tr) 0
      have HR3 := Lib.hid hr3
      have HP3 := Lib.hid hP3
      clear hb2 hr3 hP3
      go_wp2_with (at_builtin; refine wpList_append_runL rfl _ _ 24 rfl _ _ _ _ rfl rfl HR3.out ?_)
      go_meet
      exact ⟨_, rfl, Lib.hid (by simpa [tkI] using HP3.out)⟩
  case rest =>
    obtain ⟨y, hy, HP⟩ := hcut
    subst hy
    clear H1
    obtain ⟨L1, hL1⟩ : ∃ L, (if tg = [] then [] else [tkI tg]) = L := ⟨_, rfl⟩
    rw [hL1] at HP
    have hl1 : L1.length ≤ 1 := by rw [← hL1]; split <;> simp
    have HL1 := Lib.hid hL1
    have hb1 := HP.out.box
    rw [← HAE.out] at hb1
    have c2 : wc.cell? ⟨w.heap.size, 2, none⟩ = some (.string ⟨id.toArray⟩) := cell_of hb1 rfl
    clear hb1 hL1
    go_upto_if 21 with fail
    go_cut [3] (fun v wx => ∃ y2, y2 = v ∧ Hid (PB w wx A y2 (L1 ++ (if id = [] then [] else [⟨4, id, 0⟩]))))
    case first =>
      have hne : id = [] ∨ id ≠ [] := Classical.em _
      rcases hne with rfl | hne
      · go_wp2_with fail
        go_meet
        exact ⟨_, rfl, Lib.hid (by simpa using HP.out)⟩
      · have I := Lib.hid (fun W => tok_b 4 id W)
        obtain ⟨tc0, tr, htg⟩ : ∃ c r, id = c :: r := by cases id with | nil => exact absurd rfl hne | cons c r => exact ⟨c, r, rfl⟩
        clear hne
        subst htg
        go_wp2_with fail
        refine (I.out _).mono ?_
        rintro e w2 ⟨rfl, hb2⟩
        obtain ⟨v3, w3, hr3, hP3⟩ := (HP.out.keep hb2).put1 (by omega) 4 (tc0 :: tr) 0
        have HR3 := Lib.hid hr3
        have HP3 := Lib.hid hP3
        clear hb2 hr3 hP3
        go_wp2_with (at_builtin; refine wpList_append_runL rfl _ _ 24 rfl _ _ _ _ rfl rfl HR3.out ?_)
        go_meet
        exact ⟨_, rfl, Lib.hid (by simpa using HP3.out)⟩
    case rest =>
      obtain ⟨y2, hy, HP2⟩ := hcut
      subst hy
      clear HP c2
      obtain ⟨L2, hL2⟩ : ∃ L, (L1 ++ (if id = [] then [] else [(⟨4, id, 0⟩ : Tok)])) = L := ⟨_, rfl⟩
      rw [hL2] at HP2
      have hl2 : L2.length ≤ 2 := by rw [← hL2, List.length_append]; split <;> simp <;> omega
      have HL2 := Lib.hid hL2
      clear hL2
      go_wp2_with fail
      go_loopw [3, 4] (fun v vi wr => ∃ k : Nat, vi = .int .i64 (k : Int) ∧ k ≤ n ∧ Hid (PB w wr A v (L2 ++ (cl.take k).flatMap (fun c => [tkD [46], tkI c])) ∧ (L2 ++ (cl.take k).flatMap (fun c => [tkD [46], tkI c])).length ≤ 2 + 2 * k)) (fun _ vi _ => n - (intOf vi).toNat)
      case atStart => exact ⟨0, rfl, by omega, Lib.hid ⟨by simpa using HP2.out, by simpa using hl2⟩⟩
      case round =>
        obtain ⟨k, rfl, hk, HPk⟩ := hrel
        have hb2 := HPk.out.1.box
        rw [← HAE.out] at hb2
        have c3 : wr.cell? ⟨w.heap.size, 3, none⟩ = some (.slice ca n cc) := cell_of hb2 rfl
        have hlw := HPk.out.1.lt
        clear hb2
        by_cases hlt : k < n
        · have hltz : (k : Int) < (n : Int) := by omega
          have hkl : k < cl.length := by have := HN.out; omega
          obtain ⟨b, o, hca, g1, g2⟩ := HC.out.get hkl
          have d1 : wr.cell? ⟨b, o + k, none⟩ = some (.string ⟨cl[k].toArray⟩) := (HPk.out.1.bel.cell (p := ⟨b, o + k, none⟩) g1).trans g2
          have hft := flat_take (fun c => [tkD [46], tkI c]) hkl
          have hbw : b < wr.heap.size := Nat.lt_of_lt_of_le g1 HPk.out.1.bel.size
          generalize cl[k] = c at *
          have HFT := Lib.hid hft
          rw [hca] at c3
          clear hft g2 hca
          go_wp2_with fail
          go_region_law ((first
            | (go_simp; go_at_call 28; refine (tok7_any _ _ _).mono ?_; rintro e w4 ⟨rfl, rfl⟩)
            | (obtain ⟨v5, w5, hr5, hP5⟩ := HPk.out.1.two (by have := HPk.out.2; omega) (.cells #[.int .i64 19, .string ⟨([46]).toArray⟩, .int .i64 0] 45) (.cells #[.int .i64 1, .string ⟨(c).toArray⟩, .int .i64 0] 45) (19) ([46]) 0 (1) (c) 0; refine step_append_run7 rfl (.tmp 35) (.tmp 43) 24 rfl _ _ _ _ (by first | (simp [Act.eval]; done) | simp [Act.eval, Act.put]) (by first | (simp [Act.eval]; done) | simp [Act.eval, Act.put]) hr5 ?_; have HF5 := Lib.hid hP5; clear hr5 hP5)
            | (obtain ⟨v5, w5, hr5, hP5⟩ := HPk.out.1.two (by have := HPk.out.2; omega) (.cells #[.int .i64 1, .string ⟨(c).toArray⟩, .int .i64 0] 45) (.cells #[.int .i64 19, .string ⟨([46]).toArray⟩, .int .i64 0] 45) (19) ([46]) 0 (1) (c) 0; refine step_append_run7 rfl (.tmp 35) (.tmp 43) 24 rfl _ _ _ _ (by first | (simp [Act.eval]; done) | simp [Act.eval, Act.put]) (by first | (simp [Act.eval]; done) | simp [Act.eval, Act.put]) hr5 ?_; have HF5 := Lib.hid hP5; clear hr5 hP5)))
          all_goals
            have HP4 : Hid (PB w w5 A v5 (L2 ++ (cl.take (k + 1)).flatMap (fun c => [tkD [46], tkI c])) ∧ (L2 ++ (cl.take (k + 1)).flatMap (fun c => [tkD [46], tkI c])).length ≤ 2 + 2 * (k + 1)) := Lib.hid (by
              rw [HFT.out, ← List.append_assoc]
              refine ⟨HF5.out, ?_⟩
              rw [List.length_append]
              have := HPk.out.2
              simp only [List.length_cons, List.length_nil]
              omega)
            clear HF5
            go_wp2_with fail
            go_roundw
            case rel => exact ⟨k + 1, by go_num, by omega, HP4⟩
            case measure => simp [intOf]; omega
        · have hltz : ¬ (k : Int) < (n : Int) := by omega
          have HP5 : Hid (PB w wr A u3 (L2 ++ cl.flatMap (fun c => [tkD [46], tkI c])) ∧ (L2 ++ cl.flatMap (fun c => [tkD [46], tkI c])).length ≤ 18) := Lib.hid (by
            have := HPk.out
            rw [List.take_of_length_le (by have := HN.out; omega)] at this
            exact ⟨this.1, by omega⟩)
          clear HPk
          obtain ⟨L3, hL3⟩ : ∃ L, L2 ++ cl.flatMap (fun c => [tkD [46], tkI c]) = L := ⟨_, rfl⟩
          rw [hL3] at HP5
          have HL3 := Lib.hid hL3
          clear hL3
          go_wp2_with fail
          clear c3
          go_loopw [3, 5] (fun v vi wx => ∃ j : Nat, vi = .int .i64 (j : Int) ∧ j ≤ m ∧ Hid (PB w wx A v (L3 ++ (ts.take j).flatMap testT) ∧ (L3 ++ (ts.take j).flatMap testT).length ≤ 18 + 5 * j)) (fun _ vi _ => m - (intOf vi).toNat)
          case atStart => exact ⟨0, rfl, by omega, Lib.hid ⟨by simpa using HP5.out.1, by simpa using HP5.out.2⟩⟩
          case round =>
            obtain ⟨j, rfl, hj, HPj⟩ := hrel
            have hb4 := HPj.out.1.box
            rw [← HAE.out] at hb4
            have c4 : wr.cell? ⟨w.heap.size, 4, none⟩ = some (.slice ta m tc) := cell_of hb4 rfl
            have hlw := HPj.out.1.lt
            clear hb4
            by_cases hjt : j < m
            · have hjtz : (j : Int) < (m : Int) := by omega
              have hjl : j < ts.length := by have := HM.out; omega
              obtain ⟨b, o, hta, g1, g2, g3, g4⟩ := HT.out.get hjl
              have d1 : wr.cell? ⟨b, o + j * 3, none⟩ = some (.string ⟨ts[j].name.toArray⟩) := (HPj.out.1.bel.cell (p := ⟨b, o + j * 3, none⟩) g1).trans g2
              have d2 : wr.cell? ⟨b, o + j * 3 + 1, none⟩ = some (.bool ts[j].equal) := (HPj.out.1.bel.cell (p := ⟨b, o + j * 3 + 1, none⟩) g1).trans g3
              have d3 : wr.cell? ⟨b, o + j * 3 + 2, none⟩ = some (.string ⟨ts[j].value.toArray⟩) := (HPj.out.1.bel.cell (p := ⟨b, o + j * 3 + 2, none⟩) g1).trans g4
              have hft := flat_take testT hjl
              generalize ts[j] = t at *
              obtain ⟨zn, ze, zv⟩ := t
              simp only at d1 d2 d3
              have HFT := Lib.hid hft
              rw [hta] at c4
              clear hft g2 g3 g4 hta
              go_upto_region 14 with (fail)
              clear c4 d1 d2 d3
              obtain ⟨LL, hLL⟩ : ∃ L, L3 ++ (ts.take j).flatMap testT = L := ⟨_, rfl⟩
              have HPb := Lib.hid (And.intro (HPj.out.1.keep (below_one7 wr (.cells #[.string ⟨zn.toArray⟩, .bool ze, .string ⟨zv.toArray⟩] 73))) (And.intro HPj.out.2 (heap_alloc_new wr (.cells #[.string ⟨zn.toArray⟩, .bool ze, .string ⟨zv.toArray⟩] 73))))
              rw [hLL] at HPb
              have HLL := Lib.hid hLL
              have hB6 : wr.heap.size < (wr.alloc (.cells #[.string ⟨zn.toArray⟩, .bool ze, .string ⟨zv.toArray⟩] 73)).heap.size := by simp
              clear hLL
              obtain ⟨B6, hb6⟩ : ∃ B, wr.heap.size = B := ⟨_, rfl⟩
              rw [hb6] at hB6 HPb ⊢
              generalize wr.alloc (.cells #[.string ⟨zn.toArray⟩, .bool ze, .string ⟨zv.toArray⟩] 73) = W2 at *
              clear hb6 hlw
              go_cut [3] (fun v wx => ∃ y, y = v ∧ Hid (PB w wx A y (LL ++ [tkS 15, tkI zn]) ∧ (LL ++ [tkS 15, tkI zn]).length ≤ 20 + 5 * j ∧ wx.heap[B6]? = some (.cells #[.string ⟨zn.toArray⟩, .bool ze, .string ⟨zv.toArray⟩] 73 (0, 0))))
              case first =>
                have e0 : W2.cell? ⟨B6, 0, none⟩ = some (.string ⟨zn.toArray⟩) := cell_of HPb.out.2.2 rfl
                go_region_law ((first
                  | (go_simp; go_at_call 28; refine (tok7_any _ _ _).mono ?_; rintro e w4 ⟨rfl, rfl⟩)
                  | (obtain ⟨v5, w5, hr5, hP5, hK5⟩ := HPb.out.1.twoG (by have := HPb.out.2.1; omega) (.cells #[.int .i64 15, .string ⟨([] : List UInt8).toArray⟩, .int .i64 0] 45) (.cells #[.int .i64 1, .string ⟨(zn : List UInt8).toArray⟩, .int .i64 0] 45) 15 ([]) 0 1 (zn) 0; refine step_append_run7 rfl (.tmp 57) (.tmp 62) 24 rfl _ _ _ _ (by first | (simp [Act.eval]; done) | simp [Act.eval, Act.put]) (by first | (simp [Act.eval]; done) | simp [Act.eval, Act.put]) hr5 ?_; have HF5 := Lib.hid (And.intro hP5 hK5); clear hr5 hP5 hK5)
                  | (obtain ⟨v5, w5, hr5, hP5, hK5⟩ := HPb.out.1.twoG (by have := HPb.out.2.1; omega) (.cells #[.int .i64 1, .string ⟨(zn : List UInt8).toArray⟩, .int .i64 0] 45) (.cells #[.int .i64 15, .string ⟨([] : List UInt8).toArray⟩, .int .i64 0] 45) 15 ([]) 0 1 (zn) 0; refine step_append_run7 rfl (.tmp 57) (.tmp 62) 24 rfl _ _ _ _ (by first | (simp [Act.eval]; done) | simp [Act.eval, Act.put]) (by first | (simp [Act.eval]; done) | simp [Act.eval, Act.put]) hr5 ?_; have HF5 := Lib.hid (And.intro hP5 hK5); clear hr5 hP5 hK5)))
                all_goals
                  go_wp2_with fail
                  go_meet
                  exact ⟨_, rfl, Lib.hid ⟨HF5.out.1, by rw [List.length_append]; have := HPb.out.2.1; simp; omega, HF5.out.2 _ _ _ _ HPb.out.2.2 kindsV.1⟩⟩
              case rest =>
                obtain ⟨y, hy, HPc⟩ := hcut
                subst hy
                clear HPb
                have e1 : wc.cell? ⟨B6, 1, none⟩ = some (.bool ze) := cell_of HPc.out.2.2 rfl
                go_upto_if 65 with fail
                clear e1
                go_cut [3] (fun v wx => ∃ y2, y2 = v ∧ Hid (PB w wx A y2 (LL ++ [tkS 15, tkI zn] ++ (if ze = true then [tkD [61], ⟨5, zv, 0⟩] else [])) ∧ (LL ++ [tkS 15, tkI zn] ++ (if ze = true then [tkD [61], ⟨5, zv, 0⟩] else [])).length ≤ 22 + 5 * j))
                case first =>
                  cases ze
                  · go_wp2_with fail
                    go_meet
                    exact ⟨_, rfl, Lib.hid ⟨by simpa using HPc.out.1, by have := HPc.out.2.1; simp at this ⊢; omega⟩⟩
                  · have e2 : wc.cell? ⟨B6, 2, none⟩ = some (.string ⟨zv.toArray⟩) := cell_of HPc.out.2.2 rfl
                    have hB7 : B6 < wc.heap.size := (Array.getElem?_eq_some_iff.1 HPc.out.2.2).1
                    go_wp2_with fail
                    go_region_law ((first
                      | (go_simp; go_at_call 28; refine (tok7_any _ _ _).mono ?_; rintro e w4 ⟨rfl, rfl⟩)
                      | (obtain ⟨v5, w5, hr5, hP5, hK5⟩ := HPc.out.1.twoG (by have := HPc.out.2.1; omega) (.cells #[.int .i64 19, .string ⟨([61] : List UInt8).toArray⟩, .int .i64 0] 45) (.cells #[.int .i64 5, .string ⟨(zv : List UInt8).toArray⟩, .int .i64 0] 45) 19 ([61]) 0 5 (zv) 0; refine step_append_run7 rfl (.tmp 66) (.tmp 71) 24 rfl _ _ _ _ (by first | (simp [Act.eval]; done) | simp [Act.eval, Act.put]) (by first | (simp [Act.eval]; done) | simp [Act.eval, Act.put]) hr5 ?_; have HF5 := Lib.hid (And.intro hP5 hK5); clear hr5 hP5 hK5)
                      | (obtain ⟨v5, w5, hr5, hP5, hK5⟩ := HPc.out.1.twoG (by have := HPc.out.2.1; omega) (.cells #[.int .i64 5, .string ⟨(zv : List UInt8).toArray⟩, .int .i64 0] 45) (.cells #[.int .i64 19, .string ⟨([61] : List UInt8).toArray⟩, .int .i64 0] 45) 19 ([61]) 0 5 (zv) 0; refine step_append_run7 rfl (.tmp 66) (.tmp 71) 24 rfl _ _ _ _ (by first | (simp [Act.eval]; done) | simp [Act.eval, Act.put]) (by first | (simp [Act.eval]; done) | simp [Act.eval, Act.put]) hr5 ?_; have HF5 := Lib.hid (And.intro hP5 hK5); clear hr5 hP5 hK5)))
                    all_goals
                      go_wp2_with fail
                      go_meet
                      exact ⟨_, rfl, Lib.hid ⟨HF5.out.1, by rw [List.length_append]; have := HPc.out.2.1; simp at this ⊢; omega⟩⟩
                case rest =>
                  obtain ⟨y2, hy, HPd⟩ := hcut
                  subst hy
                  have I := Lib.hid (fun W => tok_b 16 [] W)
                  clear HPc
                  go_wp2_with fail
                  refine (I.out _).mono ?_
                  rintro e w2 ⟨rfl, hb2⟩
                  obtain ⟨v3, w3, hr3, hP3⟩ := (HPd.out.1.keep hb2).put1 (by have := HPd.out.2; omega) 16 [] 0
                  have HR3 := Lib.hid hr3
                  have HP4 : Hid (PB w w3 A v3 (L3 ++ (ts.take (j + 1)).flatMap testT) ∧ (L3 ++ (ts.take (j + 1)).flatMap testT).length ≤ 18 + 5 * (j + 1)) := Lib.hid (by
                    have e : L3 ++ (ts.take (j + 1)).flatMap testT = LL ++ [tkS 15, tkI zn] ++ (if ze = true then [tkD [61], ⟨5, zv, 0⟩] else []) ++ [tkS 16] := by
                      rw [HFT.out, ← List.append_assoc, HLL.out]
                      simp [testT]
                    rw [e]
                    refine ⟨hP3, ?_⟩
                    rw [List.length_append]
                    have := HPd.out.2
                    simp only [List.length_cons, List.length_nil]
                    omega)
                  clear hb2 hr3 hP3
                  go_wp2_with (at_builtin; refine wpList_append_runL rfl _ _ 24 rfl _ _ _ _ rfl rfl HR3.out ?_)
                  go_roundw
                  case rel => exact ⟨j + 1, by go_num, by omega, HP4⟩
                  case measure => simp [intOf]; omega
            · have hjtz : ¬ (j : Int) < (m : Int) := by omega
              have HP7 : Hid (PB w wr A u3 (L3 ++ ts.flatMap testT) ∧ (L3 ++ ts.flatMap testT).length ≤ 58) := Lib.hid (by
                have := HPj.out
                rw [List.take_of_length_le (by have := HM.out; omega)] at this
                exact ⟨this.1, by omega⟩)
              clear HPj
              obtain ⟨L4, hL4⟩ : ∃ L, L3 ++ ts.flatMap testT = L := ⟨_, rfl⟩
              rw [hL4] at HP7
              have HL4 := Lib.hid hL4
              clear hL4
              go_wp2_with fail
              clear c4
              obtain ⟨G, hG⟩ : ∃ G, wr.heap.size = G := ⟨_, rfl⟩
              have HPw : Hid (PB w (wr.alloc (.cells #[.string ⟨#[114, 111, 111, 116]⟩, .string ⟨#[102, 105, 114, 115, 116, 45, 99, 104, 105, 108, 100]⟩, .string ⟨#[108, 97, 115, 116, 45, 99, 104, 105, 108, 100]⟩] 9)) A u3 L4 ∧ L4.length ≤ 58 ∧ (wr.alloc (.cells #[.string ⟨#[114, 111, 111, 116]⟩, .string ⟨#[102, 105, 114, 115, 116, 45, 99, 104, 105, 108, 100]⟩, .string ⟨#[108, 97, 115, 116, 45, 99, 104, 105, 108, 100]⟩] 9)).heap[G]? = some (.cells #[.string ⟨(wordS 1).toArray⟩, .string ⟨(wordS 2).toArray⟩, .string ⟨(wordS 4).toArray⟩] 9 (0, 0))) :=
                Lib.hid ⟨HP7.out.1.keep (below_one7 _ _), HP7.out.2, by rw [← hG]; exact heap_alloc_new wr _⟩
              rw [hG]
              generalize wr.alloc (.cells #[.string ⟨#[114, 111, 111, 116]⟩, .string ⟨#[102, 105, 114, 115, 116, 45, 99, 104, 105, 108, 100]⟩, .string ⟨#[108, 97, 115, 116, 45, 99, 104, 105, 108, 100]⟩] 9) = W3 at *
              obtain ⟨x1, hx1⟩ : ∃ x, wordS 1 = x := ⟨_, rfl⟩
              obtain ⟨x2, hx2⟩ : ∃ x, wordS 2 = x := ⟨_, rfl⟩
              obtain ⟨x4, hx4⟩ : ∃ x, wordS 4 = x := ⟨_, rfl⟩
              have hs1 : stateT st 1 = if hasB st 1 = true then [tkS 10, tkI x1] else [] := by unfold stateT; rw [hx1]
              have hs2 : stateT st 2 = if hasB st 2 = true then [tkS 10, tkI x2] else [] := by unfold stateT; rw [hx2]
              have hs4 : stateT st 4 = if hasB st 4 = true then [tkS 10, tkI x4] else [] := by unfold stateT; rw [hx4]
              rw [hx1, hx2, hx4] at HPw
              have HS1 := Lib.hid hs1
              have HS2 := Lib.hid hs2
              have HS4 := Lib.hid hs4
              clear hx1 hx2 hx4 hs1 hs2 hs4 hG HP7
              go_loopw [3, 8, 9] (fun v bi vi wx => (bi = .int .i64 1 ∧ vi = .int .i64 0 ∧ Hid (PB w wx A v L4 ∧ L4.length ≤ 58 ∧ wx.heap[G]? = some (.cells #[.string ⟨x1.toArray⟩, .string ⟨x2.toArray⟩, .string ⟨x4.toArray⟩] 9 (0, 0)))) ∨ (bi = .int .i64 2 ∧ vi = .int .i64 1 ∧ Hid (PB w wx A v (L4 ++ stateT st 1) ∧ (L4 ++ stateT st 1).length ≤ 60 ∧ wx.heap[G]? = some (.cells #[.string ⟨x1.toArray⟩, .string ⟨x2.toArray⟩, .string ⟨x4.toArray⟩] 9 (0, 0)))) ∨ (bi = .int .i64 4 ∧ vi = .int .i64 2 ∧ Hid (PB w wx A v (L4 ++ stateT st 1 ++ stateT st 2) ∧ (L4 ++ stateT st 1 ++ stateT st 2).length ≤ 62 ∧ wx.heap[G]? = some (.cells #[.string ⟨x1.toArray⟩, .string ⟨x2.toArray⟩, .string ⟨x4.toArray⟩] 9 (0, 0)))) ∨ (bi = .int .i64 8 ∧ vi = .int .i64 3 ∧ Hid (PB w wx A v (L4 ++ stateT st 1 ++ stateT st 2 ++ stateT st 4) ∧ (L4 ++ stateT st 1 ++ stateT st 2 ++ stateT st 4).length ≤ 64))) (fun _ _ vi _ => 3 - (intOf vi).toNat)
              case atStart => exact Or.inl ⟨rfl, rfl, HPw⟩
              case round =>
                obtain ⟨rfl, rfl, HPs⟩ | ⟨rfl, rfl, HPs⟩ | ⟨rfl, rfl, HPs⟩ | ⟨rfl, rfl, HPs⟩ := hrel
                · have hb6 := HPs.out.1.box
                  rw [← HAE.out] at hb6
                  have c6 : wr.cell? ⟨w.heap.size, 5, none⟩ = some (.int .i64 st) := cell_of hb6 rfl
                  have c7 : wr.cell? ⟨G, 0, none⟩ = some (.string ⟨x1.toArray⟩) := cell_of HPs.out.2.2 rfl
                  have hGl : G < wr.heap.size := (Array.getElem?_eq_some_iff.1 HPs.out.2.2).1
                  have HH := Lib.hid (HS.out 1 (Or.inl rfl) wr)
                  clear hb6
                  cases hh : hasB st 1 with
                  | true =>
                    rw [hh] at HH
                    have HST : Hid (stateT st 1 = [tkS 10, tkI x1]) := Lib.hid (by rw [HS1.out, hh]; rfl)
                    clear hh
                    go_wp2_with fail
                    refine HH.out.mono ?_
                    rintro e w2 ⟨rfl, rfl⟩
                    go_wp2_with fail
                    go_region_law ((first
                      | (go_simp; go_at_call 28; refine (tok7_any _ _ _).mono ?_; rintro e w4 ⟨rfl, rfl⟩)
                      | (obtain ⟨v5, w5, hr5, hP5, hK5⟩ := HPs.out.1.twoG (by have := HPs.out.2.1; omega) (.cells #[.int .i64 10, .string ⟨([] : List UInt8).toArray⟩, .int .i64 0] 45) (.cells #[.int .i64 1, .string ⟨(x1 : List UInt8).toArray⟩, .int .i64 0] 45) 10 ([]) 0 1 (x1) 0; refine step_append_run7 rfl (.tmp 86) (.tmp 93) 24 rfl _ _ _ _ (by first | (simp [Act.eval]; done) | simp [Act.eval, Act.put]) (by first | (simp [Act.eval]; done) | simp [Act.eval, Act.put]) hr5 ?_; have HF5 := Lib.hid (And.intro hP5 hK5); clear hr5 hP5 hK5)
                      | (obtain ⟨v5, w5, hr5, hP5, hK5⟩ := HPs.out.1.twoG (by have := HPs.out.2.1; omega) (.cells #[.int .i64 1, .string ⟨(x1 : List UInt8).toArray⟩, .int .i64 0] 45) (.cells #[.int .i64 10, .string ⟨([] : List UInt8).toArray⟩, .int .i64 0] 45) 10 ([]) 0 1 (x1) 0; refine step_append_run7 rfl (.tmp 86) (.tmp 93) 24 rfl _ _ _ _ (by first | (simp [Act.eval]; done) | simp [Act.eval, Act.put]) (by first | (simp [Act.eval]; done) | simp [Act.eval, Act.put]) hr5 ?_; have HF5 := Lib.hid (And.intro hP5 hK5); clear hr5 hP5 hK5)))
                    all_goals
                      go_wp2_with fail
                      go_roundw
                      case rel => exact Or.inr (Or.inl ⟨rfl, rfl, Lib.hid (by rw [HST.out]; exact ⟨HF5.out.1, by rw [List.length_append]; have := HPs.out.2.1; simp only [List.length_cons, List.length_nil]; omega, HF5.out.2 _ _ _ _ HPs.out.2.2 kindsV.2⟩)⟩)
                      case measure => simp [intOf]
                  | false =>
                    rw [hh] at HH
                    have HST : Hid (stateT st 1 = []) := Lib.hid (by rw [HS1.out, hh]; rfl)
                    clear hh
                    go_wp2_with fail
                    refine HH.out.mono ?_
                    rintro e w2 ⟨rfl, rfl⟩
                    go_wp2_with fail
                    go_roundw
                    case rel => exact Or.inr (Or.inl ⟨rfl, rfl, Lib.hid (by rw [HST.out, List.append_nil]; exact ⟨HPs.out.1, by have := HPs.out.2.1; omega, HPs.out.2.2⟩)⟩)
                    case measure => simp [intOf]
                · have hb6 := HPs.out.1.box
                  rw [← HAE.out] at hb6
                  have c6 : wr.cell? ⟨w.heap.size, 5, none⟩ = some (.int .i64 st) := cell_of hb6 rfl
                  have c7 : wr.cell? ⟨G, 1, none⟩ = some (.string ⟨x2.toArray⟩) := cell_of HPs.out.2.2 rfl
                  have hGl : G < wr.heap.size := (Array.getElem?_eq_some_iff.1 HPs.out.2.2).1
                  have HH := Lib.hid (HS.out 2 (Or.inr (Or.inl rfl)) wr)
                  clear hb6
                  cases hh : hasB st 2 with
                  | true =>
                    rw [hh] at HH
                    have HST : Hid (stateT st 2 = [tkS 10, tkI x2]) := Lib.hid (by rw [HS2.out, hh]; rfl)
                    clear hh
                    go_wp2_with fail
                    refine HH.out.mono ?_
                    rintro e w2 ⟨rfl, rfl⟩
                    go_wp2_with fail
                    go_region_law ((first
                      | (go_simp; go_at_call 28; refine (tok7_any _ _ _).mono ?_; rintro e w4 ⟨rfl, rfl⟩)
                      | (obtain ⟨v5, w5, hr5, hP5, hK5⟩ := HPs.out.1.twoG (by have := HPs.out.2.1; omega) (.cells #[.int .i64 10, .string ⟨([] : List UInt8).toArray⟩, .int .i64 0] 45) (.cells #[.int .i64 1, .string ⟨(x2 : List UInt8).toArray⟩, .int .i64 0] 45) 10 ([]) 0 1 (x2) 0; refine step_append_run7 rfl (.tmp 86) (.tmp 93) 24 rfl _ _ _ _ (by first | (simp [Act.eval]; done) | simp [Act.eval, Act.put]) (by first | (simp [Act.eval]; done) | simp [Act.eval, Act.put]) hr5 ?_; have HF5 := Lib.hid (And.intro hP5 hK5); clear hr5 hP5 hK5)
                      | (obtain ⟨v5, w5, hr5, hP5, hK5⟩ := HPs.out.1.twoG (by have := HPs.out.2.1; omega) (.cells #[.int .i64 1, .string ⟨(x2 : List UInt8).toArray⟩, .int .i64 0] 45) (.cells #[.int .i64 10, .string ⟨([] : List UInt8).toArray⟩, .int .i64 0] 45) 10 ([]) 0 1 (x2) 0; refine step_append_run7 rfl (.tmp 86) (.tmp 93) 24 rfl _ _ _ _ (by first | (simp [Act.eval]; done) | simp [Act.eval, Act.put]) (by first | (simp [Act.eval]; done) | simp [Act.eval, Act.put]) hr5 ?_; have HF5 := Lib.hid (And.intro hP5 hK5); clear hr5 hP5 hK5)))
                    all_goals
                      go_wp2_with fail
                      go_roundw
                      case rel => exact Or.inr (Or.inr (Or.inl ⟨rfl, rfl, Lib.hid (by rw [HST.out]; exact ⟨HF5.out.1, by rw [List.length_append]; have := HPs.out.2.1; simp only [List.length_cons, List.length_nil]; omega, HF5.out.2 _ _ _ _ HPs.out.2.2 kindsV.2⟩)⟩))
                      case measure => simp [intOf]
                  | false =>
                    rw [hh] at HH
                    have HST : Hid (stateT st 2 = []) := Lib.hid (by rw [HS2.out, hh]; rfl)
                    clear hh
                    go_wp2_with fail
                    refine HH.out.mono ?_
                    rintro e w2 ⟨rfl, rfl⟩
                    go_wp2_with fail
                    go_roundw
                    case rel => exact Or.inr (Or.inr (Or.inl ⟨rfl, rfl, Lib.hid (by rw [HST.out, List.append_nil]; exact ⟨HPs.out.1, by have := HPs.out.2.1; omega, HPs.out.2.2⟩)⟩))
                    case measure => simp [intOf]
                · have hb6 := HPs.out.1.box
                  rw [← HAE.out] at hb6
                  have c6 : wr.cell? ⟨w.heap.size, 5, none⟩ = some (.int .i64 st) := cell_of hb6 rfl
                  have c7 : wr.cell? ⟨G, 2, none⟩ = some (.string ⟨x4.toArray⟩) := cell_of HPs.out.2.2 rfl
                  have hGl : G < wr.heap.size := (Array.getElem?_eq_some_iff.1 HPs.out.2.2).1
                  have HH := Lib.hid (HS.out 4 (Or.inr (Or.inr rfl)) wr)
                  clear hb6
                  cases hh : hasB st 4 with
                  | true =>
                    rw [hh] at HH
                    have HST : Hid (stateT st 4 = [tkS 10, tkI x4]) := Lib.hid (by rw [HS4.out, hh]; rfl)
                    clear hh
                    go_wp2_with fail
                    refine HH.out.mono ?_
                    rintro e w2 ⟨rfl, rfl⟩
                    go_wp2_with fail
                    go_region_law ((first
                      | (go_simp; go_at_call 28; refine (tok7_any _ _ _).mono ?_; rintro e w4 ⟨rfl, rfl⟩)
                      | (obtain ⟨v5, w5, hr5, hP5, hK5⟩ := HPs.out.1.twoG (by have := HPs.out.2.1; omega) (.cells #[.int .i64 10, .string ⟨([] : List UInt8).toArray⟩, .int .i64 0] 45) (.cells #[.int .i64 1, .string ⟨(x4 : List UInt8).toArray⟩, .int .i64 0] 45) 10 ([]) 0 1 (x4) 0; refine step_append_run7 rfl (.tmp 86) (.tmp 93) 24 rfl _ _ _ _ (by first | (simp [Act.eval]; done) | simp [Act.eval, Act.put]) (by first | (simp [Act.eval]; done) | simp [Act.eval, Act.put]) hr5 ?_; have HF5 := Lib.hid (And.intro hP5 hK5); clear hr5 hP5 hK5)
                      | (obtain ⟨v5, w5, hr5, hP5, hK5⟩ := HPs.out.1.twoG (by have := HPs.out.2.1; omega) (.cells #[.int .i64 1, .string ⟨(x4 : List UInt8).toArray⟩, .int .i64 0] 45) (.cells #[.int .i64 10, .string ⟨([] : List UInt8).toArray⟩, .int .i64 0] 45) 10 ([]) 0 1 (x4) 0; refine step_append_run7 rfl (.tmp 86) (.tmp 93) 24 rfl _ _ _ _ (by first | (simp [Act.eval]; done) | simp [Act.eval, Act.put]) (by first | (simp [Act.eval]; done) | simp [Act.eval, Act.put]) hr5 ?_; have HF5 := Lib.hid (And.intro hP5 hK5); clear hr5 hP5 hK5)))
                    all_goals
                      go_wp2_with fail
                      go_roundw
                      case rel => exact Or.inr (Or.inr (Or.inr ⟨rfl, rfl, Lib.hid (by rw [HST.out]; exact ⟨HF5.out.1, by rw [List.length_append]; have := HPs.out.2.1; simp only [List.length_cons, List.length_nil]; omega⟩)⟩))
                      case measure => simp [intOf]
                  | false =>
                    rw [hh] at HH
                    have HST : Hid (stateT st 4 = []) := Lib.hid (by rw [HS4.out, hh]; rfl)
                    clear hh
                    go_wp2_with fail
                    refine HH.out.mono ?_
                    rintro e w2 ⟨rfl, rfl⟩
                    go_wp2_with fail
                    go_roundw
                    case rel => exact Or.inr (Or.inr (Or.inr ⟨rfl, rfl, Lib.hid (by rw [HST.out, List.append_nil]; exact ⟨HPs.out.1, by have := HPs.out.2.1; omega⟩)⟩))
                    case measure => simp [intOf]
                · have hbody : L4 ++ stateT st 1 ++ stateT st 2 ++ stateT st 4 = bodyT ⟨co, tg, id, cl, ts, st⟩ := by
                    rw [← HL4.out, ← HL3.out, ← HL2.out, ← HL1.out]
                    unfold bodyT
                    simp only [List.append_assoc]
                  have hP8 := HPs.out
                  rw [hbody] at hP8
                  have hrr := HR.out
                  unfold partT at hrr
                  generalize bodyT ⟨co, tg, id, cl, ts, st⟩ = Bd at *
                  obtain ⟨ya, yc, hyv, hyT, hy1, hy2⟩ := hP8.1.row.form
                  obtain ⟨q, hq⟩ : ∃ q, Bd.length = q := ⟨_, rfl⟩
                  have hq64 : q ≤ 64 := by rw [← hq]; exact hP8.2
                  have HP8 := Lib.hid hP8
                  by_cases hb0 : Bd = []
                  · rw [if_pos hb0] at hrr
                    have hq0 : q = 0 := by rw [← hq, hb0]; rfl
                    subst hq0
                    rw [hq] at hyv
                    have hyvv := hyv
                    subst hyvv
                    have HRR := Lib.hid hrr
                    have HB0 := Lib.hid hb0
                    have DS := Lib.hid (fun W => tok_b 19 [42] W)
                    clear hP8 hrr hyT hy1 hy2 hq hbody hb0 HPs
                    go_wp2_with fail
                    refine (DS.out _).mono ?_
                    rintro e w2 ⟨rfl, hb2⟩
                    obtain ⟨v5, w5, hr5, hP5⟩ := (HP8.out.1.keep hb2).put1 (by have := HP8.out.2; omega) 19 [42] 0
                    have HR5 := Lib.hid hr5
                    have HF5 : Hid (ToldCap w R (.returned v5) w5) := Lib.hid (by
                      rw [← HRR.out]
                      rw [HB0.out] at hP5
                      exact hP5.row.told hP5.bel)
                    clear hb2 hr5 hP5
                    go_wp2_with (at_builtin; refine wpList_append_runL rfl _ _ 24 rfl _ _ _ _ rfl rfl HR5.out ?_)
                    go_ret
                    exact HF5.out
                  · rw [if_neg hb0] at hrr
                    have hq0 : 0 < q := by rw [← hq]; exact List.length_pos_iff.2 hb0
                    have hqz : ((q : Int) == 0) = false := by rw [beq_eq_false_iff_ne]; omega
                    have hqn : ¬ q = 0 := by omega
                    have HF5 : Hid (ToldCap w R (.returned u3) wr) := Lib.hid (by rw [← hrr]; exact hP8.1.row.told hP8.1.bel)
                    rw [hq] at hyv
                    subst hyv
                    clear hP8 hrr hyT hy1 hy2 hq hbody hb0 HPs HP8
                    go_wp2_with fail
                    go_ret
                    exact HF5.out
end Go.Proofs.Ytfbfndknhabmhaa

namespace Go.Proofs.Ytfbfndknhabmhaa
open Go.RowKit TreN LexP FixP SynP ValP SelP FixM
set_option linter.unusedVariables false

theorem PL.put1 {w wx : World} {v : Value} {L : List Tok} (h : PL w wx v L) (hx : L.length ≤ 900000) (k : Int) (x : List UInt8) (z : Int) :
    ∃ v' w', (Builtin.append_ #[24, 24] 24 #[v, .slice (some ⟨wx.heap.size, 0, none⟩) 1 1]).run Try.prog (wx.alloc (.cells #[.int .i64 k, .string ⟨x.toArray⟩, .int .i64 z] 45)) = .ok v' w' ∧ PL w w' v' (L ++ [⟨k, x, z⟩]) ∧ KeptK 45 wx w' := by
  obtain ⟨v', w', h1, h2, h3, h4⟩ := putLG w.heap.size v L (some ⟨wx.heap.size, 0, none⟩) [(⟨k, x, z⟩ : Tok)] 1 1 (wx.alloc (.cells (tkcs [(⟨k, x, z⟩ : Tok)]).toArray 45)) rfl (by have := h.bel.size; simp; omega) hx (by omega) (h.row.keep (below_one7 wx _)) (made_toks7 wx _)
  exact ⟨v', w', h1, ⟨h2, h.bel.trans (((Below.refl _ _).alloc h.bel.size _).trans h3)⟩, (KeptK.below (below_one7 wx _)).trans h4⟩
theorem rightF_at : ∀ (l : List Prt) (k j : Nat) (hj : j < l.length), rightF k l = true → combB (k + j) l[j] = true
  | [], _, _, hj, _ => by simp at hj
  | p :: r, k, j, hj, hr => by
    have hr : (combB k p && (rightPt p && rightF (k + 1) r)) = true := hr
    rw [Bool.and_eq_true, Bool.and_eq_true] at hr
    cases j with
    | zero => exact hr.1
    | succ j =>
      have := rightF_at r (k + 1) j (by simpa using hj) hr.2.2
      rw [show k + (j + 1) = k + 1 + j by omega]
      exact this
theorem right_comb {s : List Prt} (h : rightS s = true) {i : Nat} (hi : i < s.length) : (i = 0 → s[i].comb = 0) ∧ (0 < i → 1 ≤ s[i].comb) := by
  unfold rightS at h
  rw [Bool.and_eq_true, Bool.and_eq_true] at h
  have hc := rightF_at s 0 i hi h.2.2
  rw [Nat.zero_add] at hc
  unfold combB at hc
  constructor
  · intro h0
    rw [if_pos h0] at hc
    exact of_decide_eq_true hc
  · intro h0
    rw [if_neg (by omega), Bool.and_eq_true] at hc
    exact of_decide_eq_true hc.1
def SgAt (w : World) (G : Nat) : Prop := w.heap[G]? = some (.cells #[.string ⟨#[]⟩, .string ⟨#[]⟩, .string ⟨(markS 2).toArray⟩, .string ⟨(markS 3).toArray⟩, .string ⟨(markS 4).toArray⟩] 9 (0, 0))
theorem SgAt.kept {w w' : World} {G : Nat} (h : SgAt w G) (k : KeptK 45 w w') : SgAt w' G := k _ _ _ _ h (by decide)
theorem SgAt.get {w : World} {G : Nat} (h : SgAt w G) (c : Int) (h2 : 2 ≤ c) (h4 : c ≤ 4) : ∃ k : Nat, (k : Int) = c ∧ w.cell? ⟨G, k, none⟩ = some (.string ⟨(markS c).toArray⟩) := by
  rcases (by omega : c = 2 ∨ c = 3 ∨ c = 4) with rfl | rfl | rfl
  · exact ⟨2, rfl, cell_of h rfl⟩
  · exact ⟨3, rfl, cell_of h rfl⟩
  · exact ⟨4, rfl, cell_of h rfl⟩

set_option maxRecDepth 100000 in
set_option maxHeartbeats 8000000 in
theorem refTokens7 (a : Option Addr) (l : List SelV) (n cap : Nat) (w : World) (hn : l.length = n) (hl : n ≤ 1100) (hS : Sls w a l) (hal : (l.map SelV.pure).all rightS = true) : Calls Try.prog 12 #[.slice a n cap] w (ToldCap w (listT (l.map SelV.pure))) := by
  obtain ⟨P, hP⟩ : ∃ P, l.map SelV.pure = P := ⟨_, rfl⟩
  have hPl : P.length = n := by rw [← hP, List.length_map, hn]
  rw [hP] at hal ⊢
  have HS := Lib.hid hS
  have HN := Lib.hid hn
  have HPP := Lib.hid hP
  have HPL := Lib.hid hPl
  have HAL := Lib.hid hal
  clear hS hn hP hPl hal
  go_enter Try.func12, Try.ntmps12
  go_wp2_with fail
  obtain ⟨G, hG⟩ : ∃ G, w.heap.size = G := ⟨_, rfl⟩
  have HW1 : Hid (PL w (w.alloc (.cells #[.string ⟨#[]⟩, .string ⟨#[]⟩, .string ⟨#[62]⟩, .string ⟨#[43]⟩, .string ⟨#[126]⟩] 9)) (.slice none 0 0) [] ∧ SgAt (w.alloc (.cells #[.string ⟨#[]⟩, .string ⟨#[]⟩, .string ⟨#[62]⟩, .string ⟨#[43]⟩, .string ⟨#[126]⟩] 9)) G) :=
    Lib.hid ⟨⟨TokRow.nil _ _, below_one7 _ _⟩, by rw [← hG]; exact heap_alloc_new w _⟩
  rw [hG]
  generalize w.alloc (.cells #[.string ⟨#[]⟩, .string ⟨#[]⟩, .string ⟨#[62]⟩, .string ⟨#[43]⟩, .string ⟨#[126]⟩] 9) = W1 at *
  have HG := Lib.hid hG
  clear hG
  have S12 := Lib.hid (fun W => tok_b 12 [] W)
  have S20 := Lib.hid (fun W => tok_b 20 [] W)
  go_loopw [3, 5] (fun v vi wr => ∃ k : Nat, vi = .int .i64 (k : Int) ∧ k ≤ n ∧ Hid (PL w wr v (lstF 0 (P.take k)) ∧ (lstF 0 (P.take k)).length ≤ 538 * k ∧ SgAt wr G)) (fun _ vi _ => n - (intOf vi).toNat)
  case atStart => exact ⟨0, rfl, by omega, Lib.hid ⟨HW1.out.1, Nat.le_refl _, HW1.out.2⟩⟩
  case round =>
    obtain ⟨k, rfl, hk, HK⟩ := hrel
    by_cases hlt : k < n
    · have hltz : (k : Int) < (n : Int) := by omega
      have hkl : k < l.length := by have := HN.out; omega
      obtain ⟨b, o, ha, g1, g2, hok⟩ := HS.out.get hkl
      have hkP : k < P.length := by have := HPL.out; omega
      have hpk : P[k] = (l[k]).pure := by have := HPP.out; subst this; rw [List.getElem_map]
      have hrk : rightS P[k] = true := by
        have h := HAL.out
        rw [List.all_eq_true] at h
        exact h _ (List.getElem_mem hkP)
      have hft := lstF_take hkP
      rw [hpk] at hft hrk
      have d1 := fun W (hW : Below w.heap.size w W) => (hW.cell (p := ⟨b, o + k, none⟩) g1).trans g2
      have hok2 := fun W (hW : Below w.heap.size w W) => hok.below hW
      generalize l[k] = s at *
      obtain ⟨ps, pa, pc⟩ := s
      have hpu : (SelV.pure ⟨ps, pa, pc⟩) = ps.map PtV.p := rfl
      rw [hpu] at hft hrk
      unfold SelV.val at d1
      simp only at d1
      obtain ⟨Q, hQ⟩ : ∃ Q, ps.map PtV.p = Q := ⟨_, rfl⟩
      have hQl : Q.length = ps.length := by rw [← hQ, List.length_map]
      rw [hQ] at hft hrk
      obtain ⟨m, hm⟩ : ∃ m, ps.length = m := ⟨_, rfl⟩
      rw [hm] at hQl d1
      have hm8 : m ≤ 8 := by rw [← hQl]; exact right_len hrk
      have HFT := Lib.hid hft
      have HRK := Lib.hid hrk
      have HQQ := Lib.hid hQ
      have HQL := Lib.hid hQl
      have HM := Lib.hid hm
      have HOK := Lib.hid hok2
      have HD1 := Lib.hid d1
      obtain ⟨acc, hacc⟩ : ∃ acc, lstF 0 (P.take k) = acc := ⟨_, rfl⟩
      have HACC := Lib.hid hacc
      rw [hacc] at HK
      subst ha
      clear hft hrk hQ hQl hm hok2 hok g2 hpk hpu hacc d1
      go_upto_if 16 with fail
      go_cut [3] (fun v wx => ∃ y, y = v ∧ Hid (PL w wx y (acc ++ (if k = 0 then [] else [tkS 12, tkS 20])) ∧ SgAt wx G))
      case first =>
        by_cases hk0 : k = 0
        · have hkz : ¬ (0 : Int) < (k : Int) := by omega
          have HF : Hid (PL w wr u3 (acc ++ (if k = 0 then [] else [tkS 12, tkS 20])) ∧ SgAt wr G) := Lib.hid (by rw [if_pos hk0, List.append_nil]; exact ⟨HK.out.1, HK.out.2.2⟩)
          clear hk0
          go_wp2_with fail
          go_meet
          exact ⟨_, rfl, HF⟩
        · have hkz : (0 : Int) < (k : Int) := by omega
          have hkn : 0 < k := by omega
          have HK0 := Lib.hid hk0
          clear hk0
          go_wp2_with fail
          refine (S12.out _).mono ?_
          rintro e w2 ⟨rfl, hb2⟩
          have HB2 := Lib.hid hb2
          clear hb2
          go_wp2_with fail
          refine (S20.out _).mono ?_
          rintro e w3 ⟨rfl, hb3⟩
          obtain ⟨v4, w4, hr4, hP4, hk4⟩ := ((HK.out.1.keep HB2.out).keep hb3).put2 (by have := HK.out.2.1; omega) 12 [] 0 20 [] 0
          have HR4 := Lib.hid hr4
          have HF : Hid (PL w w4 v4 (acc ++ (if k = 0 then [] else [tkS 12, tkS 20])) ∧ SgAt w4 G) := Lib.hid (by
            rw [if_neg HK0.out]
            exact ⟨hP4, HK.out.2.2.kept ((KeptK.below HB2.out).trans ((KeptK.below hb3).trans hk4))⟩)
          clear hb3 hr4 hP4 hk4
          go_wp2_with (at_builtin; refine wpList_append_runL rfl _ _ 24 rfl _ _ _ _ rfl rfl HR4.out ?_)
          go_meet
          exact ⟨_, rfl, HF⟩
      case rest =>
        obtain ⟨y, hy, HF⟩ := hcut
        subst hy
        obtain ⟨ac2, hac2⟩ : ∃ ac2, acc ++ (if k = 0 then [] else [tkS 12, tkS 20]) = ac2 := ⟨_, rfl⟩
        rw [hac2] at HF
        have hl2 : ac2.length ≤ 538 * k + 2 := by rw [← hac2, List.length_append]; have := HK.out.2.1; split <;> simp <;> omega
        have HAC2 := Lib.hid hac2
        have HL2 := Lib.hid hl2
        clear hac2 hl2
        go_wp2_with fail
        go_loopw [3, 6] (fun v vi wx => ∃ j : Nat, vi = .int .i64 (j : Int) ∧ j ≤ m ∧ Hid (PL w wx v (ac2 ++ (Q.take j).flatMap (fun p => combT p.comb ++ partT p)) ∧ (ac2 ++ (Q.take j).flatMap (fun p => combT p.comb ++ partT p)).length ≤ 538 * k + 2 + 67 * j ∧ SgAt wx G)) (fun _ vi _ => m - (intOf vi).toNat)
        case atStart => exact ⟨0, rfl, by omega, Lib.hid ⟨by simpa using HF.out.1, by simpa using HL2.out, HF.out.2⟩⟩
        case round =>
          obtain ⟨j, rfl, hj, HJ⟩ := hrel
          have d1 := HD1.out wr HJ.out.1.bel
          by_cases hjm : j < m
          · have hjz : (j : Int) < (m : Int) := by omega
            have hjl : j < ps.length := by have := HM.out; omega
            have hjQ : j < Q.length := by have := HQL.out; omega
            have hq : Q[j] = (ps[j]).p := by have := HQQ.out; subst this; rw [List.getElem_map]
            have hfj := flat_take (fun p => combT p.comb ++ partT p) hjQ
            obtain ⟨hrp, hc0, hc4⟩ := right_at HRK.out hjQ
            obtain ⟨hcz, hcp⟩ := right_comb HRK.out hjQ
            rw [hq] at hfj hrp hc0 hc4 hcz hcp
            obtain ⟨pb, po, hpa, p1, hat, hpok⟩ := (HOK.out w (Below.refl _ _)).pts.get hjl
            have hpa : pa = some ⟨pb, po, none⟩ := hpa
            subst hpa
            have hat2 := hat.below HJ.out.1.bel p1
            have hpok2 := fun W (hW : Below w.heap.size w W) => hpok.below hW
            generalize ps[j] = x at *
            obtain ⟨⟨co, tg, id, cl, ts, st⟩, ca, cc, ta, tc⟩ := x
            obtain ⟨e0, e1, e2, e3, e4, e5⟩ := hat2
            simp only at e0 e1 e2 e3 e4 e5 hfj hrp hc0 hc4 hcz hcp
            obtain ⟨ln, hln⟩ : ∃ n, cl.length = n := ⟨_, rfl⟩
            obtain ⟨lm, hlm⟩ : ∃ n, ts.length = n := ⟨_, rfl⟩
            have PT := Lib.hid fun W (hW : Below w.heap.size w W) => refPartTokens7 co st tg id ca ta cc tc ln lm cl ts W hln hlm (hpok2 W hW) hrp
            have hcl := combT_len co
            have hpl := partT_len hrp
            rw [hln] at e3
            rw [hlm] at e4
            generalize partT ⟨co, tg, id, cl, ts, st⟩ = X2 at *
            obtain ⟨n2, hn2⟩ : ∃ n, X2.length = n := ⟨_, rfl⟩
            rw [hn2] at hpl
            have HN2 := Lib.hid hn2
            have HFJ := Lib.hid hfj
            have HCZ := Lib.hid hcz
            have HCP := Lib.hid hcp
            have HC0 := Lib.hid hc0
            have HC4 := Lib.hid hc4
            obtain ⟨LL, hLL⟩ : ∃ L, ac2 ++ (Q.take j).flatMap (fun p => combT p.comb ++ partT p) = L := ⟨_, rfl⟩
            rw [hLL] at HJ
            have HLL := Lib.hid hLL
            clear hat hpok hpok2 hq hfj hrp hc0 hc4 hln hlm hn2 hcz hcp hLL
            go_upto_if 41 with fail
            clear d1 e0 e1 e2 e3 e4 e5
            have hbx2 := heap_alloc_new wr (.cells #[.int .i64 co, .string ⟨tg.toArray⟩, .string ⟨id.toArray⟩, .slice ca ln cc, .slice ta lm tc, .int .i64 st] 53)
            have HJ1 : Hid (PL w (wr.alloc (.cells #[.int .i64 co, .string ⟨tg.toArray⟩, .string ⟨id.toArray⟩, .slice ca ln cc, .slice ta lm tc, .int .i64 st] 53)) u3 LL ∧ SgAt (wr.alloc (.cells #[.int .i64 co, .string ⟨tg.toArray⟩, .string ⟨id.toArray⟩, .slice ca ln cc, .slice ta lm tc, .int .i64 st] 53)) G) := Lib.hid ⟨HJ.out.1.keep (below_one7 wr _), HJ.out.2.2.kept (KeptK.below (below_one7 wr _))⟩
            obtain ⟨B2, hB2⟩ : ∃ B, wr.heap.size = B := ⟨_, rfl⟩
            rw [hB2] at hbx2 ⊢
            generalize wr.alloc (.cells #[.int .i64 co, .string ⟨tg.toArray⟩, .string ⟨id.toArray⟩, .slice ca ln cc, .slice ta lm tc, .int .i64 st] 53) = W2 at *
            have HBX2 := Lib.hid hbx2
            clear hB2 hbx2
            go_cut [3] (fun v wx => ∃ y, y = v ∧ Hid (PL w wx y (LL ++ (if j = 0 then [] else [tkS 20])) ∧ SgAt wx G ∧ wx.heap[B2]? = some (.cells #[.int .i64 co, .string ⟨tg.toArray⟩, .string ⟨id.toArray⟩, .slice ca ln cc, .slice ta lm tc, .int .i64 st] 53 (0, 0))))
            case first =>
              by_cases hj0 : j = 0
              · have hjz0 : ¬ (0 : Int) < (j : Int) := by omega
                have HF0 := Lib.hid hj0
                clear hj0
                go_wp2_with fail
                go_meet
                exact ⟨_, rfl, Lib.hid ⟨by rw [if_pos HF0.out, List.append_nil]; exact HJ1.out.1, HJ1.out.2, HBX2.out⟩⟩
              · have hjz0 : (0 : Int) < (j : Int) := by omega
                have hjn0 : 0 < j := by omega
                have HF0 := Lib.hid hj0
                clear hj0
                go_wp2_with fail
                refine (S20.out _).mono ?_
                rintro e w3 ⟨rfl, hb3⟩
                obtain ⟨v4, w4, hr4, hP4, hk4⟩ := (HJ1.out.1.keep hb3).put1 (by have := HJ.out.2.1; omega) 20 [] 0
                have HR4 := Lib.hid hr4
                have HF4 : Hid (PL w w4 v4 (LL ++ (if j = 0 then [] else [tkS 20])) ∧ SgAt w4 G ∧ w4.heap[B2]? = some (.cells #[.int .i64 co, .string ⟨tg.toArray⟩, .string ⟨id.toArray⟩, .slice ca ln cc, .slice ta lm tc, .int .i64 st] 53 (0, 0))) := Lib.hid (by
                  rw [if_neg HF0.out]
                  exact ⟨hP4, HJ1.out.2.kept ((KeptK.below hb3).trans hk4), ((KeptK.below hb3).trans hk4) _ _ _ _ HBX2.out kinds7.1⟩)
                clear hb3 hr4 hP4 hk4
                go_wp2_with (at_builtin; refine wpList_append_runL rfl _ _ 24 rfl _ _ _ _ rfl rfl HR4.out ?_)
                go_meet
                exact ⟨_, rfl, HF4⟩
            case rest =>
              obtain ⟨y, hy, HP3⟩ := hcut
              subst hy
              clear HJ1 HBX2
              have f0 : wc.cell? ⟨B2, 0, none⟩ = some (.int .i64 co) := cell_of HP3.out.2.2 rfl
              go_upto_if 48 with fail
              clear f0
              go_cut [3] (fun v wx => ∃ y, y = v ∧ Hid (PL w wx y (LL ++ combT co) ∧ SgAt wx G ∧ wx.heap[B2]? = some (.cells #[.int .i64 co, .string ⟨tg.toArray⟩, .string ⟨id.toArray⟩, .slice ca ln cc, .slice ta lm tc, .int .i64 st] 53 (0, 0))))
              case first =>
                by_cases h2 : 2 ≤ co
                · have h2z : decide (2 ≤ co) = true := decide_eq_true h2
                  have hjn : ¬ j = 0 := fun h => by have := HCZ.out h; omega
                  have hct : LL ++ combT co = (LL ++ (if j = 0 then [] else [tkS 20])) ++ [tkD (markS co), tkS 20] := by
                    rw [if_neg hjn]
                    unfold combT
                    rw [if_neg (by omega), if_neg (by omega)]
                    simp
                  obtain ⟨ck, hck, hcell⟩ := HP3.out.2.1.get co h2 HC4.out
                  have f0 : wc.cell? ⟨B2, 0, none⟩ = some (.int .i64 co) := cell_of HP3.out.2.2 rfl
                  have hGl : G < wc.heap.size := (Array.getElem?_eq_some_iff.1 HP3.out.2.1).1
                  have hc5 : ck < 5 := by have := HC4.out; omega
                  have HCT := Lib.hid hct
                  obtain ⟨mk, hmk⟩ : ∃ x, markS co = x := ⟨_, rfl⟩
                  rw [hmk] at hcell HCT
                  have I := Lib.hid (fun W => tok_b 19 mk W)
                  subst hck
                  clear hct hjn hmk
                  go_wp2_with fail
                  refine (I.out _).mono ?_
                  rintro e w2 ⟨rfl, hb2⟩
                  have HB2 := Lib.hid hb2
                  clear hb2
                  go_wp2_with fail
                  refine (S20.out _).mono ?_
                  rintro e w3 ⟨rfl, hb3⟩
                  obtain ⟨v4, w4, hr4, hP4, hk4⟩ := ((HP3.out.1.keep HB2.out).keep hb3).put2 (by rw [List.length_append]; have := HJ.out.2.1; split <;> simp <;> omega) 19 mk 0 20 [] 0
                  have HR4 := Lib.hid hr4
                  have HF4 : Hid (PL w w4 v4 (LL ++ combT (ck : Int)) ∧ SgAt w4 G ∧ w4.heap[B2]? = some (.cells #[.int .i64 (ck : Int), .string ⟨tg.toArray⟩, .string ⟨id.toArray⟩, .slice ca ln cc, .slice ta lm tc, .int .i64 st] 53 (0, 0))) := Lib.hid (by
                    rw [HCT.out]
                    exact ⟨hP4, HP3.out.2.1.kept ((KeptK.below HB2.out).trans ((KeptK.below hb3).trans hk4)), ((KeptK.below HB2.out).trans ((KeptK.below hb3).trans hk4)) _ _ _ _ HP3.out.2.2 kinds7.1⟩)
                  clear hb3 hr4 hP4 hk4
                  go_wp2_with (at_builtin; refine wpList_append_runL rfl _ _ 24 rfl _ _ _ _ rfl rfl HR4.out ?_)
                  go_meet
                  exact ⟨_, rfl, HF4⟩
                · have h2z : decide (2 ≤ co) = false := decide_eq_false h2
                  have f0 : wc.cell? ⟨B2, 0, none⟩ = some (.int .i64 co) := cell_of HP3.out.2.2 rfl
                  have hct : (LL ++ (if j = 0 then [] else [tkS 20])) = LL ++ combT co := by
                    unfold combT
                    by_cases hj0 : j = 0
                    · rw [if_pos hj0, if_pos (HCZ.out hj0)]
                    · have := HCP.out (by omega)
                      rw [if_neg hj0, if_neg (by omega), if_pos (by omega)]
                  have HCT := Lib.hid hct
                  clear hct
                  go_wp2_with fail
                  go_meet
                  exact ⟨_, rfl, Lib.hid ⟨by rw [← HCT.out]; exact HP3.out.1, HP3.out.2⟩⟩
              case rest =>
                obtain ⟨y, hy, HP4⟩ := hcut
                subst hy
                clear HP3
                have hcl4 : (LL ++ combT co).length ≤ 538 * k + 2 + 67 * j + 3 := by rw [List.length_append]; have := HJ.out.2.1; omega
                have HCL4 := Lib.hid hcl4
                have f0 := cell_of (k := 0) HP4.out.2.2 rfl
                have f1 := cell_of (k := 1) HP4.out.2.2 rfl
                have f2 := cell_of (k := 2) HP4.out.2.2 rfl
                have f3 := cell_of (k := 3) HP4.out.2.2 rfl
                have f4 := cell_of (k := 4) HP4.out.2.2 rfl
                have f5 := cell_of (k := 5) HP4.out.2.2 rfl
                clear hcl4
                go_wp2_with fail
                clear f0 f1 f2 f3 f4 f5
                refine (PT.out _ HP4.out.1.bel).mono ?_
                rintro e w5 ⟨ya, yc, rfl, hyT, hb5, hy1, hy2⟩
                obtain ⟨v6, w6, hr6, hP6, hk6⟩ := (HP4.out.1.keep hb5).putL (by have := HCL4.out; omega) ya X2 n2 yc HN2.out (by omega) hyT
                have HR6 := Lib.hid hr6
                have HP6 : Hid (PL w w6 v6 (ac2 ++ (Q.take (j + 1)).flatMap (fun p => combT p.comb ++ partT p)) ∧ (ac2 ++ (Q.take (j + 1)).flatMap (fun p => combT p.comb ++ partT p)).length ≤ 538 * k + 2 + 67 * (j + 1) ∧ SgAt w6 G) := Lib.hid (by
                  rw [HFJ.out, ← List.append_assoc, HLL.out, ← List.append_assoc]
                  refine ⟨hP6, ?_, HP4.out.2.1.kept ((KeptK.below hb5).trans hk6)⟩
                  rw [List.length_append]
                  have := HCL4.out
                  have := HN2.out
                  omega)
                rw [HN2.out]
                clear hb5 hr6 hP6 hk6 hyT hy1 hy2
                go_wp2_with (at_builtin; refine wpList_append_runL rfl _ _ 24 rfl _ _ _ _ rfl rfl HR6.out ?_)
                go_roundw
                case rel => exact ⟨j + 1, by go_num, by omega, HP6⟩
                case measure => simp [intOf]; omega
          · have hjz : ¬ (j : Int) < (m : Int) := by omega
            have HE : Hid (PL w wr u3 (lstF 0 (P.take (k + 1))) ∧ (lstF 0 (P.take (k + 1))).length ≤ 538 * (k + 1) ∧ SgAt wr G) := Lib.hid (by
              have h := HJ.out
              rw [List.take_of_length_le (by have := HQL.out; omega)] at h
              have e : lstF 0 (P.take (k + 1)) = ac2 ++ Q.flatMap (fun p => combT p.comb ++ partT p) := by
                rw [HFT.out, HACC.out, ← HAC2.out, List.append_assoc]; rfl
              rw [e]
              exact ⟨h.1, by have := h.2.1; omega, h.2.2⟩)
            clear HJ
            go_wp2_with fail
            go_roundw
            case rel => exact ⟨k + 1, by go_num, by omega, HE⟩
            case measure => simp [intOf]; omega
    · have hltz : ¬ (k : Int) < (n : Int) := by omega
      have HE : Hid (PL w wr u3 (listT P)) := Lib.hid (by
        have h := HK.out.1
        rw [List.take_of_length_le (by have := HPL.out; omega)] at h
        exact h)
      clear HK
      go_wp2_with fail
      go_ret
      exact HE.out.row.told HE.out.bel
end Go.Proofs.Ytfbfndknhabmhaa
