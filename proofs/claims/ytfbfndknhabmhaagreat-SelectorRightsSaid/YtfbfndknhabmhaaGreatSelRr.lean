/- Joined texts: SelRr SelRs. -/
import Derived.Test.YtfbfndknhabmhaaGreatSelMa
import Derived.Test.YtfbfndknhabmhaaGreatWalkA
import Derived.Test.YtfbfndknhabmhaaGreatSelGa
import Derived.Test.YtfbfndknhabmhaaGreatSelWa
import Derived.Deep.CutBlock
namespace Go.Proofs.YtfbfndknhabmhaaGreat
open Go.RowKit TreN LexP FixP SynP ValP SelP FixM
set_option linter.unusedVariables false

theorem rname7 (x : List UInt8) (hx : x.length ≤ maxLen) (w : World) : Calls Tryz.prog 38 #[.string ⟨x.toArray⟩] w fun e w' => e = .returned (.bool (nameL x)) ∧ w = w' := refName_any ⟨x.toArray⟩ (by show x.toArray.size ≤ maxLen; simpa using hx) w
theorem rtext7 (x : List UInt8) (hx : x.length ≤ maxLen) (w : World) : Calls Tryz.prog 65 #[.string ⟨x.toArray⟩] w fun e w' => e = .returned (.bool (textL x)) ∧ w = w' := refText_any ⟨x.toArray⟩ (by show x.toArray.size ≤ maxLen; simpa using hx) w
theorem textL_nil : textL [] = true := by decide
theorem rightT_ref (t : Tst) : rightT t = (nameL t.name && (textL t.value && (t.equal || decide (t.value = [])))) := by
  unfold rightT
  cases h : t.equal
  · by_cases hv : t.value = []
    · rw [hv, textL_nil]; simp
    · rw [decide_eq_false hv]; simp
  · simp

set_option maxRecDepth 100000 in
set_option maxHeartbeats 1000000 in
theorem refRightTest7 (n v : List UInt8) (q : Bool) (h1 : n.length ≤ maxLen) (h2 : v.length ≤ maxLen) (w : World) : Calls Tryz.prog 39 #[.agg #[.string ⟨n.toArray⟩, .bool q, .string ⟨v.toArray⟩]] w fun e w' => e = .returned (.bool (rightT ⟨n, q, v⟩)) ∧ Below w.heap.size w w' := by
  have C1 := Lib.hid (fun W => rname7 n h1 W)
  have C2 := Lib.hid (fun W => rtext7 v h2 W)
  have HB := Lib.hid (below_one7 w (.cells #[.string ⟨n.toArray⟩, .bool q, .string ⟨v.toArray⟩] 57))
  rw [rightT_ref]
  simp only
  obtain ⟨b, hb⟩ : ∃ b, nameL n = b := ⟨_, rfl⟩
  obtain ⟨c, hc⟩ : ∃ b, textL v = b := ⟨_, rfl⟩
  rw [hb] at C1 ⊢
  rw [hc] at C2 ⊢
  clear h1 h2 hb hc
  have hv : (v = [] ∧ decide (v = []) = true) ∨ (∃ x r, v = x :: r ∧ decide (v = []) = false) := by
    cases v with
    | nil => exact Or.inl ⟨rfl, rfl⟩
    | cons x r => exact Or.inr ⟨x, r, rfl, rfl⟩
  cases b
  · rw [Bool.false_and]
    clear hv
    go_enter Tryz.func39, Tryz.ntmps39
    go_wp2_with fail
    refine (C1.out _).mono ?_
    rintro e w1 ⟨rfl, rfl⟩
    go_wp2_with fail
    go_ret
    exact ⟨rfl, HB.out⟩
  · rw [Bool.true_and]
    cases c
    · rw [Bool.false_and]
      clear hv
      go_enter Tryz.func39, Tryz.ntmps39
      go_wp2_with fail
      refine (C1.out _).mono ?_
      rintro e w1 ⟨rfl, rfl⟩
      go_wp2_with fail
      refine (C2.out _).mono ?_
      rintro e w1 ⟨rfl, rfl⟩
      go_wp2_with fail
      go_ret
      exact ⟨rfl, HB.out⟩
    · rw [Bool.true_and]
      cases q
      · rw [Bool.false_or]
        rcases hv with ⟨rfl, hv⟩ | ⟨x, r, rfl, hv⟩
        all_goals
          rw [hv]
          clear hv
          go_enter Tryz.func39, Tryz.ntmps39
          go_wp2_with fail
          refine (C1.out _).mono ?_
          rintro e w1 ⟨rfl, rfl⟩
          go_wp2_with fail
          refine (C2.out _).mono ?_
          rintro e w1 ⟨rfl, rfl⟩
          go_wp2_with fail
          go_ret
          exact ⟨rfl, HB.out⟩
      · rw [Bool.true_or]
        clear hv
        go_enter Tryz.func39, Tryz.ntmps39
        go_wp2_with fail
        refine (C1.out _).mono ?_
        rintro e w1 ⟨rfl, rfl⟩
        go_wp2_with fail
        refine (C2.out _).mono ?_
        rintro e w1 ⟨rfl, rfl⟩
        go_wp2_with fail
        go_ret
        exact ⟨rfl, HB.out⟩

/-- the six tests ahead of the loops -/
def okP (p : Prt) : Bool := orNone p.tag && (orNone p.id && (decide (0 ≤ p.states) && (decide (p.states ≤ 7) && (decide (p.classes.length ≤ 8) && decide (p.tests.length ≤ 8)))))
theorem rightPt_ok (p : Prt) : rightPt p = ((okP p && p.classes.all nameL) && p.tests.all rightT) := by
  unfold rightPt okP
  cases orNone p.tag <;> cases orNone p.id <;> cases decide (0 ≤ p.states) <;> cases decide (p.states ≤ 7) <;> cases decide (p.classes.length ≤ 8) <;> cases decide (p.tests.length ≤ 8) <;> rfl
theorem all_drop7 {α : Type} (f : α → Bool) {l : List α} {k : Nat} (h : k < l.length) : (l.drop k).all f = (f l[k] && (l.drop (k + 1)).all f) := by
  rw [List.drop_eq_getElem_cons h, List.all_cons]
theorem orNone_cases (x : List UInt8) : (x = [] ∧ orNone x = true) ∨ (∃ c r, x = c :: r ∧ orNone x = nameL x) := by
  cases x with
  | nil => exact Or.inl ⟨rfl, rfl⟩
  | cons c r => exact Or.inr ⟨c, r, rfl, rfl⟩

set_option maxRecDepth 100000 in
set_option maxHeartbeats 4000000 in
theorem refRightPart7 (co st : Int) (tg id : List UInt8) (ca ta : Option Addr) (cc tc n m : Nat) (cl : List (List UInt8)) (ts : List Tst) (w : World) (hn : cl.length = n) (hm : ts.length = m) (h : PtOk w ⟨⟨co, tg, id, cl, ts, st⟩, ca, cc, ta, tc⟩) :
    Calls Tryz.prog 19 #[.agg #[.int .i64 co, .string ⟨tg.toArray⟩, .string ⟨id.toArray⟩, .slice ca n cc, .slice ta m tc, .int .i64 st]] w fun e w' => e = .returned (.bool (rightPt ⟨co, tg, id, cl, ts, st⟩)) ∧ Below w.heap.size w w' := by
  rw [rightPt_ok]
  have C1 := Lib.hid (fun W => rname7 tg h.tag W)
  have C2 := Lib.hid (fun W => rname7 id h.id W)
  have hnz : (n : Int) ≤ 9223372036854775807 := by have := h.hcc; have := h.hcm; unfold maxLen at this; simp only at *; omega
  have hmz : (m : Int) ≤ 9223372036854775807 := by have := h.htc; have := h.htm; unfold maxLen at this; simp only at *; omega
  obtain ⟨R0, hK0⟩ : ∃ b, okP ⟨co, tg, id, cl, ts, st⟩ = b := ⟨_, rfl⟩
  rw [hK0]
  have hR0 : (orNone tg && (orNone id && (decide (0 ≤ st) && (decide (st ≤ 7) && (decide (n ≤ 8) && decide (m ≤ 8)))))) = R0 := by rw [← hK0, ← hn, ← hm]; rfl
  clear hK0
  show Calls _ _ _ _ fun e w' => e = .returned (.bool ((R0 && cl.all nameL) && ts.all rightT)) ∧ _
  obtain ⟨R1, hR1⟩ : ∃ b, (R0 && cl.all nameL) = b := ⟨_, rfl⟩
  rw [hR1]
  obtain ⟨R2, hR2⟩ : ∃ b, (R1 && ts.all rightT) = b := ⟨_, rfl⟩
  rw [hR2]
  obtain ⟨wb, hwb⟩ : ∃ wb, w.alloc (.cells #[.int .i64 co, .string ⟨tg.toArray⟩, .string ⟨id.toArray⟩, .slice ca n cc, .slice ta m tc, .int .i64 st] 36) = wb := ⟨_, rfl⟩
  have hA : wb.heap[w.heap.size]? = some (.cells #[.int .i64 co, .string ⟨tg.toArray⟩, .string ⟨id.toArray⟩, .slice ca n cc, .slice ta m tc, .int .i64 st] 36 (0, 0)) := by rw [← hwb]; exact heap_alloc_new w _
  have hbel : Below w.heap.size w wb := by rw [← hwb]; exact below_one7 w _
  have d1 := cell_of hA (k := 1) rfl
  have d2 := cell_of hA (k := 2) rfl
  have d3 := cell_of hA (k := 3) rfl
  have d4 := cell_of hA (k := 4) rfl
  have d5 := cell_of hA (k := 5) rfl
  have HA := Lib.hid hA
  have HBEL := Lib.hid hbel
  have HOK := Lib.hid (h.below hbel)
  have HN := Lib.hid hn
  have HM := Lib.hid hm
  have HR1 := Lib.hid hR1
  have HR2 := Lib.hid hR2
  clear hA hbel h hn hm hR1 hR2
  have HR0 := Lib.hid hR0
  clear hR0
  go_enter Tryz.func19, Tryz.ntmps19
  go_upto_region 1 with (fail)
  clear hwb
  go_cut [3] (fun v wx => wx = wb ∧ v = .bool R0)
  case first =>
    have hr := HR0.out
    obtain ⟨b3, h3⟩ : ∃ b, decide (0 ≤ st) = b := ⟨_, rfl⟩
    obtain ⟨b4, h4⟩ : ∃ b, decide (st ≤ 7) = b := ⟨_, rfl⟩
    obtain ⟨b5, h5⟩ : ∃ b, decide (n ≤ 8) = b := ⟨_, rfl⟩
    obtain ⟨b6, h6⟩ : ∃ b, decide (m ≤ 8) = b := ⟨_, rfl⟩
    have h5z : decide ((n : Int) ≤ 8) = b5 := by rw [← h5]; exact decide_eq_decide.2 (by omega)
    have h6z : decide ((m : Int) ≤ 8) = b6 := by rw [← h6]; exact decide_eq_decide.2 (by omega)
    rw [h3, h4, h5, h6] at hr
    clear HA HOK HR0
    rcases orNone_cases tg with ⟨h0, ht⟩ | ⟨xt, rt, h0, ht⟩
    · rw [ht, Bool.true_and] at hr
      clear ht
      subst h0
      rcases orNone_cases id with ⟨h0, ht⟩ | ⟨xi, ri, h0, ht⟩
      · rw [ht, Bool.true_and] at hr
        clear ht
        subst h0
        cases b3
        · rw [Bool.false_and] at hr
          subst hr
          go_wp2_with fail
          go_meet
          exact ⟨rfl, rfl⟩
        · rw [Bool.true_and] at hr
          cases b4
          · rw [Bool.false_and] at hr
            subst hr
            go_wp2_with fail
            go_meet
            exact ⟨rfl, rfl⟩
          · rw [Bool.true_and] at hr
            cases b5
            · rw [Bool.false_and] at hr
              subst hr
              go_wp2_with fail
              go_meet
              exact ⟨rfl, rfl⟩
            · rw [Bool.true_and] at hr
              cases b6
              · skip
                subst hr
                go_wp2_with fail
                go_meet
                exact ⟨rfl, rfl⟩
              · skip
                subst hr
                go_wp2_with fail
                go_meet
                exact ⟨rfl, rfl⟩
      · rw [ht] at hr
        clear ht
        obtain ⟨bb, hbb⟩ : ∃ b, nameL id = b := ⟨_, rfl⟩
        rw [hbb] at hr C2
        clear hbb
        subst h0
        cases bb
        · rw [Bool.false_and] at hr
          subst hr
          go_wp2_with (first | (go_at_call 38; ((with_reducible refine (C2.out _).mono ?_); rintro e w' ⟨rfl, rfl⟩)))
          go_meet
          exact ⟨rfl, rfl⟩
        · rw [Bool.true_and] at hr
          cases b3
          · rw [Bool.false_and] at hr
            subst hr
            go_wp2_with (first | (go_at_call 38; ((with_reducible refine (C2.out _).mono ?_); rintro e w' ⟨rfl, rfl⟩)))
            go_meet
            exact ⟨rfl, rfl⟩
          · rw [Bool.true_and] at hr
            cases b4
            · rw [Bool.false_and] at hr
              subst hr
              go_wp2_with (first | (go_at_call 38; ((with_reducible refine (C2.out _).mono ?_); rintro e w' ⟨rfl, rfl⟩)))
              go_meet
              exact ⟨rfl, rfl⟩
            · rw [Bool.true_and] at hr
              cases b5
              · rw [Bool.false_and] at hr
                subst hr
                go_wp2_with (first | (go_at_call 38; ((with_reducible refine (C2.out _).mono ?_); rintro e w' ⟨rfl, rfl⟩)))
                go_meet
                exact ⟨rfl, rfl⟩
              · rw [Bool.true_and] at hr
                cases b6
                · skip
                  subst hr
                  go_wp2_with (first | (go_at_call 38; ((with_reducible refine (C2.out _).mono ?_); rintro e w' ⟨rfl, rfl⟩)))
                  go_meet
                  exact ⟨rfl, rfl⟩
                · skip
                  subst hr
                  go_wp2_with (first | (go_at_call 38; ((with_reducible refine (C2.out _).mono ?_); rintro e w' ⟨rfl, rfl⟩)))
                  go_meet
                  exact ⟨rfl, rfl⟩
    · rw [ht] at hr
      clear ht
      obtain ⟨bb, hbb⟩ : ∃ b, nameL tg = b := ⟨_, rfl⟩
      rw [hbb] at hr C1
      clear hbb
      subst h0
      cases bb
      · rw [Bool.false_and] at hr
        subst hr
        go_wp2_with (first | (go_at_call 38; ((with_reducible refine (C1.out _).mono ?_); rintro e w' ⟨rfl, rfl⟩)))
        go_meet
        exact ⟨rfl, rfl⟩
      · rw [Bool.true_and] at hr
        rcases orNone_cases id with ⟨h0, ht⟩ | ⟨xi, ri, h0, ht⟩
        · rw [ht, Bool.true_and] at hr
          clear ht
          subst h0
          cases b3
          · rw [Bool.false_and] at hr
            subst hr
            go_wp2_with (first | (go_at_call 38; ((with_reducible refine (C1.out _).mono ?_); rintro e w' ⟨rfl, rfl⟩)))
            go_meet
            exact ⟨rfl, rfl⟩
          · rw [Bool.true_and] at hr
            cases b4
            · rw [Bool.false_and] at hr
              subst hr
              go_wp2_with (first | (go_at_call 38; ((with_reducible refine (C1.out _).mono ?_); rintro e w' ⟨rfl, rfl⟩)))
              go_meet
              exact ⟨rfl, rfl⟩
            · rw [Bool.true_and] at hr
              cases b5
              · rw [Bool.false_and] at hr
                subst hr
                go_wp2_with (first | (go_at_call 38; ((with_reducible refine (C1.out _).mono ?_); rintro e w' ⟨rfl, rfl⟩)))
                go_meet
                exact ⟨rfl, rfl⟩
              · rw [Bool.true_and] at hr
                cases b6
                · skip
                  subst hr
                  go_wp2_with (first | (go_at_call 38; ((with_reducible refine (C1.out _).mono ?_); rintro e w' ⟨rfl, rfl⟩)))
                  go_meet
                  exact ⟨rfl, rfl⟩
                · skip
                  subst hr
                  go_wp2_with (first | (go_at_call 38; ((with_reducible refine (C1.out _).mono ?_); rintro e w' ⟨rfl, rfl⟩)))
                  go_meet
                  exact ⟨rfl, rfl⟩
        · rw [ht] at hr
          clear ht
          obtain ⟨bb, hbb⟩ : ∃ b, nameL id = b := ⟨_, rfl⟩
          rw [hbb] at hr C2
          clear hbb
          subst h0
          cases bb
          · rw [Bool.false_and] at hr
            subst hr
            go_wp2_with (first | (go_at_call 38; ((with_reducible refine (C1.out _).mono ?_); rintro e w' ⟨rfl, rfl⟩)) | (go_at_call 38; ((with_reducible refine (C2.out _).mono ?_); rintro e w' ⟨rfl, rfl⟩)))
            go_meet
            exact ⟨rfl, rfl⟩
          · rw [Bool.true_and] at hr
            cases b3
            · rw [Bool.false_and] at hr
              subst hr
              go_wp2_with (first | (go_at_call 38; ((with_reducible refine (C1.out _).mono ?_); rintro e w' ⟨rfl, rfl⟩)) | (go_at_call 38; ((with_reducible refine (C2.out _).mono ?_); rintro e w' ⟨rfl, rfl⟩)))
              go_meet
              exact ⟨rfl, rfl⟩
            · rw [Bool.true_and] at hr
              cases b4
              · rw [Bool.false_and] at hr
                subst hr
                go_wp2_with (first | (go_at_call 38; ((with_reducible refine (C1.out _).mono ?_); rintro e w' ⟨rfl, rfl⟩)) | (go_at_call 38; ((with_reducible refine (C2.out _).mono ?_); rintro e w' ⟨rfl, rfl⟩)))
                go_meet
                exact ⟨rfl, rfl⟩
              · rw [Bool.true_and] at hr
                cases b5
                · rw [Bool.false_and] at hr
                  subst hr
                  go_wp2_with (first | (go_at_call 38; ((with_reducible refine (C1.out _).mono ?_); rintro e w' ⟨rfl, rfl⟩)) | (go_at_call 38; ((with_reducible refine (C2.out _).mono ?_); rintro e w' ⟨rfl, rfl⟩)))
                  go_meet
                  exact ⟨rfl, rfl⟩
                · rw [Bool.true_and] at hr
                  cases b6
                  · skip
                    subst hr
                    go_wp2_with (first | (go_at_call 38; ((with_reducible refine (C1.out _).mono ?_); rintro e w' ⟨rfl, rfl⟩)) | (go_at_call 38; ((with_reducible refine (C2.out _).mono ?_); rintro e w' ⟨rfl, rfl⟩)))
                    go_meet
                    exact ⟨rfl, rfl⟩
                  · skip
                    subst hr
                    go_wp2_with (first | (go_at_call 38; ((with_reducible refine (C1.out _).mono ?_); rintro e w' ⟨rfl, rfl⟩)) | (go_at_call 38; ((with_reducible refine (C2.out _).mono ?_); rintro e w' ⟨rfl, rfl⟩)))
                    go_meet
                    exact ⟨rfl, rfl⟩
  case rest =>
    obtain ⟨e1, e2⟩ := hcut
    subst e2
    rw [e1]
    clear e1
    have d3 := cell_of HA.out (k := 3) rfl
    have d4 := cell_of HA.out (k := 4) rfl
    clear C1 C2 HR0
    go_upto_block 0 with (fail)
    go_cut [3] (fun v wx => wx = wb ∧ v = .bool R1)
    case first =>
      have HJ0 : Hid ((R0 && (cl.drop 0).all nameL) = R1) := HR1
      clear HR2 HM d4
      go_wp2_with fail
      go_loop [3, 4] (fun v i => ∃ (k : Nat) (ok : Bool), v = .bool ok ∧ i = .int .i64 (k : Int) ∧ k ≤ n ∧ Hid ((ok && (cl.drop k).all nameL) = R1)) (fun _ i => n - (intOf i).toNat)
      case atStart => exact ⟨0, R0, rfl, rfl, by omega, HJ0⟩
      case round =>
        obtain ⟨k, ok, rfl, rfl, hk, HJ⟩ := hrel
        by_cases hlt : k < n
        · have hltz : (k : Int) < (n : Int) := by omega
          have hkl : k < cl.length := by have := HN.out; omega
          cases ok
          · have HF : Hid (R1 = false) := Lib.hid (by have := HJ.out; rw [Bool.false_and] at this; exact this.symm)
            clear HJ hkl
            go_wp2_with fail
            go_meet
            exact ⟨rfl, by rw [HF.out]⟩
          · obtain ⟨b, o, hca, _, c0⟩ := HOK.out.hc.get hkl
            simp only at hca
            have hj := HJ.out
            rw [Bool.true_and, all_drop7 nameL hkl] at hj
            have C := Lib.hid (rname7 cl[k] (HOK.out.cls _ (List.getElem_mem hkl)) wb)
            obtain ⟨bb, hbb⟩ : ∃ b, nameL cl[k] = b := ⟨_, rfl⟩
            rw [hbb] at hj C
            have HJ2 := Lib.hid hj
            simp only at c0
            generalize cl[k] = y at *
            subst hca
            clear hj hbb HJ hkl
            go_wp2_with fail
            refine C.out.mono ?_
            rintro e w1 ⟨rfl, rfl⟩
            go_wp2_with fail
            go_round
            case rel => exact ⟨k + 1, bb, rfl, by go_num, by omega, HJ2⟩
            case measure => simp [intOf]; omega
        · have hltz : ¬ (k : Int) < (n : Int) := by omega
          have HF : Hid (ok = R1) := Lib.hid (by
            have := HJ.out
            rw [List.drop_of_length_le (by have := HN.out; omega)] at this
            rw [← this]; simp)
          clear HJ
          go_wp2_with fail
          go_meet
          exact ⟨rfl, by rw [HF.out]⟩
    case rest =>
      obtain ⟨e1, e2⟩ := hcut
      subst e2
      rw [e1]
      clear e1 d3 HR1 HN
      go_wp2_with fail
      have HJ0 : Hid ((R1 && (ts.drop 0).all rightT) = R2) := HR2
      clear d4
      go_loopw [3, 5] (fun v i wr => ∃ (k : Nat) (ok : Bool), v = .bool ok ∧ i = .int .i64 (k : Int) ∧ k ≤ m ∧ Hid (Below wb.heap.size wb wr) ∧ Hid ((ok && (ts.drop k).all rightT) = R2)) (fun _ i _ => m - (intOf i).toNat)
      case atStart => exact ⟨0, R1, rfl, rfl, by omega, Lib.hid (Below.refl _ _), HJ0⟩
      case round =>
        obtain ⟨k, ok, rfl, rfl, hk, HW, HJ⟩ := hrel
        have hbl : w.heap.size < wb.heap.size := (Array.getElem?_eq_some_iff.1 HA.out).1
        have d4 : wr.cell? ⟨w.heap.size, 4, none⟩ = some (.slice ta m tc) := (HW.out.cell (p := ⟨w.heap.size, 4, none⟩) hbl).trans (cell_of HA.out (k := 4) rfl)
        by_cases hlt : k < m
        · have hltz : (k : Int) < (m : Int) := by omega
          have hkl : k < ts.length := by have := HM.out; omega
          cases ok
          · have HF : Hid (R2 = false) := Lib.hid (by have := HJ.out; rw [Bool.false_and] at this; exact this.symm)
            clear HJ hkl
            go_wp2_with fail
            go_ret
            exact ⟨ret_bool HF.out.symm, HBEL.out.trans (HW.out.mono HBEL.out.size)⟩
          · obtain ⟨b, o, hta, hg, c0, c1, c2⟩ := HOK.out.ht.get hkl
            simp only at hta c0 c1 c2
            have c0 := (HW.out.cell (p := ⟨b, o + k * 3, none⟩) hg).trans c0
            have c1 := (HW.out.cell (p := ⟨b, o + k * 3 + 1, none⟩) hg).trans c1
            have c2 := (HW.out.cell (p := ⟨b, o + k * 3 + 2, none⟩) hg).trans c2
            have hj := HJ.out
            rw [Bool.true_and, all_drop7 rightT hkl] at hj
            have hto := HOK.out.tst _ (List.getElem_mem hkl)
            generalize ts[k] = y at *
            obtain ⟨yn, yq, yv⟩ := y
            simp only at c0 c1 c2
            have C := Lib.hid (refRightTest7 yn yv yq hto.1 hto.2 wr)
            obtain ⟨bb, hbb⟩ : ∃ b, rightT ⟨yn, yq, yv⟩ = b := ⟨_, rfl⟩
            rw [hbb] at hj C
            have HJ2 := Lib.hid hj
            subst hta
            clear hj hbb HJ hkl hto
            go_wp2_with fail
            refine C.out.mono ?_
            rintro e w1 ⟨rfl, hb1⟩
            have HB1 := Lib.hid (HW.out.trans (hb1.mono HW.out.size))
            clear hb1 c0 c1 c2
            go_wp2_with fail
            go_roundw
            case rel => exact ⟨k + 1, bb, rfl, by go_num, by omega, HB1, HJ2⟩
            case measure => simp [intOf]; omega
        · have hltz : ¬ (k : Int) < (m : Int) := by omega
          have HF : Hid (ok = R2) := Lib.hid (by
            have := HJ.out
            rw [List.drop_of_length_le (by have := HM.out; omega)] at this
            rw [← this]; simp)
          clear HJ
          go_wp2_with fail
          go_ret
          exact ⟨ret_bool HF.out, HBEL.out.trans (HW.out.mono HBEL.out.size)⟩
end Go.Proofs.YtfbfndknhabmhaaGreat

namespace Go.Proofs.YtfbfndknhabmhaaGreat
open Go.RowKit TreN LexP FixP SynP ValP SelP FixM
set_option linter.unusedVariables false

set_option maxRecDepth 100000 in
set_option maxHeartbeats 4000000 in
theorem refRight7 (a : Option Addr) (l : List PtV) (n c : Nat) (w : World) (hn : l.length = n) (hm : n ≤ maxLen) (hp : Pts w a l) :
    Calls Tryz.prog 7 #[.agg #[.slice a n c]] w fun e w' => e = .returned (.bool (rightS (l.map PtV.p))) ∧ Below w.heap.size w w' := by
  unfold maxLen at hm
  have hnz : (n : Int) ≤ 9223372036854775807 := by omega
  obtain ⟨P, hP⟩ : ∃ P, l.map PtV.p = P := ⟨_, rfl⟩
  rw [hP]
  have hPl : P.length = n := by rw [← hP, List.length_map, hn]
  have hr : rightS P = (decide (0 < n) && (decide (n ≤ 8) && rightF 0 P)) := by unfold rightS; rw [hPl]
  rw [hr]
  obtain ⟨wb, hwb⟩ : ∃ wb, w.alloc (.cells #[.slice a n c] 24) = wb := ⟨_, rfl⟩
  have hA : wb.heap[w.heap.size]? = some (.cells #[.slice a n c] 24 (0, 0)) := by rw [← hwb]; exact heap_alloc_new w _
  have hbel : Below w.heap.size w wb := by rw [← hwb]; exact below_one7 w _
  have d0 := cell_of hA (k := 0) rfl
  have HA := Lib.hid hA
  have HBEL := Lib.hid hbel
  have HP := Lib.hid (hp.below hbel)
  have HPP := Lib.hid hP
  have HN := Lib.hid hn
  have HPL := Lib.hid hPl
  clear hA hbel hp hn hr hPl hP
  by_cases h0 : n = 0
  · subst h0
    have e : decide (0 < 0) = false := rfl
    rw [e, Bool.false_and]
    clear e
    go_enter Tryz.func7, Tryz.ntmps7
    go_wp2_with fail
    go_ret
    exact ⟨rfl, HBEL.out⟩
  · have hn0 : 0 < n := by omega
    have hn0z : (0 : Int) < (n : Int) := by omega
    have e : decide (0 < n) = true := decide_eq_true hn0
    have hne : ((n : Int) == 0) = false := by rw [beq_eq_false_iff_ne]; omega
    rw [e, Bool.true_and]
    clear e
    by_cases h8 : n ≤ 8
    · have e : decide (n ≤ 8) = true := decide_eq_true h8
      have h8z : ¬ (8 : Int) < (n : Int) := by omega
      rw [e, Bool.true_and]
      clear e
      have hl0 : 0 < l.length := by have := HN.out; omega
      obtain ⟨b, o, ha, g1, hat, _⟩ := HP.out.get hl0
      have hP0l : 0 < P.length := by have := HPL.out; omega
      have hp0 : P[0] = (l[0]).p := by have := HPP.out; subst this; rw [List.getElem_map]
      have q0 : wb.cell? ⟨b, o, none⟩ = some (.int .i64 (l[0]).p.comb) := by have := hat.1; rwa [Nat.zero_mul, Nat.add_zero] at this
      have hf0 : rightF 0 P = (combB 0 P[0] && (rightPt P[0] && rightF 1 (P.drop 1))) := by
        have := rightF_drop (l := P) (k := 0) (by have := HPL.out; omega)
        simpa using this
      rw [hp0] at hf0
      obtain ⟨c0, hc0⟩ : ∃ c, (l[0]).p.comb = c := ⟨_, rfl⟩
      have hcb : combB 0 (l[0]).p = decide (c0 = 0) := by rw [← hc0]; rfl
      rw [hc0] at q0
      rw [hcb] at hf0
      by_cases hz : c0 = 0
      · subst hz
        obtain ⟨R, hR⟩ : ∃ R, rightF 0 P = R := ⟨_, rfl⟩
        rw [hR]
        have HR := Lib.hid hR
        have HC0 := Lib.hid hc0
        subst ha
        clear hat hp0 hf0 hcb hR hc0
        go_enter Tryz.func7, Tryz.ntmps7
        go_wp2_with fail
        clear hwb d0 q0
        go_loopw [3] (fun vi wr => ∃ k : Nat, vi = .int .i64 (k : Int) ∧ k ≤ n ∧ Hid (Below wb.heap.size wb wr) ∧ Hid (rightF k (P.drop k) = R)) (fun vi _ => n - (intOf vi).toNat)
        case atStart => exact ⟨0, rfl, by omega, Lib.hid (Below.refl _ _), HR⟩
        case round =>
          obtain ⟨k, rfl, hk, HW, HJ⟩ := hrel
          have hbl : w.heap.size < wb.heap.size := (Array.getElem?_eq_some_iff.1 HA.out).1
          have d0 : wr.cell? ⟨w.heap.size, 0, none⟩ = some (.slice (some ⟨b, o, none⟩) n c) := (HW.out.cell (p := ⟨w.heap.size, 0, none⟩) hbl).trans (cell_of HA.out (k := 0) rfl)
          by_cases hlt : k < n
          · have hltz : (k : Int) < (n : Int) := by omega
            have hkl : k < l.length := by have := HN.out; omega
            obtain ⟨b', o', hbo, g1', hat, hok⟩ := HP.out.get hkl
            injection hbo with hbo
            injection hbo with hb1 ho1
            subst hb1
            subst ho1
            have hpk : P[k]'(by have := HPL.out; omega) = (l[k]).p := by have := HPP.out; subst this; rw [List.getElem_map]
            have hj := HJ.out
            rw [rightF_drop (by have := HPL.out; omega), hpk] at hj
            obtain ⟨q0, q1, q2, q3, q4, q5⟩ := hat.below HW.out g1'
            have hok2 := fun W (hW : Below wb.heap.size wb W) => hok.below hW
            have hc1 : k = 0 → (l[k]).p.comb = 0 := by rintro rfl; exact HC0.out
            generalize l[k] = x at *
            obtain ⟨⟨co, tg, id, cl, ts, st⟩, ca, cc, ta, tc⟩ := x
            simp only at q0 q1 q2 q3 q4 q5 hj hc1
            obtain ⟨ln, hln⟩ : ∃ n, cl.length = n := ⟨_, rfl⟩
            obtain ⟨lm, hlm⟩ : ∃ n, ts.length = n := ⟨_, rfl⟩
            have CR := Lib.hid (refRightPart7 co st tg id ca ta cc tc ln lm cl ts wr hln hlm (hok2 wr HW.out))
            rw [hln] at q3
            rw [hlm] at q4
            obtain ⟨rp, hrp⟩ : ∃ b, rightPt ⟨co, tg, id, cl, ts, st⟩ = b := ⟨_, rfl⟩
            rw [hrp] at CR hj
            have HJ1 := Lib.hid hj
            have HC1 := Lib.hid hc1
            clear hat hok hok2 hpk hj hln hlm hrp HJ hc1 hkl
            have q0k := fun W (hW : Below wr.heap.size wr W) => (hW.cell (p := ⟨b, o + k * 6, none⟩) (Nat.lt_of_lt_of_le g1' HW.out.size)).trans q0
            have d0k := fun W (hW : Below wr.heap.size wr W) => (hW.cell (p := ⟨w.heap.size, 0, none⟩) (Nat.lt_of_lt_of_le hbl HW.out.size)).trans d0
            have Q0 := Lib.hid q0k
            have D0 := Lib.hid d0k
            clear q0k d0k
            go_wp2_with fail
            refine CR.out.mono ?_
            rintro e w2 ⟨rfl, hb2⟩
            have q0' := Q0.out _ hb2
            have d0' := D0.out _ hb2
            have HB2 := Lib.hid (HW.out.trans (hb2.mono HW.out.size))
            clear hb2 q0 q1 q2 q3 q4 q5 d0 CR
            cases rp
            · have HF : Hid (R = false) := Lib.hid (by have := HJ1.out; rw [Bool.false_and, Bool.and_false] at this; exact this.symm)
              go_wp2_with fail
              go_ret
              exact ⟨ret_bool HF.out.symm, HBEL.out.trans (HB2.out.mono HBEL.out.size)⟩
            · by_cases hk0 : k = 0
              · have hkz : ¬ (0 : Int) < (k : Int) := by omega
                have HJ3 : Hid (rightF (k + 1) (P.drop (k + 1)) = R) := Lib.hid (by
                  have := HJ1.out
                  have hco := HC1.out hk0
                  subst hk0
                  rw [hco] at this
                  simpa [combB] using this)
                clear hk0
                go_wp2_with fail
                go_roundw
                case rel => exact ⟨k + 1, by go_num, by omega, HB2, HJ3⟩
                case measure => simp [intOf]; omega
              · have hkz : (0 : Int) < (k : Int) := by omega
                have hkp : 0 < k := by omega
                have hcb2 : combB k ⟨co, tg, id, cl, ts, st⟩ = (decide (1 ≤ co) && decide (co ≤ 4)) := by unfold combB; rw [if_neg hk0]
                have hj := HJ1.out
                rw [hcb2] at hj
                clear hcb2 hk0
                by_cases h1 : co < 1
                · have HF : Hid (R = false) := Lib.hid (by rw [decide_eq_false (by omega)] at hj; rw [Bool.false_and, Bool.false_and] at hj; exact hj.symm)
                  clear hj
                  go_wp2_with fail
                  go_ret
                  exact ⟨ret_bool HF.out.symm, HBEL.out.trans (HB2.out.mono HBEL.out.size)⟩
                · rw [decide_eq_true (by omega), Bool.true_and] at hj
                  by_cases h4 : 4 < co
                  · have HF : Hid (R = false) := Lib.hid (by rw [decide_eq_false (by omega)] at hj; rw [Bool.false_and] at hj; exact hj.symm)
                    clear hj
                    go_wp2_with fail
                    go_ret
                    exact ⟨ret_bool HF.out.symm, HBEL.out.trans (HB2.out.mono HBEL.out.size)⟩
                  · rw [decide_eq_true (by omega), Bool.true_and, Bool.true_and] at hj
                    have HJ3 := Lib.hid hj
                    clear hj
                    go_wp2_with fail
                    go_roundw
                    case rel => exact ⟨k + 1, by go_num, by omega, HB2, HJ3⟩
                    case measure => simp [intOf]; omega
          · have hltz : ¬ (k : Int) < (n : Int) := by omega
            have HF : Hid (R = true) := Lib.hid (by
              have := HJ.out
              rw [List.drop_of_length_le (by have := HPL.out; omega)] at this
              exact this.symm)
            clear HJ
            go_wp2_with fail
            go_ret
            exact ⟨ret_bool HF.out.symm, HBEL.out.trans (HW.out.mono HBEL.out.size)⟩
      · have hcz : (c0 == 0) = false := by rw [beq_eq_false_iff_ne]; exact hz
        have HF : Hid (rightF 0 P = false) := Lib.hid (by rw [hf0, decide_eq_false hz, Bool.false_and])
        subst ha
        clear hat hp0 hf0 hcb hc0 hz
        go_enter Tryz.func7, Tryz.ntmps7
        go_wp2_with fail
        go_ret
        exact ⟨ret_bool HF.out.symm, HBEL.out⟩
    · have e : decide (n ≤ 8) = false := decide_eq_false h8
      have h8z : (8 : Int) < (n : Int) := by omega
      rw [e, Bool.false_and]
      clear e
      go_enter Tryz.func7, Tryz.ntmps7
      go_wp2_with fail
      go_ret
      exact ⟨rfl, HBEL.out⟩

end Go.Proofs.YtfbfndknhabmhaaGreat
