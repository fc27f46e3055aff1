/- Layer 9's reference: Held, Right. -/
import Derived.Test.YtbodmfbpmeapoaaGreatValW2
import Derived.Test.YtbodmfbpmeapoaaGreatWalkA
namespace Go.Proofs.YtbodmfbpmeapoaaGreat
open Go.RowKit TreN LexP FixP SynP ValP FixM
set_option linter.unusedVariables false

set_option maxRecDepth 100000 in
theorem val_eqIn (k1 n1 d1 k2 n2 d2 : Int) (x1 x2 : List UInt8) (w : World) : (Op.equalIn 10000 23 (.agg #[.int .i64 k1, .int .i64 n1, .int .i64 d1, .string ⟨x1.toArray⟩]) (.agg #[.int .i64 k2, .int .i64 n2, .int .i64 d2, .string ⟨x2.toArray⟩])).run Tryz.prog w = .ok (decide ((⟨k1, n1, d1, x1⟩ : Val) = ⟨k2, n2, d2, x2⟩)) w := by
  rw [run_equalIn_agg w 9999 23 _ _ (by kernel_rfl) (by kernel_rfl)]
  have hf : Tryz.prog.fieldsOf 23 = (match Tryz.prog.underlying 23 with | some (.struct fs) => fs | _ => #[]) := rfl
  rw [hf, Tryz.underlying23]
  have p1 : ∀ (k n d : Int) (x : List UInt8) (w : World), (part 3 #[.int .i64 k, .int .i64 n, .int .i64 d, .string ⟨x.toArray⟩] 0).run Tryz.prog w = .ok (.int .i64 k) w := fun _ _ _ _ w => by kernel_rfl
  have p2 : ∀ (k n d : Int) (x : List UInt8) (w : World), (part 3 #[.int .i64 k, .int .i64 n, .int .i64 d, .string ⟨x.toArray⟩] 1).run Tryz.prog w = .ok (.int .i64 n) w := fun _ _ _ _ w => by kernel_rfl
  have p3 : ∀ (k n d : Int) (x : List UInt8) (w : World), (part 3 #[.int .i64 k, .int .i64 n, .int .i64 d, .string ⟨x.toArray⟩] 2).run Tryz.prog w = .ok (.int .i64 d) w := fun _ _ _ _ w => by kernel_rfl
  have p4 : ∀ (k n d : Int) (x : List UInt8) (w : World), (part 9 #[.int .i64 k, .int .i64 n, .int .i64 d, .string ⟨x.toArray⟩] 3).run Tryz.prog w = .ok (.string ⟨x.toArray⟩) w := fun _ _ _ _ w => by kernel_rfl
  simp only [Op.eqFields, Sem.run_ite, Sem.run_bind, p1, p2, p3, p4, Result.andThen_ok, run_equalIn_int w 9998 3 .i64 .i64 k1 k2 Tryz.underlying3, run_equalIn_int w 9998 3 .i64 .i64 n1 n2 Tryz.underlying3, run_equalIn_int w 9998 3 .i64 .i64 d1 d2 Tryz.underlying3, run_equalIn_string w 9998 9 ⟨x1.toArray⟩ ⟨x2.toArray⟩ Tryz.underlying9, str_beq]
  by_cases h1 : k1 = k2
  · subst h1
    by_cases h2 : n1 = n2
    · subst h2
      by_cases h3 : d1 = d2
      · subst h3
        by_cases h4 : x1 = x2
        · subst h4; simp
        · simp [h4]
      · have e3 : (d1 == d2) = false := by rw [beq_eq_false_iff_ne]; exact h3
        simp [h3, e3]
    · have e2 : (n1 == n2) = false := by rw [beq_eq_false_iff_ne]; exact h2
      simp [h2, e2]
  · have e1 : (k1 == k2) = false := by rw [beq_eq_false_iff_ne]; exact h1
    simp [h1, e1]
theorem val_eql (k1 n1 d1 k2 n2 d2 : Int) (x1 x2 : List UInt8) (w : World) : (binOp .eql 23 (.agg #[.int .i64 k1, .int .i64 n1, .int .i64 d1, .string ⟨x1.toArray⟩]) (.agg #[.int .i64 k2, .int .i64 n2, .int .i64 d2, .string ⟨x2.toArray⟩])).run Tryz.prog w = .ok (.bool (decide ((⟨k1, n1, d1, x1⟩ : Val) = ⟨k2, n2, d2, x2⟩))) w := by
  rw [run_eql_struct, val_eqIn]; rfl
theorem val_neq (k1 n1 d1 k2 n2 d2 : Int) (x1 x2 : List UInt8) (w : World) : (binOp .neq 23 (.agg #[.int .i64 k1, .int .i64 n1, .int .i64 d1, .string ⟨x1.toArray⟩]) (.agg #[.int .i64 k2, .int .i64 n2, .int .i64 d2, .string ⟨x2.toArray⟩])).run Tryz.prog w = .ok (.bool (!decide ((⟨k1, n1, d1, x1⟩ : Val) = ⟨k2, n2, d2, x2⟩))) w := by
  rw [run_neq_struct, val_eqIn]; rfl

set_option maxRecDepth 100000 in
theorem refHeld_any (n : Int) (w : World) : Calls Tryz.prog 61 #[.int .i64 n] w fun e w' => e = .returned (.bool (decide (n = H n))) ∧ w' = w := by
  have C := refHold_any n w
  obtain ⟨hn, hhn⟩ : ∃ x, H n = x := ⟨_, rfl⟩
  rw [hhn] at C ⊢
  have HC := Lib.hid C
  clear hhn C
  by_cases h : n = hn
  · subst h
    rw [decide_eq_true rfl]
    go_enter Tryz.func61, Tryz.ntmps61
    go_wp2_with fail
    refine HC.out.mono ?_
    rintro e w' ⟨rfl, rfl⟩
    go_wp2_with fail
    go_ret
    exact ⟨rfl, rfl⟩
  · rw [decide_eq_false h]
    have hz : (hn == n) = false := by rw [beq_eq_false_iff_ne]; exact fun e => h e.symm
    clear h
    go_enter Tryz.func61, Tryz.ntmps61
    go_wp2_with fail
    refine HC.out.mono ?_
    rintro e w' ⟨rfl, rfl⟩
    go_wp2_with fail
    go_ret
    exact ⟨rfl, rfl⟩
theorem held_small {n : Int} (h1 : -1073741824 ≤ n) (h2 : n ≤ 1073741824) : n = H n := by unfold H; rw [if_neg (by omega), if_neg (by omega)]
theorem held_iff {n : Int} : n = H n ↔ (-1073741824 ≤ n ∧ n ≤ 1073741824) := by
  constructor
  · intro h
    unfold H at h
    split at h
    · omega
    · split at h <;> omega
  · exact fun h => held_small h.1 h.2

set_option maxRecDepth 100000 in
set_option maxHeartbeats 4000000 in
theorem refRight9_any (k n d : Int) (nm : List UInt8) (w : World) (hs : nm.length ≤ maxLen) : Calls Tryz.prog 32 #[.agg #[.int .i64 k, .int .i64 n, .int .i64 d, .string ⟨nm.toArray⟩]] w fun e w' => e = .returned (.bool (rightV ⟨k, n, d, nm⟩)) ∧ Below w.heap.size w w' := by
  obtain ⟨R, hR⟩ : ∃ x, rightV ⟨k, n, d, nm⟩ = x := ⟨_, rfl⟩
  rw [hR]
  have hBW : Below w.heap.size w (w.alloc (.cells #[.int .i64 k, .int .i64 n, .int .i64 d, .string ⟨nm.toArray⟩] 23)) := (Below.refl _ _).alloc (Nat.le_refl _) _
  have HBW := Lib.hid hBW
  clear hBW
  by_cases hk6 : k = 6
  · subst hk6
    rw [rv6] at hR
    have EQ := val_eql 6 n d 6 0 0 nm nm
    have hfx : (w.alloc (.cells #[.int .i64 6, .int .i64 n, .int .i64 d, .string ⟨nm.toArray⟩] 23)).heap[w.heap.size]? = some (.cells #[.int .i64 6, .int .i64 n, .int .i64 d, .string ⟨nm.toArray⟩] 23 (0, 0)) := heap_alloc_new w _
    have N1 := fun W => refName_any ⟨nm.toArray⟩ (by show nm.toArray.size ≤ maxLen; simpa using hs) W
    have e1 : nameB ⟨nm.toArray⟩ = nameL nm := rfl
    rw [e1] at N1
    have hP := fun (b : Nat) (W : World) (hW : TxAt W b wL) => refPlace_any b wordsL 31 31 nm W rfl (by omega) hW
    have e2 : plc wordsL nm 1 = wordP nm := rfl
    rw [e2] at hP
    generalize nameL nm = b1 at *
    generalize wordP nm = q at *
    have UN := Lib.hid refWords_any
    obtain ⟨C, hC⟩ : ∃ C, Obj.cells (txcs wL) 9 = C := ⟨_, rfl⟩
    have hTX := fun W : World => TxAt.made W wL
    rw [hC] at hTX UN
    clear hC
    generalize hW : w.alloc (.cells #[.int .i64 6, .int .i64 n, .int .i64 d, .string ⟨nm.toArray⟩] 23) = W at *
    obtain ⟨Bx, hBx⟩ : ∃ Bx, w.heap.size = Bx := ⟨_, rfl⟩
    have HBX := Lib.hid hBx
    rw [hBx] at hfx
    have c0 : W.cell? ⟨Bx, 0, none⟩ = some (.int .i64 6) := cell_of hfx rfl
    have c1 : W.cell? ⟨Bx, 1, none⟩ = some (.int .i64 n) := cell_of hfx rfl
    have c2 : W.cell? ⟨Bx, 2, none⟩ = some (.int .i64 d) := cell_of hfx rfl
    have c3 : W.cell? ⟨Bx, 3, none⟩ = some (.string ⟨nm.toArray⟩) := cell_of hfx rfl
    have hBl := blk_lt9 hfx
    have NB : Hid (Calls Tryz.prog 60 #[.slice (some ⟨W.heap.size, 0, none⟩) 31 31, .string ⟨nm.toArray⟩] (W.alloc C).drew fun e w' => e = .returned (.int .i64 (q : Nat)) ∧ w' = (W.alloc C).drew) := Lib.hid (hP _ _ (fun i h => hTX W i h))
    have HN1 := Lib.hid N1
    have HBA : Hid (Below w.heap.size w (W.alloc C)) := Lib.hid (HBW.out.alloc HBW.out.size _)
    have HW := Lib.hid hW
    clear hfx N1 hP hTX e1 e2
    by_cases hv : n = 0 ∧ d = 0
    · obtain ⟨rfl, rfl⟩ := hv
      simp only [decide_true] at EQ
      have hR : (b1 && decide (q = 0)) = R := hR
      cases b1 with
      | false =>
        have HF : Hid (false = R) := Lib.hid hR
        clear hR
        go_enter Tryz.func32, Tryz.ntmps32
        go_wp2_with fail
        first
          | (go_region_with (first
              | (go_at_call 59; refine (HN1.out _).mono ?_; rintro e w2 ⟨rfl, rfl⟩)))
          | fail
        all_goals
          go_wp2_with fail
          go_ret
          exact ⟨ret_bool HF.out, below_drewN2 HBW.out 1⟩
      | true =>
        have hq : (((q : Nat) : Int) == 0) = R := by rw [← hR, Bool.true_and, Bool.eq_iff_iff]; simp
        clear hR
        cases R
        all_goals
          go_enter Tryz.func32, Tryz.ntmps32
          go_wp2_with fail
          first
            | (go_region_with (first
                | (go_at_call 59; refine (HN1.out _).mono ?_; rintro e w2 ⟨rfl, rfl⟩)
                | (go_at_call 36; refine (UN.out _).mono ?_; rintro e w2 ⟨rfl, rfl⟩)
                | (go_at_call 60; refine NB.out.mono ?_; rintro e w2 ⟨rfl, rfl⟩)))
            | fail
          all_goals
            go_wp2_with fail
            go_ret
            exact ⟨rfl, below_drewN2 HBA.out 1⟩
    · have hne : (⟨6, n, d, nm⟩ : Val) ≠ ⟨6, 0, 0, nm⟩ := fun e => hv (by injection e with e1 e2 e3 e4; exact ⟨e2, e3⟩)
      rw [decide_eq_false hne] at EQ
      have HF : Hid (false = R) := Lib.hid (by
        rw [← hR]
        by_cases h0 : n = 0
        · have h1 : ¬ d = 0 := fun h => hv ⟨h0, h⟩
          rw [decide_eq_false h1]; simp
        · rw [decide_eq_false h0]; rfl)
      clear hR hne hv
      go_enter Tryz.func32, Tryz.ntmps32
      go_wp2_with fail
      first
        | (go_region_with (fail))
        | fail
      all_goals
        go_wp2_with fail
        go_ret
        exact ⟨ret_bool HF.out, below_drewN2 HBW.out 1⟩
  · have z6 : (k == 6) = false := by rw [beq_eq_false_iff_ne]; exact hk6
    have CN := Lib.hid (fun W => refHeld_any n W)
    have CD := Lib.hid (fun W => refHeld_any d W)
    cases nm with
    | cons c r =>
      have HF : Hid (false = R) := Lib.hid (by rw [← hR]; unfold rightV; simp [hk6])
      clear hR hk6 CN CD
      go_enter Tryz.func32, Tryz.ntmps32
      go_wp2_with fail
      go_ret
      exact ⟨ret_bool HF.out, HBW.out⟩
    | nil =>
      by_cases hh : n = H n
      · have CN2 : Hid (∀ W : World, Calls Tryz.prog 61 #[.int .i64 n] W fun e w' => e = .returned (.bool true) ∧ w' = W) := Lib.hid fun W => by have := CN.out W; rw [decide_eq_true hh] at this; exact this
        have HH := Lib.hid (held_iff.1 hh)
        clear CN
        rcases (by omega : k = 1 ∨ k = 2 ∨ k = 3 ∨ k = 4 ∨ k = 5 ∨ (k ≠ 1 ∧ k ≠ 2 ∧ k ≠ 3 ∧ k ≠ 4 ∧ k ≠ 5)) with rfl | rfl | rfl | rfl | rfl | ⟨h1, h2, h3, h4, h5⟩
        · rw [rv1] at hR
          have hF : (decide (1 ≤ n) && (decide (n ≤ 30) && decide (d = 0))) = R := by rw [← hR, Bool.eq_iff_iff]; simp; omega
          have HF := Lib.hid hF
          clear hR hh z6 hk6 hF CD
          by_cases q1 : 1 ≤ n
          · by_cases q2 : n ≤ 30
            · by_cases q3 : d = 0
              · subst q3
                have HG : Hid (true = R) := Lib.hid (by rw [← HF.out, decide_eq_true q1, decide_eq_true q2]; rfl)
                go_enter Tryz.func32, Tryz.ntmps32
                go_wp2_with fail
                refine (CN2.out _).mono ?_
                rintro e w2 ⟨rfl, rfl⟩
                go_wp2_with fail
                go_ret
                exact ⟨ret_bool HG.out, HBW.out⟩
              · have HG : Hid (false = R) := Lib.hid (by rw [← HF.out, decide_eq_false q3]; simp)
                have q3 : (d == 0) = false := by rw [beq_eq_false_iff_ne]; exact q3
                go_enter Tryz.func32, Tryz.ntmps32
                go_wp2_with fail
                refine (CN2.out _).mono ?_
                rintro e w2 ⟨rfl, rfl⟩
                go_wp2_with fail
                go_ret
                exact ⟨ret_bool HG.out, HBW.out⟩
            · have HG : Hid (false = R) := Lib.hid (by rw [← HF.out, decide_eq_false q2]; simp)
              go_enter Tryz.func32, Tryz.ntmps32
              go_wp2_with fail
              refine (CN2.out _).mono ?_
              rintro e w2 ⟨rfl, rfl⟩
              go_wp2_with fail
              go_ret
              exact ⟨ret_bool HG.out, HBW.out⟩
          · have HG : Hid (false = R) := Lib.hid (by rw [← HF.out, decide_eq_false q1]; simp)
            go_enter Tryz.func32, Tryz.ntmps32
            go_wp2_with fail
            refine (CN2.out _).mono ?_
            rintro e w2 ⟨rfl, rfl⟩
            go_wp2_with fail
            go_ret
            exact ⟨ret_bool HG.out, HBW.out⟩
        · rw [rv2, decide_eq_true hh] at hR
          have hF : (decide (1 ≤ d) && decide (d ≤ 8)) = R := by rw [← hR, Bool.eq_iff_iff]; simp
          have HF := Lib.hid hF
          clear hR hh z6 hk6 hF CD
          by_cases q1 : 1 ≤ d
          · by_cases q2 : d ≤ 8
            · have HG : Hid (true = R) := Lib.hid (by rw [← HF.out, decide_eq_true q1, decide_eq_true q2]; rfl)
              go_enter Tryz.func32, Tryz.ntmps32
              go_wp2_with fail
              refine (CN2.out _).mono ?_
              rintro e w2 ⟨rfl, rfl⟩
              go_wp2_with fail
              go_ret
              exact ⟨ret_bool HG.out, HBW.out⟩
            · have HG : Hid (false = R) := Lib.hid (by rw [← HF.out, decide_eq_false q2]; simp)
              go_enter Tryz.func32, Tryz.ntmps32
              go_wp2_with fail
              refine (CN2.out _).mono ?_
              rintro e w2 ⟨rfl, rfl⟩
              go_wp2_with fail
              go_ret
              exact ⟨ret_bool (by rw [← HG.out, decide_eq_false (by omega)]), HBW.out⟩
          · have HG : Hid (false = R) := Lib.hid (by rw [← HF.out, decide_eq_false q1]; simp)
            go_enter Tryz.func32, Tryz.ntmps32
            go_wp2_with fail
            refine (CN2.out _).mono ?_
            rintro e w2 ⟨rfl, rfl⟩
            go_wp2_with fail
            go_ret
            exact ⟨ret_bool HG.out, HBW.out⟩
        · rw [rv3, decide_eq_true hh] at hR
          have hF : decide (d = 0) = R := by rw [← hR, Bool.eq_iff_iff]; simp
          have HF := Lib.hid hF
          clear hR hh z6 hk6 hF CD
          go_enter Tryz.func32, Tryz.ntmps32
          go_wp2_with fail
          refine (CN2.out _).mono ?_
          rintro e w2 ⟨rfl, rfl⟩
          go_wp2_with fail
          go_ret
          exact ⟨ret_bool HF.out, HBW.out⟩
        · rw [rv4, decide_eq_true hh] at hR
          have hF : decide (d = 0) = R := by rw [← hR, Bool.eq_iff_iff]; simp
          have HF := Lib.hid hF
          clear hR hh z6 hk6 hF CD
          go_enter Tryz.func32, Tryz.ntmps32
          go_wp2_with fail
          refine (CN2.out _).mono ?_
          rintro e w2 ⟨rfl, rfl⟩
          go_wp2_with fail
          go_ret
          exact ⟨ret_bool HF.out, HBW.out⟩
        · rw [rv5] at hR
          have hd := held_iff (n := d)
          have hF : (decide (0 ≤ n) && (decide (0 ≤ d) && decide (d = H d))) = R := by
            rw [← hR, Bool.eq_iff_iff]; simp only [Bool.and_eq_true, decide_eq_true_eq]; have h0 := HH.out; rw [hd]; exact ⟨fun h => ⟨⟨h.1, h0.2⟩, ⟨h.2.1, h.2.2.2⟩, trivial⟩, fun h => ⟨h.1.1, h.2.1.1, by omega, h.2.1.2⟩⟩
          have HF := Lib.hid hF
          clear hR hh z6 hk6 hF hd
          by_cases q1 : 0 ≤ n
          · by_cases q2 : 0 ≤ d
            · have HG : Hid (decide (d = H d) = R) := Lib.hid (by rw [← HF.out, decide_eq_true q1, decide_eq_true q2]; rfl)
              generalize decide (d = H d) = b2 at *
              go_enter Tryz.func32, Tryz.ntmps32
              go_wp2_with fail
              refine (CN2.out _).mono ?_
              rintro e w2 ⟨rfl, rfl⟩
              go_wp2_with fail
              refine (CD.out _).mono ?_
              rintro e w2 ⟨rfl, rfl⟩
              go_wp2_with fail
              go_ret
              exact ⟨ret_bool HG.out, HBW.out⟩
            · have HG : Hid (false = R) := Lib.hid (by rw [← HF.out, decide_eq_false q2]; simp)
              clear CD
              go_enter Tryz.func32, Tryz.ntmps32
              go_wp2_with fail
              refine (CN2.out _).mono ?_
              rintro e w2 ⟨rfl, rfl⟩
              go_wp2_with fail
              go_ret
              exact ⟨ret_bool HG.out, HBW.out⟩
          · have HG : Hid (false = R) := Lib.hid (by rw [← HF.out, decide_eq_false q1]; simp)
            clear CD
            go_enter Tryz.func32, Tryz.ntmps32
            go_wp2_with fail
            refine (CN2.out _).mono ?_
            rintro e w2 ⟨rfl, rfl⟩
            go_wp2_with fail
            go_ret
            exact ⟨ret_bool HG.out, HBW.out⟩
        · rw [rvo n d [] h1 h2 h3 h4 h5 hk6] at hR
          have HF : Hid (false = R) := Lib.hid hR
          have z1 : (k == 1) = false := by rw [beq_eq_false_iff_ne]; exact h1
          have z2 : (k == 2) = false := by rw [beq_eq_false_iff_ne]; exact h2
          have z3 : (k == 3) = false := by rw [beq_eq_false_iff_ne]; exact h3
          have z4 : (k == 4) = false := by rw [beq_eq_false_iff_ne]; exact h4
          have z5 : (k == 5) = false := by rw [beq_eq_false_iff_ne]; exact h5
          clear hR h1 h2 h3 h4 h5 hh hk6 CD
          go_enter Tryz.func32, Tryz.ntmps32
          go_wp2_with fail
          refine (CN2.out _).mono ?_
          rintro e w2 ⟨rfl, rfl⟩
          go_wp2_with fail
          go_ret
          exact ⟨ret_bool HF.out, HBW.out⟩
      · have CN2 : Hid (∀ W : World, Calls Tryz.prog 61 #[.int .i64 n] W fun e w' => e = .returned (.bool false) ∧ w' = W) := Lib.hid fun W => by have := CN.out W; rw [decide_eq_false hh] at this; exact this
        have HF : Hid (false = R) := Lib.hid (by
          rw [← hR]
          have hn : ¬ (-1073741824 ≤ n ∧ n ≤ 1073741824) := fun h => hh (held_iff.2 h)
          rcases (by omega : k = 1 ∨ k = 2 ∨ k = 3 ∨ k = 4 ∨ k = 5 ∨ (k ≠ 1 ∧ k ≠ 2 ∧ k ≠ 3 ∧ k ≠ 4 ∧ k ≠ 5)) with rfl | rfl | rfl | rfl | rfl | ⟨h1, h2, h3, h4, h5⟩
          · rw [rv1, decide_eq_false (p := 1 ≤ n ∧ n ≤ 30) (by omega), Bool.and_false]
          · rw [rv2, decide_eq_false hh]; rfl
          · rw [rv3, decide_eq_false hh]; rfl
          · rw [rv4, decide_eq_false hh]; rfl
          · rw [rv5, decide_eq_false (by omega)]; rfl
          · rw [rvo n d [] h1 h2 h3 h4 h5 hk6])
        clear hR hk6 CN CD hh
        go_enter Tryz.func32, Tryz.ntmps32
        go_wp2_with fail
        refine (CN2.out _).mono ?_
        rintro e w2 ⟨rfl, rfl⟩
        go_wp2_with fail
        go_ret
        exact ⟨ret_bool HF.out, HBW.out⟩
end Go.Proofs.YtbodmfbpmeapoaaGreat
