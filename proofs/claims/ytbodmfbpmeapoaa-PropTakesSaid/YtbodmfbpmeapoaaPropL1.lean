/- Layer 10's laws: PropTakes, PropNames. -/
import Derived.Test.YtbodmfbpmeapoaaPropXc
import Derived.Test.YtbodmfbpmeapoaaPropR6
import Derived.Lib.QuietBelow
import Derived.BigQuiet
namespace Go.Proofs.Ytbodmfbpmeapoaa
open Go.RowKit TreN LexP FixP SynP ValP PropP FixM Go.Sort
set_option linter.unusedVariables false

set_option maxRecDepth 100000 in
set_option maxHeartbeats 4000000 in
theorem PropTakes_walk (p k n d : Int) (nm : List UInt8) (w : World) (hs : nm.length ≤ maxLen) : Calls Try.prog 4 #[.int .i64 p, .agg #[.int .i64 k, .int .i64 n, .int .i64 d, .string ⟨nm.toArray⟩]] w fun e w' => e = .returned (.bool true) ∧ Below w.heap.size w w' := by
  have HB := Lib.hid (below_oneP w (.cells #[.int .i64 k, .int .i64 n, .int .i64 d, .string ⟨nm.toArray⟩] 26))
  have hX : (w.alloc (.cells #[.int .i64 k, .int .i64 n, .int .i64 d, .string ⟨nm.toArray⟩] 26)).heap[w.heap.size]? = some (.cells #[.int .i64 k, .int .i64 n, .int .i64 d, .string ⟨nm.toArray⟩] 26 (0, 0)) := heap_alloc_new w _
  have T1 := fun W => Takes10_any p k n d nm W hs
  have T2 := fun W => refTakes10_any p k n d nm W hs
  obtain ⟨R, hR⟩ : ∃ R, takesP p ⟨k, n, d, nm⟩ = R := ⟨_, rfl⟩
  rw [hR] at T1 T2
  obtain ⟨B, hB⟩ : ∃ B, w.heap.size = B := ⟨_, rfl⟩
  rw [hB] at hX
  obtain ⟨w1, hw1⟩ : ∃ w1, w.alloc (.cells #[.int .i64 k, .int .i64 n, .int .i64 d, .string ⟨nm.toArray⟩] 26) = w1 := ⟨_, rfl⟩
  rw [hw1] at hX HB
  have c0 : w1.cell? ⟨B, 0, none⟩ = some (.int .i64 k) := cell_of hX rfl
  have c1 : w1.cell? ⟨B, 1, none⟩ = some (.int .i64 n) := cell_of hX rfl
  have c2 : w1.cell? ⟨B, 2, none⟩ = some (.int .i64 d) := cell_of hX rfl
  have c3 : w1.cell? ⟨B, 3, none⟩ = some (.string ⟨nm.toArray⟩) := cell_of hX rfl
  have k0 := cell_regrown c0
  have k1 := cell_regrown c1
  have k2 := cell_regrown c2
  have k3 := cell_regrown c3
  have cK : ∀ d os, Calls Try.prog 15 #[] (grow (redrawn w1 d) os) fun e w'' => e = .returned (.bool true) ∧ ∃ p : Regrown, w'' = grow (redrawn w1 p.d) p.os := fun d os => Calls.regrown_of (known10_any _)
  have cR : ∀ dd os, Calls Try.prog 8 #[.int .i64 p, .agg #[.int .i64 k, .int .i64 n, .int .i64 d, .string ⟨nm.toArray⟩]] (grow (redrawn w1 dd) os) fun e w'' => e = .returned (.bool R) ∧ ∃ p : Regrown, w'' = grow (redrawn w1 p.d) p.os := fun dd os => Calls.regrown_of (T1 _)
  have cS : ∀ dd os, Calls Try.prog 16 #[.int .i64 p, .agg #[.int .i64 k, .int .i64 n, .int .i64 d, .string ⟨nm.toArray⟩]] (grow (redrawn w1 dd) os) fun e w'' => e = .returned (.bool R) ∧ ∃ p : Regrown, w'' = grow (redrawn w1 p.d) p.os := fun dd os => Calls.regrown_of (T2 _)
  clear T1 T2 hR c0 c1 c2 c3 hX
  have HW1 := Lib.hid hw1
  have HBE := Lib.hid hB
  clear hw1 hB
  go_enter Try.func4, Try.ntmps4
  go_upto_region 1 with (fail)
  rw [HW1.out, HBE.out]
  refine wp_region_quiet_below (by kernel_rfl) (by kernel_rfl) ?_
  repeat (quiet_step (first | exact cK _ _ | exact cR _ _ | exact cS _ _))
  refine wpQuiet_nil ?_
  intro _ hw'
  obtain ⟨⟨dq, osq⟩, hw''⟩ := hw'
  subst hw''
  clear cK cR cS k0 k1 k2 k3
  go_wp2_with fail
  go_ret
  have hfin : Below w.heap.size w (grow (redrawn w1 dq) osq) := HB.out.trans ((below_regrown w1 dq osq).mono HB.out.size)
  exact ⟨rfl, hfin⟩

set_option maxRecDepth 100000 in
theorem FirstR10_out (p : Int) (h : ¬ (1 ≤ p ∧ p ≤ 37)) (w : World) : Calls Try.prog 13 #[.int .i64 p] w fun e w' => e = .returned (retV (firstZ p)) ∧ Below w.heap.size w w' := by
  have hz : firstZ p = zeroV := by unfold firstZ; rw [if_neg h]
  rw [hz]
  have z1 : (p == 1) = false := by rw [beq_eq_false_iff_ne]; omega
  have z2 : (p == 2) = false := by rw [beq_eq_false_iff_ne]; omega
  have z3 : (p == 3) = false := by rw [beq_eq_false_iff_ne]; omega
  have z4 : (p == 4) = false := by rw [beq_eq_false_iff_ne]; omega
  have z5 : (p == 5) = false := by rw [beq_eq_false_iff_ne]; omega
  have z6 : (p == 6) = false := by rw [beq_eq_false_iff_ne]; omega
  have z7 : (p == 7) = false := by rw [beq_eq_false_iff_ne]; omega
  have z8 : (p == 8) = false := by rw [beq_eq_false_iff_ne]; omega
  have z9 : (p == 9) = false := by rw [beq_eq_false_iff_ne]; omega
  have z10 : (p == 10) = false := by rw [beq_eq_false_iff_ne]; omega
  have z11 : (p == 11) = false := by rw [beq_eq_false_iff_ne]; omega
  have z12 : (p == 12) = false := by rw [beq_eq_false_iff_ne]; omega
  have z13 : (p == 13) = false := by rw [beq_eq_false_iff_ne]; omega
  have z14 : (p == 14) = false := by rw [beq_eq_false_iff_ne]; omega
  have z15 : (p == 15) = false := by rw [beq_eq_false_iff_ne]; omega
  have z16 : (p == 16) = false := by rw [beq_eq_false_iff_ne]; omega
  have z17 : (p == 17) = false := by rw [beq_eq_false_iff_ne]; omega
  have z18 : (p == 18) = false := by rw [beq_eq_false_iff_ne]; omega
  have z19 : (p == 19) = false := by rw [beq_eq_false_iff_ne]; omega
  have z20 : (p == 20) = false := by rw [beq_eq_false_iff_ne]; omega
  have z21 : (p == 21) = false := by rw [beq_eq_false_iff_ne]; omega
  have z22 : (p == 22) = false := by rw [beq_eq_false_iff_ne]; omega
  have z23 : (p == 23) = false := by rw [beq_eq_false_iff_ne]; omega
  have z24 : (p == 24) = false := by rw [beq_eq_false_iff_ne]; omega
  have z25 : (p == 25) = false := by rw [beq_eq_false_iff_ne]; omega
  have z26 : (p == 26) = false := by rw [beq_eq_false_iff_ne]; omega
  have z27 : (p == 27) = false := by rw [beq_eq_false_iff_ne]; omega
  have z28 : (p == 28) = false := by rw [beq_eq_false_iff_ne]; omega
  have z29 : (p == 29) = false := by rw [beq_eq_false_iff_ne]; omega
  have z30 : (p == 30) = false := by rw [beq_eq_false_iff_ne]; omega
  have z31 : (p == 31) = false := by rw [beq_eq_false_iff_ne]; omega
  have z32 : (p == 32) = false := by rw [beq_eq_false_iff_ne]; omega
  have z33 : (p == 33) = false := by rw [beq_eq_false_iff_ne]; omega
  have z34 : (p == 34) = false := by rw [beq_eq_false_iff_ne]; omega
  have z35 : (p == 35) = false := by rw [beq_eq_false_iff_ne]; omega
  have z36 : (p == 36) = false := by rw [beq_eq_false_iff_ne]; omega
  have z37 : (p == 37) = false := by rw [beq_eq_false_iff_ne]; omega
  clear h hz
  go_enter Try.func13, Try.ntmps13
  go_wp2_with fail
  exact bodyPost_ret (v := .agg #[.int .i64 0, .int .i64 0, .int .i64 0, .string ⟨#[]⟩]) (by simp [results, Try.results13, go_sem]) rfl ⟨rfl, (Below.refl _ _).alloc (Nat.le_refl _) _⟩

theorem FirstR_all (p : Int) (w : World) : Calls Try.prog 13 #[.int .i64 p] w fun e w' => e = .returned (retV (firstZ p)) ∧ Below w.heap.size w w' := by
  by_cases h : 1 ≤ p ∧ p ≤ 37
  · exact FirstRP_any p h.1 h.2 w
  · exact FirstR10_out p h w
theorem first_name (p : Int) : (firstZ p).name.length ≤ maxLen := by
  by_cases h : 1 ≤ p ∧ p ≤ 37
  · have := first_ok h.1 h.2
    unfold takesP at this
    simp only [Bool.and_eq_true] at this
    exact right_name this.2.1
  · unfold firstZ; rw [if_neg h]; exact Nat.zero_le _
theorem names_at (W : World) (j : Nat) (h1 : 1 ≤ j) (h2 : j ≤ 37) : (W.alloc (.cells (txcs ([] :: namesL)) 9)).cell? ⟨W.heap.size, j, none⟩ = some (.string ⟨(txtP namesL (j : Int)).toArray⟩) := by
  have h := TxAt.made W ([] :: namesL) j (by show j < 38; omega)
  rw [h]
  congr 3
  exact congrArg List.toArray (txtP_at (L := namesL) h1 (by show j < 38; omega))

set_option maxRecDepth 100000 in
set_option maxHeartbeats 4000000 in
theorem PropNames_walk (s : List UInt8) (p : Int) (w : World) : Calls Try.prog 3 #[.string ⟨s.toArray⟩, .int .i64 p] w fun e w' => e = .returned (.bool true) ∧ Below w.heap.size w w' := by
  have ND := Lib.hid (fun W => Named_any s W)
  have NR := Lib.hid (fun W => NamesR10_any W)
  have PL := Lib.hid (fun (b : Nat) (W : World) (hT : TxAt W b ([] :: namesL)) => refPlace_any b namesL 38 38 s W rfl (by omega) hT)
  have TM := Lib.hid (fun W : World => TxAt.made W ([] :: namesL))
  have NM := fun W => Name10_any p W
  have F1 := fun W => FirstP_any p W
  have F2 := fun W => FirstR_all p W
  have KN := Lib.hid (fun W => known10_any W)
  have hp0 : plc namesL s 1 = namedP s := rfl
  rw [hp0] at PL
  obtain ⟨q, hq⟩ : ∃ q, namedP s = q := ⟨_, rfl⟩
  rw [hq] at PL ND
  obtain ⟨X, hX⟩ : ∃ X, txtP namesL p = X := ⟨_, rfl⟩
  have hfn := first_name p
  have TK := fun W hn => Takes10_any p (firstZ p).kind (firstZ p).n (firstZ p).d (firstZ p).name W hn
  obtain ⟨⟨fk, fn, fd, fx⟩, hF⟩ : ∃ v, firstZ p = v := ⟨_, rfl⟩
  rw [hF] at F1 F2 TK hfn
  rw [hX] at NM
  unfold retV at F1 F2
  have NMH := Lib.hid NM
  have F1H := Lib.hid F1
  have F2H := Lib.hid F2
  have Q1 : Hid (∀ W, (binOp .eql 26 (.agg #[.int .i64 fk, .int .i64 fn, .int .i64 fd, .string ⟨fx.toArray⟩]) (.agg #[.int .i64 fk, .int .i64 fn, .int .i64 fd, .string ⟨fx.toArray⟩])).run Try.prog W = .ok (.bool true) W) := Lib.hid fun W => by have := val_eql fk fn fd fk fn fd fx fx W; simpa using this
  clear hp0 hq NM F1 F2
  have hcase : ∃ b6 b7 bi : Bool, (p == 36) = b6 ∧ (p == 37) = b7 ∧ decide (p = 36 ∨ p = 37) = bi ∧ bi = (b6 || b7) := ⟨_, _, _, rfl, rfl, rfl, by rw [Bool.eq_iff_iff]; simp⟩
  obtain ⟨b6, b7, bi, z6, z7, zi, hbi⟩ := hcase
  have IN := fun W => Inherits10_any p W
  rw [zi] at IN
  have INH := Lib.hid IN
  clear zi IN
  have HTT : Hid (∀ W0 W : World, W = W0.alloc (.cells (txcs ([] :: namesL)) 9) → TxAt W W0.heap.size ([] :: namesL) ∧ Below W0.heap.size W0 W ∧ W0.heap.size < W.heap.size) := Lib.hid fun W0 W h => by subst h; exact ⟨TM.out W0, below_oneP _ _, by simp⟩
  by_cases hp : 1 ≤ p ∧ p ≤ 37
  · obtain ⟨hp1, hp2⟩ := hp
    have TK2 := fun W => TK W hfn
    have htk : takesP p ⟨fk, fn, fd, fx⟩ = true := by rw [← hF]; exact first_ok hp1 hp2
    rw [htk] at TK2
    have TKH := Lib.hid TK2
    clear TK TK2 hF hfn htk
    obtain ⟨j, rfl⟩ : ∃ j : Nat, p = (j : Int) := ⟨p.toNat, by omega⟩
    have NA := Lib.hid (fun W : World => names_at W j (by omega) (by omega))
    rw [hX] at NA
    have hj0 : (0 : Int) ≤ (j : Int) := by omega
    have hj38 : (j : Int) < 38 := by omega
    clear hX
    cases b6 <;> cases b7
    all_goals
      simp only [Bool.or_true, Bool.or_false] at hbi
      subst hbi
      go_enter Try.func3, Try.ntmps3
      go_wp2_with fail
      refine (NR.out _).mono ?_
      rintro e w1 ⟨rfl, hw1⟩
      have d1 : w1.cell? ⟨w.heap.size, j, none⟩ = some (.string ⟨X.toArray⟩) := by rw [hw1]; exact NA.out w
      have HB1 := Lib.hid (HTT.out w w1 hw1).2.1
      clear hw1
      go_wp2_with fail
      refine (F1H.out _).mono ?_
      rintro e w2 ⟨rfl, hb2⟩
      have HB2 := Lib.hid (HB1.out.trans (hb2.mono HB1.out.size))
      clear hb2 d1
      go_wp2_with fail
      refine (TKH.out _).mono ?_
      rintro e w3 ⟨rfl, hb3⟩
      have HB3 := Lib.hid (HB2.out.trans (hb3.mono HB2.out.size))
      clear hb3
      go_wp2_with fail
      refine (ND.out _).mono ?_
      rintro e w4 ⟨rfl, hb4⟩
      have HB4 := Lib.hid (HB3.out.trans (hb4.mono HB3.out.size))
      clear hb4
      go_wp2_with fail
      refine (NR.out _).mono ?_
      rintro e w5 ⟨rfl, hw5⟩
      have HT5 := Lib.hid (HTT.out w4 w5 hw5)
      have HB5 := Lib.hid (HB4.out.trans (HT5.out.2.1.mono HB4.out.size))
      have P5 := Lib.hid (PL.out _ w5 HT5.out.1)
      clear hw5
      go_wp2_with fail
      refine P5.out.mono ?_
      rintro e w6 ⟨rfl, hw6⟩
      have hw6 := hw6.symm
      subst hw6
      go_wp2_with fail
      refine (NMH.out _).mono ?_
      rintro e w7 ⟨rfl, hb7⟩
      have HB7 := Lib.hid (HB5.out.trans (hb7.mono HB5.out.size))
      clear hb7
      go_wp2_with fail
      refine (F1H.out _).mono ?_
      rintro e w8 ⟨rfl, hb8⟩
      have HB8 := Lib.hid (HB7.out.trans (hb8.mono HB7.out.size))
      clear hb8
      go_wp2_with fail
      refine (F2H.out _).mono ?_
      rintro e w9 ⟨rfl, hb9⟩
      have HB9 := Lib.hid (HB8.out.trans (hb9.mono HB8.out.size))
      clear hb9
      have q1 := Q1.out
      go_wp2_with fail
      refine (INH.out _).mono ?_
      rintro e w10 ⟨rfl, hw10⟩
      have hw10 := hw10.symm
      subst hw10
      clear q1
      go_wp2_with fail
      refine (KN.out _).mono ?_
      rintro e w11 ⟨rfl, hb11⟩
      have HB11 := Lib.hid (HB9.out.trans (hb11.mono HB9.out.size))
      clear hb11
      go_wp2_with fail
      go_ret
      exact ⟨rfl, HB11.out⟩
  · have hx0 : X = [] := by rw [← hX]; exact nameOf_no hp
    subst hx0
    have ho : p < 1 ∨ (1 ≤ p ∧ 37 < p) := by omega
    clear TK hF hfn hX hp
    rcases ho with ho | ⟨ho, ho2⟩
    all_goals
      cases b6 <;> cases b7
      all_goals
        simp only [Bool.or_true, Bool.or_false] at hbi
        subst hbi
        go_enter Try.func3, Try.ntmps3
        go_wp2_with fail
        refine (ND.out _).mono ?_
        rintro e w4 ⟨rfl, hb4⟩
        have HB4 := Lib.hid hb4
        clear hb4
        go_wp2_with fail
        refine (NR.out _).mono ?_
        rintro e w5 ⟨rfl, hw5⟩
        have HT5 := Lib.hid (HTT.out w4 w5 hw5)
        have HB5 := Lib.hid (HB4.out.trans (HT5.out.2.1.mono HB4.out.size))
        have P5 := Lib.hid (PL.out _ w5 HT5.out.1)
        clear hw5
        go_wp2_with fail
        refine P5.out.mono ?_
        rintro e w6 ⟨rfl, hw6⟩
        have hw6 := hw6.symm
        subst hw6
        go_wp2_with fail
        refine (NMH.out _).mono ?_
        rintro e w7 ⟨rfl, hb7⟩
        have HB7 := Lib.hid (HB5.out.trans (hb7.mono HB5.out.size))
        clear hb7
        go_wp2_with fail
        refine (F1H.out _).mono ?_
        rintro e w8 ⟨rfl, hb8⟩
        have HB8 := Lib.hid (HB7.out.trans (hb8.mono HB7.out.size))
        clear hb8
        go_wp2_with fail
        refine (F2H.out _).mono ?_
        rintro e w9 ⟨rfl, hb9⟩
        have HB9 := Lib.hid (HB8.out.trans (hb9.mono HB8.out.size))
        clear hb9
        have q1 := Q1.out
        go_wp2_with fail
        refine (INH.out _).mono ?_
        rintro e w10 ⟨rfl, hw10⟩
        have hw10 := hw10.symm
        subst hw10
        clear q1
        go_wp2_with fail
        refine (KN.out _).mono ?_
        rintro e w11 ⟨rfl, hb11⟩
        have HB11 := Lib.hid (HB9.out.trans (hb11.mono HB9.out.size))
        clear hb11
        go_wp2_with fail
        go_ret
        exact ⟨rfl, HB11.out⟩
end Go.Proofs.Ytbodmfbpmeapoaa
