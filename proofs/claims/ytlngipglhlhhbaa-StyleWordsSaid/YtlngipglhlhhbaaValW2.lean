/- Layer 9: Right. -/
import Derived.Test.YtlngipglhlhhbaaValW1
import Derived.Test.YtlngipglhlhhbaaFixWa
import Derived.Test.YtlngipglhlhhbaaLexE
import Derived.Deep.RegionWith
import Derived.Deep.DeepCutAuto
import Derived.Outline
namespace Go.Proofs.Ytlngipglhlhhbaa
open Go.RowKit TreN LexP FixP SynP ValP FixM
set_option linter.unusedVariables false

theorem blk_lt9 {w : World} {P : Nat} {o : Obj} (h : w.heap[P]? = some o) : P < w.heap.size := (Array.getElem?_eq_some_iff.1 h).1
def valV (v : Val) : Value := .agg #[.int .i64 v.kind, .int .i64 v.n, .int .i64 v.d, .string ⟨v.name.toArray⟩]
theorem words_ne : ∀ x ∈ wordsL, x ≠ [] := by decide
theorem units_ne : ∀ x ∈ unitsL, x ≠ [] := by decide
theorem txtP_in {L : List (List UInt8)} {n : Int} (h1 : 1 ≤ n) (h2 : n ≤ L.length) : txtP L n ∈ L := by
  unfold txtP
  rw [if_pos ⟨h1, h2⟩, List.getD_eq_getElem?_getD, List.getElem?_eq_getElem (by omega)]
  simp
theorem txtP_out {L : List (List UInt8)} {n : Int} (h : ¬ (1 ≤ n ∧ n ≤ L.length)) : txtP L n = [] := by unfold txtP; rw [if_neg h]
theorem rv1 (n d : Int) (nm : List UInt8) : rightV ⟨1, n, d, nm⟩ = (decide (d = 0 ∧ nm = []) && decide (1 ≤ n ∧ n ≤ 30)) := by
  unfold rightV; rw [if_pos rfl, Bool.eq_iff_iff]; simp; constructor <;> (intro h; simp [h])
theorem rv2 (n d : Int) (nm : List UInt8) : rightV ⟨2, n, d, nm⟩ = (decide (n = H n) && (decide (1 ≤ d ∧ d ≤ 8) && decide (nm = []))) := by
  unfold rightV; rw [if_neg (by dsimp only; decide), if_pos rfl, Bool.eq_iff_iff]; simp; intro _; exact ⟨fun h => ⟨⟨h.1, h.2.1⟩, h.2.2⟩, fun h => ⟨h.1.1, h.1.2, h.2⟩⟩
theorem rv3 (n d : Int) (nm : List UInt8) : rightV ⟨3, n, d, nm⟩ = (decide (n = H n) && decide (d = 0 ∧ nm = [])) := by
  unfold rightV; rw [if_neg (by dsimp only; decide), if_neg (by dsimp only; decide), if_pos (Or.inl rfl), Bool.eq_iff_iff]; simp
theorem rv4 (n d : Int) (nm : List UInt8) : rightV ⟨4, n, d, nm⟩ = (decide (n = H n) && decide (d = 0 ∧ nm = [])) := by
  unfold rightV; rw [if_neg (by dsimp only; decide), if_neg (by dsimp only; decide), if_pos (Or.inr rfl), Bool.eq_iff_iff]; simp
theorem rv5 (n d : Int) (nm : List UInt8) : rightV ⟨5, n, d, nm⟩ = (decide (0 ≤ n ∧ n ≤ 1073741824) && (decide (0 ≤ d ∧ d ≤ 1073741824) && decide (nm = []))) := by
  unfold rightV; rw [if_neg (by dsimp only; decide), if_neg (by dsimp only; decide), if_neg (by dsimp only; decide), if_pos rfl, Bool.eq_iff_iff]; simp; constructor <;> (intro h; simp [h])
theorem rv6 (n d : Int) (nm : List UInt8) : rightV ⟨6, n, d, nm⟩ = (decide (n = 0) && (decide (d = 0) && (nameL nm && decide (wordP nm = 0)))) := by
  unfold rightV; rw [if_neg (by dsimp only; decide), if_neg (by dsimp only; decide), if_neg (by dsimp only; decide), if_neg (by dsimp only; decide), if_pos rfl, Bool.eq_iff_iff]; simp
theorem rvo {k : Int} (n d : Int) (nm : List UInt8) (h1 : k ≠ 1) (h2 : k ≠ 2) (h3 : k ≠ 3) (h4 : k ≠ 4) (h5 : k ≠ 5) (h6 : k ≠ 6) : rightV ⟨k, n, d, nm⟩ = false := by
  unfold rightV; rw [if_neg h1, if_neg h2, if_neg (by dsimp only; omega), if_neg h5, if_neg h6]

set_option maxRecDepth 100000 in
theorem inRatio_any (n : Int) (w : World) : Calls Try.prog 55 #[.int .i64 n] w fun e w' => e = .returned (.bool (decide (0 ≤ n ∧ n ≤ 1073741824))) ∧ w' = w := by
  by_cases h1 : 0 ≤ n
  · by_cases h2 : n ≤ 1073741824
    · rw [decide_eq_true ⟨h1, h2⟩]
      go_enter Try.func55, Try.ntmps55
      go_wp2_with fail
      go_ret
      exact ⟨rfl, rfl⟩
    · rw [decide_eq_false (by omega)]
      go_enter Try.func55, Try.ntmps55
      go_wp2_with fail
      go_ret
      exact ⟨rfl, rfl⟩
  · rw [decide_eq_false (by omega)]
    go_enter Try.func55, Try.ntmps55
    go_wp2_with fail
    go_ret
    exact ⟨rfl, rfl⟩

set_option maxRecDepth 100000 in
set_option maxHeartbeats 4000000 in
theorem Right9_any (k n d : Int) (nm : List UInt8) (w : World) (hs : nm.length ≤ maxLen) : Calls Try.prog 45 #[.agg #[.int .i64 k, .int .i64 n, .int .i64 d, .string ⟨nm.toArray⟩]] w fun e w' => e = .returned (.bool (rightV ⟨k, n, d, nm⟩)) ∧ Below w.heap.size w w' := by
  obtain ⟨hn, hhn⟩ : ∃ x, H n = x := ⟨_, rfl⟩
  obtain ⟨hB, hhB⟩ : ∃ x, (n == hn) = x := ⟨_, rfl⟩
  have HB : Hid (decide (n = H n) = hB) := Lib.hid (by rw [hhn, ← hhB]; rfl)
  obtain ⟨aB, haB⟩ : ∃ x, decide (d = 0 ∧ nm = []) = x := ⟨_, rfl⟩
  have HA := Lib.hid haB
  have CH : ∀ W : World, Calls Try.prog 49 #[.int .i64 n] W fun e w' => e = .returned (.int .i64 hn) ∧ w' = W := fun W => (Hold_any n W).mono fun e w' ⟨h1, h2⟩ => ⟨by rw [h1, hhn], h2.symm⟩
  have HC := Lib.hid CH
  obtain ⟨R, hR⟩ : ∃ x, rightV ⟨k, n, d, nm⟩ = x := ⟨_, rfl⟩
  have HR := Lib.hid hR
  rw [hR]
  have hfx : (w.alloc (.cells #[.int .i64 k, .int .i64 n, .int .i64 d, .string ⟨nm.toArray⟩] 34)).heap[w.heap.size]? = some (.cells #[.int .i64 k, .int .i64 n, .int .i64 d, .string ⟨nm.toArray⟩] 34 (0, 0)) := heap_alloc_new w _
  have HX := Lib.hid hfx
  clear haB hhn CH hR hfx
  go_enter Try.func45, Try.ntmps45
  go_wp2_with fail
  go_quiet (first | (go_at_call 49; refine Calls.quiet_of_same (HC.out _)))
  generalize hW : w.alloc (.cells #[.int .i64 k, .int .i64 n, .int .i64 d, .string ⟨nm.toArray⟩] 34) = W at *
  have HBW : Hid (Below w.heap.size w (W.drewN nq)) := Lib.hid (below_drewN2 (by rw [← hW]; exact (Below.refl _ _).alloc (Nat.le_refl _) _) _)
  have hX2 : (W.drewN nq).heap[w.heap.size]? = some (.cells #[.int .i64 k, .int .i64 n, .int .i64 d, .string ⟨nm.toArray⟩] 34 (0, 0)) := HX.out
  clear hW HX
  generalize W.drewN nq = wc at *
  obtain ⟨Bx, hBx⟩ : ∃ Bx, w.heap.size = Bx := ⟨_, rfl⟩
  rw [hBx] at hX2 HBW
  simp only [hBx]
  have HBX := Lib.hid hBx
  have c0 : wc.cell? ⟨Bx, 0, none⟩ = some (.int .i64 k) := cell_of hX2 rfl
  have c1 : wc.cell? ⟨Bx, 1, none⟩ = some (.int .i64 n) := cell_of hX2 rfl
  have c2 : wc.cell? ⟨Bx, 2, none⟩ = some (.int .i64 d) := cell_of hX2 rfl
  have c3 : wc.cell? ⟨Bx, 3, none⟩ = some (.string ⟨nm.toArray⟩) := cell_of hX2 rfl
  have hBl := blk_lt9 hX2
  clear hX2 hBx
  go_upto_region 2 with (fail)
  go_cut [4] (fun s4 wx => wx = wc ∧ s4 = .bool aB)
  case first =>
    by_cases h0 : d = 0
    · subst h0
      cases nm with
      | nil =>
        go_wp2_with fail
        go_meet
        exact ⟨rfl, by rw [← HA.out]; rfl⟩
      | cons c r =>
        go_wp2_with fail
        go_meet
        exact ⟨rfl, by rw [← HA.out]; simp⟩
    · have hz : (d == 0) = false := by rw [beq_eq_false_iff_ne]; exact h0
      have hF : Hid (aB = false) := Lib.hid (by rw [← HA.out]; simp [h0])
      clear h0
      go_wp2_with fail
      go_meet
      exact ⟨rfl, by rw [hF.out]⟩
  case rest =>
    obtain ⟨rfl, rfl⟩ := hcut
    have HBZ : Hid (Below w.heap.size w wc) := Lib.hid (by rw [HBX.out]; exact HBW.out)
    have HBX1 := Lib.hid HBX.out
    rcases (by omega : k = 1 ∨ k = 2 ∨ k = 3 ∨ k = 4 ∨ k = 5 ∨ k = 6 ∨ (k ≠ 1 ∧ k ≠ 2 ∧ k ≠ 3 ∧ k ≠ 4 ∧ k ≠ 5 ∧ k ≠ 6)) with rfl | rfl | rfl | rfl | rfl | rfl | ⟨h1, h2, h3, h4, h5, h6⟩
    · have hR := HR.out
      rw [rv1, HA.out] at hR
      cases aB with
      | false =>
        have HF : Hid (false = R) := Lib.hid hR
        clear hR
        go_wp2_with fail
        go_ret
        exact ⟨ret_bool HF.out, HBZ.out⟩
      | true =>
        have hT := Text9_any n wc
        have hin : txtP wordsL n = [] ∧ false = R ∨ (∃ c r, txtP wordsL n = c :: r) ∧ true = R := by
          by_cases hin : 1 ≤ n ∧ n ≤ 30
          · right
            rw [decide_eq_true hin] at hR
            refine ⟨?_, hR⟩
            have hne : txtP wordsL n ≠ [] := words_ne _ (txtP_in hin.1 hin.2)
            cases hx : txtP wordsL n with
            | nil => exact absurd hx hne
            | cons c r => exact ⟨c, r, rfl⟩
          · left
            rw [decide_eq_false hin] at hR
            exact ⟨txtP_out hin, hR⟩
        clear hR
        rcases hin with ⟨hx, hR⟩ | ⟨⟨c, r, hx⟩, hR⟩
        all_goals
          have HF := Lib.hid hR
          rw [hx] at hT
          have HT := Lib.hid hT
          clear hT hx hR
          go_wp2_with fail
          refine HT.out.mono ?_
          rintro e w2 ⟨rfl, hb2⟩
          have HB2 := Lib.hid (HBZ.out.trans (hb2.mono HBZ.out.size))
          clear hb2
          go_wp2_with fail
          go_ret
          exact ⟨ret_bool HF.out, HB2.out⟩
    · have hR := HR.out
      rw [rv2, HB.out] at hR
      cases hB with
      | false =>
        have HF : Hid (false = R) := Lib.hid hR
        clear hR
        go_wp2_with fail
        go_quiet (fail)
        go_wp2_with fail
        go_ret
        exact ⟨ret_bool HF.out, below_drewN2 HBZ.out _⟩
      | true =>
        have hR : (decide (1 ≤ d ∧ d ≤ 8) && decide (nm = [])) = R := hR
        have hN := fun (W : World) (hW : TxAt W wc.heap.size unitsL) => numbered_any wc.heap.size unitsL 8 8 d W rfl (by omega) (by omega) hW
        have HTX := Lib.hid (TxAt.made wc unitsL)
        have UN := Lib.hid units_any
        have hin : txtP unitsL d = [] ∧ false = R ∨ (∃ c r, txtP unitsL d = c :: r) ∧ decide (nm = []) = R := by
          by_cases hin : 1 ≤ d ∧ d ≤ 8
          · right
            rw [decide_eq_true hin] at hR
            refine ⟨?_, hR⟩
            have hne : txtP unitsL d ≠ [] := units_ne _ (txtP_in hin.1 hin.2)
            cases hx : txtP unitsL d with
            | nil => exact absurd hx hne
            | cons c r => exact ⟨c, r, rfl⟩
          · left
            rw [decide_eq_false hin] at hR
            exact ⟨txtP_out hin, hR⟩
        clear hR
        obtain ⟨C, hC⟩ : ∃ C, Obj.cells (txcs unitsL) 9 = C := ⟨_, rfl⟩
        have HBA : Hid (Below w.heap.size w (wc.alloc C)) := Lib.hid (HBZ.out.alloc HBZ.out.size _)
        rw [hC] at HTX UN
        clear hC
        rcases hin with ⟨hx, hR⟩ | ⟨⟨c, r, hx⟩, hR⟩
        · have HF := Lib.hid hR
          rw [hx] at hN
          have NB := Lib.hid (hN (wc.alloc C).drew (fun i h => HTX.out i h))
          clear hN hx hR
          go_wp2_with fail
          first
            | (go_region_with (first
                | (go_at_call 54; refine (UN.out _).mono ?_; rintro e w2 ⟨rfl, rfl⟩)
                | (go_at_call 48; refine NB.out.mono ?_; rintro e w2 ⟨rfl, rfl⟩)))
            | fail
          all_goals
            go_wp2_with fail
            go_ret
            exact ⟨ret_bool HF.out, below_drewN2 HBA.out 1⟩
        · cases nm
          all_goals
            have HF := Lib.hid hR
            have hN2 := hN
            rw [hx] at hN2
            have NB := Lib.hid (hN2 (wc.alloc C).drew (fun i h => HTX.out i h))
            clear hN hN2 hx hR
            go_wp2_with fail
            go_region_with (first
              | (go_at_call 54; refine (UN.out _).mono ?_; rintro e w2 ⟨rfl, rfl⟩)
              | (go_at_call 48; refine NB.out.mono ?_; rintro e w2 ⟨rfl, rfl⟩))
            all_goals
              go_wp2_with fail
              go_ret
              exact ⟨ret_bool (by rw [← HF.out]; simp), below_drewN2 HBA.out 1⟩
    · have hR := HR.out
      rw [rv3, HB.out, HA.out] at hR
      have HF := Lib.hid hR
      clear hR
      cases hB <;> cases aB
      all_goals
        go_wp2_with fail
        go_ret
        exact ⟨ret_bool HF.out, HBZ.out⟩
    · have hR := HR.out
      rw [rv4, HB.out, HA.out] at hR
      have HF := Lib.hid hR
      clear hR
      cases hB <;> cases aB
      all_goals
        go_wp2_with fail
        go_ret
        exact ⟨ret_bool HF.out, HBZ.out⟩
    · have hR := HR.out
      rw [rv5] at hR
      have I1 := inRatio_any n
      have I2 := inRatio_any d
      generalize decide (0 ≤ n ∧ n ≤ 1073741824) = b1 at *
      generalize decide (0 ≤ d ∧ d ≤ 1073741824) = b2 at *
      have HI1 := Lib.hid I1
      have HI2 := Lib.hid I2
      clear I1 I2
      cases b1 with
      | false =>
        have HF : Hid (false = R) := Lib.hid hR
        clear hR
        go_wp2_with fail
        refine (HI1.out _).mono ?_
        rintro e w2 ⟨rfl, rfl⟩
        go_wp2_with fail
        go_ret
        exact ⟨ret_bool HF.out, HBZ.out⟩
      | true =>
        cases b2 with
        | false =>
          have HF : Hid (false = R) := Lib.hid hR
          clear hR
          go_wp2_with fail
          refine (HI1.out _).mono ?_
          rintro e w2 ⟨rfl, rfl⟩
          go_wp2_with fail
          refine (HI2.out _).mono ?_
          rintro e w3 ⟨rfl, rfl⟩
          go_wp2_with fail
          go_ret
          exact ⟨ret_bool HF.out, HBZ.out⟩
        | true =>
          cases nm
          all_goals
            have HF := Lib.hid hR
            clear hR
            go_wp2_with fail
            refine (HI1.out _).mono ?_
            rintro e w2 ⟨rfl, rfl⟩
            go_wp2_with fail
            refine (HI2.out _).mono ?_
            rintro e w3 ⟨rfl, rfl⟩
            go_wp2_with fail
            go_ret
            exact ⟨ret_bool (by rw [← HF.out]; simp), HBZ.out⟩
    · have hR := HR.out
      rw [rv6] at hR
      have N1 := fun W => Name_any ⟨nm.toArray⟩ (by show nm.toArray.size ≤ maxLen; simpa using hs) W
      have W1 := fun W => Word_any nm W
      have e1 : nameB ⟨nm.toArray⟩ = nameL nm := rfl
      rw [e1] at N1
      by_cases h0 : n = 0
      · subst h0
        by_cases h0 : d = 0
        · subst h0
          generalize nameL nm = b1 at *
          generalize wordP nm = q at *
          have HN1 := Lib.hid N1
          have HW1 := Lib.hid W1
          clear N1 W1
          cases b1 with
          | false =>
            have HF : Hid (false = R) := Lib.hid hR
            clear hR
            go_wp2_with fail
            refine (HN1.out _).mono ?_
            rintro e w2 ⟨rfl, rfl⟩
            go_wp2_with fail
            go_ret
            exact ⟨ret_bool HF.out, HBZ.out⟩
          | true =>
            rcases Nat.eq_zero_or_pos q with rfl | hq
            · have HF : Hid (true = R) := Lib.hid hR
              clear hR
              go_wp2_with fail
              refine (HN1.out _).mono ?_
              rintro e w2 ⟨rfl, rfl⟩
              go_wp2_with fail
              refine (HW1.out _).mono ?_
              rintro e w3 ⟨rfl, hb3⟩
              have HB3 := Lib.hid (HBZ.out.trans (hb3.mono HBZ.out.size))
              clear hb3
              go_wp2_with fail
              go_ret
              exact ⟨ret_bool HF.out, HB3.out⟩
            · have hqz : ((q : Int) == 0) = false := by rw [beq_eq_false_iff_ne]; omega
              have hqn : ¬ q = 0 := by omega
              have HF : Hid (false = R) := Lib.hid (by rw [← hR, decide_eq_false hqn]; rfl)
              clear hR
              go_wp2_with fail
              refine (HN1.out _).mono ?_
              rintro e w2 ⟨rfl, rfl⟩
              go_wp2_with fail
              refine (HW1.out _).mono ?_
              rintro e w3 ⟨rfl, hb3⟩
              have HB3 := Lib.hid (HBZ.out.trans (hb3.mono HBZ.out.size))
              clear hb3
              go_wp2_with fail
              go_ret
              exact ⟨ret_bool HF.out, HB3.out⟩
        · have hz : (d == 0) = false := by rw [beq_eq_false_iff_ne]; exact h0
          have HF : Hid (false = R) := Lib.hid (by rw [← hR, decide_eq_false h0]; rfl)
          clear hR h0 N1 W1
          go_wp2_with fail
          go_ret
          exact ⟨ret_bool HF.out, HBZ.out⟩
      · have hz : (n == 0) = false := by rw [beq_eq_false_iff_ne]; exact h0
        have HF : Hid (false = R) := Lib.hid (by rw [← hR, decide_eq_false h0]; rfl)
        clear hR h0 N1 W1
        go_wp2_with fail
        go_ret
        exact ⟨ret_bool HF.out, HBZ.out⟩
    · have hR := HR.out
      rw [rvo n d nm h1 h2 h3 h4 h5 h6] at hR
      have HF : Hid (false = R) := Lib.hid hR
      have z1 : (k == 1) = false := by rw [beq_eq_false_iff_ne]; exact h1
      have z2 : (k == 2) = false := by rw [beq_eq_false_iff_ne]; exact h2
      have z3 : (k == 3) = false := by rw [beq_eq_false_iff_ne]; exact h3
      have z4 : (k == 4) = false := by rw [beq_eq_false_iff_ne]; exact h4
      have z5 : (k == 5) = false := by rw [beq_eq_false_iff_ne]; exact h5
      have z6 : (k == 6) = false := by rw [beq_eq_false_iff_ne]; exact h6
      clear hR h1 h2 h3 h4 h5 h6
      go_wp2_with fail
      go_ret
      exact ⟨ret_bool HF.out, HBZ.out⟩
end Go.Proofs.Ytlngipglhlhhbaa
