/- Layer 8's other text: Right. -/
import Derived.Test.YtjhhpilaaahicaaQryR2
import Derived.Deep.CutBlock
import Derived.Lib.QuietBelow
import Derived.BigQuiet
import Derived.Deep.QuietTactic
namespace Go.Proofs.Ytjhhpilaaahicaa
open Go.RowKit FixM FixP TreN QryP Go.Sort
set_option linter.unusedVariables false

set_option maxRecDepth 100000 in
set_option maxHeartbeats 8000000 in
theorem refRight8_any (x : List UInt8) (hs : x.length ≤ maxLen) (a : Option Addr) (L : List QN) (n c : Nat) (w : World) (hn : L.length = n) (hm : n ≤ maxLen) (hQ : Qns w a L) :
    Calls Try.prog 27 #[.agg #[.string ⟨x.toArray⟩, .slice a n c]] w fun e w' => e = .returned (.bool (rightQ ⟨x.toArray⟩ L)) ∧ Below w.heap.size w w' := by
  unfold maxLen at hm
  have HB0 := Lib.hid (below_oneQ w (.cells #[.string ⟨x.toArray⟩, .slice a n c] 25))
  have hx := heap_alloc_new w (.cells #[.string ⟨x.toArray⟩, .slice a n c] 25)
  have HQ := Lib.hid hQ
  have HN := Lib.hid hn
  have NM := Lib.hid (fun W => refName_any ⟨x.toArray⟩ (by show x.toArray.size ≤ maxLen; simpa using hs) W)
  have RS := Lib.hid (fun W => refReserved_any x W)
  have SP := Lib.hid (fun (h : n ≤ 1000) W (hW : Below w.heap.size w W) => refSpan_nat ⟨x.toArray⟩ a L n c hn h n 0 W (by omega) (hQ.below hW) (by omega))
  have HRQ : Hid (rightQ ⟨x.toArray⟩ L = (nmB ⟨x.toArray⟩ && (L.all ndR && decide (0 < n ∧ n ≤ 32 ∧ spanS L 0 = n)))) := Lib.hid (by unfold rightQ; rw [hn])
  generalize hW : w.alloc (.cells #[.string ⟨x.toArray⟩, .slice a n c] 25) = W at *
  have HX0 := Lib.hid hx
  obtain ⟨q0, q1⟩ := q_cells hx
  obtain ⟨R, hR⟩ : ∃ R, rightQ ⟨x.toArray⟩ L = R := ⟨_, rfl⟩
  rw [hR] at HRQ ⊢
  clear hx hQ hn hR
  cases x with
  | nil =>
    have HRR : Hid (R = (L.all ndR && decide (0 < n ∧ n ≤ 32 ∧ spanS L 0 = n))) := Lib.hid (by rw [HRQ.out, nmB_nil, Bool.true_and])
    clear HRQ
    go_enter Try.func27, Try.ntmps27
    go_wp2_with fail
    go_loopw [3] (fun vi wr => ∃ k : Nat, vi = .int .i64 (k : Int) ∧ k ≤ n ∧ Hid (∀ j (h : j < L.length), j < k → ndR L[j] = true) ∧ Hid (Below w.heap.size w wr) ∧ Hid (wr.heap[w.heap.size]? = some (.cells #[.string ⟨([] : List UInt8).toArray⟩, .slice a n c] 25 (0, 0)))) (fun vi _ => n - (intOf vi).toNat)
    case atStart => exact ⟨0, rfl, by omega, Lib.hid (fun j h hj => by omega), HB0, HX0⟩
    case round =>
      obtain ⟨k, rfl, hk, HJ, HB, HX⟩ := hrel
      obtain ⟨q0, q1⟩ := q_cells HX.out
      by_cases hlt : k < n
      · have hltz : (k : Int) < (n : Int) := by omega
        have hkl : k < L.length := by have := HN.out; omega
        obtain ⟨b, o, rfl, hbw, hc⟩ := HQ.out.get hkl
        obtain ⟨d0, d1, d2, d3, d4, d5, d6, d7, d8⟩ := hc.below HB.out hbw
        obtain ⟨⟨xk, xc, xf, ⟨a1, a2, a3⟩, ⟨b1, b2, b3⟩⟩, hxi⟩ : ∃ x, L[k] = x := ⟨_, rfl⟩
        simp only [hxi] at d0 d1 d2 d3 d4 d5 d6 d7 d8
        have hk0 : (0 : Int) ≤ (k : Int) := by omega
        have C := fun W => refNode8_any xk xc xf a1 a2 a3 b1 b2 b3 W
        obtain ⟨nd, hnd⟩ : ∃ nd, ndR ⟨xk, xc, xf, ⟨a1, a2, a3⟩, ⟨b1, b2, b3⟩⟩ = nd := ⟨_, rfl⟩
        rw [hnd] at C
        have CC := Lib.hid C
        have HXI := Lib.hid hxi
        have HND := Lib.hid hnd
        clear C hxi hnd hc
        cases nd
        · have HF : Hid (R = false) := Lib.hid (by
            have h1 : L.all ndR = false := by
              rw [List.all_eq_false]; exact ⟨_, List.getElem_mem hkl, by rw [HXI.out, HND.out]; simp⟩
            rw [HRR.out, h1, Bool.false_and])
          go_wp2_with fail
          refine (CC.out _).mono ?_
          rintro e w3 ⟨rfl, hb⟩
          have HB3 := Lib.hid (HB.out.trans (hb.mono HB.out.size))
          clear hb
          go_wp2_with fail
          go_ret
          exact ⟨by rw [HF.out]; rfl, HB3.out⟩
        · have HJ2 : Hid (∀ j (h : j < L.length), j < k + 1 → ndR L[j] = true) := Lib.hid (fun j h hj => by
            by_cases e : j = k
            · subst e; rw [HXI.out, HND.out]
            · exact HJ.out j h (by omega))
          go_wp2_with fail
          refine (CC.out _).mono ?_
          rintro e w3 ⟨rfl, hb⟩
          have hx3 := (hb.block _ (blk_ltQ HX.out)).trans HX.out
          have HX3 := Lib.hid hx3
          have HB3 := Lib.hid (HB.out.trans (hb.mono HB.out.size))
          clear hb hx3
          go_wp2_with fail
          go_roundw
          case rel => exact ⟨k + 1, by go_num, by omega, HJ2, HB3, HX3⟩
          case measure => simp [intOf]; omega
      · have hltz : ¬ (k : Int) < (n : Int) := by omega
        have HAL : Hid (R = decide (0 < n ∧ n ≤ 32 ∧ spanS L 0 = n)) := Lib.hid (by
          have h1 : L.all ndR = true := by
            rw [List.all_eq_true]
            intro y hy
            obtain ⟨j, hj, e⟩ := List.getElem_of_mem hy
            rw [← e]; exact HJ.out j hj (by have := HN.out; omega)
          rw [HRR.out, h1, Bool.true_and])
        have k0 := cell_regrown q0
        have k1 := cell_regrown q1
        rcases (by omega : n = 0 ∨ (0 < n ∧ 32 < n) ∨ (0 < n ∧ n ≤ 32)) with h0 | ⟨h0, h32⟩ | ⟨h0, h32⟩
        · have z0 : ¬ (0 : Int) < (n : Int) := by omega
          have zd : decide (0 < n) = false := decide_eq_false (by omega)
          have HF : Hid (R = false) := Lib.hid (by rw [HAL.out, decide_eq_false (by omega)])
          clear h0
          go_upto_region 8 with (fail)
          clear q0 q1
          refine wp_region_quiet_below (by kernel_rfl) (by kernel_rfl) ?_
          repeat (quiet_step (fail))
          refine wpQuiet_nil ?_
          intro _ hw'
          obtain ⟨⟨dq, osq⟩, hw''⟩ := hw'
          subst hw''
          go_wp2_with fail
          go_ret
          exact ⟨by rw [HF.out]; rfl, HB.out.trans ((below_regrown _ _ _).mono HB.out.size)⟩
        · have z0 : (0 : Int) < (n : Int) := by omega
          have z1 : ¬ (n : Int) ≤ 32 := by omega
          have HF : Hid (R = false) := Lib.hid (by rw [HAL.out, decide_eq_false (by omega)])
          go_upto_region 8 with (fail)
          clear q0 q1
          refine wp_region_quiet_below (by kernel_rfl) (by kernel_rfl) ?_
          repeat (quiet_step (fail))
          refine wpQuiet_nil ?_
          intro _ hw'
          obtain ⟨⟨dq, osq⟩, hw''⟩ := hw'
          subst hw''
          go_wp2_with fail
          go_ret
          exact ⟨by rw [HF.out]; rfl, HB.out.trans ((below_regrown _ _ _).mono HB.out.size)⟩
        · have z0 : (0 : Int) < (n : Int) := by omega
          have z1 : (n : Int) ≤ 32 := by omega
          obtain ⟨sp, hsp⟩ : ∃ sp, spanS L 0 = sp := ⟨_, rfl⟩
          rw [hsp] at SP HAL
          have bel : ∀ d os, Below w.heap.size w (grow (redrawn wr d) os) := fun d os => HB.out.trans ((below_regrown wr d os).mono HB.out.size)
          have cS : ∀ d os, Calls Try.prog 53 #[.agg #[.string ⟨([] : List UInt8).toArray⟩, .slice a n c], .int .i64 0] (grow (redrawn wr d) os) fun e w'' => e = .returned (.int .i64 (sp : Int)) ∧ ∃ p : Regrown, w'' = grow (redrawn wr p.d) p.os := fun d os => Calls.regrown_of (SP.out (by omega) _ (bel d os))
          clear hsp bel
          by_cases hs1 : sp = n
          · have zs : ((sp : Int) == (n : Int)) = true := by rw [hs1]; simp
            have HF : Hid (R = true) := Lib.hid (by rw [HAL.out, decide_eq_true ⟨h0, h32, hs1⟩])
            clear hs1
            go_upto_region 8 with (fail)
            clear q0 q1
            refine wp_region_quiet_below (by kernel_rfl) (by kernel_rfl) ?_
            repeat (quiet_step (exact cS _ _))
            refine wpQuiet_nil ?_
            intro _ hw'
            obtain ⟨⟨dq, osq⟩, hw''⟩ := hw'
            subst hw''
            go_wp2_with fail
            go_ret
            exact ⟨by rw [HF.out]; rfl, HB.out.trans ((below_regrown _ _ _).mono HB.out.size)⟩
          · have zs : ((sp : Int) == (n : Int)) = false := by rw [beq_eq_false_iff_ne]; omega
            have HF : Hid (R = false) := Lib.hid (by rw [HAL.out, decide_eq_false (fun g => hs1 g.2.2)])
            clear hs1
            go_upto_region 8 with (fail)
            clear q0 q1
            refine wp_region_quiet_below (by kernel_rfl) (by kernel_rfl) ?_
            repeat (quiet_step (exact cS _ _))
            refine wpQuiet_nil ?_
            intro _ hw'
            obtain ⟨⟨dq, osq⟩, hw''⟩ := hw'
            subst hw''
            go_wp2_with fail
            go_ret
            exact ⟨by rw [HF.out]; rfl, HB.out.trans ((below_regrown _ _ _).mono HB.out.size)⟩
  | cons c1 r1 =>
    have HRR0 := HRQ
    rw [nmB_cons] at HRR0
    obtain ⟨nb, hnb⟩ : ∃ nb, nameB ⟨(c1 :: r1).toArray⟩ = nb := ⟨_, rfl⟩
    obtain ⟨rb, hrb⟩ : ∃ rb, rsvB ⟨(c1 :: r1).toArray⟩ = rb := ⟨_, rfl⟩
    rw [hnb] at NM HRR0
    rw [hrb] at RS HRR0
    clear hnb hrb HRQ
    cases nb
    · have HF : Hid (R = false) := Lib.hid (by rw [HRR0.out, Bool.and_false, Bool.false_and])
      go_enter Try.func27, Try.ntmps27
      go_wp2_with fail
      refine (NM.out _).mono ?_
      rintro e wq ⟨rfl, rfl⟩
      go_wp2_with fail
      go_ret
      exact ⟨by rw [HF.out]; rfl, HB0.out⟩
    · cases rb
      · have HRR : Hid (R = (L.all ndR && decide (0 < n ∧ n ≤ 32 ∧ spanS L 0 = n))) := Lib.hid (by rw [HRR0.out]; rfl)
        clear HRR0
        go_enter Try.func27, Try.ntmps27
        go_wp2_with fail
        refine (NM.out _).mono ?_
        rintro e wq ⟨rfl, rfl⟩
        go_wp2_with fail
        refine (RS.out _).mono ?_
        rintro e wq ⟨rfl, rfl⟩
        go_wp2_with fail
        go_loopw [3] (fun vi wr => ∃ k : Nat, vi = .int .i64 (k : Int) ∧ k ≤ n ∧ Hid (∀ j (h : j < L.length), j < k → ndR L[j] = true) ∧ Hid (Below w.heap.size w wr) ∧ Hid (wr.heap[w.heap.size]? = some (.cells #[.string ⟨(c1 :: r1).toArray⟩, .slice a n c] 25 (0, 0)))) (fun vi _ => n - (intOf vi).toNat)
        case atStart => exact ⟨0, rfl, by omega, Lib.hid (fun j h hj => by omega), HB0, HX0⟩
        case round =>
          obtain ⟨k, rfl, hk, HJ, HB, HX⟩ := hrel
          obtain ⟨q0, q1⟩ := q_cells HX.out
          by_cases hlt : k < n
          · have hltz : (k : Int) < (n : Int) := by omega
            have hkl : k < L.length := by have := HN.out; omega
            obtain ⟨b, o, rfl, hbw, hc⟩ := HQ.out.get hkl
            obtain ⟨d0, d1, d2, d3, d4, d5, d6, d7, d8⟩ := hc.below HB.out hbw
            obtain ⟨⟨xk, xc, xf, ⟨a1, a2, a3⟩, ⟨b1, b2, b3⟩⟩, hxi⟩ : ∃ x, L[k] = x := ⟨_, rfl⟩
            simp only [hxi] at d0 d1 d2 d3 d4 d5 d6 d7 d8
            have hk0 : (0 : Int) ≤ (k : Int) := by omega
            have C := fun W => refNode8_any xk xc xf a1 a2 a3 b1 b2 b3 W
            obtain ⟨nd, hnd⟩ : ∃ nd, ndR ⟨xk, xc, xf, ⟨a1, a2, a3⟩, ⟨b1, b2, b3⟩⟩ = nd := ⟨_, rfl⟩
            rw [hnd] at C
            have CC := Lib.hid C
            have HXI := Lib.hid hxi
            have HND := Lib.hid hnd
            clear C hxi hnd hc
            cases nd
            · have HF : Hid (R = false) := Lib.hid (by
                have h1 : L.all ndR = false := by
                  rw [List.all_eq_false]; exact ⟨_, List.getElem_mem hkl, by rw [HXI.out, HND.out]; simp⟩
                rw [HRR.out, h1, Bool.false_and])
              go_wp2_with fail
              refine (CC.out _).mono ?_
              rintro e w3 ⟨rfl, hb⟩
              have HB3 := Lib.hid (HB.out.trans (hb.mono HB.out.size))
              clear hb
              go_wp2_with fail
              go_ret
              exact ⟨by rw [HF.out]; rfl, HB3.out⟩
            · have HJ2 : Hid (∀ j (h : j < L.length), j < k + 1 → ndR L[j] = true) := Lib.hid (fun j h hj => by
                by_cases e : j = k
                · subst e; rw [HXI.out, HND.out]
                · exact HJ.out j h (by omega))
              go_wp2_with fail
              refine (CC.out _).mono ?_
              rintro e w3 ⟨rfl, hb⟩
              have hx3 := (hb.block _ (blk_ltQ HX.out)).trans HX.out
              have HX3 := Lib.hid hx3
              have HB3 := Lib.hid (HB.out.trans (hb.mono HB.out.size))
              clear hb hx3
              go_wp2_with fail
              go_roundw
              case rel => exact ⟨k + 1, by go_num, by omega, HJ2, HB3, HX3⟩
              case measure => simp [intOf]; omega
          · have hltz : ¬ (k : Int) < (n : Int) := by omega
            have HAL : Hid (R = decide (0 < n ∧ n ≤ 32 ∧ spanS L 0 = n)) := Lib.hid (by
              have h1 : L.all ndR = true := by
                rw [List.all_eq_true]
                intro y hy
                obtain ⟨j, hj, e⟩ := List.getElem_of_mem hy
                rw [← e]; exact HJ.out j hj (by have := HN.out; omega)
              rw [HRR.out, h1, Bool.true_and])
            have k0 := cell_regrown q0
            have k1 := cell_regrown q1
            rcases (by omega : n = 0 ∨ (0 < n ∧ 32 < n) ∨ (0 < n ∧ n ≤ 32)) with h0 | ⟨h0, h32⟩ | ⟨h0, h32⟩
            · have z0 : ¬ (0 : Int) < (n : Int) := by omega
              have zd : decide (0 < n) = false := decide_eq_false (by omega)
              have HF : Hid (R = false) := Lib.hid (by rw [HAL.out, decide_eq_false (by omega)])
              clear h0
              go_upto_region 8 with (fail)
              clear q0 q1
              refine wp_region_quiet_below (by kernel_rfl) (by kernel_rfl) ?_
              repeat (quiet_step (fail))
              refine wpQuiet_nil ?_
              intro _ hw'
              obtain ⟨⟨dq, osq⟩, hw''⟩ := hw'
              subst hw''
              go_wp2_with fail
              go_ret
              exact ⟨by rw [HF.out]; rfl, HB.out.trans ((below_regrown _ _ _).mono HB.out.size)⟩
            · have z0 : (0 : Int) < (n : Int) := by omega
              have z1 : ¬ (n : Int) ≤ 32 := by omega
              have HF : Hid (R = false) := Lib.hid (by rw [HAL.out, decide_eq_false (by omega)])
              go_upto_region 8 with (fail)
              clear q0 q1
              refine wp_region_quiet_below (by kernel_rfl) (by kernel_rfl) ?_
              repeat (quiet_step (fail))
              refine wpQuiet_nil ?_
              intro _ hw'
              obtain ⟨⟨dq, osq⟩, hw''⟩ := hw'
              subst hw''
              go_wp2_with fail
              go_ret
              exact ⟨by rw [HF.out]; rfl, HB.out.trans ((below_regrown _ _ _).mono HB.out.size)⟩
            · have z0 : (0 : Int) < (n : Int) := by omega
              have z1 : (n : Int) ≤ 32 := by omega
              obtain ⟨sp, hsp⟩ : ∃ sp, spanS L 0 = sp := ⟨_, rfl⟩
              rw [hsp] at SP HAL
              have bel : ∀ d os, Below w.heap.size w (grow (redrawn wr d) os) := fun d os => HB.out.trans ((below_regrown wr d os).mono HB.out.size)
              have cS : ∀ d os, Calls Try.prog 53 #[.agg #[.string ⟨(c1 :: r1).toArray⟩, .slice a n c], .int .i64 0] (grow (redrawn wr d) os) fun e w'' => e = .returned (.int .i64 (sp : Int)) ∧ ∃ p : Regrown, w'' = grow (redrawn wr p.d) p.os := fun d os => Calls.regrown_of (SP.out (by omega) _ (bel d os))
              clear hsp bel
              by_cases hs1 : sp = n
              · have zs : ((sp : Int) == (n : Int)) = true := by rw [hs1]; simp
                have HF : Hid (R = true) := Lib.hid (by rw [HAL.out, decide_eq_true ⟨h0, h32, hs1⟩])
                clear hs1
                go_upto_region 8 with (fail)
                clear q0 q1
                refine wp_region_quiet_below (by kernel_rfl) (by kernel_rfl) ?_
                repeat (quiet_step (exact cS _ _))
                refine wpQuiet_nil ?_
                intro _ hw'
                obtain ⟨⟨dq, osq⟩, hw''⟩ := hw'
                subst hw''
                go_wp2_with fail
                go_ret
                exact ⟨by rw [HF.out]; rfl, HB.out.trans ((below_regrown _ _ _).mono HB.out.size)⟩
              · have zs : ((sp : Int) == (n : Int)) = false := by rw [beq_eq_false_iff_ne]; omega
                have HF : Hid (R = false) := Lib.hid (by rw [HAL.out, decide_eq_false (fun g => hs1 g.2.2)])
                clear hs1
                go_upto_region 8 with (fail)
                clear q0 q1
                refine wp_region_quiet_below (by kernel_rfl) (by kernel_rfl) ?_
                repeat (quiet_step (exact cS _ _))
                refine wpQuiet_nil ?_
                intro _ hw'
                obtain ⟨⟨dq, osq⟩, hw''⟩ := hw'
                subst hw''
                go_wp2_with fail
                go_ret
                exact ⟨by rw [HF.out]; rfl, HB.out.trans ((below_regrown _ _ _).mono HB.out.size)⟩
      · have HF : Hid (R = false) := Lib.hid (by rw [HRR0.out]; rfl)
        go_enter Try.func27, Try.ntmps27
        go_wp2_with fail
        refine (NM.out _).mono ?_
        rintro e wq ⟨rfl, rfl⟩
        go_wp2_with fail
        refine (RS.out _).mono ?_
        rintro e wq ⟨rfl, rfl⟩
        go_wp2_with fail
        go_ret
        exact ⟨by rw [HF.out]; rfl, HB0.out⟩
end Go.Proofs.Ytjhhpilaaahicaa
