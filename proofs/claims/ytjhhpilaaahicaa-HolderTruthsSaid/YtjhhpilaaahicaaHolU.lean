/- Layer 15: all of some queries; HolderTruths. -/
import Derived.Test.YtjhhpilaaahicaaHolT
import Derived.Test.YtjhhpilaaahicaaQryO
namespace Go.Proofs.Ytjhhpilaaahicaa
open Go.RowKit FixM FixP QryP TruP Go.Sort
set_option linter.unusedVariables false

/-- a list of queries lies in memory -/
def Qrs (W : World) (a : Option Addr) (m : Nat) (Q : Nat → QV) : Prop := m = 0 ∨ ∃ b off, a = some ⟨b, off, none⟩ ∧ b < W.heap.size ∧ ∀ j, j < m → W.cell? ⟨b, off + j * 2, none⟩ = some (.string ⟨(Q j).nm.toArray⟩) ∧ W.cell? ⟨b, off + j * 2 + 1, none⟩ = some (.slice (Q j).ad (Q j).n (Q j).c) ∧ Qns W (Q j).ad (Q j).L ∧ (Q j).L.length = (Q j).n ∧ (Q j).n ≤ maxLen ∧ (Q j).nm.length ≤ maxLen
theorem Qrs.below {w w' : World} {a : Option Addr} {m : Nat} {Q : Nat → QV} (h : Qrs w a m Q) (hb : Below w.heap.size w w') : Qrs w' a m Q := by
  rcases h with rfl | ⟨b, off, e, hbs, hc⟩
  · exact Or.inl rfl
  · refine Or.inr ⟨b, off, e, Nat.lt_of_lt_of_le hbs hb.size, fun j hj => ?_⟩
    obtain ⟨h0, h1, h2, h3⟩ := hc j hj
    exact ⟨(hb.cell (p := ⟨b, off + j * 2, none⟩) hbs).trans h0, (hb.cell (p := ⟨b, off + j * 2 + 1, none⟩) hbs).trans h1, h2.below hb, h3⟩
theorem Qrs.at_ {w : World} {a : Option Addr} {m : Nat} {Q : Nat → QV} (h : Qrs w a m Q) {j : Nat} (hj : j < m) : ∃ b off, a = some ⟨b, off, none⟩ ∧ b < w.heap.size ∧ w.cell? ⟨b, off + j * 2, none⟩ = some (.string ⟨(Q j).nm.toArray⟩) ∧ w.cell? ⟨b, off + j * 2 + 1, none⟩ = some (.slice (Q j).ad (Q j).n (Q j).c) ∧ Qns w (Q j).ad (Q j).L ∧ (Q j).L.length = (Q j).n ∧ (Q j).n ≤ maxLen ∧ (Q j).nm.length ≤ maxLen := by
  rcases h with rfl | ⟨b, off, e, hbs, hc⟩
  · omega
  · exact ⟨b, off, e, hbs, hc j hj⟩

set_option maxRecDepth 100000 in
set_option maxHeartbeats 8000000 in
theorem All15_any (a : Option Addr) (len cap : Nat) (f : Nat → Int) (i : Int) (U : List Nat) (hU : UpsIs f len i U) (hl : len ≤ 100000) (x : Option Addr) (m xc : Nat) (X : Nat → Ext) (qa : Option Addr) (qm qc : Nat) (Q : Nat → QV) (w : World) (hqm : qm ≤ 6) (hm : m ≤ 9223372036854775807) (hP : Pars w a len f) (hX : Exts w x m X) (hQ : Qrs w qa qm Q) (R : Bool) (hR : (∀ j, j < qm → trS X m U (Q j).nm (Q j).L = 1) ↔ R = true) :
    Calls Try.prog 32 #[.slice a len cap, .slice x m xc, .int .i64 i, .slice qa qm qc] w fun e w' => e = .returned (.bool R) ∧ Below w.heap.size w w' := by
  have HQ := Lib.hid hQ
  have HR := Lib.hid hR
  have TR := Lib.hid (fun (k : Nat) (hk : k < qm) W (hW : Below w.heap.size w W) => by
    obtain ⟨b, off, e, hbs, c0, c1, hq, hn, hnm, hs⟩ := hQ.at_ hk
    exact Truth15_any a len cap f i U hU hl x m xc X (Q k).nm hs (Q k).ad (Q k).L (Q k).n (Q k).c W hn hnm (hq.below hW) hm (hP.below hW) (hX.below hW))
  clear hP hX hQ hU hR
  go_enter Try.func32, Try.ntmps32
  go_wp2_with fail
  go_loopw [13] (fun vi wr => ∃ k : Nat, vi = .int .i64 (k : Int) ∧ k ≤ qm ∧ Hid (∀ j, j < k → trS X m U (Q j).nm (Q j).L = 1) ∧ Hid (Below w.heap.size w wr)) (fun vi _ => qm - (intOf vi).toNat)
  case atStart => exact ⟨0, rfl, by omega, Lib.hid (fun j hj => by omega), Lib.hid (Below.refl _ _)⟩
  case round =>
    obtain ⟨k, rfl, hk, HJ, HB⟩ := hrel
    by_cases hlt : k < qm
    · have hltz : (k : Int) < (qm : Int) := by omega
      have hk0 : (0 : Int) ≤ (k : Int) := by omega
      obtain ⟨b, off, rfl, hbs, c0, c1, _, _, _, _⟩ := (HQ.out.below HB.out).at_ hlt
      have T := fun W hW => TR.out k hlt W hW
      obtain ⟨g, hg⟩ : ∃ g, trS X m U (Q k).nm (Q k).L = g := ⟨_, rfl⟩
      rw [hg] at T
      have HG := Lib.hid hg
      have TT := Lib.hid T
      clear T hg
      have HB3 := below_oneT wr (.cells #[.string ⟨(Q k).nm.toArray⟩, .slice (Q k).ad (Q k).n (Q k).c] 25)
      have hx := heap_alloc_new wr (.cells #[.string ⟨(Q k).nm.toArray⟩, .slice (Q k).ad (Q k).n (Q k).c] 25)
      generalize hW2 : wr.alloc (.cells #[.string ⟨(Q k).nm.toArray⟩, .slice (Q k).ad (Q k).n (Q k).c] 25) = W2 at *
      obtain ⟨q0, q1⟩ := q_cells hx
      have HBB := Lib.hid (HB.out.trans (HB3.mono HB.out.size))
      clear HB3 hx
      by_cases h1 : g = 1
      · subst h1
        go_wp2_with fail
        refine (TT.out _ HBB.out).mono ?_
        rintro e w1 ⟨rfl, hb⟩
        have HB1 := Lib.hid (HBB.out.trans (hb.mono HBB.out.size))
        clear hb
        go_wp2_with fail
        go_roundw
        case rel => exact ⟨k + 1, by go_num, by omega, Lib.hid (fun j hj => by
          by_cases c : j = k
          · subst c; exact HG.out
          · exact HJ.out j (by omega)), HB1⟩
        case measure => simp [intOf]; omega
      · have hne : (g == 1) = false := neq_beq h1
        have HF : Hid (R = false) := Lib.hid (by
          cases hR : R with
          | false => rfl
          | true => exact absurd ((HR.out.2 hR) k hlt) (by rw [HG.out]; exact h1))
        clear h1
        go_wp2_with fail
        refine (TT.out _ HBB.out).mono ?_
        rintro e w1 ⟨rfl, hb⟩
        have HB1 := Lib.hid (HBB.out.trans (hb.mono HBB.out.size))
        clear hb
        go_wp2_with fail
        go_ret
        exact ⟨by rw [HF.out]; rfl, HB1.out⟩
    · have hltz : ¬ (k : Int) < (qm : Int) := by omega
      have HF : Hid (R = true) := Lib.hid (HR.out.1 (fun j hj => HJ.out j (by omega)))
      go_wp2_with fail
      go_ret
      exact ⟨by rw [HF.out]; rfl, HB.out⟩
set_option maxRecDepth 100000 in
set_option maxHeartbeats 8000000 in
theorem refAll15_any (a : Option Addr) (len cap : Nat) (f : Nat → Int) (i : Int) (U : List Nat) (hU : UpsIs f len i U) (hl : len ≤ 100000) (x : Option Addr) (m xc : Nat) (X : Nat → Ext) (qa : Option Addr) (qm qc : Nat) (Q : Nat → QV) (w : World) (hqm : qm ≤ 6) (hm : m ≤ 9223372036854775807) (hP : Pars w a len f) (hX : Exts w x m X) (hQ : Qrs w qa qm Q) (R : Bool) (hR : (∀ j, j < qm → trS X m U (Q j).nm (Q j).L = 1) ↔ R = true) :
    Calls Try.prog 33 #[.slice a len cap, .slice x m xc, .int .i64 i, .slice qa qm qc] w fun e w' => e = .returned (.bool R) ∧ Below w.heap.size w w' := by
  have HQ := Lib.hid hQ
  have HR := Lib.hid hR
  have TR := Lib.hid (fun (k : Nat) (hk : k < qm) W (hW : Below w.heap.size w W) => by
    obtain ⟨b, off, e, hbs, c0, c1, hq, hn, hnm, hs⟩ := hQ.at_ hk
    exact refTruth15_any a len cap f i U hU hl x m xc X (Q k).nm hs (Q k).ad (Q k).L (Q k).n (Q k).c W hn hnm (hq.below hW) hm (hP.below hW) (hX.below hW))
  clear hP hX hQ hU hR
  go_enter Try.func33, Try.ntmps33
  go_wp2_with fail
  go_loopw [9] (fun vi wr => ∃ k : Nat, vi = .int .i64 (k : Int) ∧ k ≤ qm ∧ Hid (∀ j, j < k → trS X m U (Q j).nm (Q j).L = 1) ∧ Hid (Below w.heap.size w wr)) (fun vi _ => qm - (intOf vi).toNat)
  case atStart => exact ⟨0, rfl, by omega, Lib.hid (fun j hj => by omega), Lib.hid (Below.refl _ _)⟩
  case round =>
    obtain ⟨k, rfl, hk, HJ, HB⟩ := hrel
    by_cases hlt : k < qm
    · have hltz : (k : Int) < (qm : Int) := by omega
      have hk0 : (0 : Int) ≤ (k : Int) := by omega
      obtain ⟨b, off, rfl, hbs, c0, c1, _, _, _, _⟩ := (HQ.out.below HB.out).at_ hlt
      have T := fun W hW => TR.out k hlt W hW
      obtain ⟨g, hg⟩ : ∃ g, trS X m U (Q k).nm (Q k).L = g := ⟨_, rfl⟩
      rw [hg] at T
      have HG := Lib.hid hg
      have TT := Lib.hid T
      clear T hg
      by_cases h1 : g = 1
      · subst h1
        go_wp2_with fail
        refine (TT.out _ HB.out).mono ?_
        rintro e w1 ⟨rfl, hb⟩
        have HB1 := Lib.hid (HB.out.trans (hb.mono HB.out.size))
        clear hb
        go_wp2_with fail
        go_roundw
        case rel => exact ⟨k + 1, by go_num, by omega, Lib.hid (fun j hj => by
          by_cases c : j = k
          · subst c; exact HG.out
          · exact HJ.out j (by omega)), HB1⟩
        case measure => simp [intOf]; omega
      · have hne : (g == 1) = false := neq_beq h1
        have HF : Hid (R = false) := Lib.hid (by
          cases hR : R with
          | false => rfl
          | true => exact absurd ((HR.out.2 hR) k hlt) (by rw [HG.out]; exact h1))
        clear h1
        go_wp2_with fail
        refine (TT.out _ HB.out).mono ?_
        rintro e w1 ⟨rfl, hb⟩
        have HB1 := Lib.hid (HB.out.trans (hb.mono HB.out.size))
        clear hb
        go_wp2_with fail
        go_ret
        exact ⟨by rw [HF.out]; rfl, HB1.out⟩
    · have hltz : ¬ (k : Int) < (qm : Int) := by omega
      have HF : Hid (R = true) := Lib.hid (HR.out.1 (fun j hj => HJ.out j (by omega)))
      go_wp2_with fail
      go_ret
      exact ⟨by rw [HF.out]; rfl, HB.out⟩
set_option maxRecDepth 100000 in
set_option maxHeartbeats 16000000 in
theorem HolderTruths_walk (a : Option Addr) (len cap : Nat) (f : Nat → Int) (i : Int) (x : Option Addr) (m xc : Nat) (X : Nat → Ext) (qa : Option Addr) (qm qc : Nat) (Q : Nat → QV) (w : World) (hqn : qm ≤ 9223372036854775807) (hm : m ≤ 9223372036854775807) (hP : Pars w a len f) (hX : Exts w x m X) (hQ : Qrs w qa qm Q) :
    Calls Try.prog 11 #[.slice a len cap, .slice x m xc, .int .i64 i, .slice qa qm qc] w fun e w' => e = .returned (.bool true) ∧ Below w.heap.size w w' := by
  obtain ⟨U, hU⟩ := upsIs_any f len i
  have K := Lib.hid (fun W => known15_any W)
  have F := Lib.hid (fun W => few15_any a len cap W)
  by_cases hl : (len : Int) ≤ 100
  · rw [decide_eq_true hl] at F
    by_cases hq6 : qm ≤ 6
    · have hqz : ¬ (6 : Int) < (qm : Int) := by omega
      have HQ := Lib.hid hQ
      have TC := Lib.hid (fun (k : Nat) (hk : k < qm) W (hW : Below w.heap.size w W) => by
        obtain ⟨b, off, e, hbs, c0, c1, hq, hn, hnm, hs⟩ := hQ.at_ hk
        exact Truth15_any a len cap f i U hU (by omega) x m xc X (Q k).nm hs (Q k).ad (Q k).L (Q k).n (Q k).c W hn hnm (hq.below hW) hm (hP.below hW) (hX.below hW))
      have TR := Lib.hid (fun (k : Nat) (hk : k < qm) W (hW : Below w.heap.size w W) => by
        obtain ⟨b, off, e, hbs, c0, c1, hq, hn, hnm, hs⟩ := hQ.at_ hk
        exact refTruth15_any a len cap f i U hU (by omega) x m xc X (Q k).nm hs (Q k).ad (Q k).L (Q k).n (Q k).c W hn hnm (hq.below hW) hm (hP.below hW) (hX.below hW))
      obtain ⟨R, hR⟩ : ∃ R : Bool, (∀ j, j < qm → trS X m U (Q j).nm (Q j).L = 1) ↔ R = true := by
        by_cases h : ∀ j, j < qm → trS X m U (Q j).nm (Q j).L = 1
        · exact ⟨true, fun _ => rfl, fun _ => h⟩
        · exact ⟨false, fun g => absurd g h, fun g => by cases g⟩
      have AC := Lib.hid (fun W (hW : Below w.heap.size w W) => All15_any a len cap f i U hU (by omega) x m xc X qa qm qc Q W hq6 hm (hP.below hW) (hX.below hW) (hQ.below hW) R hR)
      have AR := Lib.hid (fun W (hW : Below w.heap.size w W) => refAll15_any a len cap f i U hU (by omega) x m xc X qa qm qc Q W hq6 hm (hP.below hW) (hX.below hW) (hQ.below hW) R hR)
      clear hP hX hQ hU hl hR
      go_enter Try.func11, Try.ntmps11
      go_wp2_with fail
      refine (F.out _).mono ?_
      rintro e wq ⟨rfl, rfl⟩
      go_wp2_with fail
      go_loopw [9] (fun vi wr => ∃ k : Nat, vi = .int .i64 (k : Int) ∧ k ≤ qm ∧ Hid (Below w.heap.size w wr)) (fun vi _ => qm - (intOf vi).toNat)
      case atStart => exact ⟨0, rfl, by omega, Lib.hid (Below.refl _ _)⟩
      case round =>
        obtain ⟨k, rfl, hk, HB⟩ := hrel
        by_cases hlt : k < qm
        · have hltz : (k : Int) < (qm : Int) := by omega
          have hk0 : (0 : Int) ≤ (k : Int) := by omega
          obtain ⟨b, off, rfl, hbs, c0, c1, _, _, _, _⟩ := (HQ.out.below HB.out).at_ hlt
          by_cases h40 : (40 : Int) < ((Q k).n : Int)
          · go_wp2_with fail
            refine (K.out _).mono ?_
            rintro e w4 ⟨rfl, hb4⟩
            have HB4 := Lib.hid (HB.out.trans (hb4.mono HB.out.size))
            clear hb4
            go_wp2_with fail
            go_ret
            exact ⟨rfl, HB4.out⟩
          · have T := fun W hW => TC.out k hlt W hW
            have S := fun W hW => TR.out k hlt W hW
            generalize trS X m U (Q k).nm (Q k).L = g at T S
            have k0 := cell_regrown c0
            have k1 := cell_regrown c1
            have cT : ∀ d os, Calls Try.prog 30 #[.slice a len cap, .slice x m xc, .int .i64 i, .agg #[.string ⟨(Q k).nm.toArray⟩, .slice (Q k).ad (Q k).n (Q k).c]] (grow (redrawn wr d) os) fun e w'' => e = .returned (.int .i64 g) ∧ ∃ p : Regrown, w'' = grow (redrawn wr p.d) p.os := fun d os => Calls.regrown_of (T _ (HB.out.trans ((below_regrown wr d os).mono HB.out.size)))
            have cS : ∀ d os, Calls Try.prog 31 #[.slice a len cap, .slice x m xc, .int .i64 i, .agg #[.string ⟨(Q k).nm.toArray⟩, .slice (Q k).ad (Q k).n (Q k).c]] (grow (redrawn wr d) os) fun e w'' => e = .returned (.int .i64 g) ∧ ∃ p : Regrown, w'' = grow (redrawn wr p.d) p.os := fun d os => Calls.regrown_of (S _ (HB.out.trans ((below_regrown wr d os).mono HB.out.size)))
            clear T S
            go_upto_region 8 with (fail)
            clear c0 c1
            refine wp_region_quiet_below (by kernel_rfl) (by kernel_rfl) ?_
            repeat (quiet_step (first | with_reducible exact cT _ _ | with_reducible exact cS _ _))
            refine wpQuiet_nil ?_
            intro _ hw'
            obtain ⟨⟨dq, osq⟩, hw''⟩ := hw'
            subst hw''
            have HB2 := Lib.hid (HB.out.trans ((below_regrown wr dq osq).mono HB.out.size))
            clear k0 k1 cT cS
            generalize grow (redrawn wr dq) osq = w2 at HB2 ⊢
            go_wp2_with fail
            go_roundw
            case rel => exact ⟨k + 1, by go_num, by omega, HB2⟩
            case measure => simp [intOf]; omega
        · have hltz : ¬ (k : Int) < (qm : Int) := by omega
          go_wp2_with fail
          refine (AC.out _ HB.out).mono ?_
          rintro e w3 ⟨rfl, hb⟩
          have HB3 := Lib.hid (HB.out.trans (hb.mono HB.out.size))
          clear hb
          go_wp2_with fail
          refine (AR.out _ HB3.out).mono ?_
          rintro e w4 ⟨rfl, hb⟩
          have HB4 := Lib.hid (HB3.out.trans (hb.mono HB3.out.size))
          clear hb
          have hrr : (R == R) = true := by simp
          go_wp2_with fail
          refine (K.out _).mono ?_
          rintro e w5 ⟨rfl, hb⟩
          have HB5 := Lib.hid (HB4.out.trans (hb.mono HB4.out.size))
          clear hb
          go_wp2_with fail
          go_ret
          exact ⟨rfl, HB5.out⟩
    · have hqz : (6 : Int) < (qm : Int) := by omega
      clear hP hX hQ hU hl hq6
      go_enter Try.func11, Try.ntmps11
      go_wp2_with fail
      refine (F.out _).mono ?_
      rintro e wq ⟨rfl, rfl⟩
      go_wp2_with fail
      refine (K.out _).mono ?_
      rintro e w4 ⟨rfl, hb4⟩
      have HB4 := Lib.hid hb4
      clear hb4
      go_wp2_with fail
      go_ret
      exact ⟨rfl, HB4.out⟩
  · rw [decide_eq_false hl] at F
    clear hP hX hQ hU hl
    go_enter Try.func11, Try.ntmps11
    go_wp2_with fail
    refine (F.out _).mono ?_
    rintro e wq ⟨rfl, rfl⟩
    go_wp2_with fail
    refine (K.out _).mono ?_
    rintro e w4 ⟨rfl, hb4⟩
    have HB4 := Lib.hid hb4
    clear hb4
    go_wp2_with fail
    go_ret
    exact ⟨rfl, HB4.out⟩
end Go.Proofs.Ytjhhpilaaahicaa
