/- The walks of layer 2's reference: a total is dealt, to the neediest one by one. -/
import Derived.Test.YtaegajlffiepoaaShaL3
import Derived.Test.YtaegajlffiepoaaShaD5
namespace Go.Proofs.Ytaegajlffiepoaa
open Go.RowKit FixM ShaD ShaM Go.Sort

theorem Lst_under {w w1 : World} {a : Option Addr} {ws : List Int} (hL : Lst w a ws) (hb : Below w.heap.size w w1) : Lst w1 a ws := by
  rcases hL with rfl | ⟨b, off, rfl, hbs, hc⟩
  · exact Or.inl rfl
  · exact Or.inr ⟨b, off, rfl, by have := hb.size; omega, fun i hi => by rw [hb.cell (p := ⟨b, off + i, none⟩) hbs]; exact hc i hi⟩

set_option maxRecDepth 100000 in
set_option maxHeartbeats 400000 in
theorem refDeal_none (t : Int) (a : Option Addr) (cap : Nat) (ws : List Int) (w : World) (hl : ws.length ≤ 1000) (hL : Lst w a ws) (hz : wsum ws = 0) :
    Calls Try.prog 27 #[.int .i64 t, .slice a ws.length cap] w fun e w' =>
      e = .returned (.slice (some ⟨w.heap.size, 0, none⟩) ws.length ws.length) ∧ Below w.heap.size w w' ∧ Row w' w.heap.size ws.length (fun _ => 0) := by
  have hmk := make_ints ws.length hl
  have c := refWeights_any a cap ws (mk0 w ws.length) hl (Lst_under hL (below_mk0 w _))
  rw [hz] at c
  have C := Lib.hid c
  clear c
  go_enter Try.func27, Try.ntmps27
  go_wp2_with fail
  refine C.out.mono ?_
  rintro e w' ⟨rfl, rfl⟩
  go_wp2_with fail
  refine (refHold_any _ _).mono ?_
  rintro e w' ⟨rfl, rfl⟩
  go_wp2_with fail
  go_ret
  exact ⟨rfl, below_mk0 w _, row_mk0 w _⟩

set_option maxRecDepth 100000 in
set_option maxHeartbeats 8000000 in
theorem refDeal_pos (t0 t : Int) (bw off cap : Nat) (ws : List Int) (A : Int) (w : World) (hH : H t0 = t) (ht : 0 ≤ t) (ht2 : t ≤ 1073741824) (hA : A = wsum ws) (hp : 0 < A) (hl : ws.length ≤ 1000) (hn : 0 < ws.length)
    (hbw : bw < w.heap.size) (hc : ∀ i, i < ws.length → w.cell? ⟨bw, off + i, none⟩ = some (.int .i64 (ws.getD i 0))) :
    Calls Try.prog 27 #[.int .i64 t0, .slice (some ⟨bw, off, none⟩) ws.length cap] w fun e w' =>
      e = .returned (.slice (some ⟨w.heap.size, 0, none⟩) ws.length ws.length) ∧ Below w.heap.size w w' ∧
        Row w' w.heap.size ws.length (fun i => qs t A ws i + if rk (rs t A ws) ws.length i < (t - qsum t A ws ws.length).toNat then 1 else 0) := by
  have hmk := make_ints ws.length hl
  have hcs : ∀ W, Below w.heap.size w W → ∀ i, i < ws.length → W.cell? ⟨bw, off + i, none⟩ = some (.int .i64 (ws.getD i 0)) := fun W hW i hi => by
    rw [hW.cell (p := ⟨bw, off + i, none⟩) hbw]; exact hc i hi
  have c1 := refWeights_any (some ⟨bw, off, none⟩) cap ws (mk0 w ws.length) hl (Lst_under (Or.inr ⟨bw, off, rfl, hbw, hc⟩) (below_mk0 w _))
  rw [← hA] at c1
  have C1 := Lib.hid c1
  have HCS := Lib.hid hcs
  have HA := Lib.hid hA
  have HH := Lib.hid hH
  have bA : (A == 0) = false := by simp; omega
  have hA2 : A ≤ 1073741824000 := by have := wsum_bd ws; omega
  obtain ⟨n, hnn⟩ : ∃ n, ws.length = n := ⟨_, rfl⟩
  rw [hnn] at hmk C1 hl hn ⊢
  have HN := Lib.hid hnn
  clear hc hcs hA hnn c1 hH
  go_enter Try.func27, Try.ntmps27
  go_wp2_with fail
  refine C1.out.mono ?_
  rintro e w' ⟨rfl, rfl⟩
  go_wp2_with fail
  refine (refHold_any _ _).mono ?_
  rintro e w' ⟨rfl, rfl⟩
  rw [HH.out]
  go_wp2_with fail
  clear hmk
  have hqb := fun k => qsum_bd ht ws HA.out hp k
  have hlb := left_bd (t := t) ws HA.out hp (by rw [HN.out]; exact hn)
  rw [HN.out] at hlb
  have HQB := Lib.hid hqb
  have HLB := Lib.hid hlb
  have hq1 := fun k => qs_bd ht ws HA.out hp k
  have HQ1 := Lib.hid hq1
  have hr1 := fun k => rs_bd (t := t) ws hp k
  have HR1 := Lib.hid hr1
  clear hqb hlb hq1 hr1
  obtain ⟨S, hS⟩ : ∃ S, S = w.heap.size := ⟨_, rfl⟩
  obtain ⟨O, hO⟩ : ∃ O, O = (mk0 w n).heap.size := ⟨_, rfl⟩
  have hSO : O = S + 1 := by rw [hO, hS]; unfold mk0; simp
  have hbel : Below S w (mk0 (mk0 w n) n) := by
    have h1 := below_mk0 w n
    have h2 := below_mk0 (mk0 w n) n
    rw [← hS] at h1
    rw [← hO] at h2
    exact h1.trans (h2.mono (by omega))
  have hrS : Row (mk0 (mk0 w n) n) S n (fun _ => 0) := by
    have h1 := below_mk0 (mk0 w n) n
    have h2 := row_mk0 w n
    rw [← hO] at h1
    rw [← hS] at h2
    exact h2.below h1 (by omega)
  have hrO : Row (mk0 (mk0 w n) n) O n (fun _ => 0) := by rw [hO]; exact row_mk0 (mk0 w n) n
  have hbS : bw < S := by rw [hS]; exact hbw
  rw [← hS, ← hO]
  generalize mk0 (mk0 w n) n = w3 at hbel hrS hrO ⊢
  have BEL := Lib.hid hbel
  have RS := Lib.hid hrS
  have RO := Lib.hid hrO
  have HS := Lib.hid hS
  have HSO := Lib.hid hSO
  have nSO : S ≠ O := by omega
  clear hbel hrS hrO hS hO hSO hbw
  go_loopw [10, 12] (fun vl vi wr => ∃ k : Nat, vi = .int .i64 k ∧ k ≤ n ∧ vl = .int .i64 (t - qsum t A ws k) ∧ Hid (Below S w wr) ∧ Hid (Row wr S n (fun i => if i < k then qs t A ws i else 0)) ∧ Hid (Row wr O n (fun i => if i < k then rs t A ws i else 0))) (fun _ vi _ => n - (intOf vi).toNat)
  case atStart => exact ⟨0, rfl, by omega, congrArg (Value.int .i64) (by simp [qsum]), BEL, by simpa [Hid] using RS.out, by simpa [Hid] using RO.out⟩
  case round =>
    clear BEL RS RO
    obtain ⟨k, rfl, hk, rfl, BEL, RS, RO⟩ := hrel
    have hqk := HQB.out k
    have hqk2 : t * (k : Int) ≤ 1073741824 * 1000 := by
      have h1 := Int.mul_le_mul_of_nonneg_right ht2 (show (0 : Int) ≤ (k : Int) by omega)
      omega
    obtain ⟨Q, hQ⟩ : ∃ Q, qsum t A ws k = Q := ⟨_, rfl⟩
    rw [hQ] at hqk ⊢
    have Q0 : 0 ≤ Q := hqk.1
    have Q1 : Q ≤ 1073741824000 := by omega
    have HQ := Lib.hid hQ
    clear hqk hqk2 hQ
    by_cases hlt : k < n
    · have hltz : (k : Int) < (n : Int) := by omega
      have hcw := HCS.out wr (by rw [← HS.out]; exact BEL.out) k (by rw [HN.out]; exact hlt)
      obtain ⟨x, hx⟩ : ∃ x, ws.getD k 0 = x := ⟨_, rfl⟩
      rw [hx] at hcw
      have hpr := prod_nonneg ht ht2 x
      obtain ⟨P, hP⟩ : ∃ P, t * WT x = P := ⟨_, rfl⟩
      rw [hP] at hpr
      have P0 : 0 ≤ P := hpr.1
      have P1 : P ≤ 1152921504606846976 := hpr.2
      have hq : qs t A ws k = P / A := by unfold qs; rw [hx, hP]
      have hr : rs t A ws k = P % A := by unfold rs; rw [hx, hP]
      have hqq := HQ1.out k
      rw [hq] at hqq
      have g0 : 0 ≤ P / A := hqq.1
      have g1 : P / A ≤ 1073741824 := by omega
      have hrr := HR1.out k
      rw [hr] at hrr
      have g2 : 0 ≤ P % A := hrr.1
      have g3 : P % A < A := hrr.2
      obtain ⟨cS, fS⟩ := RS.out k hlt
      have hS1 := RS.out.set hlt (P / A)
      have hO1 := RO.out.other (k := k) nSO (.int .i64 (P / A))
      have hBl1 := BEL.out.setCell (p := ⟨S, k, none⟩) (Nat.le_refl S) (.int .i64 (P / A))
      have hcw1 : (wr.setCell ⟨S, k, none⟩ (.int .i64 (P / A))).cell? ⟨bw, off + k, none⟩ = some (.int .i64 x) := by
        rw [World.cell?_setCell_other (h := by intro e; injection e; omega)]; exact hcw
      have HQv := Lib.hid hq
      have HRv := Lib.hid hr
      have hwt := WT_bd x
      have w0 : 0 ≤ WT x := hwt.1
      have w1 : WT x ≤ 1073741824 := hwt.2
      have zA : ¬ A = 0 := by omega
      clear hx hpr hqq hq hr hrr hwt
      have H1 := Lib.hid (And.intro hS1 (And.intro hO1 (And.intro hBl1 hcw1)))
      clear hS1 hO1 hBl1 hcw1
      go_wp2_with fail
      refine (refWeight_any _ _).mono ?_
      rintro e w' ⟨rfl, rfl⟩
      go_wp2_with fail
      clear cS fS hcw
      obtain ⟨hS1, hO1, hBl1, hcw1⟩ := H1.out
      clear H1
      generalize (wr.setCell ⟨S, k, none⟩ (.int .i64 (P / A))) = wq at hS1 hO1 hBl1 hcw1 ⊢
      obtain ⟨cO, fO⟩ := hO1 k hlt
      simp only [Nat.lt_irrefl, if_false] at cO
      have hS2 := hS1.other (k := k) (b' := O) (by omega) (.int .i64 (P % A))
      have hO2 := hO1.set hlt (P % A)
      have hBl2 := hBl1.setCell (p := ⟨O, k, none⟩) (show S ≤ O by have := HSO.out; omega) (.int .i64 (P % A))
      have hcS := (hS2 k hlt).1
      simp only [if_true] at hcS
      have q1 : P.tmod A = P % A := Int.tmod_eq_emod_of_nonneg P0
      have q2 : IntKind.i64.wrap (P % A) = P % A := IntWalk.i64_in _ (by omega)
      have H2 := Lib.hid (And.intro hS2 (And.intro hO2 hBl2))
      clear hS2 hO2 hBl2 hS1 hO1 hBl1
      refine (refWeight_any _ _).mono ?_
      rintro e w' ⟨rfl, rfl⟩
      go_wp2_with fail
      clear q1 q2
      go_roundw
      case rel =>
        obtain ⟨HS2, HO2, HBl2⟩ := H2.out
        refine ⟨k + 1, by go_num, by omega, congrArg (Value.int .i64) (by simp only [qsum]; rw [HQ.out, HQv.out]; omega), HBl2, ?_, ?_⟩
        · refine HS2.ext fun i hi => ?_
          by_cases c : i = k
          · subst c; simp only [if_true]; rw [if_pos (by omega), HQv.out]
          · simp only [c, if_false]
            by_cases c2 : i < k
            · rw [if_pos c2, if_pos (by omega)]
            · rw [if_neg c2, if_neg (by omega)]
        · refine HO2.ext fun i hi => ?_
          by_cases c : i = k
          · subst c; simp only [if_true]; rw [if_pos (by omega), HRv.out]
          · simp only [c, if_false]
            by_cases c2 : i < k
            · rw [if_pos c2, if_pos (by omega)]
            · rw [if_neg c2, if_neg (by omega)]
      case measure => simp [intOf]; omega
    · have hkn : k = n := by omega
      have hrS : Row wr S n (qs t A ws) := RS.out.ext (fun i hi => by rw [if_pos (by omega)])
      have hrO : Row wr O n (rs t A ws) := RO.out.ext (fun i hi => by rw [if_pos (by omega)])
      have hQn : qsum t A ws n = Q := by rw [← hkn]; exact HQ.out
      obtain ⟨L, hL⟩ : ∃ L : Nat, t - Q = (L : Int) := by
        have h := HLB.out
        rw [hQn] at h
        exact ⟨(t - Q).toNat, by omega⟩
      have hLn : L < n := by
        have h := HLB.out
        rw [hQn] at h
        omega
      have D1 := Lib.hid (hrS.ext (g := fun i => qs t A ws i + if rk (rs t A ws) n i < 0 then 1 else 0) (fun i _ => by simp))
      have D2 := Lib.hid (hrO.ext (g := lft (rs t A ws) n 0) (fun i _ => by unfold lft; simp))
      have HQn := Lib.hid hQn
      have HKN := Lib.hid hkn
      have HL := Lib.hid hL
      clear hrS hrO hQn hkn RS RO HQ hL
      go_wp2_with fail
      rw [HL.out]
      go_loopw [10] (fun vl wr => ∃ m : Nat, m ≤ L ∧ vl = .int .i64 ((L : Int) - (m : Int)) ∧ Hid (Below S w wr) ∧ Hid (Row wr S n (fun i => qs t A ws i + if rk (rs t A ws) n i < m then 1 else 0)) ∧ Hid (Row wr O n (lft (rs t A ws) n m))) (fun vl _ => (intOf vl).toNat)
      case atStart => exact ⟨0, by omega, congrArg (Value.int .i64) (by omega), BEL, D1, D2⟩
      case round =>
        clear D1 D2 BEL
        obtain ⟨m, hm, rfl, BEL, D1, D2⟩ := hrel
        by_cases hlt2 : m < L
        · have hz2 : (0 : Int) < (L : Int) - (m : Int) := by omega
          obtain ⟨F, hF⟩ : ∃ F, lft (rs t A ws) n m = F := ⟨_, rfl⟩
          rw [hF] at D2
          have HF := Lib.hid hF
          clear hF
          go_wp2_with fail
          go_loopw [13, 14] (fun vb vi wx => ∃ i b q : Nat, vb = .int .i64 b ∧ vi = .int .i64 i ∧ 1 ≤ i ∧ i ≤ n ∧ b < i ∧ wx = wr.drewN q ∧ Hid (∀ j, j < i → j ≠ b → F j < F b ∨ (F j = F b ∧ b < j))) (fun _ vi _ => n - (intOf vi).toNat)
          case atStart => exact ⟨1, 0, 0, rfl, rfl, by omega, by omega, by omega, rfl, fun j h1 h2 => by omega⟩
          case round =>
            obtain ⟨i, b, q, rfl, rfl, hi1, hin, hbi, rfl, HB⟩ := hrel
            by_cases hlt3 : i < n
            · have hz3 : (i : Int) < (n : Int) := by omega
              have hz4 : (b : Int) < (n : Int) := by omega
              have c1 : (wr.drewN q).cell? ⟨O, i, none⟩ = some (.int .i64 (F i)) := (D2.out i hlt3).1
              have c2 : (wr.drewN q).cell? ⟨O, b, none⟩ = some (.int .i64 (F b)) := (D2.out b (by omega)).1
              obtain ⟨x, hx⟩ : ∃ x, F i = x := ⟨_, rfl⟩
              obtain ⟨y, hy⟩ : ∃ y, F b = y := ⟨_, rfl⟩
              rw [hx] at c1
              rw [hy] at c2
              have HX := Lib.hid hx
              have HY := Lib.hid hy
              clear hx hy
              generalize hwq : wr.drewN q = wq at c1 c2 ⊢
              have HW := Lib.hid hwq
              clear hwq
              by_cases hgt : y < x
              · go_wp2_with fail
                go_quiet (fail)
                go_wp2_with fail
                go_roundw
                case rel =>
                  refine ⟨i + 1, i, q + nq, rfl, by go_num, by omega, by omega, by omega, by rw [← HW.out, World.drewN_drewN], fun j h1 h2 => ?_⟩
                  have e1 := HX.out
                  have e2 := HY.out
                  by_cases c : j = b
                  · subst c; omega
                  · have := HB.out j (by omega) c; omega
                case measure => simp [intOf]; omega
              · go_wp2_with fail
                go_quiet (fail)
                go_wp2_with fail
                go_roundw
                case rel =>
                  refine ⟨i + 1, b, q + nq, rfl, by go_num, by omega, by omega, by omega, by rw [← HW.out, World.drewN_drewN], fun j h1 h2 => ?_⟩
                  have e1 := HX.out
                  have e2 := HY.out
                  by_cases c : j = i
                  · subst c; omega
                  · exact HB.out j (by omega) h2
                case measure => simp [intOf]; omega
            · have hie : i = n := by omega
              have hbn : b < n := by omega
              have hbest : rk (rs t A ws) n b = m := by
                obtain ⟨p, hp1, hp2⟩ := rk_onto (rs t A ws) n m (by omega)
                refine first_best (rs t A ws) n m p b (fun i => (HR1.out i).1) hp1 hp2 hbn ?_
                rw [HF.out]
                intro j h1 h2
                exact HB.out j (by omega) h2
              have HBEST := Lib.hid hbest
              have hz4 : (b : Int) < (n : Int) := by omega
              have d1 : Row (wr.drewN q) S n (fun i => qs t A ws i + if rk (rs t A ws) n i < m then 1 else 0) := D1.out
              have d2 : Row (wr.drewN q) O n F := D2.out
              have d3 : Below S w (wr.drewN q) := below_drewNS' BEL.out q
              generalize wr.drewN q = wq at d1 d2 d3 ⊢
              obtain ⟨cS, fS⟩ := d1 b hbn
              simp only [] at cS
              obtain ⟨v, hv⟩ : ∃ v, (qs t A ws b + if rk (rs t A ws) n b < m then 1 else 0) = v := ⟨_, rfl⟩
              rw [hv] at cS
              have hqb := HQ1.out b
              have v0 : 0 ≤ v := by rw [← hv]; split <;> omega
              have v1 : v ≤ 1073741825 := by rw [← hv]; split <;> omega
              have n1 := d1.set hbn (v + 1)
              have n2 := d2.other (k := b) nSO (.int .i64 (v + 1))
              have n3 := d3.setCell (p := ⟨S, b, none⟩) (Nat.le_refl S) (.int .i64 (v + 1))
              obtain ⟨cO, fO⟩ := n2 b hbn
              have HV := Lib.hid hv
              have m1 := Lib.hid (n1.other (k := b) (b' := O) (by omega) (.int .i64 (-1)))
              have m2 := Lib.hid (n2.set hbn (-1))
              have m3 := Lib.hid (n3.setCell (p := ⟨O, b, none⟩) (show S ≤ O by have := HSO.out; omega) (.int .i64 (-1)))
              clear n1 n2 n3 d1 d2 d3 hv hqb hbest hie D1 D2 BEL HB
              go_wp2_with fail
              go_roundw
              case rel =>
                refine ⟨m + 1, by omega, congrArg (Value.int .i64) (by omega), m3.out, m1.out.ext fun i hi => ?_, m2.out.ext fun i hi => ?_⟩
                · have hx := next_rk (rs t A ws) n m b i hbn hi HBEST.out
                  by_cases c : i = b
                  · subst c
                    rw [if_pos rfl, ← HV.out, if_neg (by have := HBEST.out; omega), if_pos (by have := HBEST.out; omega)]; omega
                  · rw [if_neg c]
                    by_cases c2 : rk (rs t A ws) n i < m
                    · rw [if_pos c2, if_pos (by omega)]
                    · rw [if_neg c2, if_neg (by omega)]
                · have hx := next_rk (rs t A ws) n m b i hbn hi HBEST.out
                  show (if i = b then -1 else F i) = _
                  rw [← HF.out]
                  unfold lft
                  by_cases c : i = b
                  · subst c
                    rw [if_pos rfl, if_pos (by have := HBEST.out; omega)]
                  · rw [if_neg c]
                    by_cases c2 : rk (rs t A ws) n i < m
                    · rw [if_pos c2, if_pos (by omega)]
                    · rw [if_neg c2, if_neg (by omega)]
              case measure => simp [intOf]; omega
        · have hml : m = L := by omega
          have HML := Lib.hid hml
          clear hml
          go_wp2_with fail
          go_ret
          have e : (t - qsum t A ws n).toNat = m := by have h1 := HQn.out; have h2 := HL.out; have := HML.out; rw [h1]; omega
          rw [e]
          have hs := HS.out
          rw [← hs]
          exact ⟨rfl, BEL.out, D1.out⟩
end Go.Proofs.Ytaegajlffiepoaa
