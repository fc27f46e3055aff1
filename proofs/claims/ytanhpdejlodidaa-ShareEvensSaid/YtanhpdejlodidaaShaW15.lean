/- The walks of layer 2's reference: a total is dealt, with its sign; the law that holds the two against each other. -/
import Derived.Test.YtanhpdejlodidaaShaW14
namespace Go.Proofs.Ytanhpdejlodidaa
open Go.RowKit FixM ShaD ShaM Go.Sort

set_option maxRecDepth 100000 in
set_option maxHeartbeats 4000000 in
theorem refDeal_neg (t : Int) (bw off cap : Nat) (ws : List Int) (A : Int) (w : World) (ht : H t < 0) (hA : A = wsum ws) (hp : 0 < A) (hl : ws.length ≤ 1000) (hn : 0 < ws.length)
    (hbw : bw < w.heap.size) (hc : ∀ i, i < ws.length → w.cell? ⟨bw, off + i, none⟩ = some (.int .i64 (ws.getD i 0))) :
    Calls Try.prog 15 #[.int .i64 t, .slice (some ⟨bw, off, none⟩) ws.length cap] w fun e w' =>
      e = .returned (.slice (some ⟨w.heap.size, 0, none⟩) ws.length ws.length) ∧ Below w.heap.size w w' ∧
        Row w' w.heap.size ws.length (fun i => -(qs (-H t) A ws i + if rk (rs (-H t) A ws) ws.length i < (-H t - qsum (-H t) A ws ws.length).toNat then 1 else 0)) := by
  have hHb := H_bd t
  have hmk := make_ints ws.length hl
  have c1 := refWeights_any (some ⟨bw, off, none⟩) cap ws (mk0 w ws.length) hl (Lst_under (Or.inr ⟨bw, off, rfl, hbw, hc⟩) (below_mk0 w _))
  rw [← hA] at c1
  have hsz : (mk0 w ws.length).heap.size = w.heap.size + 1 := by unfold mk0; simp
  have c2 := refDeal_pos (-H t) (-H t) bw off cap ws A (mk0 w ws.length) (H_id (by omega) (by omega)) (by omega) (by omega) hA hp hl hn (by omega) (fun i hi => by rw [(below_mk0 w ws.length).cell (p := ⟨bw, off + i, none⟩) hbw]; exact hc i hi)
  rw [hsz] at c2
  have hqb : ∀ i, 0 ≤ (qs (-H t) A ws i + if rk (rs (-H t) A ws) ws.length i < (-H t - qsum (-H t) A ws ws.length).toNat then 1 else 0) ∧ (qs (-H t) A ws i + if rk (rs (-H t) A ws) ws.length i < (-H t - qsum (-H t) A ws ws.length).toNat then 1 else 0) ≤ 1073741825 := fun i => by
    have := qs_bd (t := -H t) (by omega) ws hA hp i
    split <;> omega
  obtain ⟨F, hF⟩ : ∃ F : Nat → Int, (fun i => (qs (-H t) A ws i + if rk (rs (-H t) A ws) ws.length i < (-H t - qsum (-H t) A ws ws.length).toNat then 1 else 0)) = F := ⟨_, rfl⟩
  rw [hF] at c2
  have hFi : ∀ i, (qs (-H t) A ws i + if rk (rs (-H t) A ws) ws.length i < (-H t - qsum (-H t) A ws ws.length).toNat then 1 else 0) = F i := fun i => congrFun hF i
  simp only [hFi] at hqb ⊢
  have C1 := Lib.hid c1
  have C2 := Lib.hid c2
  have bA : (A == 0) = false := by simp; omega
  have HQB := Lib.hid hqb
  obtain ⟨n, hnn⟩ : ∃ n, ws.length = n := ⟨_, rfl⟩
  rw [hnn] at hmk C1 C2 hl hn ⊢
  obtain ⟨v, hv⟩ : ∃ v, H t = v := ⟨_, rfl⟩
  rw [hv] at C2 ht hHb
  have HV := Lib.hid hv
  have v1 := hHb.1
  clear hc c1 c2 hA hF hFi hqb hnn hv hHb hsz
  go_enter Try.func15, Try.ntmps15
  go_wp2_with fail
  refine C1.out.mono ?_
  rintro e w' ⟨rfl, rfl⟩
  go_wp2_with fail
  refine (refHold_any _ _).mono ?_
  rintro e w' ⟨rfl, rfl⟩
  rw [HV.out]
  go_wp2_with fail
  refine C2.out.mono ?_
  rintro e w1 ⟨rfl, hb, hrow⟩
  obtain ⟨S, hS⟩ : ∃ S, S = w.heap.size := ⟨_, rfl⟩
  have hbel : Below S w w1 := by
    rw [hS]
    exact (below_mk0 w n).trans (hb.mono (by omega))
  have hrS : Row w1 S n (fun _ => 0) := by
    have h2 := row_mk0 w n
    rw [← hS] at h2
    exact h2.below hb (by omega)
  rw [← hS] at hrow ⊢
  have BEL := Lib.hid hbel
  have RS := Lib.hid hrS
  have RO := Lib.hid hrow
  have HS := Lib.hid hS
  clear hb hrow hbel hrS hS
  go_wp2_with fail
  go_loopw [9] (fun vi wr => ∃ k : Nat, vi = .int .i64 k ∧ k ≤ n ∧ Hid (Below S w wr) ∧ Hid (Row wr S n (fun i => if i < k then -(F i) else 0)) ∧ Hid (Row wr (S + 1) n F)) (fun vi _ => n - (intOf vi).toNat)
  case atStart => exact ⟨0, rfl, by omega, BEL, by simpa [Hid] using RS.out, RO⟩
  case round =>
    clear BEL RS RO
    obtain ⟨k, rfl, hk, BEL, RS, RO⟩ := hrel
    by_cases hlt : k < n
    · have hltz : (k : Int) < (n : Int) := by omega
      obtain ⟨cO, fO⟩ := RO.out k hlt
      obtain ⟨cS, fS⟩ := RS.out k hlt
      simp only [Nat.lt_irrefl, if_false] at cS
      have hb := HQB.out k
      obtain ⟨y, hy⟩ : ∃ y, F k = y := ⟨_, rfl⟩
      rw [hy] at cO hb
      have y0 := hb.1
      have y1 := hb.2
      have HY := Lib.hid hy
      have N1 := Lib.hid (RS.out.set hlt (-y))
      have N2 := Lib.hid (RO.out.other (k := k) (b' := S) (by omega) (.int .i64 (-y)))
      have N3 := Lib.hid (BEL.out.setCell (p := ⟨S, k, none⟩) (Nat.le_refl S) (.int .i64 (-y)))
      clear hy hb
      go_wp2_with fail
      go_roundw
      case rel =>
        refine ⟨k + 1, by go_num, by omega, N3.out, N1.out.ext (fun i hi => ?_), N2.out⟩
        by_cases c : i = k
        · rw [if_pos c, c, if_pos (by omega), HY.out]
        · rw [if_neg c]
          by_cases c2 : i < k
          · rw [if_pos c2, if_pos (by omega)]
          · rw [if_neg c2, if_neg (by omega)]
      case measure => simp [intOf]; omega
    · have hfin : Row wr S n (fun i => -(F i)) := RS.out.ext (fun i hi => by rw [if_pos (by omega)])
      have HF := Lib.hid hfin
      clear hfin
      go_wp2_with fail
      go_ret
      have hs := HS.out
      rw [← hs]
      exact ⟨rfl, BEL.out, HF.out⟩

theorem refDeal_told (t : Int) (a : Option Addr) (cap : Nat) (ws : List Int) (w : World) (hl : ws.length ≤ 1000) (hL : Lst w a ws) :
    Calls Try.prog 15 #[.int .i64 t, .slice a ws.length cap] w fun e w' =>
      e = .returned (.slice (some ⟨w.heap.size, 0, none⟩) ws.length ws.length) ∧ Below w.heap.size w w' ∧ Row w' w.heap.size ws.length (shareS (H t) ws) := by
  have hH := H_bd t
  by_cases hz : wsum ws = 0
  · refine (refDeal_none t a cap ws w hl hL hz).mono ?_
    rintro e w' ⟨rfl, hb, hr⟩
    refine ⟨rfl, hb, hr.ext fun i hi => ?_⟩
    unfold shareS share0
    rw [if_pos hz, if_pos hz]
    split <;> rfl
  · have hp : 0 < wsum ws := by have := (wsum_bd ws).1; omega
    have hn : 0 < ws.length := by
      cases ws with
      | nil => exact absurd rfl hz
      | cons x l => simp
    rcases hL with rfl | ⟨b, off, rfl, hbs, hc⟩
    · simp at hn
    · by_cases hneg : H t < 0
      · refine (refDeal_neg t b off cap ws (wsum ws) w hneg rfl hp hl hn hbs hc).mono ?_
        rintro e w' ⟨rfl, hb, hr⟩
        refine ⟨rfl, hb, hr.ext fun i hi => ?_⟩
        unfold shareS share0
        rw [if_pos hneg, if_neg hz]
      · refine (refDeal_pos t (H t) b off cap ws (wsum ws) w rfl (by omega) hH.2 rfl hp hl hn hbs hc).mono ?_
        rintro e w' ⟨rfl, hb, hr⟩
        refine ⟨rfl, hb, hr.ext fun i hi => ?_⟩
        unfold shareS share0
        rw [if_neg hneg, if_neg hz]

set_option maxHeartbeats 1000000 in
theorem ShareDeals_many (t : Int) (a : Option Addr) (n cap : Nat) (w : World) (h : ¬ n ≤ 300) :
    Calls Try.prog 3 #[.int .i64 t, .slice a n cap] w fun e w' => e = .returned (.bool true) ∧ Below w.heap.size w w' := by
  have C1 := Lib.hid (few_no a n cap w h)
  clear h
  go_enter Try.func3, Try.ntmps3
  go_wp2_with fail
  refine C1.out.mono ?_
  rintro e w' ⟨rfl, rfl⟩
  go_wp2_with fail
  refine (known2_any _).mono ?_
  rintro e w1 ⟨rfl, hb⟩
  go_wp2_with fail
  go_ret
  exact ⟨rfl, hb⟩

set_option maxHeartbeats 1000000 in
theorem ShareDeals_few (t : Int) (a : Option Addr) (cap : Nat) (ws : List Int) (w : World) (h : ws.length ≤ 300) (hL : Lst w a ws) :
    Calls Try.prog 3 #[.int .i64 t, .slice a ws.length cap] w fun e w' => e = .returned (.bool true) ∧ Below w.heap.size w w' := by
  have C1 := Lib.hid (few_yes a ws.length cap w h)
  have C2 := Lib.hid (Deal_told t a cap ws w (by omega) hL)
  have HL := Lib.hid hL
  obtain ⟨n, hnn⟩ : ∃ n, ws.length = n := ⟨_, rfl⟩
  have HN := Lib.hid hnn
  rw [hnn] at C1 C2 h ⊢
  clear hL hnn
  go_enter Try.func3, Try.ntmps3
  go_wp2_with fail
  refine C1.out.mono ?_
  rintro e w' ⟨rfl, rfl⟩
  go_wp2_with fail
  refine C2.out.mono ?_
  rintro e w1 ⟨rfl, hb1, hr1⟩
  have c3 := refDeal_told t a cap ws w1 (by rw [HN.out]; omega) (Lst_under HL.out hb1)
  rw [HN.out] at c3
  have C3 := Lib.hid c3
  have HB1 := Lib.hid hb1
  have HR1 := Lib.hid hr1
  clear c3 hb1 hr1
  go_wp2_with fail
  refine C3.out.mono ?_
  rintro e w2 ⟨rfl, hb2, hr2⟩
  have hi : n ≤ 1000 := by omega
  have h0 : 0 < n → w.heap.size < w1.heap.size := fun hp => Row_lt HR1.out hp
  have c4 := Ints_yes n w.heap.size 0 n w1.heap.size 0 n (shareS (H t) ws) (shareS (H t) ws) w2 hi
    (fun i hi => by rw [Nat.zero_add, hb2.cell (p := ⟨w.heap.size, i, none⟩) (h0 (by omega))]; exact (HR1.out i hi).1)
    (fun i hi => by rw [Nat.zero_add]; exact (hr2 i hi).1) (fun _ _ => rfl)
  have hbb : Below w.heap.size w w2 := HB1.out.trans (hb2.mono HB1.out.size)
  have C4 := Lib.hid c4
  have HBB := Lib.hid hbb
  clear c4 hb2 hr2 hbb h0
  go_wp2_with fail
  refine C4.out.mono ?_
  rintro e w3 ⟨rfl, q, rfl⟩
  have hbc := below_drewN' HBB.out q
  generalize w2.drewN q = w3 at hbc ⊢
  have HBC := Lib.hid hbc
  clear hbc
  go_wp2_with fail
  refine (known2_any _).mono ?_
  rintro e w4 ⟨rfl, hb⟩
  have hbd := HBC.out.trans (hb.mono HBC.out.size)
  have HBD := Lib.hid hbd
  clear hb hbd
  go_wp2_with fail
  go_ret
  exact ⟨rfl, HBD.out⟩

theorem ShareDeals_walk (t : Int) (a : Option Addr) (cap : Nat) (ws : List Int) (w : World) (hL : Lst w a ws) :
    Calls Try.prog 3 #[.int .i64 t, .slice a ws.length cap] w fun e w' => e = .returned (.bool true) ∧ Below w.heap.size w w' := by
  by_cases h : ws.length ≤ 300
  · exact ShareDeals_few t a cap ws w h hL
  · exact ShareDeals_many t a ws.length cap w h
end Go.Proofs.Ytanhpdejlodidaa
