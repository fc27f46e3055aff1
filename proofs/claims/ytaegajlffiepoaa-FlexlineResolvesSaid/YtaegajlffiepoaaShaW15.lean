/- The walks of layer 2's reference: a total is dealt, with its sign; the law that holds the two against each other. -/
import Derived.Test.YtaegajlffiepoaaShaW14
namespace Go.Proofs.Ytaegajlffiepoaa
open Go.RowKit FixM ShaD ShaM Go.Sort

set_option maxRecDepth 100000 in
set_option maxHeartbeats 4000000 in
theorem refDeal_neg (t : Int) (bw off cap : Nat) (ws : List Int) (A : Int) (w : World) (ht : H t < 0) (hA : A = wsum ws) (hp : 0 < A) (hl : ws.length ≤ 1000) (hn : 0 < ws.length)
    (hbw : bw < w.heap.size) (hc : ∀ i, i < ws.length → w.cell? ⟨bw, off + i, none⟩ = some (.int .i64 (ws.getD i 0))) :
    Calls Try.prog 27 #[.int .i64 t, .slice (some ⟨bw, off, none⟩) ws.length cap] w fun e w' =>
      e = .returned (.slice (some ⟨w.heap.size, 0, none⟩) ws.length ws.length) ∧ Below w.heap.size w w' ∧
        Row w' w.heap.size ws.length (fun i => -(qs (-H t) A ws i + if rk (rs (-H t) A ws) ws.length i < (-H t - qsum (-H t) A ws ws.length).toNat then 1 else 0)) := by
  have hHb := H_bd t
  have hmk := make_ints ws.length hl
  have c1 := refWeights_any (some ⟨bw, off, none⟩) cap ws (mk0 w ws.length) hl (Lst_under (Or.inr ⟨bw, off, rfl, hbw, hc⟩) (below_mk0 w _))
  rw [← hA] at c1
  have hsz : (mk0 w ws.length).heap.size = w.heap.size + 1 := by unfold mk0; simp
  have c2 := refDeal_pos (-H t) (-H t) bw off cap ws A (mk0 w ws.length) (H_id (by omega) (by omega)) (by omega) (by omega) hA hp hl hn (by omega) (fun i hi => by rw [(below_mk0 w ws.length).cell (p := ⟨bw, off + i, none⟩) hbw]; exact hc i hi)
  rw [hsz] at c2
  have hqb : ∀ i, 0 ≤ (qs (-H t) A ws i + if rk (rs (-H t) A ws) ws.length i < (-H t - qsum (-H t) A ws ws.length).toNat then 1 else 0) ∧ (qs (-H t) A ws i + if rk (rs (-H t) A ws) ws.length i < (-H t - qsum (-H t) A ws ws.length).toNat then 1 else 0) ≤ 1073741825 := fun i => by
    have := qs_bd (t := -H t) (by omega) ws hA hp i
    split <;> omega
  obtain ⟨F, hF⟩ : ∃ F : Nat → Int, (fun i => (qs (-H t) A ws i + if rk (rs (-H t) A ws) ws.length i < (-H t - qsum (-H t) A ws ws.length).toNat then 1 else 0)) = F := ⟨_, rfl⟩
  rw [hF] at c2
  have hFi : ∀ i, (qs (-H t) A ws i + if rk (rs (-H t) A ws) ws.length i < (-H t - qsum (-H t) A ws ws.length).toNat then 1 else 0) = F i := fun i => congrFun hF i
  simp only [hFi] at hqb ⊢
  have C1 := Lib.hid c1
  have C2 := Lib.hid c2
  have bA : (A == 0) = false := by simp; omega
  have HQB := Lib.hid hqb
  obtain ⟨n, hnn⟩ : ∃ n, ws.length = n := ⟨_, rfl⟩
  rw [hnn] at hmk C1 C2 hl hn ⊢
  obtain ⟨v, hv⟩ : ∃ v, H t = v := ⟨_, rfl⟩
  rw [hv] at C2 ht hHb
  have HV := Lib.hid hv
  have v1 := hHb.1
  clear hc c1 c2 hA hF hFi hqb hnn hv hHb hsz
  go_enter Try.func27, Try.ntmps27
  go_wp2_with fail
  refine C1.out.mono ?_
  rintro e w' ⟨rfl, rfl⟩
  go_wp2_with fail
  refine (refHold_any _ _).mono ?_
  rintro e w' ⟨rfl, rfl⟩
  rw [HV.out]
  go_wp2_with fail
  refine C2.out.mono ?_
  rintro e w1 ⟨rfl, hb, hrow⟩
  obtain ⟨S, hS⟩ : ∃ S, S = w.heap.size := ⟨_, rfl⟩
  have hbel : Below S w w1 := by
    rw [hS]
    exact (below_mk0 w n).trans (hb.mono (by omega))
  have hrS : Row w1 S n (fun _ => 0) := by
    have h2 := row_mk0 w n
    rw [← hS] at h2
    exact h2.below hb (by omega)
  rw [← hS] at hrow ⊢
  have BEL := Lib.hid hbel
  have RS := Lib.hid hrS
  have RO := Lib.hid hrow
  have HS := Lib.hid hS
  clear hb hrow hbel hrS hS
  go_wp2_with fail
  go_loopw [9] (fun vi wr => ∃ k : Nat, vi = .int .i64 k ∧ k ≤ n ∧ Hid (Below S w wr) ∧ Hid (Row wr S n (fun i => if i < k then -(F i) else 0)) ∧ Hid (Row wr (S + 1) n F)) (fun vi _ => n - (intOf vi).toNat)
  case atStart => exact ⟨0, rfl, by omega, BEL, by simpa [Hid] using RS.out, RO⟩
  case round =>
    clear BEL RS RO
    obtain ⟨k, rfl, hk, BEL, RS, RO⟩ := hrel
    by_cases hlt : k < n
    · have hltz : (k : Int) < (n : Int) := by omega
      obtain ⟨cO, fO⟩ := RO.out k hlt
      obtain ⟨cS, fS⟩ := RS.out k hlt
      simp only [Nat.lt_irrefl, if_false] at cS
      have hb := HQB.out k
      obtain ⟨y, hy⟩ : ∃ y, F k = y := ⟨_, rfl⟩
      rw [hy] at cO hb
      have y0 := hb.1
      have y1 := hb.2
      have HY := Lib.hid hy
      have N1 := Lib.hid (RS.out.set hlt (-y))
      have N2 := Lib.hid (RO.out.other (k := k) (b' := S) (by omega) (.int .i64 (-y)))
      have N3 := Lib.hid (BEL.out.setCell (p := ⟨S, k, none⟩) (Nat.le_refl S) (.int .i64 (-y)))
      clear hy hb
      go_wp2_with fail
      go_roundw
      case rel =>
        refine ⟨k + 1, by go_num, by omega, N3.out, N1.out.ext (fun i hi => ?_), N2.out⟩
        by_cases c : i = k
        · rw [if_pos c, c, if_pos (by omega), HY.out]
        · rw [if_neg c]
          by_cases c2 : i < k
          · rw [if_pos c2, if_pos (by omega)]
          · rw [if_neg c2, if_neg (by omega)]
      case measure => simp [intOf]; omega
    · have hfin : Row wr S n (fun i => -(F i)) := RS.out.ext (fun i hi => by rw [if_pos (by omega)])
      have HF := Lib.hid hfin
      clear hfin
      go_wp2_with fail
      go_ret
      have hs := HS.out
      rw [← hs]
      exact ⟨rfl, BEL.out, HF.out⟩

theorem refDeal_told (t : Int) (a : Option Addr) (cap : Nat) (ws : List Int) (w : World) (hl : ws.length ≤ 1000) (hL : Lst w a ws) :
    Calls Try.prog 27 #[.int .i64 t, .slice a ws.length cap] w fun e w' =>
      e = .returned (.slice (some ⟨w.heap.size, 0, none⟩) ws.length ws.length) ∧ Below w.heap.size w w' ∧ Row w' w.heap.size ws.length (shareS (H t) ws) := by
  have hH := H_bd t
  by_cases hz : wsum ws = 0
  · refine (refDeal_none t a cap ws w hl hL hz).mono ?_
    rintro e w' ⟨rfl, hb, hr⟩
    refine ⟨rfl, hb, hr.ext fun i hi => ?_⟩
    unfold shareS share0
    rw [if_pos hz, if_pos hz]
    split <;> rfl
  · have hp : 0 < wsum ws := by have := (wsum_bd ws).1; omega
    have hn : 0 < ws.length := by
      cases ws with
      | nil => exact absurd rfl hz
      | cons x l => simp
    rcases hL with rfl | ⟨b, off, rfl, hbs, hc⟩
    · simp at hn
    · by_cases hneg : H t < 0
      · refine (refDeal_neg t b off cap ws (wsum ws) w hneg rfl hp hl hn hbs hc).mono ?_
        rintro e w' ⟨rfl, hb, hr⟩
        refine ⟨rfl, hb, hr.ext fun i hi => ?_⟩
        unfold shareS share0
        rw [if_pos hneg, if_neg hz]
      · refine (refDeal_pos t (H t) b off cap ws (wsum ws) w rfl (by omega) hH.2 rfl hp hl hn hbs hc).mono ?_
        rintro e w' ⟨rfl, hb, hr⟩
        refine ⟨rfl, hb, hr.ext fun i hi => ?_⟩
        unfold shareS share0
        rw [if_neg hneg, if_neg hz]

end Go.Proofs.Ytaegajlffiepoaa
