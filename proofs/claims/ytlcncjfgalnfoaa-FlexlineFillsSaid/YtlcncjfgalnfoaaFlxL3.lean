/- Layer 21: a line that grows without ends to its lengths fills its room. -/
import Derived.Test.YtlcncjfgalnfoaaFlxR2
import Derived.Test.YtlcncjfgalnfoaaFlxQc
namespace Go.Proofs.Ytlcncjfgalnfoaa
open Go.RowKit FixM ShaD ShaM Go.Sort
set_option linter.unusedVariables false

/-- an item without ends -/
def noE (t : It) : It := ⟨t.b, 0, -1, t.g, t.i, t.gr, t.sh⟩
theorem noE_full (t : It) (h : 0 ≤ t.b) : FullI (hI (noE t)) :=
  ⟨held_hI _, by show WT 0 = 0; decide, by show H (-1) = -1; decide, by show 0 ≤ H t.b; unfold H; repeat' split <;> omega⟩
theorem own_itemsF {w0 w : World} {B n : Nat} {v : Value} {L : Nat → It} (h : w.ownsRow B 34 7 v n (itcs L n)) (hn : n = 0 → v = .slice none 0 0) : ∃ ra rc, v = .slice ra n rc ∧ ItA w ra n L := by
  by_cases h0 : n = 0
  · exact ⟨none, 0, by rw [hn h0, h0], Or.inl h0⟩
  · obtain ⟨g, c, hv, _, _⟩ := h.form (by omega)
    have ho := h
    rw [hv] at ho
    have hg := World.ownsRow.lt ho g rfl
    refine ⟨_, c, hv, Or.inr ⟨g, 0, rfl, hg.2, fun i hi => ?_⟩⟩
    have key : ∀ j, j < 7 → w.cell? ⟨g, i * 7 + j, none⟩ = (itc (L i))[j]? := fun j hj => by
      rw [ho.cellAt _ (by omega), itcs_get L j hj i n hi]
    rw [Nat.zero_add]
    exact ⟨key 0 (by omega), key 1 (by omega), key 2 (by omega), key 3 (by omega), key 4 (by omega), key 5 (by omega), key 6 (by omega)⟩


set_option maxRecDepth 100000 in
set_option maxHeartbeats 8000000 in
theorem FlexlineFills_walk (a : Option Addr) (n cap : Nat) (L0 : Nat → It) (room : Int) (w : World) (hA : ItA w a n L0) :
    Calls Try.prog 7 #[.slice a n cap, .int .i64 room] w fun e w' => e = .returned (.bool true) ∧ Below w.heap.size w w' := by
  have F := Lib.hid (few21_any a n cap w)
  by_cases hn : n ≤ 60
  · obtain ⟨L, hL, hfull⟩ : ∃ L : Nat → It, (∀ i, i < n → L i = noE (L0 i)) ∧ ((∀ i, i < n → 0 ≤ (L0 i).b) → ∀ i, FullI (hI (L i))) := by
      refine ⟨fun i => if i < n then noE (L0 i) else noE ⟨0, 0, 0, 0, 0, 0, 0⟩, fun i hi => if_pos hi, fun h i => ?_⟩
      by_cases c : i < n
      · simp only [c, if_true]; exact noE_full _ (h i c)
      · simp only [c, if_false]; exact noE_full _ (by decide)
    have hheld : ∀ i, HeldI (hI (L i)) := fun i => held_hI _
    have hgr : ∀ k, k ≤ n → 0 ≤ fsum (fun i => (hI (L i)).gr) k ∧ fsum (fun i => (hI (L i)).gr) k ≤ 137438953472 := fun k hk => by
      have h1 := fsum_b2 (f := fun i => (hI (L i)).gr) k (fun i _ => by have h := hheld i; have := h.r0; have := h.r1; omega)
      have h2 : ∀ k, 0 ≤ fsum (fun i => (hI (L i)).gr) k := fun k => by
        induction k with
        | zero => simp [fsum]
        | succ k ih => have := (hheld k).r0; simp only [fsum]; omega
      exact ⟨h2 k, by omega⟩
    have hgm : ∀ k, k ≤ n → -137438953472 ≤ fsum (fun i => (hI (L i)).g) k ∧ fsum (fun i => (hI (L i)).g) k ≤ 137438953472 := fun k hk => by
      have h1 := fsum_b2 (f := fun i => (hI (L i)).g) k (fun i _ => by have h := hheld i; have := h.g0; have := h.g1; omega)
      omega
    have hgb : ∀ k, k ≤ n → -137438953472 ≤ fsum (fun i => (hI (L i)).b) k ∧ fsum (fun i => (hI (L i)).b) k ≤ 137438953472 := fun k hk => by
      have h1 := fsum_b2 (f := fun i => (hI (L i)).b) k (fun i _ => by have h := hheld i; have := h.b0; have := h.b1; omega)
      omega
    rw [decide_eq_true hn] at F
    have HGR := Lib.hid hgr
    have HGM := Lib.hid hgm
    have HGB := Lib.hid hgb
    have HFULL := Lib.hid hfull
    have HHELD := Lib.hid hheld
    have HA := Lib.hid hA
    have HLL := Lib.hid hL
    have HO0 : Hid (w.ownsRow w.heap.size 34 7 (.slice none 0 0) 0 (itcs L 0)) := ⟨rfl, Or.inl ⟨rfl, rfl⟩⟩
    clear hA hL hfull hheld hgr hgm hgb
    go_enter Try.func7, Try.ntmps7
    go_wp2_with fail
    refine F.out.mono ?_
    rintro e w' ⟨rfl, rfl⟩
    go_wp2_with fail
    go_loopw [5, 6, 7, 8] (fun vo vg vm vi wr => ∃ (k : Nat) (y : Value), vo = y ∧ vi = .int .i64 k ∧ k ≤ n ∧ vg = .int .i64 (fsum (fun i => (hI (L i)).gr) k) ∧ vm = .int .i64 (fsum (fun i => (hI (L i)).g) k) ∧ Hid (Below w.heap.size w wr) ∧ Hid (wr.ownsRow w.heap.size 34 7 y k (itcs L k)) ∧ Hid (k = 0 → y = .slice none 0 0) ∧ Hid (∀ i, i < k → 0 ≤ (L0 i).b)) (fun _ _ _ vi _ => n - (intOf vi).toNat)
    case atStart => exact ⟨0, _, rfl, rfl, by omega, rfl, rfl, Below.refl _ _, HO0, fun _ => rfl, fun i hi => by omega⟩
    case round =>
      obtain ⟨k, vo, hvo, rfl, hk, rfl, rfl, HB, HO, HN, HP⟩ := hrel
      have hvo2 := hvo.symm
      subst hvo2
      have hg1 := HGR.out k hk
      have hm1 := HGM.out k hk
      by_cases hlt : k < n
      · have hnx1 : fsum (fun i => (hI (L i)).gr) (k + 1) = fsum (fun i => (hI (L i)).gr) k + WT (L k).gr := rfl
        have hnx2 : fsum (fun i => (hI (L i)).g) (k + 1) = fsum (fun i => (hI (L i)).g) k + H (L k).g := rfl
        have hwb := WT_bd (L k).gr
        have hhb := H_bd (L k).g
        obtain ⟨G, hG⟩ : ∃ G, fsum (fun i => (hI (L i)).gr) k = G := ⟨_, rfl⟩
        obtain ⟨M, hM⟩ : ∃ M, fsum (fun i => (hI (L i)).g) k = M := ⟨_, rfl⟩
        rw [hG] at hg1 hnx1 ⊢
        rw [hM] at hm1 hnx2 ⊢
        have hltz : (k : Int) < (n : Int) := by omega
        rcases HA.out.below HB.out with h0 | ⟨b, off, ha, hbl, hI2⟩
        · omega
        · subst ha
          have S7 := hI2 k hlt
          have htl := HLL.out k hlt
          obtain ⟨t, ht⟩ : ∃ t, L0 k = t := ⟨_, rfl⟩
          rw [ht] at S7 htl
          obtain ⟨q0, q1, q2, q3, q4, q5, q6⟩ := S7
          have HTL := Lib.hid htl
          have HT := Lib.hid ht
          have NX1 := Lib.hid hnx1
          have NX2 := Lib.hid hnx2
          have g0 := hg1.1; have g1 := hg1.2; have m0 := hm1.1; have m1 := hm1.2
          have wb0 := hwb.1; have wb1 := hwb.2; have hb0 := hhb.1; have hb1' := hhb.2
          clear hI2 ht htl hnx1 hnx2 hG hM hg1 hm1 hwb hhb
          go_upto_region 10 with fail
          clear q0 q1 q2 q3 q4 q5 q6
          have hb2 := below_one21 wr (.cells #[.int .i64 t.b, .int .i64 0, .int .i64 (-1), .int .i64 t.g, .int .i64 t.i, .int .i64 t.gr, .int .i64 t.sh] 34)
          have hx2 := heap_alloc_new wr (.cells #[.int .i64 t.b, .int .i64 0, .int .i64 (-1), .int .i64 t.g, .int .i64 t.i, .int .i64 t.gr, .int .i64 t.sh] 34)
          obtain ⟨X, hX⟩ : ∃ X, wr.heap.size = X := ⟨_, rfl⟩
          generalize hw2 : wr.alloc (.cells #[.int .i64 t.b, .int .i64 0, .int .i64 (-1), .int .i64 t.g, .int .i64 t.i, .int .i64 t.gr, .int .i64 t.sh] 34) = w2 at hb2 hx2 ⊢
          rw [hX] at hx2 ⊢
          have d0 : w2.cell? ⟨X, 0, none⟩ = some (.int .i64 t.b) := cell_ofF hx2 rfl
          have d1 : w2.cell? ⟨X, 1, none⟩ = some (.int .i64 0) := cell_ofF hx2 rfl
          have d2 : w2.cell? ⟨X, 2, none⟩ = some (.int .i64 (-1)) := cell_ofF hx2 rfl
          have d3 : w2.cell? ⟨X, 3, none⟩ = some (.int .i64 t.g) := cell_ofF hx2 rfl
          have d4 : w2.cell? ⟨X, 4, none⟩ = some (.int .i64 t.i) := cell_ofF hx2 rfl
          have d5 : w2.cell? ⟨X, 5, none⟩ = some (.int .i64 t.gr) := cell_ofF hx2 rfl
          have d6 : w2.cell? ⟨X, 6, none⟩ = some (.int .i64 t.sh) := cell_ofF hx2 rfl
          have HB2 := Lib.hid (HB.out.trans (hb2.mono HB.out.size))
          by_cases hbn : t.b < 0
          · clear hb2 hx2 hw2 hX HO
            go_wp2_with fail
            refine (known21_any w2).mono ?_
            rintro e wk ⟨rfl, hbk⟩
            have HBK := Lib.hid (HB2.out.trans (hbk.mono HB2.out.size))
            clear hbk
            go_wp2_with fail
            go_ret
            exact ⟨rfl, HBK.out⟩
          · have hbp : 0 ≤ t.b := by omega
            have hO2 := rowA_below HO.out hb2
            obtain ⟨g5, c5, w5, hr5, ho5, hg5⟩ := putIt w.heap.size vo L k w2 HB2.out.size (by omega) hO2
            rw [HTL.out] at hr5 hg5
            have hr6 : (Builtin.append_ #[22, 22] 22 #[vo, .slice (some ⟨w2.heap.size, 0, none⟩) 1 1]).run Try.prog (w2.alloc (.cells #[.int .i64 t.b, .int .i64 0, .int .i64 (-1), .int .i64 t.g, .int .i64 t.i, .int .i64 t.gr, .int .i64 t.sh] 34)) = .ok (.slice (some ⟨g5, 0, none⟩) (k + 1) c5) w5 := hr5
            have hb5 : Below w.heap.size w w5 := (HB2.out.alloc HB2.out.size _).grown hg5 (by have := HB2.out.size; simp; omega) (fun q hq => (World.ownsRow.lt hO2 q hq).1)
            have HR6 := Lib.hid hr6
            have HB5 := Lib.hid hb5
            have HO5 := Lib.hid ho5
            have HN5 : Hid (k + 1 = 0 → Value.slice (some ⟨g5, 0, none⟩) (k + 1) c5 = .slice none 0 0) := fun h => by omega
            have HP5 : Hid (∀ i, i < k + 1 → 0 ≤ (L0 i).b) := fun i hi => by
              by_cases c : i = k
              · rw [c, HT.out]; exact hbp
              · exact HP.out i (by omega)
            obtain ⟨ra5, rc5, hv5, hit5⟩ := own_itemsF (w0 := w) ho5 (fun h => by omega)
            injection hv5 with e1 e2 e3
            have OF := Lib.hid (of21_any (some ⟨g5, 0, none⟩) (k + 1) c5 L w5 (by omega) (by rw [e1]; exact hit5))
            unfold OfIs at OF
            obtain ⟨u, hu⟩ : ∃ u, L k = u := ⟨_, rfl⟩
            have HU := Lib.hid hu
            have HC := Lib.hid (fun W => refHeld21_any u W)
            rw [hu] at NX1 NX2 wb0 wb1 hb0 hb1'
            clear hb2 hx2 hO2 hr5 hr6 hg5 hb5 ho5 HO HN HP hw2 hX e1 e3 hit5 hu HB2 HTL
            go_wp2_with (at_builtin; refine wpList_append_runF rfl _ _ 22 rfl _ _ _ _ rfl rfl HR6.out ?_)
            refine OF.out.mono ?_
            rintro e w6 ⟨rb, rc2, rfl, hb6, hit⟩
            obtain ⟨g, hra, _, hg1, hI⟩ := hit (by omega)
            subst hra
            have S7 := hI k (by omega)
            rw [Nat.zero_add, HU.out] at S7
            obtain ⟨q0, q1, q2, q3, q4, q5, q6⟩ := S7
            have HB6 := Lib.hid (HB5.out.trans (hb6.mono HB5.out.size))
            have HO6 := Lib.hid (rowA_below HO5.out hb6)
            have hkk : (k : Int) < (k : Int) + 1 := by omega
            clear hb6 hit hI OF HB HB5 HO5
            go_wp2_with fail
            refine (HC.out _).mono ?_
            rintro e w7 ⟨rfl, hb7⟩
            have HB7 := Lib.hid (HB6.out.trans (hb7.mono HB6.out.size))
            have HO7 := Lib.hid (rowA_below HO6.out hb7)
            have hal := fun o : Obj => (below_one21 w7 o)
            have HB8 := Lib.hid (fun o : Obj => HB7.out.trans ((hal o).mono HB7.out.size))
            have HO8 := Lib.hid (fun o : Obj => rowA_below HO7.out (hal o))
            clear hb7 q0 q1 q2 q3 q4 q5 q6 HB6 HO6 hal
            go_wp2_with fail
            go_roundw
            case rel => exact ⟨k + 1, _, rfl, by go_num, by omega, by rw [NX1.out], by rw [NX2.out], HB8.out _, HO8.out _, HN5, HP5⟩
            case measure => simp [intOf]; omega
      · have hkn : n = k := by omega
        subst hkn
        obtain ⟨ra, rc, rfl, hit⟩ := own_itemsF (w0 := w) HO.out HN.out
        have hFill := resolveF_fills (fun i => hI (L i)) (H room) n
        have hwith := fun i hi => resolveF_within (fun i => hI (L i)) (H room) n i hi
        have hlo := fun i hi => (by have h := hwith i hi; rw [← h]; exact Int.le_trans (HHELD.out i).l0 (clI_low _ _) : 0 ≤ (resolveF (fun i => hI (L i)) (H room) n).1.len i)
        have hfree : free0 (fun i => hI (L i)) (H room) n = H room - fsum (fun i => (hI (L i)).g) n - fsum (fun i => (hI (L i)).b) n := by
          unfold free0; rw [fsum_addF]; exact (Int.sub_sub _ _ _).symm
        have RC := fun W (hW : ItA W ra n L) => Resolve_any ra n rc L (fun i => hI (L i)) room W (by omega) hW (fun _ => rfl)
        have GC := fun (a2 : Option Addr) (c2 : Nat) W (hW : ItA W a2 n (fun i => hI (L i))) => Grows21_any a2 n c2 (fun i => hI (L i)) room W (by omega) hW HHELD.out
        have RH := refHold_any room
        obtain ⟨rs, hrs⟩ : ∃ rs, resolveF (fun i => hI (L i)) (H room) n = rs := ⟨_, rfl⟩
        obtain ⟨gb, hgb⟩ : ∃ gb, growsF (fun i => hI (L i)) (H room) n = gb := ⟨_, rfl⟩
        have hFb := H_bd room
        obtain ⟨R, hR⟩ : ∃ R, H room = R := ⟨_, rfl⟩
        rw [hR] at hrs hgb hFill hlo RC GC RH hfree hFb
        rw [hrs] at hFill hlo RC
        rw [hgb] at hFill GC
        obtain ⟨ln, hln⟩ : ∃ ln, rs.1.len = ln := ⟨_, rfl⟩
        rw [hln] at hFill hlo RC
        obtain ⟨G, hG⟩ : ∃ G, fsum (fun i => (hI (L i)).gr) n = G := ⟨_, rfl⟩
        obtain ⟨M, hM⟩ : ∃ M, fsum (fun i => (hI (L i)).g) n = M := ⟨_, rfl⟩
        rw [hG] at hg1 hFill ⊢
        rw [hM] at hm1 hFill hfree ⊢
        have hfill := hFill (HFULL.out (fun i hi => HP.out i hi))
        have HFILL := Lib.hid hfill
        have HLO := Lib.hid hlo
        have HFREE := Lib.hid hfree
        have HRC := Lib.hid RC
        have HGC := Lib.hid GC
        have HRH := Lib.hid RH
        have HIT := Lib.hid hit
        have OFC := Lib.hid (of21_any ra n rc L wr (by omega) hit)
        unfold OfIs at OFC
        have g0 := hg1.1; have g1 := hg1.2; have m0 := hm1.1; have m1 := hm1.2
        have R0 := hFb.1; have R1 := hFb.2
        clear hFill hfill hwith hlo hfree RC GC RH hrs hgb hR hln hG hM hg1 hm1 hFb hit HO HN HP HA HLL HFULL
        by_cases hgl : G < 1000
        · clear HIT OFC
          go_wp2_with fail
          refine (known21_any wr).mono ?_
          rintro e wk ⟨rfl, hbk⟩
          have HBK := Lib.hid (HB.out.trans (hbk.mono HB.out.size))
          clear hbk
          go_wp2_with fail
          go_ret
          exact ⟨rfl, HBK.out⟩
        · have hgl2 : 1000 ≤ G := by omega
          go_wp2_with fail
          refine OFC.out.mono ?_
          rintro e w5 ⟨rb, rc2, rfl, hb5, hit5⟩
          have HB5 := Lib.hid (HB.out.trans (hb5.mono HB.out.size))
          have HIT5 := Lib.hid (HIT.out.below hb5)
          have AC := Lib.hid (All21_any rb n rc2 L w5 (by omega) (OfIs.ita hit5))
          unfold OfIs at AC
          clear hb5 hit5 OFC HIT
          go_wp2_with fail
          refine AC.out.mono ?_
          rintro e w6 ⟨rd, rc3, rfl, hb6, hit6⟩
          have HB6 := Lib.hid (HB5.out.trans (hb6.mono HB5.out.size))
          have HIT6 := Lib.hid (HIT5.out.below hb6)
          have GG := Lib.hid (HGC.out rd rc3 w6 (OfIs.ita hit6))
          clear hb6 hit6 AC HIT5 HGC
          go_wp2_with fail
          refine GG.out.mono ?_
          rintro e w7 ⟨rfl, hb7⟩
          have HB7 := Lib.hid (HB6.out.trans (hb7.mono HB6.out.size))
          have HIT7 := Lib.hid (HIT6.out.below hb7)
          clear hb7 HIT6 GG
          cases gb
          · clear HFILL
            go_wp2_with fail
            refine (known21_any w7).mono ?_
            rintro e wk ⟨rfl, hbk⟩
            have HBK := Lib.hid (HB7.out.trans (hbk.mono HB7.out.size))
            clear hbk
            go_wp2_with fail
            go_ret
            exact ⟨rfl, HBK.out⟩
          · go_wp2_with (go_at_call 21; refine (HRH.out _).mono ?_; rintro e w' ⟨rfl, rfl⟩)
            go_loop [11, 12] (fun vf vi => ∃ k : Nat, vi = .int .i64 k ∧ k ≤ n ∧ vf = .int .i64 (R - M - fsum (fun i => (hI (L i)).b) k)) (fun _ vi => n - (intOf vi).toNat)
            case atStart => exact ⟨0, rfl, by omega, by simp [fsum]⟩
            case round =>
              obtain ⟨k, rfl, hk2, rfl⟩ := hrel
              have hb1 := HGB.out k hk2
              have hnx : fsum (fun i => (hI (L i)).b) (k + 1) = fsum (fun i => (hI (L i)).b) k + H (L k).b := rfl
              by_cases hlt2 : k < n
              · obtain ⟨B, hB⟩ : ∃ B, fsum (fun i => (hI (L i)).b) k = B := ⟨_, rfl⟩
                rw [hB] at hb1 hnx ⊢
                have hltz : (k : Int) < (n : Int) := by omega
                rcases HIT7.out with h0 | ⟨b, off, ha, hbl, hI2⟩
                · omega
                · subst ha
                  have q0 := (hI2 k hlt2).c0
                  have RB := fun W => refHold_any (L k).b W
                  have hbb := H_bd (L k).b
                  obtain ⟨x, hx⟩ : ∃ x, (L k).b = x := ⟨_, rfl⟩
                  rw [hx] at q0 RB hbb hnx
                  obtain ⟨y, hy⟩ : ∃ y, H x = y := ⟨_, rfl⟩
                  rw [hy] at RB hbb hnx
                  have HRB := Lib.hid RB
                  have HNX := Lib.hid hnx
                  have y0 := hbb.1; have y1 := hbb.2; have b0 := hb1.1; have b1 := hb1.2
                  clear hI2 hx hy RB hbb hnx hb1 hB
                  go_wp2_with (go_at_call 21; refine (HRB.out _).mono ?_; rintro e w' ⟨rfl, rfl⟩)
                  go_round
                  case rel => exact ⟨k + 1, by go_num, by omega, by rw [HNX.out]; exact congrArg (Value.int .i64) (by omega)⟩
                  case measure => simp [intOf]; omega
              · have hkn : n = k := by omega
                subst hkn
                have hfr := HFREE.out
                obtain ⟨B, hB⟩ : ∃ B, fsum (fun i => (hI (L i)).b) n = B := ⟨_, rfl⟩
                rw [hB] at hb1 hfr ⊢
                obtain ⟨f0, hf0⟩ : ∃ f0, R - M - B = f0 := ⟨_, rfl⟩
                rw [hf0] at hfr ⊢
                have HFR := Lib.hid hfr
                have HF0 := Lib.hid hf0
                clear hnx hb1 hfr hf0 hB
                by_cases hbig : 1073741824 < f0
                · clear HFILL
                  go_wp2_with fail
                  refine (known21_any w7).mono ?_
                  rintro e wk ⟨rfl, hbk⟩
                  have HBK := Lib.hid (HB7.out.trans (hbk.mono HB7.out.size))
                  clear hbk
                  go_wp2_with fail
                  go_ret
                  exact ⟨rfl, HBK.out⟩
                · have hbig2 : f0 ≤ 1073741824 := by omega
                  have RR := Lib.hid (HRC.out w7 HIT7.out)
                  have HFILL2 : Hid ((∀ i, i < n → ln i < 1073741824) → M + fsum ln n = R) := HFILL.out (by first | trivial | rfl) hgl2 (by rw [HFR.out]; exact hbig2)
                  clear HFILL HRC HIT7
                  go_wp2_with fail
                  refine RR.out.mono ?_
                  rintro e w8 ⟨rfl, hb8, hr8⟩
                  obtain ⟨S8, hS8⟩ : ∃ S, w7.heap.size = S := ⟨_, rfl⟩
                  rw [hS8] at hr8 ⊢
                  have HB8 := Lib.hid (HB7.out.trans (hb8.mono HB7.out.size))
                  have HR8 := Lib.hid hr8
                  clear hb8 hr8 hS8 RR
                  go_wp2_with fail
                  go_loop [15, 16] (fun vs vi => ∃ k : Nat, vi = .int .i64 k ∧ k ≤ n ∧ vs = .int .i64 (M + fsum ln k) ∧ Hid (∀ i, i < k → ln i < 1073741824)) (fun _ vi => n - (intOf vi).toNat)
                  case atStart => exact ⟨0, rfl, by omega, by simp [fsum], fun i hi => by omega⟩
                  case round =>
                    obtain ⟨k, rfl, hk3, rfl, HLT⟩ := hrel
                    have hsb := fsum_b2 (f := ln) k (fun i hi => by have h1 := HLT.out i hi; have h2 := HLO.out i (by omega); omega)
                    by_cases hlt3 : k < n
                    · have hltz : (k : Int) < (n : Int) := by omega
                      have c0 := (HR8.out k hlt3).1
                      have hl0 := HLO.out k hlt3
                      have hnx : M + fsum ln (k + 1) = M + fsum ln k + ln k := by simp only [fsum]; omega
                      have hlt4 : ln k < 1073741824 → ∀ i, i < k + 1 → ln i < 1073741824 := fun h i hi => by
                        by_cases c : i = k
                        · rw [c]; exact h
                        · exact HLT.out i (by omega)
                      obtain ⟨x, hx⟩ : ∃ x, ln k = x := ⟨_, rfl⟩
                      rw [hx] at c0 hl0 hnx hlt4
                      obtain ⟨s, hs⟩ : ∃ s, M + fsum ln k = s := ⟨_, rfl⟩
                      have s0 : -412316860416 ≤ s := by omega
                      have s1 : s ≤ 412316860416 := by omega
                      rw [hs] at hnx ⊢
                      have HNX := Lib.hid hnx
                      have HLT4 := Lib.hid hlt4
                      clear hsb hnx hlt4 hx hs HLT
                      by_cases hge : 1073741824 ≤ x
                      · clear HFILL2
                        go_wp2_with fail
                        refine (known21_any w8).mono ?_
                        rintro e wk ⟨rfl, hbk⟩
                        have HBK := Lib.hid (HB8.out.trans (hbk.mono HB8.out.size))
                        clear hbk
                        go_wp2_with fail
                        go_ret
                        exact ⟨rfl, HBK.out⟩
                      · have hge2 : x < 1073741824 := by omega
                        go_wp2_with fail
                        go_round
                        case rel => exact ⟨k + 1, by go_num, by omega, by rw [HNX.out], HLT4.out hge2⟩
                        case measure => simp [intOf]; omega
                    · have hkn2 : n = k := by omega
                      subst hkn2
                      have hfin := HFILL2.out HLT.out
                      rw [hfin]
                      clear hsb hfin
                      go_wp2_with (first
                        | (go_at_call 21; refine (HRH.out _).mono ?_; rintro e w' ⟨rfl, rfl⟩)
                        | (go_at_call 10; refine (known21_any _).mono ?_; rintro e w9 ⟨rfl, hb9⟩; have HB9 := Lib.hid (HB8.out.trans (hb9.mono HB8.out.size)); clear hb9))
                      go_ret
                      exact ⟨rfl, HB9.out⟩
  · rw [decide_eq_false hn] at F
    clear hA
    go_enter Try.func7, Try.ntmps7
    go_wp2_with fail
    refine F.out.mono ?_
    rintro e w' ⟨rfl, rfl⟩
    go_wp2_with fail
    refine (known21_any w).mono ?_
    rintro e w2 ⟨rfl, hb2⟩
    have HB2 := Lib.hid hb2
    clear hb2
    go_wp2_with fail
    go_ret
    exact ⟨rfl, HB2.out⟩
end Go.Proofs.Ytlcncjfgalnfoaa
