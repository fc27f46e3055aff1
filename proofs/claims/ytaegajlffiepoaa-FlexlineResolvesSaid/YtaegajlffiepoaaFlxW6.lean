/- The walks of layer 21: the line of some items. -/
import Derived.Test.YtaegajlffiepoaaFlxN
import Derived.Deep.CutRange
namespace Go.Proofs.Ytaegajlffiepoaa
open Go.RowKit FixM ShaD ShaM Go.Sort
set_option linter.unusedVariables false

set_option maxRecDepth 100000 in
set_option maxHeartbeats 8000000 in
theorem lineOf_any (a : Option Addr) (n cap : Nat) (L0 L : Nat → It) (room : Int) (w : World) (hn : n ≤ 62) (hA : ItA w a n L0) (hLe : ∀ i, L i = hI (L0 i)) :
    Calls Try.prog 22 #[.slice a n cap, .int .i64 room] w fun e w' => e = .returned (.pointer (some ⟨w.heap.size + 1, 0, none⟩)) ∧ ∃ Bo iv ov fF fW, TellsI fF (facI (growsF L (H room) n)) ∧ TellsI fW (wgtI (growsF L (H room) n)) ∧ LnAt w w' (w.heap.size + 1) w.heap.size Bo n iv ov L (startF (growsF L (H room) n) L (H room) n n) (startF (growsF L (H room) n) L (H room) n n).free fF fW := by
  have hmk := make_ints n (by omega)
  have hFb := H_bd room
  have hL : ∀ i, HeldI (L i) := fun i => by rw [hLe i]; exact held_hI _
  obtain ⟨F, hFe⟩ : ∃ F, H room = F := ⟨_, rfl⟩
  rw [hFe] at hFb ⊢
  have hfr : ∀ k, k ≤ n → -1099511627776 ≤ free0 L F k ∧ free0 L F k ≤ 1099511627776 := fun k hk => by
    have := fsum_b2 (f := fun i => (L i).g + (L i).b) k (fun i hi => by have h := hL i; have := h.g0; have := h.g1; have := h.b0; have := h.b1; omega)
    unfold free0; omega
  have hbs : ∀ k, k ≤ n → -1099511627776 ≤ beside0 L F k ∧ beside0 L F k ≤ 1099511627776 := fun k hk => by
    have := fsum_b2 (f := fun i => (L i).g + wsh (L i)) k (fun i hi => by have h := hL i; have := h.g0; have := h.g1; have := h.wsh; omega)
    unfold beside0; omega
  have hHd : ∀ (t : Nat) (W : World), Calls Try.prog 30 #[.agg #[.int .i64 (L0 t).b, .int .i64 (L0 t).l, .int .i64 (L0 t).m, .int .i64 (L0 t).g, .int .i64 (L0 t).i, .int .i64 (L0 t).gr, .int .i64 (L0 t).sh]] W fun e w' => e = .returned (.agg #[.int .i64 (L t).b, .int .i64 (L t).l, .int .i64 (L t).m, .int .i64 (L t).g, .int .i64 (L t).i, .int .i64 (L t).gr, .int .i64 (L t).sh]) ∧ Below W.heap.size W w' := fun t W => by rw [hLe t]; exact hold21_any (L0 t) W
  have HFE := Lib.hid hFe
  have HL := Lib.hid hL
  have HFR := Lib.hid hfr
  have HBS := Lib.hid hbs
  have HHD := Lib.hid hHd
  have HA := Lib.hid hA
  have F0 := hFb.1
  have F1 := hFb.2
  obtain ⟨S, hS⟩ : ∃ S, S = w.heap.size := ⟨_, rfl⟩
  rw [← hS]
  have HS := Lib.hid hS
  have hst := fun u hu hz => LnB.start w n L F u hu hz
  rw [← hS] at hst
  have HST := Lib.hid hst
  clear hFe hL hfr hbs hHd hA hFb hS hst hLe
  go_enter Try.func22, Try.ntmps22
  go_upto_region 1 with fail
  go_cut [5] (fun v5 wx => v5 = .pointer (some ⟨S + 1, 0, none⟩) ∧ Hid (LnB w wx (S + 1) S n (.slice none 0 0) L 0 F))
  case first =>
    go_region_with (go_at_call 32; refine (Hold_any _ _).mono ?_; rw [HFE.out]; rintro e w' ⟨rfl, rfl⟩)
    all_goals go_wp2_with fail
    all_goals go_meet
    all_goals rw [← HS.out]
    all_goals
      have hz : (mk0 w.drew n).heap.size = S + 1 := by unfold mk0; simp [HS.out]
      rw [hz]
      exact ⟨rfl, HST.out w.drew (by rw [HS.out]; exact (Below.refl _ _).drew) HS.out.symm⟩
  case rest =>
    obtain ⟨rfl, HLB⟩ := hcut
    clear HST hmk HFE
    have c3 : wc.cell? ⟨S + 1, 3, none⟩ = some (.int .i64 F) := cell_ofF HLB.out.blk rfl
    go_wp2_with fail
    clear c3
    go_loopw [6, 25] (fun vb vi wr => ∃ (k : Nat) (iv : Value), vi = .int .i64 k ∧ k ≤ n ∧ vb = .int .i64 (beside0 L F k) ∧ Hid (LnB w wr (S + 1) S n iv L k (free0 L F k))) (fun _ vi _ => n - (intOf vi).toNat)
    case atStart => exact ⟨0, _, rfl, by omega, by simp [beside0, fsum], by simpa [free0, fsum] using HLB⟩
    case round =>
      clear HLB
      obtain ⟨k, iv, rfl, hk, rfl, HLB⟩ := hrel
      have hbk := HBS.out k hk
      have hfk := HFR.out k hk
      by_cases hlt : k < n
      · have hltz : (k : Int) < (n : Int) := by omega
        have hbn : beside0 L F (k + 1) = beside0 L F k - ((L k).g + wsh (L k)) := by unfold beside0; simp only [fsum]; omega
        have hfn : free0 L F (k + 1) = free0 L F k - ((L k).g + (L k).b) := by unfold free0; simp only [fsum]; omega
        obtain ⟨be, hbe⟩ : ∃ be, beside0 L F k = be := ⟨_, rfl⟩
        obtain ⟨fr, hfre⟩ : ∃ fr, free0 L F k = fr := ⟨_, rfl⟩
        rw [hbe] at hbk hbn ⊢
        rw [hfre] at hfk hfn HLB
        have hH := HL.out k
        have hww := hH.wsh
        have C := HHD.out k
        have WS := fun W => wish21_any (L k) W
        have hbel := HLB.out.bel
        rcases HA.out.below hbel with h0 | ⟨b, off, ha, hbl, hI⟩
        · omega
        · subst ha
          have S7 := hI k hlt
          obtain ⟨t0, ht0⟩ : ∃ t0, L0 k = t0 := ⟨_, rfl⟩
          rw [ht0] at S7 C
          obtain ⟨q0, q1, q2, q3, q4, q5, q6⟩ := S7
          obtain ⟨X, hX⟩ : ∃ X, wr.heap.size = X := ⟨_, rfl⟩
          have hb2 := below_one21 wr (.cells #[.int .i64 t0.b, .int .i64 t0.l, .int .i64 t0.m, .int .i64 t0.g, .int .i64 t0.i, .int .i64 t0.gr, .int .i64 t0.sh] 34)
          have hx2 := heap_alloc_new wr (.cells #[.int .i64 t0.b, .int .i64 t0.l, .int .i64 t0.m, .int .i64 t0.g, .int .i64 t0.i, .int .i64 t0.gr, .int .i64 t0.sh] 34)
          generalize hw2 : wr.alloc (.cells #[.int .i64 t0.b, .int .i64 t0.l, .int .i64 t0.m, .int .i64 t0.g, .int .i64 t0.i, .int .i64 t0.gr, .int .i64 t0.sh] 34) = w2 at hb2 hx2
          rw [hX] at hx2
          have HB2 := Lib.hid hb2
          have HX2 := Lib.hid hx2
          have d0 : w2.cell? ⟨X, 0, none⟩ = some (.int .i64 t0.b) := cell_ofF hx2 rfl
          have d1 : w2.cell? ⟨X, 1, none⟩ = some (.int .i64 t0.l) := cell_ofF hx2 rfl
          have d2 : w2.cell? ⟨X, 2, none⟩ = some (.int .i64 t0.m) := cell_ofF hx2 rfl
          have d3 : w2.cell? ⟨X, 3, none⟩ = some (.int .i64 t0.g) := cell_ofF hx2 rfl
          have d4 : w2.cell? ⟨X, 4, none⟩ = some (.int .i64 t0.i) := cell_ofF hx2 rfl
          have d5 : w2.cell? ⟨X, 5, none⟩ = some (.int .i64 t0.gr) := cell_ofF hx2 rfl
          have d6 : w2.cell? ⟨X, 6, none⟩ = some (.int .i64 t0.sh) := cell_ofF hx2 rfl
          obtain ⟨t, ht⟩ : ∃ t, L k = t := ⟨_, rfl⟩
          rw [ht] at hbn hfn hH hww C WS
          have CC := Lib.hid C
          have WSS := Lib.hid WS
          have HBN := Lib.hid hbn
          have HFN := Lib.hid hfn
          have HT := Lib.hid ht
          have HXS := Lib.hid hX
          have g0 := hH.g0; have g1 := hH.g1; have b0 := hH.b0; have b1 := hH.b1
          have ww0 := hww.1; have ww1 := hww.2
          have be0 := hbk.1; have be1 := hbk.2; have fr0 := hfk.1; have fr1 := hfk.2
          clear hbk hfk hbn hfn hbe hfre hH hww C WS hbel hbl hI ht0 hb2 hx2 ht
          go_upto_region 6 with fail
          clear hw2 hX q0 q1 q2 q3 q4 q5 q6
          go_wp2_with fail
          refine (CC.out _).mono ?_
          rintro e w3 ⟨rfl, hb3⟩
          have hx3 := (hb3.block X (blk_ltF HX2.out)).trans HX2.out
          have HB3 := Lib.hid hb3
          have HX3 := Lib.hid hx3
          clear d0 d1 d2 d3 d4 d5 d6 hb3
          have d0 : w3.cell? ⟨X, 0, none⟩ = some (.int .i64 t0.b) := cell_ofF hx3 rfl
          have d1 : w3.cell? ⟨X, 1, none⟩ = some (.int .i64 t0.l) := cell_ofF hx3 rfl
          have d2 : w3.cell? ⟨X, 2, none⟩ = some (.int .i64 t0.m) := cell_ofF hx3 rfl
          have d3 : w3.cell? ⟨X, 3, none⟩ = some (.int .i64 t0.g) := cell_ofF hx3 rfl
          have d4 : w3.cell? ⟨X, 4, none⟩ = some (.int .i64 t0.i) := cell_ofF hx3 rfl
          have d5 : w3.cell? ⟨X, 5, none⟩ = some (.int .i64 t0.gr) := cell_ofF hx3 rfl
          have d6 : w3.cell? ⟨X, 6, none⟩ = some (.int .i64 t0.sh) := cell_ofF hx3 rfl
          have z0 : w3.frozen? ⟨X, 0, none⟩ = false := frz_ofF hx3
          have z1 : w3.frozen? ⟨X, 1, none⟩ = false := frz_ofF hx3
          have z2 : w3.frozen? ⟨X, 2, none⟩ = false := frz_ofF hx3
          have z3 : w3.frozen? ⟨X, 3, none⟩ = false := frz_ofF hx3
          have z4 : w3.frozen? ⟨X, 4, none⟩ = false := frz_ofF hx3
          have z5 : w3.frozen? ⟨X, 5, none⟩ = false := frz_ofF hx3
          have z6 : w3.frozen? ⟨X, 6, none⟩ = false := frz_ofF hx3
          clear hx3
          go_upto_region 7 with fail
          have hx4 := put7F w3 X 34 (.int .i64 t0.b) (.int .i64 t0.l) (.int .i64 t0.m) (.int .i64 t0.g) (.int .i64 t0.i) (.int .i64 t0.gr) (.int .i64 t0.sh) (.int .i64 t.b) (.int .i64 t.l) (.int .i64 t.m) (.int .i64 t.g) (.int .i64 t.i) (.int .i64 t.gr) (.int .i64 t.sh) HX3.out
          have hbw3 : Below X wr w3 := by
            have h2 := HB2.out
            rw [HXS.out] at h2
            have h3 := h2.size
            exact h2.trans (HB3.out.mono (by have := HXS.out; omega))
          have hb4 := below7F X (.int .i64 t.b) (.int .i64 t.l) (.int .i64 t.m) (.int .i64 t.g) (.int .i64 t.i) (.int .i64 t.gr) (.int .i64 t.sh) (Nat.le_refl X) hbw3
          generalize (((((((w3.setCell ⟨X, 0, none⟩ (.int .i64 t.b)).setCell ⟨X, 1, none⟩ (.int .i64 t.l)).setCell ⟨X, 2, none⟩ (.int .i64 t.m)).setCell ⟨X, 3, none⟩ (.int .i64 t.g)).setCell ⟨X, 4, none⟩ (.int .i64 t.i)).setCell ⟨X, 5, none⟩ (.int .i64 t.gr)).setCell ⟨X, 6, none⟩ (.int .i64 t.sh)) = w4 at hx4 hb4 ⊢
          have hXlt : S + 1 < X := by have h1 := HXS.out; have h2 := HLB.out.bB; omega
          have HQ : Hid (∀ q, iv.ownBlock = some q → q < X) := fun q hq => by have h1 := HXS.out; have h2 := World.ownsRow.lt HLB.out.own q hq; omega
          have hL4 := HLB.out.below (by rw [HXS.out]; exact hb4)
          have HX4 := Lib.hid hx4
          have HL4 := Lib.hid hL4
          clear d0 d1 d2 d3 d4 d5 d6 z0 z1 z2 z3 z4 z5 z6 hbw3 hb4 HB2 HX2 HB3 HX3 HLB HHD HA CC
          go_cut [25] from 25 to 60 (fun v25 wx => v25 = .int .i64 (k : Int) ∧ Hid (∃ iv', LnB w wx (S + 1) S n iv' L (k + 1) fr) ∧ Hid (wx.heap[X]? = some (.cells #[.int .i64 t.b, .int .i64 t.l, .int .i64 t.m, .int .i64 t.g, .int .i64 t.i, .int .i64 t.gr, .int .i64 t.sh] 34 (0, 0))))
          case first =>
            have hL5 := hL4.drew
            have hx5 : w4.drew.heap[X]? = some (.cells #[.int .i64 t.b, .int .i64 t.l, .int .i64 t.m, .int .i64 t.g, .int .i64 t.i, .int .i64 t.gr, .int .i64 t.sh] 34 (0, 0)) := hx4
            have lP := blk_ltF hL5.blk
            have lX := blk_ltF hx5
            have e0 : w4.drew.cell? ⟨S + 1, 0, none⟩ = some iv := cell_ofF hL5.blk rfl
            have e0a : ∀ ob, (w4.alloc ob).cell? ⟨S + 1, 0, none⟩ = some iv := fun ob => (cell_blk (((Below.refl w4.heap.size w4).alloc (Nat.le_refl _) ob).block (S + 1) lP) 0).trans e0
            have e1 : w4.drew.cell? ⟨X, 0, none⟩ = some (.int .i64 t.b) := cell_ofF hx5 rfl
            have e1a : ∀ ob, (w4.alloc ob).cell? ⟨X, 0, none⟩ = some (.int .i64 t.b) := fun ob => (cell_blk (((Below.refl w4.heap.size w4).alloc (Nat.le_refl _) ob).block X lX) 0).trans e1
            have e2 : w4.drew.cell? ⟨X, 1, none⟩ = some (.int .i64 t.l) := cell_ofF hx5 rfl
            have e2a : ∀ ob, (w4.alloc ob).cell? ⟨X, 1, none⟩ = some (.int .i64 t.l) := fun ob => (cell_blk (((Below.refl w4.heap.size w4).alloc (Nat.le_refl _) ob).block X lX) 1).trans e2
            have e3 : w4.drew.cell? ⟨X, 2, none⟩ = some (.int .i64 t.m) := cell_ofF hx5 rfl
            have e3a : ∀ ob, (w4.alloc ob).cell? ⟨X, 2, none⟩ = some (.int .i64 t.m) := fun ob => (cell_blk (((Below.refl w4.heap.size w4).alloc (Nat.le_refl _) ob).block X lX) 2).trans e3
            have e4 : w4.drew.cell? ⟨X, 3, none⟩ = some (.int .i64 t.g) := cell_ofF hx5 rfl
            have e4a : ∀ ob, (w4.alloc ob).cell? ⟨X, 3, none⟩ = some (.int .i64 t.g) := fun ob => (cell_blk (((Below.refl w4.heap.size w4).alloc (Nat.le_refl _) ob).block X lX) 3).trans e4
            have e5 : w4.drew.cell? ⟨X, 4, none⟩ = some (.int .i64 t.i) := cell_ofF hx5 rfl
            have e5a : ∀ ob, (w4.alloc ob).cell? ⟨X, 4, none⟩ = some (.int .i64 t.i) := fun ob => (cell_blk (((Below.refl w4.heap.size w4).alloc (Nat.le_refl _) ob).block X lX) 4).trans e5
            have e6 : w4.drew.cell? ⟨X, 5, none⟩ = some (.int .i64 t.gr) := cell_ofF hx5 rfl
            have e6a : ∀ ob, (w4.alloc ob).cell? ⟨X, 5, none⟩ = some (.int .i64 t.gr) := fun ob => (cell_blk (((Below.refl w4.heap.size w4).alloc (Nat.le_refl _) ob).block X lX) 5).trans e6
            have e7 : w4.drew.cell? ⟨X, 6, none⟩ = some (.int .i64 t.sh) := cell_ofF hx5 rfl
            have e7a : ∀ ob, (w4.alloc ob).cell? ⟨X, 6, none⟩ = some (.int .i64 t.sh) := fun ob => (cell_blk (((Below.refl w4.heap.size w4).alloc (Nat.le_refl _) ob).block X lX) 6).trans e7
            obtain ⟨g5, c5, w5, hr5, ho5, hg5⟩ := putIt (S + 1 + 1) iv L k w4.drew hL5.bB (by omega) hL5.own
            obtain ⟨hP5, hL6, hK6⟩ := hL5.push ho5 hg5
            rw [HT.out] at hr5
            have hr6 : (Builtin.append_ #[22, 22] 22 #[iv, .slice (some ⟨w4.drew.heap.size, 0, none⟩) 1 1]).run Try.prog (w4.drew.alloc (.cells #[.int .i64 t.b, .int .i64 t.l, .int .i64 t.m, .int .i64 t.g, .int .i64 t.i, .int .i64 t.gr, .int .i64 t.sh] 34)) = .ok (.slice (some ⟨g5, 0, none⟩) (k + 1) c5) w5 := hr5
            have g0' : w5.cell? ⟨S + 1, 0, none⟩ = some iv := (cell_blk (hP5 (S + 1) (by omega)) 0).trans e0
            have g1' : w5.frozen? ⟨S + 1, 0, none⟩ = false := (frz_blk (hP5 (S + 1) (by omega)) 0).trans (frz_ofF hL5.blk)
            have hx6 := (hK6 X lX (by omega) (fun q hq => by have := HQ.out q hq; omega)).trans hx5
            have HL6 := Lib.hid hL6
            have HX6 := Lib.hid hx6
            clear hL5 hx5 ho5 hg5 hP5 hL6 hK6 hx6 hr5 hL4 hx4
            go_region_law (refine step_append_runA rfl (.tmp 35) (.tmp 37) 22 rfl _ _ _ _ (by first | (simp [Act.eval]; done) | simp [Act.eval, Act.put]) (by first | (simp [Act.eval]; done) | simp [Act.eval, Act.put]) hr6 ?_)
            all_goals go_wp2_with fail
            all_goals go_meet
            all_goals exact ⟨rfl, ⟨_, HL6.out⟩, HX6⟩
          case rest =>
            obtain ⟨rfl, HLC, HXC⟩ := hcut
            obtain ⟨iv2, hL7⟩ := HLC.out
            have hx7 := HXC.out
            have lP := blk_ltF hL7.blk
            have lX := blk_ltF hx7
            clear hL4 hx4 HLC HXC HX4 HL4
            go_upto_region 8 with fail
            go_cut [25] from 25 to 60 (fun v25 wx => v25 = .int .i64 (k : Int) ∧ Hid (LnB w wx (S + 1) S n iv2 L (k + 1) (fr - (t.g + t.b))) ∧ Hid (wx.heap[X]? = some (.cells #[.int .i64 t.b, .int .i64 t.l, .int .i64 t.m, .int .i64 t.g, .int .i64 t.i, .int .i64 t.gr, .int .i64 t.sh] 34 (0, 0))))
            case first =>
              have e0 : wc.cell? ⟨S + 1, 3, none⟩ = some (.int .i64 fr) := cell_ofF hL7.blk rfl
              have e0f : wc.frozen? ⟨S + 1, 3, none⟩ = false := frz_ofF hL7.blk
              have e1 : wc.cell? ⟨X, 0, none⟩ = some (.int .i64 t.b) := cell_ofF hx7 rfl
              have e2 : wc.cell? ⟨X, 3, none⟩ = some (.int .i64 t.g) := cell_ofF hx7 rfl
              have hL8 := (hL7.setFree (fr - (t.g + t.b))).drew
              have hx8 : (wc.setCell ⟨S + 1, 3, none⟩ (.int .i64 (fr - (t.g + t.b)))).drew.heap[X]? = some (.cells #[.int .i64 t.b, .int .i64 t.l, .int .i64 t.m, .int .i64 t.g, .int .i64 t.i, .int .i64 t.gr, .int .i64 t.sh] 34 (0, 0)) := (heap_setCell_other wc ⟨S + 1, 3, none⟩ X _ (by show X ≠ S + 1; omega)).trans hx7
              have HL8 := Lib.hid hL8
              have HX8 := Lib.hid hx8
              clear hL7 hx7 hL8 hx8
              go_region
              all_goals go_wp2_with fail
              all_goals go_meet
              all_goals exact ⟨rfl, HL8, HX8⟩
            case rest =>
              obtain ⟨rfl, HL9, HX9⟩ := hcut
              have hx9 := HX9.out
              have e0 := cell_regrown (cell_ofF (k := 0) hx9 rfl)
              have e1 := cell_regrown (cell_ofF (k := 1) hx9 rfl)
              have e2 := cell_regrown (cell_ofF (k := 2) hx9 rfl)
              have e3 := cell_regrown (cell_ofF (k := 3) hx9 rfl)
              have e4 := cell_regrown (cell_ofF (k := 4) hx9 rfl)
              have e5 := cell_regrown (cell_ofF (k := 5) hx9 rfl)
              have e6 := cell_regrown (cell_ofF (k := 6) hx9 rfl)
              have cW := fun (dd : Nat) (os : Array Obj) => Calls.regrown_of (WSS.out (grow (redrawn wc dd) os))
              clear hL7 hx7 hx9
              go_upto_region 9 with fail
              refine wp_region_quiet_below (by kernel_rfl) (by kernel_rfl) ?_
              repeat (quiet_step (first | with_reducible exact cW _ _))
              refine wpQuiet_nil ?_
              intro _ hw'
              obtain ⟨⟨dq, osq⟩, hw''⟩ := hw'
              subst hw''
              have hL10 := HL9.out.below (below_regrown wc dq osq)
              have HL10 := Lib.hid hL10
              clear e0 e1 e2 e3 e4 e5 e6 cW hL10
              go_wp2_with fail
              go_roundw
              case rel =>
                refine ⟨k + 1, iv2, by go_num, by omega, ?_, ?_⟩
                · rw [HBN.out]
                  first | rfl | exact congrArg (Value.int .i64) (IntWalk.i64_in _ (by omega)) | (rw [IntWalk.i64_in (t.g + wsh t) (by omega), IntWalk.i64_in _ (by omega)])
                · rw [HFN.out]; exact HL10
              case measure => simp [intOf]; omega
      · have hkn : n = k := by omega
        subst hkn
        have hL1 : LnB w wr (S + 1) S n iv L n (free0 L F n) := HLB.out
        have hgr : growsF L F n = decide (0 < beside0 L F n) := rfl
        obtain ⟨be, hbe⟩ : ∃ be, beside0 L F n = be := ⟨_, rfl⟩
        rw [hbe] at hgr ⊢
        have hivf : ∃ ia ic, iv = .slice ia n ic := by
          by_cases h0 : n = 0
          · exact ⟨none, 0, by rw [hL1.nil h0, h0]⟩
          · obtain ⟨g, c, hv, _⟩ := hL1.own.form (by omega)
            exact ⟨_, _, hv⟩
        obtain ⟨ia, ic, rfl⟩ := hivf
        have hD := hL1.done 34 35
        have hsn := HS.out
        have y5 : wr.cell? ⟨S + 1, 5, none⟩ = some .nilFunc := cell_ofF hL1.blk rfl
        have y6 : wr.cell? ⟨S + 1, 6, none⟩ = some .nilFunc := cell_ofF hL1.blk rfl
        have y5f : wr.frozen? ⟨S + 1, 5, none⟩ = false := frz_ofF hL1.blk
        have y6f : wr.frozen? ⟨S + 1, 6, none⟩ = false := frz_ofF hL1.blk
        have hFRn := HFR.out n (Nat.le_refl _)
        obtain ⟨gg, hgg⟩ : ∃ gg, growsF L F n = gg := ⟨_, rfl⟩
        have HD := Lib.hid hD
        have HGG := Lib.hid hgg
        rw [hgg] at hgr
        have HINV := Lib.hid (fun k hk => startF_inv gg L F n (fun i _ => HL.out i) F0 F1 k hk)
        clear hbk hfk hL1 hbe hgg HLB HHD HA HFR HBS hsn hD hk
        go_upto_region 13 with fail
        clear y5 y6 y5f y6f hlt
        generalize (wr.setCell ⟨S + 1, 5, none⟩ (.func (.func 34) #[] #[])).setCell ⟨S + 1, 6, none⟩ (.func (.func 35) #[] #[]) = w2 at HD ⊢
        have x5 : w2.cell? ⟨S + 1, 5, none⟩ = some (.func (.func 34) #[] #[]) := cell_ofF HD.out.blk rfl
        have x6 : w2.cell? ⟨S + 1, 6, none⟩ = some (.func (.func 35) #[] #[]) := cell_ofF HD.out.blk rfl
        have x5f : w2.frozen? ⟨S + 1, 5, none⟩ = false := frz_ofF HD.out.blk
        have x6f : w2.frozen? ⟨S + 1, 6, none⟩ = false := frz_ofF HD.out.blk
        -- the ways meet ahead of the second loop
        have hway : ∃ (fF fW fP : Nat) (w3 : World), TellsI fF (facI gg) ∧ TellsI fW (wgtI gg) ∧ TellsB fP (pastI gg) ∧ LnAt w w3 (S + 1) S wr.heap.size n (.slice ia n ic) (.slice none 0 0) L ⟨fun _ => 0, [], free0 L F n⟩ 0 fF fW ∧ (gg = true → fF = 37 ∧ fW = 37 ∧ fP = 36 ∧ w3 = (w2.setCell ⟨S + 1, 5, none⟩ (.func (.func 37) #[] #[])).setCell ⟨S + 1, 6, none⟩ (.func (.func 37) #[] #[])) ∧ (gg = false → fF = 34 ∧ fW = 35 ∧ fP = 33 ∧ w3 = w2) := by
          cases gg
          · exact ⟨_, _, _, _, tells_shrinks, tells_yields, tells_short, HD.out, (fun h => absurd h Bool.false_ne_true), (fun _ => ⟨rfl, rfl, rfl, rfl⟩)⟩
          · exact ⟨_, _, _, _, tells_grows, tells_growsW, tells_long, HD.out.fns _ _, (fun _ => ⟨rfl, rfl, rfl, rfl⟩), (fun h => absurd h.symm Bool.false_ne_true)⟩
        obtain ⟨fF, fW, fP, w3, tF, tW, tP, hL3, hy, hn2⟩ := hway
        have HTF := Lib.hid tF
        have HTW := Lib.hid tW
        have HTP := Lib.hid tP
        have HL3 := Lib.hid hL3
        have HY := Lib.hid hy
        have HNO := Lib.hid hn2
        clear tF tW tP hL3 hy hn2
        generalize wr.heap.size = B2 at HL3 HD
        clear HD
        go_upto_if 68 with fail
        go_cut [9] (fun v9 wx => v9 = .func (.func fP) #[] #[] ∧ wx = w3)
        case first =>
          cases gg
          · obtain ⟨rfl, rfl, rfl, rfl⟩ := HNO.out rfl
            have hbz : be ≤ 0 := by have h := hgr; simp at h; omega
            clear hgr
            go_wp2_with fail
            go_meet
            exact ⟨rfl, rfl⟩
          · obtain ⟨rfl, rfl, rfl, rfl⟩ := HY.out rfl
            have hbz : 0 < be := by have h := hgr; simp at h; omega
            clear hgr
            go_wp2_with fail
            go_meet
            exact ⟨rfl, rfl⟩
        case rest =>
          obtain ⟨rfl, hw⟩ := hcut
          have hw' := hw.symm
          subst hw'
          clear x5 x6 x5f x6f HY HNO hgr
          have c0 : w3.cell? ⟨S + 1, 0, none⟩ = some (.slice ia n ic) := cell_ofF HL3.out.blk rfl
          go_wp2_with fail
          clear c0
          go_loopw [80] (fun vi wr => ∃ (k : Nat) (ov : Value), vi = .int .i64 k ∧ k ≤ n ∧ Hid (LnAt w wr (S + 1) S B2 n (.slice ia n ic) ov L (startF gg L F n k) 0 fF fW)) (fun vi _ => n - (intOf vi).toNat)
          case atStart => exact ⟨0, _, rfl, by omega, HL3⟩
          case round =>
            clear HL3
            obtain ⟨k, ov, rfl, hk, HLn⟩ := hrel
            by_cases hlt : k < n
            · have hltz : (k : Int) < (n : Int) := by omega
              have hLn := HLn.out
              have hH := HL.out k
              have hsucc := startF_succ gg L F n k
              have hin := HINV.out k hk
              have hlo := hin.lo
              have hhi := hin.hi
              obtain ⟨ro, hro⟩ : ∃ ro, startF gg L F n k = ro := ⟨_, rfl⟩
              rw [hro] at hsucc hLn hin hlo hhi HLn
              have fr0 : -1099511627776 ≤ ro.free := by omega
              have fr1 : ro.free ≤ 1099511627776 := by omega
              have hll : ro.loose.length ≤ 200000 := by omega
              rcases hLn.its with e | ⟨bi, io, ci, e, hI, n1, n2, n3⟩
              · omega
              · injection e with e1 e2 e3
                subst e1
                subst e3
                have S7 := hI k hlt
                have FZ := fun W (hW : LnAt w W (S + 1) S B2 n (.slice (some ⟨bi, io, none⟩) n ic) ov L ro 0 fF fW) => freeze_any hW k (wsh (L k)) hlt (by omega) fr0 fr1 hH.b0 hH.b1 (by have := hH.wsh; omega) hH.wsh.2
                have op : opens gg L k = (k, wsh (L k), stiffI gg (L k)) := rfl
                rw [op] at hsucc
                obtain ⟨t, ht⟩ : ∃ t, L k = t := ⟨_, rfl⟩
                rw [ht] at S7 hsucc hH FZ
                have st : stiffI gg t = (facI gg t == 0 || pastI gg t) := rfl
                obtain ⟨sv, hsv⟩ : ∃ sv, stiffI gg t = sv := ⟨_, rfl⟩
                rw [hsv] at hsucc st
                have CF := fun W => HTF.out.2 t W
                have CP := fun W => HTP.out.2 t W
                have CW := fun W => wish21_any t W
                obtain ⟨fv, hfv⟩ : ∃ fv, facI gg t = fv := ⟨_, rfl⟩
                obtain ⟨pv, hpv⟩ : ∃ pv, pastI gg t = pv := ⟨_, rfl⟩
                obtain ⟨wi, hwi⟩ : ∃ wi, wsh t = wi := ⟨_, rfl⟩
                rw [hfv] at CF st
                rw [hpv] at CP st
                rw [hwi] at CW hsucc FZ
                have eF := HTF.out.1
                have eP := HTP.out.1
                have HSUC := Lib.hid hsucc
                have HST := Lib.hid st
                have HCW := Lib.hid CW
                have HFZ := Lib.hid FZ
                obtain ⟨q0, q1, q2, q3, q4, q5, q6⟩ := S7
                obtain ⟨X, hX⟩ : ∃ X, wr.heap.size = X := ⟨_, rfl⟩
                have hb2 := below_one21 wr (.cells #[.int .i64 t.b, .int .i64 t.l, .int .i64 t.m, .int .i64 t.g, .int .i64 t.i, .int .i64 t.gr, .int .i64 t.sh] 34)
                have hx2 := heap_alloc_new wr (.cells #[.int .i64 t.b, .int .i64 t.l, .int .i64 t.m, .int .i64 t.g, .int .i64 t.i, .int .i64 t.gr, .int .i64 t.sh] 34)
                generalize hw2 : wr.alloc (.cells #[.int .i64 t.b, .int .i64 t.l, .int .i64 t.m, .int .i64 t.g, .int .i64 t.i, .int .i64 t.gr, .int .i64 t.sh] 34) = w4 at hb2 hx2
                have hL4 := hLn.below hb2
                rw [hX] at hx2
                have HL4 := Lib.hid hL4
                have HX4 := Lib.hid hx2
                clear hsv hLn hin hlo hhi hro hI hH hsucc st CW FZ op hfv hpv hwi ht hb2 HLn e2 hL4 hx2
                go_upto_region 18 with fail
                clear hw2 hX q0 q1 q2 q3 q4 q5 q6
                have hx4 := HX4.out
                have d0 := cell_regrown (cell_ofF (k := 0) hx4 rfl)
                have d1 := cell_regrown (cell_ofF (k := 1) hx4 rfl)
                have d2 := cell_regrown (cell_ofF (k := 2) hx4 rfl)
                have d3 := cell_regrown (cell_ofF (k := 3) hx4 rfl)
                have d4 := cell_regrown (cell_ofF (k := 4) hx4 rfl)
                have d5 := cell_regrown (cell_ofF (k := 5) hx4 rfl)
                have d6 := cell_regrown (cell_ofF (k := 6) hx4 rfl)
                have d7 := cell_regrown (cell_ofF (k := 5) HL4.out.blk rfl)
                have cF := fun (dd : Nat) (os : Array Obj) => Calls.regrown_of (CF (grow (redrawn w4 dd) os))
                have cP := fun (dd : Nat) (os : Array Obj) => Calls.regrown_of (CP (grow (redrawn w4 dd) os))
                clear hx4 CF CP
                go_cut [80, 96] from 80 to 112 (fun v80 v96 wx => v80 = .int .i64 (k : Int) ∧ v96 = .bool sv ∧ Hid (LnAt w wx (S + 1) S B2 n (.slice (some ⟨bi, io, none⟩) n ic) ov L ro 0 fF fW) ∧ Hid (wx.heap[X]? = some (.cells #[.int .i64 t.b, .int .i64 t.l, .int .i64 t.m, .int .i64 t.g, .int .i64 t.i, .int .i64 t.gr, .int .i64 t.sh] 34 (0, 0))))
                case first =>
                  by_cases h0 : fv = 0
                  · have b0 : (fv == 0) = true := by simp [h0]
                    clear h0
                    refine wp_region_quiet_below (by kernel_rfl) (by kernel_rfl) ?_
                    repeat (quiet_step (first | with_reducible exact cF _ _ | with_reducible exact cP _ _))
                    refine wpQuiet_nil ?_
                    intro _ hw'
                    obtain ⟨⟨dq, osq⟩, hw''⟩ := hw'
                    subst hw''
                    have hbX := below_regrown w4 dq osq
                    have HLX := Lib.hid (HL4.out.below hbX)
                    have HXX := Lib.hid ((hbX.block X (blk_ltF HX4.out)).trans HX4.out)
                    clear d0 d1 d2 d3 d4 d5 d6 d7 cF cP hbX
                    go_wp2_with fail
                    go_meet
                    exact ⟨rfl, by first | rfl | (rw [HST.out]; simp [b0]), HLX, HXX⟩
                  · have b0 : (fv == 0) = false := by simp [h0]
                    clear h0
                    refine wp_region_quiet_below (by kernel_rfl) (by kernel_rfl) ?_
                    repeat (quiet_step (first | with_reducible exact cF _ _ | with_reducible exact cP _ _))
                    refine wpQuiet_nil ?_
                    intro _ hw'
                    obtain ⟨⟨dq, osq⟩, hw''⟩ := hw'
                    subst hw''
                    have hbX := below_regrown w4 dq osq
                    have HLX := Lib.hid (HL4.out.below hbX)
                    have HXX := Lib.hid ((hbX.block X (blk_ltF HX4.out)).trans HX4.out)
                    clear d0 d1 d2 d3 d4 d5 d6 d7 cF cP hbX
                    go_wp2_with fail
                    go_meet
                    exact ⟨rfl, by first | rfl | (rw [HST.out]; simp [b0]), HLX, HXX⟩
                case rest =>
                  obtain ⟨rfl, rfl, HL5, HX5⟩ := hcut
                  have hlP := HL5.out.pB
                  clear d0 d1 d2 d3 d4 d5 d6 d7 cF cP HL4 HX4
                  cases sv
                  · rw [show stepF (fun i => (L i).b) ro (k, wi, false) = stay ro k from rfl] at HSUC
                    have hL5 := HL5.out
                    obtain ⟨v5, w5, hr5, ho5, hg5⟩ := put21 B2 ov ro.loose k wc hL5.bB hll hL5.loo
                    obtain ⟨g5, c5, hv5, _, _⟩ := ho5.form (by simp)
                    rw [show (ro.loose ++ [k]).length = ro.loose.length + 1 by simp] at hv5
                    subst hv5
                    obtain ⟨hP5, hL6, _⟩ := hL5.stay k ho5 hg5
                    have e0 : wc.cell? ⟨S + 1, 2, none⟩ = some ov := cell_ofF hL5.blk rfl
                    have g0 : w5.cell? ⟨S + 1, 2, none⟩ = some ov := (cell_blk hP5 2).trans e0
                    have g1 : w5.frozen? ⟨S + 1, 2, none⟩ = false := (frz_blk hP5 2).trans (frz_ofF hL5.blk)
                    rw [← HSUC.out] at hL6
                    have HL6 := Lib.hid hL6
                    have HR5 := Lib.hid hr5
                    clear hL5 ho5 hg5 hP5 hL6 hr5 HL5
                    go_wp2_with (at_builtin; refine wpList_append_runF rfl _ _ 25 rfl _ _ _ _ rfl rfl HR5.out ?_)
                    go_roundw
                    case rel => exact ⟨k + 1, _, by go_num, by omega, HL6⟩
                    case measure => simp [intOf]; omega
                  · rw [show stepF (fun i => (L i).b) ro (k, wi, true) = frz (fun i => (L i).b) ro k wi from rfl] at HSUC
                    have hx5 := HX5.out
                    have d0 : wc.cell? ⟨X, 0, none⟩ = some (.int .i64 t.b) := cell_ofF hx5 rfl
                    have d1 : wc.cell? ⟨X, 1, none⟩ = some (.int .i64 t.l) := cell_ofF hx5 rfl
                    have d2 : wc.cell? ⟨X, 2, none⟩ = some (.int .i64 t.m) := cell_ofF hx5 rfl
                    have d3 : wc.cell? ⟨X, 3, none⟩ = some (.int .i64 t.g) := cell_ofF hx5 rfl
                    have d4 : wc.cell? ⟨X, 4, none⟩ = some (.int .i64 t.i) := cell_ofF hx5 rfl
                    have d5 : wc.cell? ⟨X, 5, none⟩ = some (.int .i64 t.gr) := cell_ofF hx5 rfl
                    have d6 : wc.cell? ⟨X, 6, none⟩ = some (.int .i64 t.sh) := cell_ofF hx5 rfl
                    clear hx5
                    go_wp2_with fail
                    refine (HCW.out wc).mono ?_
                    rintro e w5 ⟨rfl, hb5⟩
                    have FZ := Lib.hid (HFZ.out w5 (HL5.out.below hb5))
                    clear hb5 d0 d1 d2 d3 d4 d5 d6
                    go_wp2_with fail
                    refine FZ.out.mono ?_
                    rintro e w8 ⟨rfl, hL8, _⟩
                    rw [← HSUC.out] at hL8
                    have HL8 := Lib.hid hL8
                    clear hL8
                    go_wp2_with fail
                    go_roundw
                    case rel => exact ⟨k + 1, ov, by go_num, by omega, HL8⟩
                    case measure => simp [intOf]; omega
            · have hkn : n = k := by omega
              subst hkn
              have hLn := HLn.out
              have r3 : wr.cell? ⟨S + 1, 3, none⟩ = some (.int .i64 (startF gg L F n n).free) := cell_ofF hLn.blk rfl
              have r4 : wr.cell? ⟨S + 1, 4, none⟩ = some (.int .i64 0) := cell_ofF hLn.blk rfl
              have r4f : wr.frozen? ⟨S + 1, 4, none⟩ = false := frz_ofF hLn.blk
              have hLr := hLn.remember (startF gg L F n n).free
              have HLR := Lib.hid hLr
              clear hLr hLn
              go_wp2_with fail
              go_ret
              rw [HGG.out]
              exact ⟨rfl, _, _, _, _, _, HTF.out, HTW.out, HLR.out⟩
end Go.Proofs.Ytaegajlffiepoaa
