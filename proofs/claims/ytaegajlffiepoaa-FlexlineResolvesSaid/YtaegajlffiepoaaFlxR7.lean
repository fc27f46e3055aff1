/- Layer 21: the other text resolves a line: the walk. -/
import Derived.Test.YtaegajlffiepoaaFlxRa
import Derived.Test.YtaegajlffiepoaaShaW15
import Derived.Deep.RegionHeld3
namespace Go.Proofs.Ytaegajlffiepoaa
open Go.RowKit FixM ShaD ShaM Go.Sort
set_option linter.unusedVariables false

theorem cell_keepF {W w2 : World} {p : Addr} {v : Value} (hb : Below W.heap.size W w2) (h : W.cell? p = some v) : w2.cell? p = some v :=
  (hb.cell (World.block_lt_of_cell? W _ h)).trans h
theorem cell_drewF {W : World} {p : Addr} {v : Value} (h : W.cell? p = some v) : W.drew.cell? p = some v := h
theorem cell_farF {W : World} {b o b2 o2 : Nat} {v x : Value} (h : W.cell? ⟨b, o, none⟩ = some v) (hb : b2 ≠ b) : (W.setCell ⟨b2, o2, none⟩ x).cell? ⟨b, o, none⟩ = some v := by
  rw [World.cell?_setCell_other (h := by intro e; injection e; omega)]
  exact h

set_option maxRecDepth 100000 in
set_option maxHeartbeats 16000000 in
theorem refResolve21_any (a : Option Addr) (n cap : Nat) (L0 L : Nat → It) (room : Int) (w : World) (hn : n ≤ 62) (hA : ItA w a n L0) (hLe : ∀ i, L i = hI (L0 i)) :
    Calls Try.prog 12 #[.slice a n cap, .int .i64 room] w fun e w' => ∃ bo, w.heap.size ≤ bo ∧ e = .returned (.tuple #[.slice (some ⟨bo, 0, none⟩) n n, .int .i64 ((resolveF L (H room) n).2 : Int)]) ∧ Below w.heap.size w w' ∧ Row w' bo n (resolveF L (H room) n).1.len := by
  have hL : ∀ i, HeldI (L i) := fun i => by rw [hLe i]; exact held_hI _
  have hLf : (fun i => hI (L0 i)) = L := funext fun i => (hLe i).symm
  have CALL := Lib.hid (All21_any a n cap L0 w hn hA)
  unfold OfIs at CALL
  rw [hLf] at CALL
  have CGR := Lib.hid (fun (ra : Option Addr) (rc : Nat) (W : World) (h : ItA W ra n L) => Grows21_any ra n rc L room W hn h hL)
  have CST := Lib.hid (fun t g W => refStiff21_any t g W)
  have CWI := Lib.hid (fun t W => refWish21_any t W)
  have CWE := Lib.hid (fun t g W => refWeight21_any t g W)
  have CCL := Lib.hid (fun t x W => refClamp21_any t x W)
  have CHO := Lib.hid (fun x W => refHold_any x W)
  obtain ⟨g, hg⟩ : ∃ g, growsF L (H room) n = g := ⟨_, rfl⟩
  have RS := Lib.hid (Rest.start hL hg)
  have CFR := Lib.hid (fun (ra : Option Addr) (rc bo bf : Nat) (U : Nat → Bool) (out : Nat → Int) (W : World) (h : ItA W ra n L) (h1 : Row W bo n out) (h2 : Bow W bf n (fun i => !U i)) (h3 : ∀ i, i < n → -1073741824 ≤ out i ∧ out i ≤ 1073741824) => refFree21_any ra n rc bo bf L U out room W hn h hL h1 h2 h3)
  obtain ⟨F, hF⟩ : ∃ F, H room = F := ⟨_, rfl⟩
  rw [hg] at CGR
  rw [hF] at RS CFR ⊢
  obtain ⟨fin, hfin⟩ : ∃ fin, (resolveF L F n).1.len = fin := ⟨_, rfl⟩
  obtain ⟨N, hN⟩ : ∃ N, (resolveF L F n).2 = N := ⟨_, rfl⟩
  rw [hfin, hN] at RS ⊢
  have hmk1 := make_ints n (by omega)
  have hmk2 := make_bools n (by omega)
  have CDE := Lib.hid (fun (ra : Option Addr) (rc bf : Nat) (U : Nat → Bool) (first now : Int) (W : World) (h : ItA W ra n L) (h2 : Bow W bf n (fun i => !U i)) (h3 : bf < W.heap.size) (h4 : -4611686018427387904 ≤ now) (h5 : now ≤ 4611686018427387904) => refDealt21_any ra n rc bf g L U first now W hn h hL h2 h3 h4 h5)
  have HNW := Lib.hid (fun (U : Nat → Bool) (out : Nat → Int) (ho : ∀ i, i < n → 0 ≤ out i ∧ out i ≤ 1073741824) => (show -4611686018427387904 ≤ freeR L F U out n ∧ freeR L F U out n ≤ 4611686018427387904 by
    have := fsum_bd (f := fun i => (L i).g + (if U i = true then (L i).b else out i)) (c := 2147483648) (by omega) n (fun i hi => by
      have h := hL i; have := h.g0; have := h.g1; have := h.b0; have := h.b1; have := ho i hi
      split <;> omega)
    have hb := H_bd room
    rw [hF] at hb
    unfold freeR
    omega))
  have HBR := Lib.hid (fun (U : Nat → Bool) (sh : Nat → Int) (k : Nat) (hk : k ≤ n) => (show -137438953472 ≤ fsum (brR L U sh) k ∧ fsum (brR L U sh) k ≤ 137438953472 by
    have := fsum_b2 (f := brR L U sh) k (fun i _ => by have := brR_bd (n := n) hL U sh i; omega)
    omega))
  have HL := Lib.hid hL
  clear hL hLf hg hF hfin hN hA hLe
  go_enter Try.func12, Try.ntmps12
  go_wp2_with fail
  refine CALL.out.mono ?_
  rintro e w1 ⟨ra, rc, rfl, hb1, hit⟩
  have hi1 := OfIs.ita hit
  have CG := CGR.out ra rc w1 hi1
  have HI1 := Lib.hid hi1
  have HB1 := Lib.hid hb1
  clear hb1 hit hi1 CALL
  go_wp2_with fail
  refine CG.mono ?_
  rintro e w2 ⟨rfl, hb2⟩
  have HI2 := Lib.hid (HI1.out.below hb2)
  have HB2 := Lib.hid (HB1.out.trans (hb2.mono HB1.out.size))
  clear hb2 HI1 HB1 CG CGR
  obtain ⟨bo, hbo⟩ : ∃ bo, bo = w2.heap.size := ⟨_, rfl⟩
  have HBO := Lib.hid hbo
  have hbf : (mk0 w2 n).heap.size = bo + 1 := by rw [hbo]; unfold mk0; simp
  have HBF := Lib.hid hbf
  have b0 := below_mk0 w2 n
  have r0 := row_mk0 w2 n
  have b1 := below_mkB (mk0 w2 n) n
  have f0 := bow_mkB (mk0 w2 n) n
  rw [hbf] at b1 f0
  rw [← hbo] at b0 r0
  have hz0 : bo + 1 < (mkB (mk0 w2 n) n).heap.size := by unfold mkB; simp; omega
  have b2 : Below bo w2 (mkB (mk0 w2 n) n) := b0.trans (b1.mono (by omega))
  have r1 : Row (mkB (mk0 w2 n) n) bo n (fun _ => 0) := r0.below b1 (by omega)
  obtain ⟨W0, hW0⟩ : ∃ W0, mkB (mk0 w2 n) n = W0 := ⟨_, rfl⟩
  rw [hW0] at b2 r1 f0 hz0
  have HW0 := Lib.hid hW0
  have HB0 := Lib.hid b2
  have HR0 := Lib.hid r1
  have HF0 := Lib.hid f0
  have HZ0 := Lib.hid hz0
  clear hbo hbf b0 r0 b1 f0 hz0 b2 r1 hW0
  go_wp2_with fail
  rw [HBF.out, ← HBO.out, HW0.out]
  clear hmk2
  go_loopw [10, 11] (fun vl vi wr => ∃ k : Nat, vi = .int .i64 k ∧ k ≤ n ∧ vl = .int .i64 ((looseU (openU g L) k).length : Int) ∧ Hid (Below bo w2 wr) ∧ Hid (bo + 1 < wr.heap.size) ∧ Hid (Row wr bo n (fun i => if i < k then openO g L i else 0)) ∧ Hid (Bow wr (bo + 1) n (fun i => if i < k then !openU g L i else false))) (fun _ vi _ => n - (intOf vi).toNat)
  case atStart => exact ⟨0, rfl, by omega, rfl, HB0, HZ0, HR0.out.ext (fun i _ => by rw [if_neg (by omega)]), HF0.out.ext (fun i _ => by rw [if_neg (by omega)])⟩
  case round =>
    clear HB0 HZ0 HR0 HF0 HW0
    obtain ⟨k, rfl, hk, rfl, HB, HZ, HR, HF⟩ := hrel
    by_cases hlt : k < n
    · have hltz : (k : Int) < (n : Int) := by omega
      have hb1 : Below w2.heap.size w2 wr := by rw [← HBO.out]; exact HB.out
      have hll := loose_len_succ (openU g L) k
      have hlk := loose_len_le (openU g L) k
      rcases HI2.out.below hb1 with h0 | ⟨b, off, ha, hbl, hI2⟩
      · omega
      · subst ha
        have hbo2 : b < bo := by
          rcases HI2.out with h0 | ⟨b', off', ha', hbl', _⟩
          · omega
          · injection ha' with ha''; injection ha'' with e1 e2 e3; rw [HBO.out, e1]; exact hbl'
        obtain ⟨q0, q1, q2, q3, q4, q5, q6⟩ := hI2 k hlt
        have C1 := CST.out (L k) g
        have C2 := CWI.out (L k)
        have hou : openU g L k = !stiffI g (L k) := rfl
        have hoo : openO g L k = if stiffI g (L k) = true then wsh (L k) else 0 := rfl
        obtain ⟨t, ht⟩ : ∃ t, L k = t := ⟨_, rfl⟩
        rw [ht] at q0 q1 q2 q3 q4 q5 q6 C1 C2 hou hoo
        obtain ⟨x, hx⟩ : ∃ x, stiffI g t = x := ⟨_, rfl⟩
        rw [hx] at C1 hou hoo
        obtain ⟨y, hy⟩ : ∃ y, wsh t = y := ⟨_, rfl⟩
        rw [hy] at C2 hoo
        have CC1 := Lib.hid C1
        have CC2 := Lib.hid C2
        obtain ⟨ll, hle⟩ : ∃ l, ((looseU (openU g L) k).length : Int) = l := ⟨_, rfl⟩
        have hl0 : 0 ≤ ll ∧ ll ≤ 62 := by omega
        have l0 := hl0.1
        have l1 := hl0.2
        rw [hle] at hll ⊢
        clear hI2 ht hx hy C1 C2 hb1 hlk hle hl0
        cases x
        · rw [hou] at hll
          simp only [Bool.not_false, if_true] at hll hou
          rw [if_neg (by decide)] at hoo
          have HLL := Lib.hid hll
          have HOU := Lib.hid hou
          have HOO := Lib.hid hoo
          clear hll hou hoo
          go_wp2_with fail
          refine (CC1.out _).mono ?_
          rintro e w3 ⟨rfl, hb3⟩
          have HB3 := Lib.hid (HB.out.trans (hb3.mono (by have := HZ.out; omega)))
          have HZ3 : Hid (bo + 1 < w3.heap.size) := Nat.lt_of_lt_of_le HZ.out hb3.size
          have HR3 : Hid (Row w3 bo n (fun i => if i < k + 1 then openO g L i else 0)) := (HR.out.below hb3 (by have := HZ.out; omega)).ext (fun i hi => by
            by_cases c1 : i = k
            · subst c1; rw [if_neg (by omega), if_pos (by omega), HOO.out]
            · by_cases c2 : i < k
              · rw [if_pos c2, if_pos (by omega)]
              · rw [if_neg c2, if_neg (by omega)])
          have HF3 : Hid (Bow w3 (bo + 1) n (fun i => if i < k + 1 then !openU g L i else false)) := (HF.out.below hb3 HZ.out).ext (fun i hi => by
            by_cases c1 : i = k
            · subst c1; rw [if_neg (by omega), if_pos (by omega), HOU.out]; rfl
            · by_cases c2 : i < k
              · rw [if_pos c2, if_pos (by omega)]
              · rw [if_neg c2, if_neg (by omega)])
          clear hb3
          go_wp2_with fail
          go_roundw
          case rel => exact ⟨k + 1, by go_num, by omega, by rw [HLL.out], HB3, HZ3, HR3, HF3⟩
          case measure => (simp [intOf] <;> omega)
        · rw [hou] at hll
          simp only [Bool.not_true, if_neg (show ¬(false = true) by decide)] at hll hou
          rw [if_pos rfl] at hoo
          have HLL := Lib.hid hll
          have HOU := Lib.hid hou
          have HOO := Lib.hid hoo
          clear hll hou hoo
          go_wp2_with fail
          refine (CC1.out _).mono ?_
          rintro e w3 ⟨rfl, hb3⟩
          have hblr : b < wr.heap.size := hbl
          have p0 := (hb3.cell hblr).trans q0
          have p1 := (hb3.cell hblr).trans q1
          have p2 := (hb3.cell hblr).trans q2
          have p3 := (hb3.cell hblr).trans q3
          have p4 := (hb3.cell hblr).trans q4
          have p5 := (hb3.cell hblr).trans q5
          have p6 := (hb3.cell hblr).trans q6
          have HB3 := Lib.hid (HB.out.trans (hb3.mono (by have := HZ.out; omega)))
          have HZ3 : Hid (bo + 1 < w3.heap.size) := Nat.lt_of_lt_of_le HZ.out hb3.size
          have HR3 := Lib.hid (HR.out.below hb3 (by have := HZ.out; omega))
          have HF3 := Lib.hid (HF.out.below hb3 HZ.out)
          clear hb3 q0 q1 q2 q3 q4 q5 q6
          go_wp2_with fail
          refine (CC2.out _).mono ?_
          rintro e w4 ⟨rfl, hb4⟩
          have HB4 := Lib.hid (HB3.out.trans (hb4.mono (by have := HZ3.out; omega)))
          have HZ4 : Hid (bo + 1 < w4.heap.size) := Nat.lt_of_lt_of_le HZ3.out hb4.size
          have HR4 := Lib.hid (HR3.out.below hb4 (by have := HZ3.out; omega))
          have HF4 := Lib.hid (HF3.out.below hb4 HZ3.out)
          clear hb4 p0 p1 p2 p3 p4 p5 p6 HR3 HF3 HB3 HZ3
          obtain ⟨c1, c2⟩ := HR4.out k hlt
          have hF5 := HF4.out.other (k := k) (b' := bo) (by omega) (Value.int .i64 y)
          obtain ⟨d1, d2⟩ := hF5 k hlt
          have HR6 : Hid (Row ((w4.setCell ⟨bo, k, none⟩ (.int .i64 y)).setCell ⟨bo + 1, k, none⟩ (.bool true)) bo n (fun i => if i < k + 1 then openO g L i else 0)) := ((HR4.out.set hlt y).other (by omega) _).ext (fun i hi => by
            by_cases c1 : i = k
            · subst c1; rw [if_pos rfl, if_pos (by omega), HOO.out]
            · rw [if_neg c1]
              by_cases c2 : i < k
              · rw [if_pos c2, if_pos (by omega)]
              · rw [if_neg c2, if_neg (by omega)])
          have HF6 : Hid (Bow ((w4.setCell ⟨bo, k, none⟩ (.int .i64 y)).setCell ⟨bo + 1, k, none⟩ (.bool true)) (bo + 1) n (fun i => if i < k + 1 then !openU g L i else false)) := (hF5.set hlt true).ext (fun i hi => by
            by_cases c1 : i = k
            · subst c1; rw [if_pos rfl, if_pos (by omega), HOU.out]; rfl
            · rw [if_neg c1]
              by_cases c2 : i < k
              · rw [if_pos c2, if_pos (by omega)]
              · rw [if_neg c2, if_neg (by omega)])
          have HB6 := Lib.hid ((HB4.out.setCell (p := ⟨bo, k, none⟩) (Nat.le_refl bo) (.int .i64 y)).setCell (p := ⟨bo + 1, k, none⟩) (Nat.le_succ bo) (.bool true))
          have HZ6 : Hid (bo + 1 < ((w4.setCell ⟨bo, k, none⟩ (.int .i64 y)).setCell ⟨bo + 1, k, none⟩ (.bool true)).heap.size) := by have := HZ4.out; simpa [Hid] using this
          clear hF5
          go_wp2_with fail
          go_roundw
          case rel => exact ⟨k + 1, by go_num, by omega, by rw [HLL.out]; simp, HB6, HZ6, HR6, HF6⟩
          case measure => (simp [intOf] <;> omega)
    · have hkn : n = k := by omega
      subst hkn
      have hb1 : Below w2.heap.size w2 wr := by rw [← HBO.out]; exact HB.out
      have HIn := Lib.hid (HI2.out.below hb1)
      have HRn : Hid (Row wr bo n (openO g L)) := HR.out.ext (fun i hi => if_pos hi)
      have HFn : Hid (Bow wr (bo + 1) n (fun i => !openU g L i)) := HF.out.ext (fun i hi => if_pos hi)
      have CF0 := CFR.out ra rc bo (bo + 1) (openU g L) (openO g L) wr HIn.out HRn.out HFn.out (fun i hi => by have := RS.out.bd i hi; omega)
      obtain ⟨first, hfi⟩ : ∃ x, freeR L F (openU g L) (openO g L) n = x := ⟨_, rfl⟩
      rw [hfi] at RS CF0
      have CF1 := Lib.hid CF0
      clear hb1 hfi CF0 HR HF
      go_wp2_with fail
      refine CF1.out.mono ?_
      rintro e w3 ⟨rfl, rfl⟩
      clear CF1
      go_wp2_with fail
      go_loopw [10, 13] (fun vl vr wx => ∃ (r : Nat) (U : Nat → Bool) (out : Nat → Int), vr = .int .i64 (r : Int) ∧ vl = .int .i64 ((looseU U n).length : Int) ∧ Hid (Rest n g L F first fin N r U out) ∧ Hid (Below bo w2 wx) ∧ Hid (bo + 1 < wx.heap.size) ∧ Hid (Row wx bo n out) ∧ Hid (Bow wx (bo + 1) n (fun i => !U i))) (fun _ vr _ => n + 1 - (intOf vr).toNat)
      case atStart => exact ⟨0, _, _, rfl, rfl, RS, HB, HZ, HRn, HFn⟩
      case round =>
        clear HRn HFn RS HB HZ HIn
        obtain ⟨r, U, out, rfl, rfl, RS, HB, HZ, HR, HF⟩ := hrel
        obtain ⟨wo, hwo⟩ : ∃ x, x = wr := ⟨_, rfl⟩
        subst hwo
        have hle := RS.out.le
        by_cases h0 : (looseU U n).length = 0
        · obtain ⟨hN, hfin⟩ := RS.out.done h0
          have HN := Lib.hid hN
          have HFI := Lib.hid hfin
          rw [h0]
          clear hN hfin hle
          go_wp2_with fail
          go_ret2
          exact ⟨bo, by have := HB2.out.size; have := HBO.out; omega, by rw [HN.out]; rfl, HB2.out.trans (HB.out.mono (by have := HB2.out.size; have := HBO.out; omega)), HR.out.ext (fun i hi => HFI.out i hi)⟩
        · obtain ⟨ll, hll⟩ : ∃ l : Nat, (looseU U n).length = l := ⟨_, rfl⟩
          rw [hll] at hle h0 ⊢
          have HLL := Lib.hid hll
          have l0 : (0 : Int) < (ll : Int) := by omega
          have l1 : (ll : Int) ≤ 62 := by omega
          have r1 : (r : Int) ≤ (n : Int) := by omega
          have hb1 : Below w2.heap.size w2 wo := by rw [← HBO.out]; exact HB.out
          have HIx := Lib.hid (HI2.out.below hb1)
          obtain ⟨bw, hbw⟩ : ∃ bw, bw = wo.heap.size := ⟨_, rfl⟩
          have c0 := below_mk0 wo n
          have c1 := row_mk0 wo n
          rw [← hbw] at c0 c1
          have hzw : bw < (mk0 wo n).heap.size := by rw [hbw]; unfold mk0; simp
          obtain ⟨Wa, hWa⟩ : ∃ Wa, mk0 wo n = Wa := ⟨_, rfl⟩
          rw [hWa] at c0 c1 hzw
          have HBW := Lib.hid hbw
          have HWA := Lib.hid hWa
          have HC0 := Lib.hid c0
          have HC1 := Lib.hid c1
          have HZW := Lib.hid hzw
          clear hll hb1 hbw c0 c1 hzw hWa
          go_wp2_with fail
          rw [HWA.out, ← HBW.out]
          go_loopw [15] (fun vi wr => ∃ k : Nat, vi = .int .i64 k ∧ k ≤ n ∧ Hid (Below bw wo wr) ∧ Hid (bw < wr.heap.size) ∧ Hid (Row wr bw n (fun i => if i < k then (if U i = true then wgtI g (L i) else 0) else 0))) (fun vi _ => n - (intOf vi).toNat)
          case atStart => exact ⟨0, rfl, by omega, HC0, HZW, HC1.out.ext (fun i _ => by rw [if_neg (by omega)])⟩
          case round =>
            clear HC0 HZW HC1 HWA
            obtain ⟨k, rfl, hk, HD, HY, HW⟩ := hrel
            have hbx : Below wo.heap.size wo wr := by rw [← HBW.out]; exact HD.out
            have HFx := Lib.hid (HF.out.below hbx HZ.out)
            by_cases hlt : k < n
            · have hltz : (k : Int) < (n : Int) := by omega
              have hf := (HFx.out k hlt).1
              cases hu : U k
              · simp only [hu, Bool.not_false] at hf
                have HU := Lib.hid hu
                have HWn : Hid (Row wr bw n (fun i => if i < k + 1 then (if U i = true then wgtI g (L i) else 0) else 0)) := HW.out.ext (fun i hi => by
                  by_cases c1 : i = k
                  · subst c1; rw [if_neg (by omega), if_pos (by omega), HU.out, if_neg (by decide)]
                  · by_cases c2 : i < k
                    · simp only [if_pos c2, if_pos (show i < k + 1 by omega)]
                    · simp only [if_neg c2, if_neg (show ¬ i < k + 1 by omega)])
                clear hu hbx
                go_wp2_with fail
                go_roundw
                case rel => exact ⟨k + 1, by go_num, by omega, HD, HY, HWn⟩
                case measure => (simp [intOf] <;> omega)
              · simp only [hu, Bool.not_true] at hf
                have HU := Lib.hid hu
                rcases HIx.out.below hbx with h0' | ⟨b, off, ha, hbl, hI2⟩
                · omega
                · subst ha
                  obtain ⟨q0, q1, q2, q3, q4, q5, q6⟩ := hI2 k hlt
                  have C1 := CWE.out (L k) g
                  obtain ⟨t, ht⟩ : ∃ t, L k = t := ⟨_, rfl⟩
                  rw [ht] at q0 q1 q2 q3 q4 q5 q6 C1
                  obtain ⟨x, hx⟩ : ∃ x, wgtI g t = x := ⟨_, rfl⟩
                  rw [hx] at C1
                  have CC1 := Lib.hid C1
                  have HXX : Hid (wgtI g (L k) = x) := by rw [Hid, ht, hx]
                  clear hu hbx hI2 ht hx C1
                  go_wp2_with fail
                  refine (CC1.out _).mono ?_
                  rintro e w4 ⟨rfl, hb4⟩
                  have HD4 := Lib.hid (HD.out.trans (hb4.mono (by have := HY.out; omega)))
                  have HY4 : Hid (bw < w4.heap.size) := Nat.lt_of_lt_of_le HY.out hb4.size
                  have HW4 := Lib.hid (HW.out.below hb4 HY.out)
                  clear hb4 q0 q1 q2 q3 q4 q5 q6
                  obtain ⟨d1, d2⟩ := HW4.out k hlt
                  have HW5 : Hid (Row (w4.setCell ⟨bw, k, none⟩ (.int .i64 x)) bw n (fun i => if i < k + 1 then (if U i = true then wgtI g (L i) else 0) else 0)) := (HW4.out.set hlt x).ext (fun i hi => by
                    by_cases c1 : i = k
                    · subst c1; rw [if_pos rfl, if_pos (by omega), HU.out, if_pos rfl, HXX.out]
                    · rw [if_neg c1]
                      by_cases c2 : i < k
                      · simp only [if_pos c2, if_pos (show i < k + 1 by omega)]
                      · simp only [if_neg c2, if_neg (show ¬ i < k + 1 by omega)])
                  have HD5 := Lib.hid (HD4.out.setCell (p := ⟨bw, k, none⟩) (Nat.le_refl bw) (.int .i64 x))
                  have HY5 : Hid (bw < (w4.setCell ⟨bw, k, none⟩ (.int .i64 x)).heap.size) := by have := HY4.out; simpa [Hid] using this
                  go_wp2_with fail
                  go_roundw
                  case rel => exact ⟨k + 1, by go_num, by omega, HD5, HY5, HW5⟩
                  case measure => (simp [intOf] <;> omega)
            · have hkn : n = k := by omega
              subst hkn
              have HIy := Lib.hid (HIx.out.below hbx)
              have HRx := Lib.hid (HR.out.below hbx (by have := HZ.out; omega))
              have hzx : bo + 1 < wr.heap.size := Nat.lt_of_lt_of_le HZ.out hbx.size
              have hfr := HIy.out
              have CF0 := CFR.out ra rc bo (bo + 1) U out wr HIy.out HRx.out HFx.out (fun i hi => by have := RS.out.bd i hi; omega)
              have hnow : -4611686018427387904 ≤ freeR L F U out n ∧ freeR L F U out n ≤ 4611686018427387904 := HNW.out U out (fun i hi => RS.out.bd i hi)
              obtain ⟨now, hnw⟩ : ∃ x, freeR L F U out n = x := ⟨_, rfl⟩
              rw [hnw] at CF0 hnow
              have CD0 := CDE.out ra rc (bo + 1) U first now wr HIy.out HFx.out hzx hnow.1 hnow.2
              have hdl : dealR g L F first U out n = H (dealV first now (facR g L U n)) := by unfold dealR; rw [hnw, H_dealV]
              obtain ⟨tot, htot⟩ : ∃ x, dealV first now (facR g L U n) = x := ⟨_, rfl⟩
              rw [htot] at CD0 hdl
              have hws : Row wr bw n (fun i => if U i = true then wgtI g (L i) else 0) := HW.out.ext (fun i hi => if_pos hi)
              have hwl : (wideU U (fun i => wgtI g (L i)) n).length = n := wideU_len _ _ _
              have CDL := Lib.hid (fun (W : World) (h : Row W bw n (fun i => if U i = true then wgtI g (L i) else 0)) => by
                have D := refDeal_told tot (some ⟨bw, 0, none⟩) n (wideU U (fun i => wgtI g (L i)) n) W (by rw [hwl]; omega) (Lst_rowF h)
                rw [hwl, ← hdl] at D
                exact D)
              have CF1 := Lib.hid CF0
              have CD1 := Lib.hid CD0
              have HWS := Lib.hid hws
              have HBX := Lib.hid hbx
              have HZX := Lib.hid hzx
              clear hbx hzx hfr CF0 CD0 hnow hnw hdl htot hws hwl
              go_wp2_with fail
              refine CF1.out.mono ?_
              rintro e w4 ⟨rfl, rfl⟩
              go_wp2_with fail
              refine CD1.out.mono ?_
              rintro e w5 ⟨rfl, hb5⟩
              have HB5 := Lib.hid hb5
              have HW5 := Lib.hid (HWS.out.below hb5 HY.out)
              have CD2 := CDL.out w5 HW5.out
              have CD3 := Lib.hid CD2
              clear hb5 CD2 CF1 CD1 CDL
              go_wp2_with fail
              refine CD3.out.mono ?_
              rintro e w6 ⟨rfl, hb6, hr6⟩
              clear CD3
              go_wp2_with fail
              have HB6a := Lib.hid (HBX.out.trans (HB5.out.mono (by have := HBX.out.size; omega)))
              obtain ⟨sh, hsh⟩ : ∃ sh, shareS (dealR g L F first U out n) (wideU U (fun i => wgtI g (L i)) n) = sh := ⟨_, rfl⟩
              have hsb : ∀ i, -1073741825 ≤ sh i ∧ sh i ≤ 1073741825 := fun i => by
                rw [← hsh]
                unfold dealR dealtF
                split
                · split
                  · exact shareS_bd _ _ i
                  · exact shareS_bd _ _ i
                · exact shareS_bd _ _ i
              have HSB := Lib.hid hsb
              rw [hsh] at hr6
              clear hsb
              have HSH : Hid (sh = shR g L F first U out n) := hsh.symm
              have HB6 := Lib.hid (HB6a.out.trans (hb6.mono (by have := HB6a.out.size; omega)))
              obtain ⟨bs, hbs⟩ : ∃ bs, bs = w5.heap.size := ⟨_, rfl⟩
              rw [← hbs] at hr6 ⊢
              have HR6 := Lib.hid hr6
              have hb65 : wo.heap.size ≤ bs := by have := HB6a.out.size; omega
              clear hb6 hr6 hsh hbs
              obtain ⟨bb, hbb⟩ : ∃ bb, bb = w6.heap.size := ⟨_, rfl⟩
              have e0 := below_mk0 w6 n
              have e1 := row_mk0 w6 n
              rw [← hbb] at e0 e1
              have hzb : bb < (mk0 w6 n).heap.size := by rw [hbb]; unfold mk0; simp
              obtain ⟨Wb, hWb⟩ : ∃ Wb, mk0 w6 n = Wb := ⟨_, rfl⟩
              rw [hWb] at e0 e1 hzb
              have HBB := Lib.hid hbb
              have HWB := Lib.hid hWb
              have HE0 := Lib.hid e0
              have HE1 := Lib.hid e1
              have HZB := Lib.hid hzb
              clear hbb e0 e1 hzb hWb
              go_wp2_with fail
              rw [HWB.out, ← HBB.out]
              go_loopw [18, 19] (fun vs vi wr => ∃ k : Nat, vi = .int .i64 k ∧ k ≤ n ∧ vs = .int .i64 (fsum (brR L U sh) k) ∧ Hid (Below bb w6 wr) ∧ Hid (bb < wr.heap.size) ∧ Hid (Row wr bb n (fun i => if i < k then brR L U sh i else 0))) (fun _ vi _ => n - (intOf vi).toNat)
              case atStart => exact ⟨0, rfl, by omega, rfl, HE0, HZB, HE1.out.ext (fun i _ => by rw [if_neg (by omega)])⟩
              case round =>
                clear HE0 HE1 HZB HWB
                obtain ⟨k, rfl, hk, rfl, HD, HY, HW⟩ := hrel
                have hb6x : Below w6.heap.size w6 wr := by rw [← HBB.out]; exact HD.out
                have hox : Below wo.heap.size wo wr := HB6.out.trans (hb6x.mono HB6.out.size)
                have HFx := Lib.hid (HF.out.below hox HZ.out)
                have hs := HBR.out U sh k hk
                by_cases hlt : k < n
                · have hltz : (k : Int) < (n : Int) := by omega
                  have hf := (HFx.out k hlt).1
                  have hnx : fsum (brR L U sh) (k + 1) = fsum (brR L U sh) k + brR L U sh k := rfl
                  cases hu : U k
                  · simp only [hu, Bool.not_false] at hf
                    have hbz : brR L U sh k = 0 := by unfold brR; rw [hu, if_neg (by decide)]
                    have HWn : Hid (Row wr bb n (fun i => if i < k + 1 then brR L U sh i else 0)) := HW.out.ext (fun i hi => by
                      by_cases c1 : i = k
                      · subst c1; rw [if_neg (by omega), if_pos (by omega), hbz]
                      · by_cases c2 : i < k
                        · simp only [if_pos c2, if_pos (show i < k + 1 by omega)]
                        · simp only [if_neg c2, if_neg (show ¬ i < k + 1 by omega)])
                    have HNX : Hid (fsum (brR L U sh) (k + 1) = fsum (brR L U sh) k) := by rw [Hid, hnx, hbz]; omega
                    clear hu hb6x hox hbz hnx
                    go_wp2_with fail
                    go_roundw
                    case rel => exact ⟨k + 1, by go_num, by omega, by rw [HNX.out], HD, HY, HWn⟩
                    case measure => (simp [intOf] <;> omega)
                  · simp only [hu, Bool.not_true] at hf
                    have hbz : brR L U sh k = clI (L k) (H ((L k).b + sh k)) - H ((L k).b + sh k) := by unfold brR lenR; rw [hu, if_pos rfl]
                    rcases HIx.out.below hox with h0' | ⟨b, off, ha, hbl, hI2⟩
                    · omega
                    · subst ha
                      obtain ⟨q0, q1, q2, q3, q4, q5, q6⟩ := hI2 k hlt
                      have hsk := HSB.out k
                      have hlk := HL.out k
                      have hb0 := hlk.b0
                      have hb1 := hlk.b1
                      have hcl := hlk.cl (H_bd ((L k).b + sh k)).1 (H_bd ((L k).b + sh k)).2
                      have hHb := H_bd ((L k).b + sh k)
                      have hsc := ((HR6.out.below hb6x (Row_lt HR6.out (by omega))) k hlt).1
                      obtain ⟨t, ht⟩ : ∃ t, L k = t := ⟨_, rfl⟩
                      rw [ht] at q0 q1 q2 q3 q4 q5 q6 hbz hb0 hb1 hcl hHb
                      obtain ⟨y, hy⟩ : ∃ y, sh k = y := ⟨_, rfl⟩
                      rw [hy] at hbz hsk hcl hHb hsc
                      obtain ⟨z, hz0⟩ : ∃ z, H (t.b + y) = z := ⟨_, rfl⟩
                      rw [hz0] at hbz hcl hHb
                      have C1 := fun W => CCL.out t z W
                      obtain ⟨x, hx⟩ : ∃ x, clI t z = x := ⟨_, rfl⟩
                      rw [hx] at hbz hcl C1
                      have CC1 := Lib.hid C1
                      have HBZ := Lib.hid hbz
                      have HNX : Hid (fsum (brR L U sh) (k + 1) = fsum (brR L U sh) k + (x - z)) := by rw [Hid, hnx, hbz]
                      obtain ⟨sk, hsk2⟩ : ∃ s, fsum (brR L U sh) k = s := ⟨_, rfl⟩
                      rw [hsk2] at hs HNX ⊢
                      have y0 := hsk.1; have y1 := hsk.2; have x0 := hcl.1; have x1 := hcl.2; have z0 := hHb.1; have z1 := hHb.2; have s0 := hs.1; have s1 := hs.2
                      have HZE : Hid (H (t.b + y) = z) := hz0
                      have hwr0 : IntKind.i64.wrap (t.b + y) = t.b + y := IntWalk.i64_in _ (by omega)
                      have HWR := Lib.hid hwr0
                      clear hwr0 hu hb6x hox hI2 ht hx C1 hz0 hy hsk2 hsk hcl hHb hs hbz hnx hlk
                      go_upto_region 30 with fail
                      go_region_with (first
                        | (go_at_call 21; rw [HWR.out]; refine (CHO.out _ _).mono ?_; rw [HZE.out]; rintro e w9 ⟨rfl, rfl⟩))
                      all_goals
                        go_wp2_with fail
                        refine (CC1.out _).mono ?_
                        rintro e w9 ⟨rfl, hb9⟩
                        have HD9 := Lib.hid ((HD.out.drew).trans (hb9.mono (Nat.le_of_lt HY.out)))
                        have HY9 : Hid (bb < w9.heap.size) := Nat.lt_of_lt_of_le HY.out hb9.size
                        have HW9 : Hid (Row w9 bb n (fun i => if i < k then brR L U sh i else 0)) := Row.below (w := wr.drew) HW.out hb9 HY.out
                        obtain ⟨c9, d9⟩ := HW9.out k hlt
                        have hset := HW9.out.set hlt (x - z)
                        have c10 := (hset k hlt).1
                        simp only [↓reduceIte] at c10
                        have HW10 : Hid (Row (w9.setCell ⟨bb, k, none⟩ (.int .i64 (x - z))) bb n (fun i => if i < k + 1 then brR L U sh i else 0)) := hset.ext (fun i hi => by
                          by_cases c1 : i = k
                          · subst c1; rw [if_pos rfl, if_pos (by omega), HBZ.out]
                          · rw [if_neg c1]
                            by_cases c2 : i < k
                            · simp only [if_pos c2, if_pos (show i < k + 1 by omega)]
                            · simp only [if_neg c2, if_neg (show ¬ i < k + 1 by omega)])
                        have HD10 := Lib.hid (HD9.out.setCell (p := ⟨bb, k, none⟩) (Nat.le_refl bb) (.int .i64 (x - z)))
                        have HY10 : Hid (bb < (w9.setCell ⟨bb, k, none⟩ (.int .i64 (x - z))).heap.size) := by have := HY9.out; simpa [Hid] using this
                        clear hb9 hset
                        go_wp2_with fail
                        go_roundw
                        case rel => exact ⟨k + 1, by go_num, by omega, by rw [HNX.out], HD10, HY10, HW10⟩
                        case measure => (simp [intOf] <;> omega)
                · have hkn : n = k := by omega
                  subst hkn
                  obtain ⟨w8, hw8⟩ : ∃ x, x = wr := ⟨_, rfl⟩
                  subst hw8
                  have HRB : Hid (Row w8 bb n (brR L U sh)) := HW.out.ext (fun i hi => if_pos hi)
                  have HRS := Lib.hid (HR6.out.below hb6x (b := bs) (by have := HBB.out; have := HB6.out.size; first | omega | exact Row_lt HR6.out (by omega)))
                  have HRO := Lib.hid (HR.out.below hox (by have := HZ.out; omega))
                  have hzx : bo + 1 < w8.heap.size := Nat.lt_of_lt_of_le HZ.out hox.size
                  have HZ8 := Lib.hid hzx
                  have HB8 := Lib.hid (HB.out.trans (hox.mono (by have := HZ.out; omega)))
                  have HFO := Lib.hid HFx.out
                  have HRN := RS.out.next HL.out (by have := HLL.out; omega)
                  rw [← HSH.out] at HRN
                  have HRN1 := Lib.hid HRN
                  have hbobs : bo + 1 < bs := by have := HZ.out; omega
                  have hbsb : bs < bb := by rw [HBB.out]; exact Row_lt HR6.out (by omega)
                  obtain ⟨S, hS⟩ : ∃ S, fsum (brR L U sh) n = S := ⟨_, rfl⟩
                  have hs0 := HBR.out U sh n (Nat.le_refl n)
                  rw [hS] at hs0 ⊢
                  have s0 := hs0.1
                  have s1 := hs0.2
                  have HS := Lib.hid hS
                  have hlu := loose_len_le U n
                  clear hb6x hox hs hzx HRN hS hs0 HD HY HW HFx
                  go_wp2_with fail
                  go_loopw [10, 21] (fun vl vi wx => ∃ (k : Nat) (l : Int), vi = .int .i64 k ∧ k ≤ n ∧ vl = .int .i64 l ∧ Hid (l + ((looseU U k).length : Int) = (ll : Int) + ((looseU (nextU L U sh n) k).length : Int)) ∧ Hid (Below bo w2 wx) ∧ Hid (Below bo w8 wx) ∧ Hid (Row wx bo n (fun i => if i < k then nextO L U sh out n i else out i)) ∧ Hid (Bow wx (bo + 1) n (fun i => if i < k then !nextU L U sh n i else !U i)) ∧ Hid (Row wx bs n sh) ∧ Hid (Row wx bb n (brR L U sh))) (fun _ vi _ => n - (intOf vi).toNat)
                  case atStart => exact ⟨0, _, rfl, by omega, rfl, by simp [Hid, looseU], HB8, Below.refl _ _, HRO.out.ext (fun i _ => by rw [if_neg (by omega)]), HFO.out.ext (fun i _ => by rw [if_neg (by omega)]), HRS, HRB⟩
                  case round =>
                    clear HB8 HRO HFO HRS HRB
                    obtain ⟨k, l, rfl, hk, rfl, HLK, HB8, HB9, HRO, HFO, HRS, HRB⟩ := hrel
                    by_cases hlt : k < n
                    · have hltz : (k : Int) < (n : Int) := by omega
                      have l2 : l ≤ 200 := by have := HLK.out; have := loose_len_le (nextU L U sh n) k; omega
                      have l3 : -200 ≤ l := by have := HLK.out; have := loose_len_le U k; omega
                      have hf := (HFO.out k hlt).1
                      simp only [if_neg (Nat.lt_irrefl k)] at hf
                      have hsu := loose_len_succ U k
                      have hsn := loose_len_succ (nextU L U sh n) k
                      have hnu : nextU L U sh n k = (U k && !endR L U sh n k) := rfl
                      have hno : nextO L U sh out n k = if (U k && endR L U sh n k) = true then lenR L sh k else out k := rfl
                      cases hu : U k
                      · simp only [hu, Bool.not_false] at hf
                        rw [hu, Bool.false_and] at hnu hno
                        rw [hu, if_neg (by decide)] at hsu
                        rw [hnu, if_neg (by decide)] at hsn
                        rw [if_neg (by decide)] at hno
                        have HLK' : Hid (l + ((looseU U (k + 1)).length : Int) = (ll : Int) + ((looseU (nextU L U sh n) (k + 1)).length : Int)) := by have := HLK.out; show _ = _; omega
                        have HRO' : Hid (Row _ bo n (fun i => if i < k + 1 then nextO L U sh out n i else out i)) := HRO.out.ext (fun i hi => by
                          by_cases c1 : i = k
                          · subst c1; rw [if_neg (by omega), if_pos (by omega), hno]
                          · by_cases c2 : i < k
                            · simp only [if_pos c2, if_pos (show i < k + 1 by omega)]
                            · simp only [if_neg c2, if_neg (show ¬ i < k + 1 by omega)])
                        have HFO' : Hid (Bow _ (bo + 1) n (fun i => if i < k + 1 then !nextU L U sh n i else !U i)) := HFO.out.ext (fun i hi => by
                          by_cases c1 : i = k
                          · subst c1; rw [if_neg (by omega), if_pos (by omega), hnu, hu]
                          · by_cases c2 : i < k
                            · simp only [if_pos c2, if_pos (show i < k + 1 by omega)]
                            · simp only [if_neg c2, if_neg (show ¬ i < k + 1 by omega)])
                        clear hu hsu hsn hnu hno
                        go_wp2_with fail
                        go_roundw
                        case rel => exact ⟨k + 1, l, by go_num, by omega, rfl, HLK', HB8, HB9, HRO', HFO', HRS, HRB⟩
                        case measure => (simp [intOf] <;> omega)
                      · simp only [hu, Bool.not_true] at hf
                        rw [hu, Bool.true_and] at hnu hno
                        rw [hu, if_pos rfl] at hsu
                        have hbk := (HRB.out k hlt).1
                        have hen : endR L U sh n k = endsF S (brR L U sh k) := by unfold endR; rw [HS.out]
                        obtain ⟨bk, hbke⟩ : ∃ x, brR L U sh k = x := ⟨_, rfl⟩
                        have hbkd := brR_bd (n := n) HL.out U sh k
                        rw [hbke] at hbk hen hbkd
                        have bk0 := hbkd.1
                        have bk1 := hbkd.2
                        have HEN := Lib.hid hen
                        have HSU := Lib.hid hsu
                        have HSN := Lib.hid hsn
                        have HNU := Lib.hid hnu
                        have HNO := Lib.hid hno
                        have HU := Lib.hid hu
                        have hcase : (endsF S bk = true ∧ (S = 0 ∨ (0 < S ∧ 0 < bk) ∨ (S < 0 ∧ bk < 0))) ∨ (endsF S bk = false ∧ ((0 < S ∧ bk ≤ 0) ∨ (S < 0 ∧ 0 ≤ bk))) := by
                          unfold endsF
                          rcases Int.lt_trichotomy S 0 with h | h | h
                          · by_cases h2 : bk < 0
                            · exact .inl ⟨by simp [h, h2], by omega⟩
                            · exact .inr ⟨by simp [h, h2]; omega, by omega⟩
                          · exact .inl ⟨by simp [h], by omega⟩
                          · by_cases h2 : 0 < bk
                            · exact .inl ⟨by simp [h, h2], by omega⟩
                            · exact .inr ⟨by simp [h, h2]; omega, by omega⟩
                        clear hu hsu hsn hnu hno hbke hbkd hen
                        rcases hcase with ⟨he, hc⟩ | ⟨he, hc⟩
                        · have HE : Hid (endR L U sh n k = true) := HEN.out.trans he
                          have hnu := HNU.out
                          have hno := HNO.out
                          rw [HE.out] at hnu hno
                          simp only [Bool.not_true] at hnu
                          rw [if_pos rfl] at hno
                          have hsn := HSN.out
                          rw [hnu, if_neg (by decide)] at hsn
                          have HLK' : Hid (l - 1 + ((looseU U (k + 1)).length : Int) = (ll : Int) + ((looseU (nextU L U sh n) (k + 1)).length : Int)) := by have := HLK.out; have := HSU.out; show _ = _; omega
                          have hb1 : Below w2.heap.size w2 wr := by rw [← HBO.out]; exact HB8.out
                          rcases HI2.out.below hb1 with h0' | ⟨b, off, ha, hbl, hI2⟩
                          · omega
                          · subst ha
                            obtain ⟨q0, q1, q2, q3, q4, q5, q6⟩ := hI2 k hlt
                            have hsk := HSB.out k
                            have hlk := HL.out k
                            have hb0 := hlk.b0
                            have hb2 := hlk.b1
                            have hsc := (HRS.out k hlt).1
                            have hln : lenR L sh k = clI (L k) (H ((L k).b + sh k)) := rfl
                            obtain ⟨t, ht⟩ : ∃ t, L k = t := ⟨_, rfl⟩
                            rw [ht] at q0 q1 q2 q3 q4 q5 q6 hb0 hb2 hln
                            obtain ⟨y, hy⟩ : ∃ y, sh k = y := ⟨_, rfl⟩
                            rw [hy] at hsk hsc hln
                            obtain ⟨z, hz0⟩ : ∃ z, H (t.b + y) = z := ⟨_, rfl⟩
                            rw [hz0] at hln
                            have C1 := fun W => CCL.out t z W
                            obtain ⟨x, hx⟩ : ∃ x, clI t z = x := ⟨_, rfl⟩
                            rw [hx] at hln C1
                            have CC1 := Lib.hid C1
                            have HZE : Hid (H (t.b + y) = z) := hz0
                            have hwr0 : IntKind.i64.wrap (t.b + y) = t.b + y := IntWalk.i64_in _ (by omega)
                            have HWR := Lib.hid hwr0
                            have HNOX : Hid (nextO L U sh out n k = x) := by rw [Hid, hno, hln]
                            have HNUX := Lib.hid hnu
                            have HZR : Hid (bo + 1 < wr.heap.size) := Nat.lt_of_lt_of_le HZ8.out HB9.out.size
                            have HSR : Hid (bs < wr.heap.size) := Row_lt HRS.out (by omega)
                            have HBR2 : Hid (bb < wr.heap.size) := Row_lt HRB.out (by omega)
                            have GO : ∀ w9 : World, Below wr.heap.size wr.drew w9 →
                                Hid (Below bo w2 (w9.setCell ⟨bo, k, none⟩ (.int .i64 x))) ∧ Hid (Below bo w8 (w9.setCell ⟨bo, k, none⟩ (.int .i64 x))) ∧
                                (w9.cell? ⟨bo, k, none⟩ = some (.int .i64 (if k < k then nextO L U sh out n k else out k)) ∧ w9.frozen? ⟨bo, k, none⟩ = false) ∧
                                ((w9.setCell ⟨bo, k, none⟩ (.int .i64 x)).cell? ⟨bo + 1, k, none⟩ = some (.bool (if k < k then !nextU L U sh n k else !U k)) ∧ (w9.setCell ⟨bo, k, none⟩ (.int .i64 x)).frozen? ⟨bo + 1, k, none⟩ = false) ∧
                                Hid (Below bo w2 ((w9.setCell ⟨bo, k, none⟩ (.int .i64 x)).setCell ⟨bo + 1, k, none⟩ (.bool true))) ∧ Hid (Below bo w8 ((w9.setCell ⟨bo, k, none⟩ (.int .i64 x)).setCell ⟨bo + 1, k, none⟩ (.bool true))) ∧
                                Hid (Row ((w9.setCell ⟨bo, k, none⟩ (.int .i64 x)).setCell ⟨bo + 1, k, none⟩ (.bool true)) bo n (fun i => if i < k + 1 then nextO L U sh out n i else out i)) ∧
                                Hid (Bow ((w9.setCell ⟨bo, k, none⟩ (.int .i64 x)).setCell ⟨bo + 1, k, none⟩ (.bool true)) (bo + 1) n (fun i => if i < k + 1 then !nextU L U sh n i else !U i)) ∧
                                Hid (Row ((w9.setCell ⟨bo, k, none⟩ (.int .i64 x)).setCell ⟨bo + 1, k, none⟩ (.bool true)) bs n sh) ∧ Hid (Row ((w9.setCell ⟨bo, k, none⟩ (.int .i64 x)).setCell ⟨bo + 1, k, none⟩ (.bool true)) bb n (brR L U sh)) := by
                              intro w9 hb9
                              have hzr := HZR.out
                              have B1 : Below bo w2 w9 := HB8.out.drew.trans (hb9.mono (by omega))
                              have B2 : Below bo w8 w9 := HB9.out.drew.trans (hb9.mono (by omega))
                              have R1 : Row w9 bo n (fun i => if i < k then nextO L U sh out n i else out i) := Row.below (w := wr.drew) HRO.out hb9 (by omega)
                              have R2 : Bow w9 (bo + 1) n (fun i => if i < k then !nextU L U sh n i else !U i) := Bow.below (w := wr.drew) HFO.out hb9 (by omega)
                              have R3 : Row w9 bs n sh := Row.below (w := wr.drew) HRS.out hb9 HSR.out
                              have R4 : Row w9 bb n (brR L U sh) := Row.below (w := wr.drew) HRB.out hb9 HBR2.out
                              have R5 := R2.other (k := k) (b' := bo) (by omega) (Value.int .i64 x)
                              refine ⟨B1.setCell (p := ⟨bo, k, none⟩) (Nat.le_refl bo) _, B2.setCell (p := ⟨bo, k, none⟩) (Nat.le_refl bo) _, R1 k hlt, R5 k hlt, (B1.setCell (p := ⟨bo, k, none⟩) (Nat.le_refl bo) _).setCell (p := ⟨bo + 1, k, none⟩) (Nat.le_succ bo) _, (B2.setCell (p := ⟨bo, k, none⟩) (Nat.le_refl bo) _).setCell (p := ⟨bo + 1, k, none⟩) (Nat.le_succ bo) _, ((R1.set hlt x).other (by omega) _).ext (fun i hi => ?_), (R5.set hlt true).ext (fun i hi => ?_), (R3.other (by omega) _).other (by omega) _, (R4.other (by omega) _).other (by omega) _⟩
                              · by_cases c1 : i = k
                                · subst c1; rw [if_pos rfl, if_pos (by omega), HNOX.out]
                                · rw [if_neg c1]
                                  by_cases c2 : i < k
                                  · simp only [if_pos c2, if_pos (show i < k + 1 by omega)]
                                  · simp only [if_neg c2, if_neg (show ¬ i < k + 1 by omega)]
                              · by_cases c1 : i = k
                                · subst c1; rw [if_pos rfl, if_pos (by omega), HNUX.out]; rfl
                                · rw [if_neg c1]
                                  by_cases c2 : i < k
                                  · simp only [if_pos c2, if_pos (show i < k + 1 by omega)]
                                  · simp only [if_neg c2, if_neg (show ¬ i < k + 1 by omega)]
                            have HGO := Lib.hid GO
                            have hne1 : bo ≠ b := by
                              rcases HI2.out with h0' | ⟨b', off', ha', hbl', _⟩
                              · omega
                              · injection ha' with ha''
                                injection ha'' with e1 e2 e3
                                have := HBO.out
                                omega
                            have hne2 : bo ≠ bs := by omega
                            clear hb1 hI2 hlk hln ht hy hz0 hx hwr0 hno hnu hsn GO C1 he
                            have hcs : ((S = 0 ↔ True) ∧ ¬ 0 < S ∧ ¬ S < 0 ∧ (S == 0) = true) ∨ (¬ S = 0 ∧ 0 < S ∧ ¬ S < 0 ∧ 0 < bk ∧ (S == 0) = false) ∨ (¬ S = 0 ∧ ¬ 0 < S ∧ S < 0 ∧ bk < 0 ∧ (S == 0) = false) := by
                              rcases hc with h | h | h
                              · exact .inl ⟨iff_of_true h trivial, by omega, by omega, by simp [h]⟩
                              · exact .inr (.inl ⟨by omega, by omega, by omega, by omega, by simp; omega⟩)
                              · exact .inr (.inr ⟨by omega, by omega, by omega, by omega, by simp; omega⟩)
                            clear hc CST CWI CWE CFR CDE HNW HBR hmk1 CCL
                            rcases hcs with ⟨e1, e2, e3, e4⟩ | ⟨e1, e2, e3, e5, e4⟩ | ⟨e1, e2, e3, e5, e4⟩
                            all_goals
                              go_upto_region 37 with fail
                              go_region_held3 (fun w' => w'.cell? ⟨b, off + k * 7, none⟩ = some (.int .i64 t.b) ∧ w'.cell? ⟨b, off + k * 7 + 1, none⟩ = some (.int .i64 t.l) ∧ w'.cell? ⟨b, off + k * 7 + 2, none⟩ = some (.int .i64 t.m) ∧ w'.cell? ⟨b, off + k * 7 + 3, none⟩ = some (.int .i64 t.g) ∧ w'.cell? ⟨b, off + k * 7 + 4, none⟩ = some (.int .i64 t.i) ∧ w'.cell? ⟨b, off + k * 7 + 5, none⟩ = some (.int .i64 t.gr) ∧ w'.cell? ⟨b, off + k * 7 + 6, none⟩ = some (.int .i64 t.sh) ∧ w'.cell? ⟨bs, k, none⟩ = some (.int .i64 y))
                                ((refine ⟨?_, ?_, ?_, ?_, ?_, ?_, ?_, ?_⟩ <;> first
                                  | assumption
                                  | exact cell_drewF (by assumption)
                                  | exact cell_farF (by assumption) (by assumption)))
                                ((first
                                  | (go_at_call 21; rw [HWR.out]; refine (CHO.out _ _).mono ?_; rw [HZE.out]; rintro e w9 ⟨rfl, rfl⟩)
                                  | (go_at_call 18; refine (CC1.out _).mono ?_; rintro e w9 ⟨rfl, hb9⟩; obtain ⟨HX1, HX2, ⟨c9, d9⟩, ⟨e9, f9⟩, HX5, HX6, HX7, HX8, HX9, HX10⟩ := HGO.out w9 hb9; have p0 := cell_keepF hb9 (cell_drewF q0); have p1 := cell_keepF hb9 (cell_drewF q1); have p2 := cell_keepF hb9 (cell_drewF q2); have p3 := cell_keepF hb9 (cell_drewF q3); have p4 := cell_keepF hb9 (cell_drewF q4); have p5 := cell_keepF hb9 (cell_drewF q5); have p6 := cell_keepF hb9 (cell_drewF q6); have ps := cell_keepF hb9 (cell_drewF hsc); clear hb9)))
                              all_goals
                                go_wp2_with fail
                                go_roundw
                                case rel => exact ⟨k + 1, l - 1, by go_num, by omega, rfl, HLK', HX5, HX6, HX7, HX8, HX9, HX10⟩
                                case measure => (simp [intOf] <;> omega)
                        · have HE : Hid (endR L U sh n k = false) := HEN.out.trans he
                          have hnu := HNU.out
                          have hno := HNO.out
                          rw [HE.out] at hnu hno
                          simp only [Bool.not_false] at hnu
                          rw [if_neg (by decide)] at hno
                          have hsn := HSN.out
                          rw [hnu, if_pos rfl] at hsn
                          have HLK' : Hid (l + ((looseU U (k + 1)).length : Int) = (ll : Int) + ((looseU (nextU L U sh n) (k + 1)).length : Int)) := by have := HLK.out; have := HSU.out; show _ = _; omega
                          have HRO' : Hid (Row _ bo n (fun i => if i < k + 1 then nextO L U sh out n i else out i)) := HRO.out.ext (fun i hi => by
                            by_cases c1 : i = k
                            · subst c1; rw [if_neg (by omega), if_pos (by omega), hno]
                            · by_cases c2 : i < k
                              · simp only [if_pos c2, if_pos (show i < k + 1 by omega)]
                              · simp only [if_neg c2, if_neg (show ¬ i < k + 1 by omega)])
                          have HFO' : Hid (Bow _ (bo + 1) n (fun i => if i < k + 1 then !nextU L U sh n i else !U i)) := HFO.out.ext (fun i hi => by
                            by_cases c1 : i = k
                            · subst c1; rw [if_neg (by omega), if_pos (by omega), hnu, HU.out]
                            · by_cases c2 : i < k
                              · simp only [if_pos c2, if_pos (show i < k + 1 by omega)]
                              · simp only [if_neg c2, if_neg (show ¬ i < k + 1 by omega)])
                          clear hsn hnu hno he
                          have hcs : (¬ S = 0 ∧ 0 < S ∧ ¬ S < 0 ∧ ¬ 0 < bk ∧ (S == 0) = false) ∨ (¬ S = 0 ∧ ¬ 0 < S ∧ S < 0 ∧ ¬ bk < 0 ∧ (S == 0) = false) := by
                            rcases hc with h | h
                            · exact .inl ⟨by omega, by omega, by omega, by omega, by simp; omega⟩
                            · exact .inr ⟨by omega, by omega, by omega, by omega, by simp; omega⟩
                          clear hc
                          rcases hcs with ⟨e1, e2, e3, e5, e4⟩ | ⟨e1, e2, e3, e5, e4⟩
                          all_goals
                            go_wp2_with fail
                            go_roundw
                            case rel => exact ⟨k + 1, l, by go_num, by omega, rfl, HLK', HB8, HB9, HRO', HFO', HRS, HRB⟩
                            case measure => (simp [intOf] <;> omega)
                    · have hkn : n = k := by omega
                      subst hkn
                      have HRO' : Hid (Row _ bo n (nextO L U sh out n)) := HRO.out.ext (fun i hi => if_pos hi)
                      have HFO' : Hid (Bow _ (bo + 1) n (fun i => !nextU L U sh n i)) := HFO.out.ext (fun i hi => if_pos hi)
                      have hll2 : l = ((looseU (nextU L U sh n) n).length : Int) := by have := HLK.out; have := HLL.out; omega
                      have HZ9 := Lib.hid (Nat.lt_of_lt_of_le HZ8.out HB9.out.size)
                      go_wp2_with fail
                      go_roundw
                      case rel => exact ⟨r + 1, _, _, by go_num, by rw [hll2], HRN1, HB8, HZ9, HRO', HFO'⟩
                      case measure => (simp [intOf] <;> omega)
end Go.Proofs.Ytaegajlffiepoaa
