/- Layer 21: the other text's lists: all held; does a line grow? -/
import Derived.Test.YtaegajlffiepoaaFlxR1
import Derived.Test.YtaegajlffiepoaaFlxQb
namespace Go.Proofs.Ytaegajlffiepoaa
open Go.RowKit FixM ShaD ShaM Go.Sort
set_option linter.unusedVariables false

set_option maxRecDepth 100000 in
set_option maxHeartbeats 4000000 in
theorem All21_any (a : Option Addr) (n cap : Nat) (L0 : Nat → It) (w : World) (hn : n ≤ 62) (hA : ItA w a n L0) :
    Calls Try.prog 20 #[.slice a n cap] w (OfIs w n (fun i => hI (L0 i))) := by
  obtain ⟨L, hL⟩ : ∃ L : Nat → It, (fun i => hI (L0 i)) = L := ⟨_, rfl⟩
  have hL2 : ∀ i, hI (L0 i) = L i := fun i => by rw [← hL]
  rw [hL]
  have HLL := Lib.hid hL2
  have HA := Lib.hid hA
  have HO0 : Hid (w.ownsRow w.heap.size 36 7 (.slice none 0 0) 0 (itcs L 0)) := ⟨rfl, Or.inl ⟨rfl, rfl⟩⟩
  unfold OfIs
  clear hA hL hL2
  go_enter Try.func20, Try.ntmps20
  go_wp2_with fail
  go_loopw [3, 4] (fun vo vi wr => ∃ (k : Nat) (y : Value), vo = y ∧ vi = .int .i64 k ∧ k ≤ n ∧ Hid (Below w.heap.size w wr) ∧ Hid (wr.ownsRow w.heap.size 36 7 y k (itcs L k)) ∧ Hid (k = 0 → y = .slice none 0 0)) (fun _ vi _ => n - (intOf vi).toNat)
  case atStart => exact ⟨0, _, rfl, rfl, by omega, Below.refl _ _, HO0, fun _ => rfl⟩
  case round =>
    obtain ⟨k, vo, hvo, rfl, hk, HB, HO, HN⟩ := hrel
    have hvo2 := hvo.symm
    subst hvo2
    by_cases hlt : k < n
    · have hltz : (k : Int) < (n : Int) := by omega
      rcases HA.out.below HB.out with h0 | ⟨b, off, ha, hbl, hI2⟩
      · omega
      · subst ha
        have S7 := hI2 k hlt
        have HC := fun W => refHeld21_any (L0 k) W
        have hlk := HLL.out k
        obtain ⟨t, ht⟩ : ∃ t, L0 k = t := ⟨_, rfl⟩
        rw [ht] at S7 HC hlk
        obtain ⟨q0, q1, q2, q3, q4, q5, q6⟩ := S7
        have HCC := Lib.hid HC
        have HLK := Lib.hid hlk
        clear HC hI2 ht hlk
        go_wp2_with fail
        refine (HCC.out _).mono ?_
        rintro e w2 ⟨rfl, hb2⟩
        have hB2 := HB.out.trans (hb2.mono HB.out.size)
        have hO2 := rowA_below HO.out hb2
        obtain ⟨g5, c5, w5, hr5, ho5, hg5⟩ := putItR w.heap.size vo L k w2 hB2.size (by omega) hO2
        rw [← HLK.out] at hr5 hg5
        have hr6 : (Builtin.append_ #[29, 29] 29 #[vo, .slice (some ⟨w2.heap.size, 0, none⟩) 1 1]).run Try.prog (w2.alloc (.cells #[.int .i64 (H t.b), .int .i64 (WT t.l), .int .i64 (H t.m), .int .i64 (H t.g), .int .i64 (WT t.i), .int .i64 (WT t.gr), .int .i64 (WT t.sh)] 36)) = .ok (.slice (some ⟨g5, 0, none⟩) (k + 1) c5) w5 := hr5
        have hb5 : Below w.heap.size w w5 := (hB2.alloc hB2.size _).grown hg5 (by have := hB2.size; simp; omega) (fun q hq => (World.ownsRow.lt hO2 q hq).1)
        have HR6 := Lib.hid hr6
        have HB5 := Lib.hid hb5
        have HO5 := Lib.hid ho5
        have HN5 : Hid (k + 1 = 0 → Value.slice (some ⟨g5, 0, none⟩) (k + 1) c5 = .slice none 0 0) := fun h => by omega
        clear hb2 hB2 hO2 hr5 hr6 hg5 hb5 ho5 HO HN HB q0 q1 q2 q3 q4 q5 q6
        go_wp2_with (at_builtin; refine wpList_append_runF rfl _ _ 29 rfl _ _ _ _ rfl rfl HR6.out ?_)
        go_roundw
        case rel => exact ⟨k + 1, _, rfl, by go_num, by omega, HB5, HO5, HN5⟩
        case measure => simp [intOf]; omega
    · have hkn : n = k := by omega
      subst hkn
      have hform : ∃ ra rc, vo = .slice ra n rc ∧ (0 < n → ∃ g, ra = some ⟨g, 0, none⟩ ∧ w.heap.size ≤ g ∧ g < wr.heap.size ∧ ItR wr g 0 n L) := by
        by_cases h0 : n = 0
        · exact ⟨none, 0, by rw [HN.out h0, h0], fun h => by omega⟩
        · obtain ⟨g, c, hv, _, _⟩ := HO.out.form (by omega)
          have ho := HO.out
          rw [hv] at ho
          have hg := World.ownsRow.lt ho g rfl
          refine ⟨_, c, hv, fun _ => ⟨g, rfl, hg.1, hg.2, fun i hi => ?_⟩⟩
          have key : ∀ j, j < 7 → wr.cell? ⟨g, i * 7 + j, none⟩ = (itc (L i))[j]? := fun j hj => by
            rw [ho.cellAt _ (by omega), itcs_get L j hj i n hi]
          rw [Nat.zero_add]
          exact ⟨key 0 (by omega), key 1 (by omega), key 2 (by omega), key 3 (by omega), key 4 (by omega), key 5 (by omega), key 6 (by omega)⟩
      obtain ⟨ra, rc, rfl, hit⟩ := hform
      have HIT := Lib.hid hit
      clear hit HO HN
      go_wp2_with fail
      go_ret
      exact ⟨ra, rc, rfl, HB.out, HIT.out⟩

theorem OfIs.ita {w w' : World} {n : Nat} {L : Nat → It} {ra : Option Addr} (h : 0 < n → ∃ g, ra = some ⟨g, 0, none⟩ ∧ w.heap.size ≤ g ∧ g < w'.heap.size ∧ ItR w' g 0 n L) : ItA w' ra n L := by
  by_cases h0 : n = 0
  · exact Or.inl h0
  · obtain ⟨g, hr, _, hl, hi⟩ := h (by omega)
    exact Or.inr ⟨g, 0, hr, hl, hi⟩

set_option maxRecDepth 100000 in
set_option maxHeartbeats 4000000 in
theorem Grows21_any (a : Option Addr) (n cap : Nat) (L : Nat → It) (room : Int) (w : World) (hn : n ≤ 62) (hA : ItA w a n L) (hH : ∀ i, HeldI (L i)) :
    Calls Try.prog 19 #[.slice a n cap, .int .i64 room] w fun e w' => e = .returned (.bool (growsF L (H room) n)) ∧ Below w.heap.size w w' := by
  have hgr : growsF L (H room) n = decide (fsum (fun i => (L i).g + wsh (L i)) n < H room) := by
    unfold growsF beside0
    exact decide_eq_decide.2 (by omega)
  rw [hgr]
  have hsb : ∀ k, k ≤ n → -137438953472 ≤ fsum (fun i => (L i).g + wsh (L i)) k ∧ fsum (fun i => (L i).g + wsh (L i)) k ≤ 137438953472 := fun k hk => by
    have := fsum_b2 (f := fun i => (L i).g + wsh (L i)) k (fun i _ => by have h := hH i; have := h.g0; have := h.g1; have := h.wsh; omega)
    omega
  have HSB := Lib.hid hsb
  have HHH := Lib.hid hH
  have HA := Lib.hid hA
  have RH := Lib.hid (refHold_any room)
  obtain ⟨F, hF⟩ : ∃ F, H room = F := ⟨_, rfl⟩
  rw [hF] at RH ⊢
  clear hgr hsb hH hA hF
  go_enter Try.func19, Try.ntmps19
  go_wp2_with fail
  go_loopw [5, 6] (fun vs vi wr => ∃ k : Nat, vi = .int .i64 k ∧ k ≤ n ∧ vs = .int .i64 (fsum (fun i => (L i).g + wsh (L i)) k) ∧ Hid (Below w.heap.size w wr)) (fun _ vi _ => n - (intOf vi).toNat)
  case atStart => exact ⟨0, rfl, by omega, rfl, Below.refl _ _⟩
  case round =>
    obtain ⟨k, rfl, hk, rfl, HB⟩ := hrel
    have hs := HSB.out k hk
    have hnx : fsum (fun i => (L i).g + wsh (L i)) (k + 1) = fsum (fun i => (L i).g + wsh (L i)) k + ((L k).g + wsh (L k)) := rfl
    by_cases hlt : k < n
    · have hs2 := HSB.out (k + 1) (by omega)
      obtain ⟨sk, hsk⟩ : ∃ x, fsum (fun i => (L i).g + wsh (L i)) k = x := ⟨_, rfl⟩
      rw [hsk] at hs hnx ⊢
      have hltz : (k : Int) < (n : Int) := by omega
      rcases HA.out.below HB.out with h0 | ⟨b, off, ha, hbl, hI2⟩
      · omega
      · subst ha
        have S7 := hI2 k hlt
        have hh := HHH.out k
        have hg0 := hh.g0; have hg1 := hh.g1; have hw := hh.wsh
        have C := fun W => refWish21_any (L k) W
        obtain ⟨t, ht⟩ : ∃ t, L k = t := ⟨_, rfl⟩
        rw [ht] at S7 hnx C hg0 hg1 hw
        obtain ⟨q0, q1, q2, q3, q4, q5, q6⟩ := S7
        obtain ⟨wi, hwi⟩ : ∃ x, wsh t = x := ⟨_, rfl⟩
        rw [hwi] at hnx C hw
        have s0 := hs.1; have s1 := hs.2; have w0' := hw.1; have w1' := hw.2
        have NX := Lib.hid hnx
        have cW := fun (dd : Nat) (os : Array Obj) => Calls.regrown_of (C (grow (redrawn wr dd) os))
        clear hs hs2 hnx hsk hw hh ht hwi C hI2
        go_upto_region 5 with fail
        have r0 := cell_regrown q0
        have r1 := cell_regrown q1
        have r2 := cell_regrown q2
        have r3 := cell_regrown q3
        have r4 := cell_regrown q4
        have r5 := cell_regrown q5
        have r6 := cell_regrown q6
        clear q0 q1 q2 q3 q4 q5 q6
        refine wp_region_quiet_below (by kernel_rfl) (by kernel_rfl) ?_
        repeat (quiet_step (first | with_reducible exact cW _ _))
        refine wpQuiet_nil ?_
        intro _ hw'
        obtain ⟨⟨dq, osq⟩, hw''⟩ := hw'
        subst hw''
        have hbX := below_regrown wr dq osq
        have HX := Lib.hid (HB.out.trans (hbX.mono HB.out.size))
        clear r0 r1 r2 r3 r4 r5 r6 cW hbX
        go_wp2_with fail
        go_roundw
        case rel =>
          refine ⟨k + 1, by go_num, by omega, ?_, HX⟩
          rw [NX.out, show sk + (t.g + wi) = sk + wi + t.g by omega]
          first | rfl | exact congrArg (Value.int .i64) (IntWalk.i64_in _ (by omega)) | (rw [IntWalk.i64_in (sk + wi) (by omega), IntWalk.i64_in _ (by omega)])
        case measure => simp [intOf]; omega
    · have hkn : n = k := by omega
      subst hkn
      obtain ⟨sk, hsk⟩ : ∃ x, fsum (fun i => (L i).g + wsh (L i)) n = x := ⟨_, rfl⟩
      rw [hsk]
      have HSK := Lib.hid hsk
      clear hs hnx hsk
      go_wp2_with fail
      refine (RH.out _).mono ?_
      rintro e w2 ⟨rfl, rfl⟩
      go_wp2_with fail
      go_ret
      rw [HSK.out]
      exact ⟨rfl, HB.out⟩
end Go.Proofs.Ytaegajlffiepoaa
