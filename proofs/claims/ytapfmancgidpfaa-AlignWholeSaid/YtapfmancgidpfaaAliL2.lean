/- Layer 22: all spaces are together what is free. -/
import Derived.Test.YtapfmancgidpfaaAliK
namespace Go.Proofs.Ytapfmancgidpfaa
open Go.RowKit FixM ShaD ShaM Go.Sort
set_option linter.unusedVariables false

theorem ssum_wide {f : Nat → Int} : ∀ n, (∀ i, i < n → -4294967296 ≤ f i ∧ f i ≤ 4294967296) → -4294967296 * (n : Int) ≤ ssum f n ∧ ssum f n ≤ 4294967296 * (n : Int)
  | 0, _ => by simp [ssum]
  | n + 1, h => by
    have h1 := ssum_wide n (fun i hi => h i (by omega))
    have h2 := h n (by omega)
    simp only [ssum]
    omega
theorem lnA_bd {F : Int} (N : Nat) (way : Int) (i : Nat) (h1 : F ≤ 1073741824) : 0 ≤ lnA F N way i ∧ lnA F N way i ≤ 4294967296 := by
  unfold lnA
  split
  · rename_i h
    have := shareS_pos (t := F) (by omega) ((List.range N).map (fun _ => 1)) i
    omega
  · omega
theorem lnS_bd {F : Int} (N : Nat) (way : Int) (i : Nat) (h0 : -1073741824 ≤ F) (h1 : F ≤ 1073741824) : -4294967296 ≤ lnS F N way i ∧ lnS F N way i ≤ 4294967296 := by
  have := spS_bd N (JW way) i h0 h1
  unfold lnS
  split <;> omega
theorem lnS_pos {F : Int} (N : Nat) (way : Int) (i : Nat) (h0 : 0 ≤ F) (h1 : F ≤ 1073741824) : 0 ≤ lnS F N way i := by
  have := spS_pos N (JW way) i h0 h1
  unfold lnS
  split <;> omega
theorem ln_sum (F : Int) (N : Nat) (way : Int) : ssum (lnS F N way) (N + 1) + ssum (lnA F N way) N = F := by
  by_cases h : way = 0 ∧ 0 < F ∧ 0 < N
  · have e1 : lnS F N way = fun _ => 0 := by funext i; unfold lnS; rw [if_pos h]
    have e2 : lnA F N way = shareS F ((List.range N).map (fun _ => 1)) := by funext i; unfold lnA; rw [if_pos h]
    have hz : wsum ((List.range N).map (fun _ => 1)) ≠ 0 := by
      have := WT_le_wsum ((List.range N).map (fun _ => 1)) 0
      rw [getD_row _ _ _ h.2.2, WT_small (by decide) (by decide)] at this
      omega
    have h3 := shareS_sum (t := F) (by omega) _ hz
    rw [len_row] at h3
    rw [e1, e2, ssum_zero, h3]; omega
  · have e1 : lnS F N way = spS F N (JW way) := by funext i; unfold lnS; rw [if_neg h]
    have e2 : lnA F N way = fun _ => 0 := by funext i; unfold lnA; rw [if_neg h]
    rw [e1, e2, ssum_zero, spS_sum]; omega

set_option maxRecDepth 100000 in
set_option maxHeartbeats 4000000 in
theorem AlignWhole_walk (t n way : Int) (w : World) (hw : (Lit.int .i64 way).wf = true) :
    Calls Try.prog 6 #[.int .i64 t, .int .i64 n, .int .i64 way] w fun e w' => e = .returned (.bool true) ∧ Below w.heap.size w w' := by
  have hk := KS_bd n
  have SK := Lib.hid (some22_any n)
  obtain ⟨N, hN⟩ : ∃ N, KS n = N := ⟨_, rfl⟩
  rw [hN] at hk SK
  have hc := CN_id N (by omega)
  have C1 := Lib.hid (Spaces22_any t N way N w hc (by omega))
  have C2 := Lib.hid (fun W => Lines22_any t N way N W hc (by omega) hw)
  unfold LnIs at C2
  have hFb := H_bd t
  have hpos : 0 ≤ t → 0 ≤ H t := fun h => by unfold H; repeat' split <;> omega
  have HFE := Lib.hid (refHold_any t)
  have hsum1 := spS_sum (H t) N way
  have hsum2 := ln_sum (H t) N way
  have hb1 : ∀ i, i < N + 1 → -4294967296 ≤ spS (H t) N way i ∧ spS (H t) N way i ≤ 4294967296 ∧ (0 ≤ t → 0 ≤ spS (H t) N way i) := fun i _ => ⟨(spS_bd N way i hFb.1 hFb.2).1, (spS_bd N way i hFb.1 hFb.2).2, fun h => spS_pos N way i (hpos h) hFb.2⟩
  have hb2 : ∀ i, i < N + 1 → -4294967296 ≤ lnS (H t) N way i ∧ lnS (H t) N way i ≤ 4294967296 ∧ (0 ≤ t → 0 ≤ lnS (H t) N way i) := fun i _ => ⟨(lnS_bd N way i hFb.1 hFb.2).1, (lnS_bd N way i hFb.1 hFb.2).2, fun h => lnS_pos N way i (hpos h) hFb.2⟩
  have hb3 : ∀ i, i < N → 0 ≤ lnA (H t) N way i ∧ lnA (H t) N way i ≤ 4294967296 := fun i _ => lnA_bd N way i hFb.2
  obtain ⟨F, hFe⟩ : ∃ F, H t = F := ⟨_, rfl⟩
  rw [hFe] at C1 C2 HFE hsum1 hsum2 hb1 hb2 hb3
  obtain ⟨sp, hsp⟩ : ∃ sp, spS F N way = sp := ⟨_, rfl⟩
  obtain ⟨ls, hls⟩ : ∃ ls, lnS F N way = ls := ⟨_, rfl⟩
  obtain ⟨la, hla⟩ : ∃ la, lnA F N way = la := ⟨_, rfl⟩
  rw [hsp] at C1 hsum1 hb1
  rw [hls] at C2 hsum2 hb2
  rw [hla] at C2 hsum2 hb3
  obtain ⟨M, hM⟩ : ∃ M, N + 1 = M := ⟨_, rfl⟩
  rw [hM] at C1 C2 hsum1 hsum2 hb1 hb2
  have hMz : (M : Int) = (N : Int) + 1 := by omega
  have hMb : M ≤ 64 := by omega
  have hNb : N ≤ 63 := by omega
  have S1 := Lib.hid hsum1
  have S2 := Lib.hid hsum2
  have B1 := Lib.hid hb1
  have B2 := Lib.hid hb2
  have B3 := Lib.hid hb3
  have HMZ := Lib.hid hMz
  clear hN hk hc hFb hpos hsum1 hsum2 hb1 hb2 hb3 hFe hsp hls hla hM hMz
  go_enter Try.func6, Try.ntmps6
  go_wp2_with (go_at_call 8; refine (SK.out _).mono ?_; rintro e w' ⟨rfl, rfl⟩)
  refine C1.out.mono ?_
  rintro e w1 ⟨b1, hz1, rfl, hb1, hr1⟩
  have HB1 := Lib.hid hb1
  have HR1 := Lib.hid hr1
  clear hb1 hr1 hz1
  go_wp2_with fail
  refine (C2.out w1).mono ?_
  rintro e w2 ⟨b2, b3, hz2, hz3, rfl, hb2, hr2, hr3⟩
  have HB2 := Lib.hid (HB1.out.trans (hb2.mono HB1.out.size))
  have HP := Lib.hid (HR1.out.below hb2 (Row_lt HR1.out (by have := HMZ.out; omega)))
  have HA := Lib.hid hr2
  have HS := Lib.hid hr3
  clear hb2 hr2 hr3 hz2 hz3 HR1 HB1
  go_wp2_with fail
  go_loop [11, 13] (fun vs vi => ∃ k : Nat, vi = .int .i64 k ∧ k ≤ M ∧ vs = .int .i64 (ssum sp k)) (fun _ vi => M - (intOf vi).toNat)
  case atStart => exact ⟨0, rfl, by omega, rfl⟩
  case round =>
    obtain ⟨k, rfl, hk, rfl⟩ := hrel
    have hsk := ssum_wide (f := sp) k (fun i hi => ⟨(B1.out i (by omega)).1, (B1.out i (by omega)).2.1⟩)
    obtain ⟨s, hs⟩ : ∃ s, ssum sp k = s := ⟨_, rfl⟩
    rw [hs] at hsk ⊢
    have s0 : -274877906944 ≤ s := by omega
    have s1 : s ≤ 274877906944 := by omega
    clear hsk
    by_cases hlt : k < M
    · have hltz : (k : Int) < (M : Int) := by omega
      have c1 := (HP.out k hlt).1
      have hb := B1.out k hlt
      obtain ⟨x, hx⟩ : ∃ x, sp k = x := ⟨_, rfl⟩
      rw [hx] at c1 hb
      have x0 : -4294967296 ≤ x := hb.1
      have x1 : x ≤ 4294967296 := hb.2.1
      have hnx : ssum sp (k + 1) = s + x := by show ssum sp k + sp k = s + x; rw [hs, hx]
      have NX := Lib.hid hnx
      by_cases ht : 0 ≤ t
      · have x2 : 0 ≤ x := hb.2.2 ht
        clear hb hx hs hnx
        go_wp2_with fail
        go_round
        case rel => exact ⟨k + 1, by go_num, by omega, by rw [NX.out]⟩
        case measure => simp [intOf]; omega
      · have ht2 : t < 0 := by omega
        clear hb hx hs hnx ht
        go_wp2_with fail
        go_round
        case rel => exact ⟨k + 1, by go_num, by omega, by rw [NX.out]⟩
        case measure => simp [intOf]; omega
    · have hsF : s = F := by
        rw [← hs, show k = M by omega]; exact S1.out
      rw [hsF]
      have hkge : (M : Int) ≤ (k : Int) := by omega
      clear hs hsF hlt s0 s1 s HP S1 B1 hk
      go_wp2_with fail
      clear hkge
      go_loop [12, 14] (fun vs vi => ∃ k : Nat, vi = .int .i64 k ∧ k ≤ M ∧ vs = .int .i64 (ssum ls k)) (fun _ vi => M - (intOf vi).toNat)
      case atStart => exact ⟨0, rfl, by omega, rfl⟩
      case round =>
        obtain ⟨k, rfl, hk, rfl⟩ := hrel
        have hsk := ssum_wide (f := ls) k (fun i hi => ⟨(B2.out i (by omega)).1, (B2.out i (by omega)).2.1⟩)
        obtain ⟨s, hs⟩ : ∃ s, ssum ls k = s := ⟨_, rfl⟩
        rw [hs] at hsk ⊢
        have s0 : -274877906944 ≤ s := by omega
        have s1 : s ≤ 274877906944 := by omega
        clear hsk
        by_cases hlt : k < M
        · have hltz : (k : Int) < (M : Int) := by omega
          have c1 := (HS.out k hlt).1
          have hb := B2.out k hlt
          obtain ⟨x, hx⟩ : ∃ x, ls k = x := ⟨_, rfl⟩
          rw [hx] at c1 hb
          have x0 : -4294967296 ≤ x := hb.1
          have x1 : x ≤ 4294967296 := hb.2.1
          have hnx : ssum ls (k + 1) = s + x := by show ssum ls k + ls k = s + x; rw [hs, hx]
          have NX := Lib.hid hnx
          by_cases ht : 0 ≤ t
          · have x2 : 0 ≤ x := hb.2.2 ht
            clear hb hx hs hnx
            go_wp2_with fail
            go_round
            case rel => exact ⟨k + 1, by go_num, by omega, by rw [NX.out]⟩
            case measure => simp [intOf]; omega
          · have ht2 : t < 0 := by omega
            clear hb hx hs hnx ht
            go_wp2_with fail
            go_round
            case rel => exact ⟨k + 1, by go_num, by omega, by rw [NX.out]⟩
            case measure => simp [intOf]; omega
        · have hkM : k = M := by omega
          have hsum : s + ssum la N = F := by rw [← hs, hkM]; exact S2.out
          have S3 := Lib.hid hsum
          have hkge : (M : Int) ≤ (k : Int) := by omega
          clear hs hlt hkM hsum hk
          go_wp2_with fail
          clear hkge
          go_loop [12, 15] (fun vs vi => ∃ k : Nat, vi = .int .i64 k ∧ k ≤ N ∧ vs = .int .i64 (s + ssum la k)) (fun _ vi => N - (intOf vi).toNat)
          case atStart => exact ⟨0, rfl, by omega, by simp [ssum]⟩
          case round =>
            obtain ⟨k, rfl, hk, rfl⟩ := hrel
            have hsk := ssum_wide (f := la) k (fun i hi => ⟨by have := (B3.out i (by omega)).1; omega, (B3.out i (by omega)).2⟩)
            obtain ⟨y, hy⟩ : ∃ y, s + ssum la k = y := ⟨_, rfl⟩
            rw [hy]
            have y0 : -549755813888 ≤ y := by omega
            have y1 : y ≤ 549755813888 := by omega
            clear hsk
            by_cases hlt : k < N
            · have hltz : (k : Int) < (N : Int) := by omega
              have c1 := (HA.out k hlt).1
              have hb := B3.out k hlt
              obtain ⟨x, hx⟩ : ∃ x, la k = x := ⟨_, rfl⟩
              rw [hx] at c1 hb
              have x0 : 0 ≤ x := hb.1
              have x1 : x ≤ 4294967296 := hb.2
              have hnx : s + ssum la (k + 1) = y + x := by show s + (ssum la k + la k) = y + x; rw [hx, ← hy]; omega
              have NX := Lib.hid hnx
              clear hb hx hy hnx
              go_wp2_with fail
              go_round
              case rel => exact ⟨k + 1, by go_num, by omega, by rw [NX.out]⟩
              case measure => simp [intOf]; omega
            · have hyF : y = F := by
                rw [← hy, show k = N by omega]; exact S3.out
              rw [hyF]
              have hkge : (N : Int) ≤ (k : Int) := by omega
              clear hy hyF hlt y0 y1 y hk
              have e1 : (M : Int) = (N : Int) + 1 := HMZ.out
              have bM : ((M : Int) == (N : Int) + 1) = true := by simp [e1]
              clear e1
              go_wp2_with (first
                | (go_at_call 18; refine (HFE.out _).mono ?_; rintro e w' ⟨rfl, rfl⟩)
                | (go_at_call 12; refine (known22_any _).mono ?_; rintro e w4 ⟨rfl, hb4⟩; have HB4 := Lib.hid (HB2.out.trans (hb4.mono HB2.out.size)); clear hb4))
              go_ret
              exact ⟨rfl, HB4.out⟩
end Go.Proofs.Ytapfmancgidpfaa
