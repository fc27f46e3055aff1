/- The walks of layer 2's reference: weights and their sum. -/
import Derived.Test.YtaegajlffiepoaaShaL1
namespace Go.Proofs.Ytaegajlffiepoaa
open Go.RowKit FixM ShaD ShaM Go.Sort

set_option maxRecDepth 100000 in
set_option maxHeartbeats 400000 in
theorem refWeight_any (x : Int) (w : World) :
    Calls Try.prog 29 #[.int .i64 x] w fun e w' => e = .returned (.int .i64 (WT x)) ∧ w = w' := by
  have h0 : x < 0 → WT x = 0 := fun h => by unfold WT H; repeat' split <;> omega
  have h1 : ¬ x < 0 → H x = WT x := fun h => by unfold WT H; repeat' split <;> omega
  have H0 := Lib.hid h0
  have H1 := Lib.hid h1
  clear h0 h1
  go_enter Try.func29, Try.ntmps29
  by_cases c : x < 0
  · go_wp2_with fail
    go_ret
    exact ⟨ret_intF (H0.out c).symm, rfl⟩
  · go_wp2_with (go_at_call 21; refine (refHold_any _ _).mono ?_; rintro e w' ⟨rfl, rfl⟩)
    go_ret
    exact ⟨ret_intF (H1.out c), rfl⟩

set_option maxRecDepth 100000 in
set_option maxHeartbeats 1000000 in
theorem refWeights_any (a : Option Addr) (cap : Nat) (ws : List Int) (w : World) (hl : ws.length ≤ 1000) (hL : Lst w a ws) :
    Calls Try.prog 46 #[.slice a ws.length cap] w fun e w' => e = .returned (.int .i64 (wsum ws)) ∧ w = w' := by
  have HL := Lib.hid hL
  clear hL
  go_enter Try.func46, Try.ntmps46
  go_wp2_with fail
  go_loop [3, 4] (fun s i => ∃ k : Nat, k ≤ ws.length ∧ i = .int .i64 k ∧ s = .int .i64 (wsum (ws.take k))) (fun _ i => ws.length - (intOf i).toNat)
  case atStart => exact ⟨0, by omega, rfl, rfl⟩
  case round =>
    obtain ⟨k, hk, rfl, rfl⟩ := hrel
    have hb := wsum_bd (ws.take k)
    have hlt' : (ws.take k).length ≤ 1000 := by rw [List.length_take]; omega
    have hb1 := hb.1
    have hb2 : wsum (ws.take k) ≤ 1073741824000 := by omega
    clear hb
    by_cases hlt : k < ws.length
    · have hltz : (k : Int) < (ws.length : Int) := by omega
      have hs := wsum_snoc ws k hlt
      have hw := WT_bd (ws.getD k 0)
      have hcell : ∃ b off, a = some ⟨b, off, none⟩ ∧ w.cell? ⟨b, off + k, none⟩ = some (.int .i64 (ws.getD k 0)) := by
        rcases HL.out with h | ⟨b, off, h1, _, h2⟩
        · rw [h] at hlt; simp at hlt
        · exact ⟨b, off, h1, h2 k hlt⟩
      obtain ⟨b, off, rfl, hc⟩ := hcell
      obtain ⟨y, hy⟩ : ∃ y, ws.getD k 0 = y := ⟨_, rfl⟩
      rw [hy] at hs hw hc
      obtain ⟨v, hv⟩ : ∃ v, WT y = v := ⟨_, rfl⟩
      rw [hv] at hs hw
      have v0 : 0 ≤ v := hw.1
      have v1 : v ≤ 1073741824 := hw.2
      obtain ⟨s, hsk⟩ : ∃ s, wsum (ws.take k) = s := ⟨_, rfl⟩
      rw [hsk] at hs hb1 hb2 ⊢
      have HSN := Lib.hid hs
      have HVV := Lib.hid hv
      clear hs hw hy hv hsk
      go_wp2_with fail
      refine (refWeight_any _ _).mono ?_
      rintro e w' ⟨rfl, rfl⟩
      rw [HVV.out]
      go_wp2_with fail
      go_round
      case rel => exact ⟨k + 1, by omega, by go_num, by rw [HSN.out]⟩
      case measure => simp [intOf]; omega
    · have ht : ws.take k = ws := List.take_of_length_le (by omega)
      have HT := Lib.hid ht
      clear ht hlt'
      go_wp2_with fail
      go_ret
      exact ⟨ret_intF (by rw [HT.out]), rfl⟩

set_option maxRecDepth 100000 in
set_option maxHeartbeats 1000000 in
theorem refWeights_wide (a : Option Addr) (cap : Nat) (ws : List Int) (w : World) (hl : ws.length ≤ maxLen) (hL : Lst w a ws) :
    Calls Try.prog 46 #[.slice a ws.length cap] w fun e w' => (∃ v, e = .returned (.int .i64 v)) ∧ w = w' := by
  have HL := Lib.hid hL
  unfold maxLen at hl
  clear hL
  go_enter Try.func46, Try.ntmps46
  go_wp2_with fail
  go_loop [3, 4] (fun s i => ∃ (k : Nat) (z : Int), k ≤ ws.length ∧ i = .int .i64 k ∧ s = .int .i64 z) (fun _ i => ws.length - (intOf i).toNat)
  case atStart => exact ⟨0, 0, by omega, rfl, rfl⟩
  case round =>
    obtain ⟨k, z, hk, rfl, rfl⟩ := hrel
    by_cases hlt : k < ws.length
    · have hltz : (k : Int) < (ws.length : Int) := by omega
      have hcell : ∃ b off, a = some ⟨b, off, none⟩ ∧ w.cell? ⟨b, off + k, none⟩ = some (.int .i64 (ws.getD k 0)) := by
        rcases HL.out with h | ⟨b, off, h1, _, h2⟩
        · rw [h] at hlt; simp at hlt
        · exact ⟨b, off, h1, h2 k hlt⟩
      obtain ⟨b, off, rfl, hc⟩ := hcell
      obtain ⟨y, hy⟩ : ∃ y, ws.getD k 0 = y := ⟨_, rfl⟩
      rw [hy] at hc
      clear hy
      go_wp2_with fail
      refine (refWeight_any _ _).mono ?_
      rintro e w' ⟨rfl, rfl⟩
      go_wp2_with fail
      go_round
      case rel => exact ⟨k + 1, _, by omega, by go_num, rfl⟩
      case measure => simp [intOf]; omega
    · go_wp2_with fail
      go_ret
      exact ⟨⟨_, rfl⟩, rfl⟩
end Go.Proofs.Ytaegajlffiepoaa
