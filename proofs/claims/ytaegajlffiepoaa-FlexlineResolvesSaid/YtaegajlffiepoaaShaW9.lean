/- The walks of layer 2: weights, their sum, what is compared. -/
import Derived.Test.YtaegajlffiepoaaFixA
import Derived.Test.YtaegajlffiepoaaShaD
import Derived.Test.YtaegajlffiepoaaShaW3
namespace Go.Proofs.Ytaegajlffiepoaa
open Go.RowKit FixM ShaD ShaM Go.Sort

set_option maxRecDepth 100000 in
set_option maxHeartbeats 400000 in
theorem weight_any (x : Int) (w : World) :
    Calls Try.prog 60 #[.int .i64 x] w fun e w' => e = .returned (.int .i64 (WT x)) ∧ w = w' := by
  go_enter Try.func60, Try.ntmps60
  go_wp2_with (go_at_call 32; refine (Hold_any _ _).mono ?_; rintro e w' ⟨rfl, rfl⟩)
  all_goals go_ret
  all_goals (refine ⟨ret_intF ?_, rfl⟩; unfold WT; omega)

set_option maxRecDepth 100000 in
set_option maxHeartbeats 400000 in
theorem sum_any (b off cap : Nat) (ws : List Int) (w : World) (hl : ws.length ≤ 1000) (hc : ∀ i, i < ws.length → w.cell? ⟨b, off + i, none⟩ = some (.int .i64 (ws.getD i 0))) :
    Calls Try.prog 59 #[.slice (some ⟨b, off, none⟩) ws.length cap] w fun e w' => e = .returned (.int .i64 (wsum ws)) ∧ w = w' := by
  have HC := Lib.hid hc
  clear hc
  go_enter Try.func59, Try.ntmps59
  go_wp2_with fail
  go_loop [3, 8] (fun s i => ∃ k : Nat, k ≤ ws.length ∧ i = .int .i64 k ∧ s = .int .i64 (wsum (ws.take k))) (fun _ i => ws.length - (intOf i).toNat)
  case atStart => exact ⟨0, by omega, rfl, rfl⟩
  case round =>
    obtain ⟨k, hk, rfl, rfl⟩ := hrel
    have hb := wsum_bd (ws.take k)
    have hlt' : (ws.take k).length ≤ 1000 := by rw [List.length_take]; omega
    have hb1 := hb.1
    have hb2 : wsum (ws.take k) ≤ 1073741824000 := by omega
    clear hb
    by_cases hlt : k < ws.length
    · have hcell := HC.out k hlt
      have hsn := wsum_snoc ws k hlt
      obtain ⟨x, hx⟩ : ∃ x, ws.getD k 0 = x := ⟨_, rfl⟩
      rw [hx] at hcell hsn
      have hw := WT_bd x
      have HSN := Lib.hid hsn
      clear hsn hx hlt'
      go_wp2_with (go_at_call 60; refine (weight_any _ _).mono ?_; rintro e w' ⟨rfl, rfl⟩)
      go_round
      case rel => exact ⟨k + 1, by omega, by go_num, by rw [HSN.out]⟩
      case measure => simp [intOf]; omega
    · have ht : ws.take k = ws := List.take_of_length_le (by omega)
      have HT := Lib.hid ht
      clear ht hlt'
      go_wp2_with fail
      go_ret
      exact ⟨ret_intF (by rw [HT.out]), rfl⟩

set_option maxRecDepth 100000 in
set_option maxHeartbeats 400000 in
theorem sum_nil (cap : Nat) (w : World) :
    Calls Try.prog 59 #[.slice none 0 cap] w fun e w' => e = .returned (.int .i64 0) ∧ w = w' := by
  go_enter Try.func59, Try.ntmps59
  go_wp2_with fail
  go_loop [3, 8] (fun s i => i = .int .i64 0 ∧ s = .int .i64 0) (fun _ _ => 0)
  case atStart => exact ⟨rfl, rfl⟩
  case round =>
    obtain ⟨rfl, rfl⟩ := hrel
    go_wp2_with fail
    go_ret
    exact ⟨rfl, rfl⟩

set_option maxRecDepth 100000 in
set_option maxHeartbeats 400000 in
theorem isNaN_any (x : Int) (w : World) :
    Calls Try.prog 64 #[.int .i64 x] w fun e w' => e = .returned (.bool false) ∧ w = w' := by
  go_enter Try.func64, Try.ntmps64
  go_wp2_with fail
  go_ret
  exact ⟨by simp, rfl⟩

set_option maxRecDepth 100000 in
set_option maxHeartbeats 400000 in
theorem Compare_any (x y : Int) (w : World) :
    Calls Try.prog 62 #[.int .i64 x, .int .i64 y] w fun e w' => e = .returned (.int .i64 (cmp3 x y)) ∧ w = w' := by
  go_enter Try.func62, Try.ntmps62
  go_wp2_with (go_at_call 64; refine (isNaN_any _ _).mono ?_; rintro e w' ⟨rfl, rfl⟩)
  all_goals go_ret
  all_goals (refine ⟨ret_intF ?_, rfl⟩; unfold cmp3; repeat' split <;> omega)

set_option maxRecDepth 100000 in
set_option maxHeartbeats 1000000 in
/-- which place goes ahead: of which more was left out -/
theorem more_any (i j : Nat) (B b n cap : Nat) (f : Nat → Int) (w : World) (hi : i < n) (hj : j < n)
    (hB : w.cell? ⟨B, 0, none⟩ = some (.slice (some ⟨b, 0, none⟩) n cap)) (hc : ∀ k, k < n → w.cell? ⟨b, k, none⟩ = some (.int .i64 (f k))) :
    Calls Try.prog 61 #[.int .i64 i, .int .i64 j, .pointer (some ⟨B, 0, none⟩)] w fun e w' => e = .returned (.int .i64 (cmp3 (f j) (f i))) ∧ ∃ q, w' = w.drewN q := by
  have ci := hc i hi
  have cj := hc j hj
  obtain ⟨x, hx⟩ : ∃ x, f i = x := ⟨_, rfl⟩
  obtain ⟨y, hy⟩ : ∃ x, f j = x := ⟨_, rfl⟩
  rw [hx] at ci
  rw [hy] at cj
  rw [hx, hy]
  have z1 : (i : Int) < (n : Int) := by omega
  have z2 : (j : Int) < (n : Int) := by omega
  clear hc hx hy
  go_enter Try.func61, Try.ntmps61
  go_wp2_with fail
  go_quiet ((go_at_call 62; exact Calls.quiet_of_same ((Compare_any y x _).mono fun e w' h => ⟨h.1, h.2.symm⟩)))
  go_wp2_with fail
  go_ret
  exact ⟨rfl, _, rfl⟩
end Go.Proofs.Ytaegajlffiepoaa
