/- The walks of layer 4's reference: kids and ends; lists held against each other. -/
import Derived.Test.YtffelkillcboeaaTreW5
namespace Go.Proofs.Ytffelkillcboeaa
open Go.RowKit TreP

set_option maxRecDepth 100000 in
set_option maxHeartbeats 1000000 in
theorem Ints_lst (a a2 : Option Addr) (c c2 : Nat) (xs : List Nat) (w : World) (hl : xs.length ≤ 100000) (h1 : NL w a xs) (h2 : NL w a2 xs) :
    Calls Try.prog 25 #[.slice a xs.length c, .slice a2 xs.length c2] w fun e w' => e = .returned (.bool true) ∧ ∃ q, w' = w.drewN q := by
  have H1 := Lib.hid h1
  have H2 := Lib.hid h2
  obtain ⟨n, hn⟩ : ∃ n, xs.length = n := ⟨_, rfl⟩
  rw [hn] at hl ⊢
  have HN := Lib.hid hn
  clear h1 h2 hn
  go_enter Try.func25, Try.ntmps25
  go_wp2_with fail
  go_loopw [5] (fun vi wr => ∃ k q : Nat, vi = .int .i64 k ∧ k ≤ n ∧ wr = w.drewN q) (fun vi _ => n - (intOf vi).toNat)
  case atStart => exact ⟨0, 0, rfl, by omega, rfl⟩
  case round =>
    obtain ⟨k, q, rfl, hk, rfl⟩ := hrel
    by_cases hlt : k < n
    · have hltz : (k : Int) < (n : Int) := by omega
      have hkx : k < xs.length := by rw [HN.out]; exact hlt
      have hx : xs[k]? = some xs[k] := List.getElem?_eq_getElem hkx
      obtain ⟨g1, rfl, c1⟩ : ∃ g, a = some ⟨g, 0, none⟩ ∧ w.cell? ⟨g, k, none⟩ = some (.int .i64 ((xs[k] : Nat) : Int)) := by
        rcases H1.out with e | ⟨g, e, _, hc⟩
        · rw [e] at hkx; simp at hkx
        · exact ⟨g, e, hc k _ hx⟩
      obtain ⟨g2, rfl, c2'⟩ : ∃ g, a2 = some ⟨g, 0, none⟩ ∧ w.cell? ⟨g, k, none⟩ = some (.int .i64 ((xs[k] : Nat) : Int)) := by
        rcases H2.out with e | ⟨g, e, _, hc⟩
        · rw [e] at hkx; simp at hkx
        · exact ⟨g, e, hc k _ hx⟩
      clear hx
      obtain ⟨y, hy⟩ : ∃ y, xs[k] = y := ⟨_, rfl⟩
      rw [hy] at c1 c2'
      clear hy
      have d1 : (w.drewN q).cell? ⟨g1, k, none⟩ = some (.int .i64 (y : Int)) := c1
      have d2 : (w.drewN q).cell? ⟨g2, k, none⟩ = some (.int .i64 (y : Int)) := c2'
      clear c1 c2'
      generalize hwq : w.drewN q = wq at d1 d2 ⊢
      have HW := Lib.hid hwq
      clear hwq
      go_wp2_with fail
      go_quiet (fail)
      go_wp2_with fail
      go_roundw
      case rel => exact ⟨k + 1, q + nq, by go_num, by omega, by rw [← HW.out, World.drewN_drewN]⟩
      case measure => simp [intOf]; omega
    · go_wp2_with fail
      go_ret
      exact ⟨rfl, q, rfl⟩
end Go.Proofs.Ytffelkillcboeaa
