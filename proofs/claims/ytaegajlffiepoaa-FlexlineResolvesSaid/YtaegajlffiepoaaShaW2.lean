/- The walks of layer 2: how the library's stable sort moves a row: two neighbouring pieces turned round. -/
import Derived.Test.YtaegajlffiepoaaShaW1
namespace Go.Proofs.Ytaegajlffiepoaa
open Go.RowKit Go.Sort ShaM

set_option maxRecDepth 100000 in
set_option maxHeartbeats 1000000 in
theorem rotate_any (w : World) (blk cap a m b : Nat) (g : Nat) (cb : Array Value) (d0 d : Array Int) (m0 : Nat) (h0 : Holds (Value.int .i64) w blk 0 d0) (hs : d.size = d0.size)
    (ham : a < m) (hmb : m < b) (hb : b ≤ d.size) (hsz : d.size < 4611686018427387904) :
    Calls Try.prog 69 #[.slice (some ⟨blk, 0, none⟩) d0.size cap, .int .i64 a, .int .i64 m, .int .i64 b, .func (.func g) #[] cb] (RW w blk d m0) fun e w' =>
      e = .returned (.tuple #[]) ∧ ∃ d' m', d'.size = d.size ∧ (∀ k, d'[k]! = FR (fun x => d[x]!) a m b k) ∧ RW w blk d' m' = w' := by
  have H0 := Lib.hid h0
  have HS := Lib.hid hs
  clear h0 hs
  obtain ⟨i0, hi0⟩ : ∃ i, i = m - a := ⟨_, rfl⟩
  obtain ⟨j0, hj0⟩ : ∃ j, j = b - m := ⟨_, rfl⟩
  have q1 : (m : Int) - (a : Int) = (i0 : Int) := by omega
  have q2 : (b : Int) - (m : Int) = (j0 : Int) := by omega
  have hbm : b = m + j0 := by omega
  have ham' : a = m - i0 := by omega
  have him : i0 ≤ m := by omega
  have hi1 : 0 < i0 := by omega
  have hj1 : 0 < j0 := by omega
  have HBM := Lib.hid hbm
  have HAM := Lib.hid ham'
  clear hi0 hj0 hbm ham'
  go_enter Try.func69, Try.ntmps69
  go_wp2_with fail
  clear q1 q2
  go_loopw [10, 11] (fun vi vj wr => ∃ (i j mi : Nat) (dk : Array Int), vi = .int .i64 i ∧ vj = .int .i64 j ∧ 0 < i ∧ 0 < j ∧ i ≤ i0 ∧ j ≤ j0 ∧ wr = RW w blk dk mi ∧ Hid (dk.size = d.size) ∧ Hid (∀ k, FR (fun x => dk[x]!) (m - i) m (m + j) k = FR (fun x => d[x]!) a m b k)) (fun vi vj _ => (intOf vi).toNat + (intOf vj).toNat)
  case atStart => exact ⟨i0, j0, m0, d, rfl, rfl, hi1, hj1, Nat.le_refl _, Nat.le_refl _, rfl, rfl, fun k => by rw [← HBM.out, ← HAM.out]⟩
  case round =>
    obtain ⟨i, j, mi, dk, rfl, rfl, ip, jp, hi, hj, rfl, HSK, HF⟩ := hrel
    have hbd : m + j0 ≤ d.size := by rw [← HBM.out]; exact hb
    by_cases hij : i = j
    · subst hij
      have c := swapRange_at w blk cap ((m : Int) - (i : Int)) m i (m - i) m i (by omega) rfl rfl g cb d0 dk mi H0.out (HSK.out.trans HS.out) (by rw [HSK.out]; omega) (by rw [HSK.out]; omega) (by rw [HSK.out]; exact hsz) (by omega)
      have C := Lib.hid c
      clear c
      go_wp2_with fail
      refine C.out.mono ?_
      rintro e w' ⟨rfl, m', rfl⟩
      go_wp2_with fail
      go_end0
      exact ⟨rfl, _, m', (swr_size _ _ _ _).trans HSK.out, fun k => by rw [FR_eq dk i m (by omega) (by rw [HSK.out]; omega)]; exact HF.out k, rfl⟩
    · have bne : ((i : Int) == (j : Int)) = false := by simp; omega
      have bne2 : ((i : Int) != (j : Int)) = true := by simp; omega
      by_cases hgt : j < i
      · have c := swapRange_at w blk cap ((m : Int) - (i : Int)) m j (m - i) m j (by omega) rfl rfl g cb d0 dk mi H0.out (HSK.out.trans HS.out) (by rw [HSK.out]; omega) (by rw [HSK.out]; omega) (by rw [HSK.out]; exact hsz) (by omega)
        have C := Lib.hid c
        have hgz : (j : Int) < (i : Int) := by omega
        clear c
        go_wp2_with fail
        refine C.out.mono ?_
        rintro e w' ⟨rfl, m', rfl⟩
        go_wp2_with fail
        go_roundw
        case rel => exact ⟨i - j, j, m', _, congrArg (Value.int .i64) (by omega), rfl, by omega, jp, by omega, hj, rfl, (swr_size _ _ _ _).trans HSK.out, fun k => by rw [FR_gt dk i j m hgt (by omega) jp (by rw [HSK.out]; omega)]; exact HF.out k⟩
        case measure => simp [intOf]; omega
      · have c := swapRange_at w blk cap ((m : Int) - (i : Int)) ((m : Int) + (j : Int) - (i : Int)) i (m - i) (m + j - i) i (by omega) (by omega) rfl g cb d0 dk mi H0.out (HSK.out.trans HS.out) (by rw [HSK.out]; omega) (by rw [HSK.out]; omega) (by rw [HSK.out]; exact hsz) (by omega)
        have C := Lib.hid c
        clear c
        go_wp2_with fail
        refine C.out.mono ?_
        rintro e w' ⟨rfl, m', rfl⟩
        go_wp2_with fail
        go_roundw
        case rel => exact ⟨i, j - i, m', _, rfl, congrArg (Value.int .i64) (by omega), ip, by omega, hi, by omega, rfl, (swr_size _ _ _ _).trans HSK.out, fun k => by rw [FR_lt dk i j m (by omega) (by omega) ip (by rw [HSK.out]; omega)]; exact HF.out k⟩
        case measure => simp [intOf]; omega
end Go.Proofs.Ytaegajlffiepoaa
